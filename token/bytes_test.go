package token_test

import (
	"bytes"
	"encoding/hex"
	"math"
	"slices"
	"strings"
	"testing"

	"sealery/api"
	"sealery/pack"
	"sealery/token"
)

// laid are a token's bytes, by pack alone.
func laid(x api.Token) []byte {
	b := pack.Int(pack.Int(pack.Text(nil, x.Tenant), x.Id), len(x.Grants))
	for _, g := range x.Grants {
		b = append(b, encoded(g)...)
	}
	return pack.Sum(b, x.Mac)
}

// anyTokens are tokens of all sorts that Read takes back.
func anyTokens(t *testing.T) []api.Token {
	t.Helper()
	l := []api.Token{{}, {Tenant: "Not a name \xff", Id: -1, Grants: []api.Grant{{Rights: math.MinInt, Prefix: "\x00", Exact: true, Until: math.MaxInt}}, Mac: api.Sum{31: 1}}, {Tenant: strings.Repeat("z", 24), Id: math.MaxInt, Grants: []api.Grant{{}, {Prefix: strings.Repeat("y", 24), Exact: true}}}}
	for n := 1; n <= 6; n++ {
		l = append(l, made(t, n))
	}
	return l
}

func TestPutBytes(t *testing.T) { // P14.5: each byte of a token's encoding
	x := api.Token{Tenant: "ann", Id: 258, Grants: []api.Grant{{Rights: 127}, {Rights: 3, Prefix: "op", Exact: true, Until: 5}}, Mac: api.Sum{0xaa, 31: 0xbb}}
	want, err := hex.DecodeString(strings.ReplaceAll(""+
		"0000000000000003 616e6e 0000000000000102 0000000000000002 "+
		"000000000000007f 0000000000000000 0000000000000000 0000000000000000 "+
		"0000000000000003 0000000000000002 6f70 0000000000000001 0000000000000005 "+
		"aa"+strings.Repeat("00", 30)+"bb", " ", ""))
	if err != nil {
		t.Fatal(err)
	}
	if b := token.Put(nil, x); !bytes.Equal(b, want) {
		t.Fatalf("Put: %x, want %x", b, want)
	}
}

func TestPut(t *testing.T) { // P14.5, R3: behind bytes, with spare capacity and without
	for _, x := range anyTokens(t) {
		for n := range 20 {
			for _, spare := range []int{0, 1, 7, 500, 5000} {
				all := bytes.Repeat([]byte{0xee}, n+spare)
				was := bytes.Clone(all)
				b := token.Put(all[:n], x)
				if want := slices.Concat(was[:n], laid(x)); !bytes.Equal(b, want) {
					t.Fatalf("Put behind %d bytes: %x, want %x", n, b, want)
				}
				for i := range b {
					b[i] ^= 0xff
				}
				if !bytes.Equal(all, was) {
					t.Fatalf("Put behind %d bytes, with room for %d: they are %x now", n, spare, all)
				}
			}
		}
	}
}

func TestPutMany(t *testing.T) { // P14.5: a token may have any number of grants, and texts of any length
	x := api.Token{Tenant: strings.Repeat("A", 1<<16), Id: 1, Grants: slices.Repeat([]api.Grant{{Rights: 1, Prefix: strings.Repeat("b", 30)}}, 1<<14)}
	b := token.Put(nil, x)
	if !bytes.Equal(b, laid(x)) {
		t.Fatalf("Put: %d bytes", len(b))
	}
}

func TestRead(t *testing.T) { // P14.5: of what Put laid, in front of other bytes
	for _, x := range anyTokens(t) {
		for _, behind := range [][]byte{nil, {1}, bytes.Repeat([]byte{2}, 100)} {
			r := pack.Read(append(token.Put([]byte{9, 8}, x), behind...)[2:])
			wantSame(t, "Read", token.Read(r), x)
			if r.Bad() || r.Left() != len(behind) {
				t.Fatalf("Read: bad %v, left %d of %d", r.Bad(), r.Left(), len(behind))
			}
		}
		b := laid(x)
		r := pack.Read(slices.Concat(b, b, b))
		for range 3 {
			wantSame(t, "Read again", token.Read(r), x)
		}
		wantErr(t, "End", r.End(), api.OK)
	}
}

// wantBad holds that nothing is read of bytes, and with what the reader ends.
func wantBad(t *testing.T, what string, b []byte, want api.Errno) {
	t.Helper()
	r := pack.Read(b)
	wantSame(t, what, token.Read(r), api.Token{})
	if !r.Bad() || r.Left() != 0 {
		t.Fatalf("%s: bad %v, left %d", what, r.Bad(), r.Left())
	}
	wantErr(t, what, r.End(), want)
	wantSame(t, what+", read on", token.Read(r), api.Token{})
	wantErr(t, what+", read on", r.End(), want)
}

func TestReadCutShort(t *testing.T) { // P14.5: bytes that end too early, at each place
	for _, x := range anyTokens(t) {
		b := laid(x)
		for n := range b {
			wantBad(t, "cut short", b[:n], api.ErrShort)
		}
	}
}

func TestReadEnds(t *testing.T) { // P14.5: lengths and counts about their ends
	x := made(t, 3)
	for n := 20; n <= 30; n++ {
		y := x
		y.Tenant = strings.Repeat("a", n)
		wantRead(t, y, laid(y), n <= 24)
		for i := range x.Grants {
			y := x
			y.Grants = slices.Clone(x.Grants)
			y.Grants[i].Prefix = strings.Repeat("a", n)
			wantRead(t, y, laid(y), n <= 24)
		}
	}
	for n := range 10 {
		y := x
		y.Grants = narrower(n)
		wantRead(t, y, laid(y), n <= 6)
	}
}

// wantRead holds that a token is read of its bytes, or that ErrMany sticks.
func wantRead(t *testing.T, x api.Token, b []byte, ok bool) {
	t.Helper()
	if !ok {
		wantBad(t, "too many", b, api.ErrMany)
		return
	}
	r := pack.Read(b)
	wantSame(t, "Read", token.Read(r), x)
	wantErr(t, "End", r.End(), api.OK)
}

func TestReadNumbers(t *testing.T) { // P14.5: each number of the encoding as another one
	x := api.Token{Tenant: "ann", Id: 7, Grants: []api.Grant{{Rights: 3, Prefix: "open", Exact: true, Until: 9}}, Mac: api.Sum{5}}
	b := laid(x)
	const length, id, count, rights, prefix, exact, until = 0, 11, 19, 27, 35, 47, 55
	put := func(at, n int) []byte { return slices.Concat(b[:at], pack.Int(nil, n), b[at+8:]) }
	for _, n := range []int{math.MinInt, -1, 0, 1, 127, 128, math.MaxInt} {
		y := x
		y.Id = n
		wantRead(t, y, put(id, n), true)
		for _, at := range []int{rights, until} {
			y := x
			y.Grants = slices.Clone(x.Grants)
			if at == rights {
				y.Grants[0].Rights = n
			} else {
				y.Grants[0].Until = n
			}
			wantRead(t, y, put(at, n), true)
		}
	}
	y := x
	y.Grants = []api.Grant{{Rights: 3, Prefix: "open", Until: 9}}
	wantRead(t, y, put(exact, 0), true)
	wantRead(t, x, put(exact, 1), true)
	for _, n := range []int{2, 3, -1, 256, 1 << 32, math.MinInt, math.MaxInt} {
		wantBad(t, "Exact", put(exact, n), api.ErrMany)
	}
	for _, n := range []int{25, -1, 1 << 32, math.MinInt, math.MaxInt} {
		wantBad(t, "a length", put(length, n), api.ErrMany)
		wantBad(t, "a length", put(prefix, n), api.ErrMany)
	}
	for _, n := range []int{7, 8, -1, 1 << 32, math.MinInt, math.MaxInt} {
		wantBad(t, "the number of grants", put(count, n), api.ErrMany)
	}
	for _, n := range []int{2, 6} {
		wantBad(t, "the number of grants", put(count, n), api.ErrShort)
	}
}

func TestReadOfBadReader(t *testing.T) { // P14.5: a reader that is Bad from the start
	r := pack.Read(laid(made(t, 2)))
	r.Count(-1)
	wantSame(t, "Read", token.Read(r), api.Token{})
	wantErr(t, "End", r.End(), api.ErrMany)
	wantBad(t, "no bytes", nil, api.ErrShort)
}

// whole is a token with its grants' spare capacity, to be held against what it was.
type whole struct {
	token api.Token
	room  []api.Grant
}

func wholeOf(x api.Token) whole {
	x.Tenant = strings.Clone(x.Tenant)
	return whole{x, slices.Clone(x.Grants[:cap(x.Grants)])}
}

func wantUnchanged(t *testing.T, what string, x api.Token, was whole) {
	t.Helper()
	if x.Tenant != was.token.Tenant || x.Id != was.token.Id || x.Mac != was.token.Mac || !slices.Equal(x.Grants[:cap(x.Grants)], was.room) {
		t.Fatalf("%s: the token given is %+v now, was %+v", what, x, was)
	}
}

// spoil overwrites all that a token's grants have room for.
func spoil(x api.Token) {
	for i := range x.Grants[:cap(x.Grants)] {
		x.Grants[:cap(x.Grants)][i] = api.Grant{Rights: -7, Prefix: "spoilt"}
	}
}

func TestUnchanged(t *testing.T) { // R3: no call changes the token it is given, nor shares memory with it or with other results
	g := api.Grant{Rights: 1, Prefix: "open.log", Exact: true, Until: 2}
	for n := 1; n <= 5; n++ {
		for _, spare := range []int{0, 1, 2, 10} {
			x := made(t, n)
			x.Grants[n-1] = api.Grant{Rights: 1, Prefix: "open"}
			x.Grants = append(make([]api.Grant, 0, n+spare), x.Grants...)
			was := wholeOf(x)
			token.Verify(root, x)
			token.Last(x)
			token.Put(nil, x)
			wantUnchanged(t, "Verify, Last, Put", x, was)
			y, z := wantAttenuate(t, x, g, api.OK), wantAttenuate(t, x, api.Grant{Rights: 1, Prefix: "open.x"}, api.OK)
			wantUnchanged(t, "Attenuate", x, was)
			wasZ := wholeOf(z)
			spoil(y)
			wantUnchanged(t, "what is done to one result", x, was)
			wantUnchanged(t, "what is done to another result", z, wasZ)
			spoil(x)
			wantUnchanged(t, "what is done to the argument", z, wasZ)
		}
	}
}

func TestReadShares(t *testing.T) { // R3: what is read shares no memory with the bytes, the reader, or another result
	x := made(t, 4)
	b := laid(x)
	r := pack.Read(append(b, b...))
	y := token.Read(r)
	spoil(y)
	z := token.Read(r)
	clear(b[:cap(b)])
	wantSame(t, "Read", z, x)
	u, _ := token.Mint(root, "ann", 1, api.Grant{Rights: 1})
	spoil(u)
	v, _ := token.Mint(root, "ann", 1, api.Grant{Rights: 1})
	wantVerify(t, "minted again", v, api.OK)
}
