package token_test

import (
	"bytes"
	"crypto/hmac"
	"crypto/sha256"
	"encoding/binary"
	"fmt"
	"math"
	"math/rand/v2"
	"regexp"
	"slices"
	"strings"
	"testing"

	"sealery/api"
	"sealery/pack"
	"sealery/right"
	"sealery/token"
)

// The chapter's words, written a second time, with the library's codes, numbers and expressions instead of the layers below.

var nameForm = regexp.MustCompile(`\A[a-z][a-z0-9.-]{0,23}\z`)

func wordCheck(g api.Grant) api.Errno {
	if g.Rights < 1 || g.Rights > 127 || g.Until < 0 || g.Until > 1<<40 || g.Exact && g.Prefix == "" {
		return api.ErrArg
	}
	if g.Prefix != "" && !nameForm.MatchString(g.Prefix) {
		return api.ErrName
	}
	return api.OK
}

func wordContained(a, b api.Grant) bool {
	rights := b.Rights&^a.Rights == 0
	prefix := strings.HasPrefix(b.Prefix, a.Prefix)
	if a.Exact {
		prefix = b.Exact && a.Prefix == b.Prefix
	}
	until := a.Until == 0 || b.Until >= 1 && b.Until <= a.Until
	return rights && prefix && until
}

func wordNumber(n int) []byte { return binary.BigEndian.AppendUint64(nil, uint64(n)) }

func wordText(s string) []byte { return append(wordNumber(len(s)), s...) }

func wordEncoding(g api.Grant) []byte {
	exact := map[bool]int{true: 1}
	return slices.Concat(wordNumber(g.Rights), wordText(g.Prefix), wordNumber(exact[g.Exact]), wordNumber(g.Until))
}

func wordCode(key, b []byte) []byte {
	h := hmac.New(sha256.New, key)
	h.Write(b)
	return h.Sum(nil)
}

func wordChain(root api.Key, x api.Token) api.Sum {
	code := wordCode(root[:], slices.Concat(wordText(x.Tenant), wordNumber(x.Id)))
	for _, g := range x.Grants {
		code = wordCode(code, wordEncoding(g))
	}
	return api.Sum(code)
}

func wordWellFormed(x api.Token) bool {
	ok := nameForm.MatchString(x.Tenant) && x.Id >= 1 && x.Id <= 1<<40 && len(x.Grants) >= 1 && len(x.Grants) <= 6
	for i, g := range x.Grants {
		ok = ok && wordCheck(g) == api.OK
		ok = ok && (i == 0 || wordContained(x.Grants[i-1], g))
	}
	return ok
}

func wordMint(root api.Key, tenant string, id int, g api.Grant) (api.Token, api.Errno) {
	if !nameForm.MatchString(tenant) {
		return api.Token{}, api.ErrName
	}
	if id < 1 || id > 1<<40 {
		return api.Token{}, api.ErrArg
	}
	if e := wordCheck(g); e != api.OK {
		return api.Token{}, e
	}
	x := api.Token{Tenant: tenant, Id: id, Grants: []api.Grant{g}}
	x.Mac = wordChain(root, x)
	return x, api.OK
}

func wordAttenuate(x api.Token, g api.Grant) (api.Token, api.Errno) {
	n := len(x.Grants)
	if n == 0 {
		return api.Token{}, api.ErrArg
	}
	if n >= 6 {
		return api.Token{}, api.ErrMany
	}
	if e := wordCheck(g); e != api.OK {
		return api.Token{}, e
	}
	if !wordContained(x.Grants[n-1], g) {
		return api.Token{}, api.ErrWide
	}
	x.Grants = slices.Concat(x.Grants, []api.Grant{g})
	x.Mac = api.Sum(wordCode(x.Mac[:], wordEncoding(g)))
	return x, api.OK
}

func wordVerify(root api.Key, x api.Token) api.Errno {
	if wordWellFormed(x) && x.Mac == wordChain(root, x) {
		return api.OK
	}
	return api.ErrToken
}

func wordPut(b []byte, x api.Token) []byte {
	all := [][]byte{b, wordText(x.Tenant), wordNumber(x.Id), wordNumber(len(x.Grants))}
	for _, g := range x.Grants {
		all = append(all, wordEncoding(g))
	}
	return bytes.Join(append(all, x.Mac[:]), nil)
}

// wordReader reads what is left; its error is the first one.
type wordReader struct {
	left []byte
	err  api.Errno
}

func (r *wordReader) next(n uint64) []byte {
	if r.err == api.OK && n > uint64(len(r.left)) {
		r.err = api.ErrShort
	}
	if r.err != api.OK {
		return nil
	}
	b := r.left[:n]
	r.left = r.left[n:]
	return b
}

func (r *wordReader) number(most uint64) uint64 {
	b := r.next(8)
	if r.err != api.OK {
		return 0
	}
	n := binary.BigEndian.Uint64(b)
	if n > most {
		r.err = api.ErrMany
		return 0
	}
	return n
}

func (r *wordReader) text() string { return string(r.next(r.number(24))) }

// wordRead is the token that is read of bytes, how many are left then, and the error.
func wordRead(b []byte) (api.Token, int, api.Errno) {
	r := &wordReader{left: b}
	var x api.Token
	x.Tenant = r.text()
	x.Id = int(r.number(math.MaxUint64))
	for n := r.number(6); n > 0; n-- {
		var g api.Grant
		g.Rights = int(r.number(math.MaxUint64))
		g.Prefix = r.text()
		g.Exact = r.number(1) > 0
		g.Until = int(r.number(math.MaxUint64))
		x.Grants = append(x.Grants, g)
	}
	copy(x.Mac[:], r.next(32))
	if r.err != api.OK {
		return api.Token{}, 0, r.err
	}
	return x, len(r.left), api.OK
}

// draw makes random names, grants and tokens; they are mostly such as there may be.
type draw struct{ *rand.Rand }

func newDraw(seed int) draw { return draw{rand.New(rand.NewPCG(uint64(seed), 14))} }

func pick[T any](d draw, l ...T) T { return l[d.IntN(len(l))] }

func (d draw) key() api.Key { return api.Key{0: byte(d.IntN(4)), 31: byte(d.IntN(2))} }

func (d draw) text() string {
	letters, most := "ab", 4
	switch d.IntN(16) {
	case 0:
		letters, most = "az09.-", 26
	case 1:
		letters, most = "aA_ \x00\xff", 4
	}
	s := make([]byte, d.IntN(most+1))
	for i := range s {
		s[i] = letters[d.IntN(len(letters))]
	}
	return string(s)
}

func (d draw) number() int {
	switch d.IntN(16) {
	case 0:
		return int(d.Uint64())
	case 1:
		return pick(d, 0, -1, 127, 128, 1<<40, 1<<40+1, math.MinInt, math.MaxInt)
	}
	return 1 + d.IntN(127)
}

func (d draw) grant() api.Grant {
	return api.Grant{Rights: d.number(), Prefix: d.text(), Exact: d.IntN(3) == 0, Until: d.number() * d.IntN(2)}
}

// near is a grant that is mostly contained in another one.
func (d draw) near(a api.Grant) api.Grant {
	b := a
	if b.Rights &= d.number() | d.number(); b.Rights == 0 {
		b.Rights = a.Rights
	}
	if !a.Exact && len(a.Prefix) < 20 {
		b.Prefix += pick(d, "", "a", "a.b", "log", d.text())
		b.Exact = d.IntN(3) == 0 && b.Prefix != ""
	}
	if a.Until > 1 {
		b.Until = a.Until - d.IntN(2)
	} else if a.Until == 0 && d.IntN(2) == 0 {
		b.Until = 3 + d.IntN(20)
	}
	if d.IntN(12) == 0 {
		return d.spoilt(b)
	}
	return b
}

// spoilt is a grant of which one thing is another.
func (d draw) spoilt(g api.Grant) api.Grant {
	switch d.IntN(4) {
	case 0:
		g.Rights = d.number()
	case 1:
		g.Prefix = d.text()
	case 2:
		g.Exact = !g.Exact
	case 3:
		g.Until = d.number() * d.IntN(2)
	}
	return g
}

// anyToken was made in no particular way, and verifies seldom.
func (d draw) anyToken() api.Token {
	x := api.Token{Tenant: d.text(), Id: d.number(), Grants: make([]api.Grant, d.IntN(9))}
	for i := range x.Grants {
		if i == 0 || d.IntN(8) == 0 {
			x.Grants[i] = d.grant()
		} else {
			x.Grants[i] = d.near(x.Grants[i-1])
		}
	}
	if d.IntN(2) == 0 {
		x.Mac = wordChain(d.key(), x)
	} else {
		x.Mac[d.IntN(32)] = byte(d.Uint64())
	}
	return x
}

// altered is a token of which one thing is another, mostly.
func (d draw) altered(x api.Token) api.Token {
	x.Grants = slices.Clone(x.Grants)
	n := len(x.Grants)
	switch d.IntN(8) {
	case 0:
		x.Tenant = d.text()
	case 1:
		x.Id = d.number()
	case 2:
		x.Mac[d.IntN(32)] ^= 1 << d.IntN(8)
	case 3:
		if n > 0 {
			x.Grants = x.Grants[:n-1]
		}
	case 4:
		x.Grants = append(x.Grants, d.grant())
	case 5:
		if n > 0 {
			i := d.IntN(n)
			x.Grants[i] = d.spoilt(x.Grants[i])
		}
	}
	return x
}

// wantWords holds every answer about a token and a grant against the words.
func wantWords(t *testing.T, key api.Key, x api.Token, g api.Grant) (verified, narrowed api.Errno) {
	t.Helper()
	was := x
	was.Grants = slices.Clone(x.Grants)
	got, err := token.Mint(key, x.Tenant, x.Id, g)
	want, wantE := wordMint(key, x.Tenant, x.Id, g)
	wantErr(t, fmt.Sprintf("Mint %x, %q, %d, %+v", key, x.Tenant, x.Id, g), err, wantE)
	wantSame(t, "Mint", got, want)
	got, err = token.Attenuate(x, g)
	want, wantE = wordAttenuate(x, g)
	wantErr(t, fmt.Sprintf("Attenuate %+v, %+v", x, g), err, wantE)
	wantSame(t, "Attenuate", got, want)
	verified = token.Verify(key, x)
	wantErr(t, fmt.Sprintf("Verify %x, %+v", key, x), verified, wordVerify(key, x))
	if last := token.Last(x); len(x.Grants) > 0 && last != x.Grants[len(x.Grants)-1] || len(x.Grants) == 0 && last != (api.Grant{}) {
		t.Fatalf("Last %+v: %+v", x, last)
	}
	wantBytesWords(t, x)
	wantSame(t, "the argument", x, was)
	return verified, err
}

func wantBytesWords(t *testing.T, x api.Token) {
	t.Helper()
	b := token.Put([]byte(x.Tenant), x)
	if want := wordPut([]byte(x.Tenant), x); !bytes.Equal(b, want) {
		t.Fatalf("Put %+v: %x, want %x", x, b, want)
	}
	wantReadWords(t, b[len(x.Tenant):])
}

func wantReadWords(t *testing.T, b []byte) api.Errno {
	t.Helper()
	r := pack.Read(b)
	got := token.Read(r)
	want, left, err := wordRead(b)
	wantSame(t, fmt.Sprintf("Read of %x", b), got, want)
	if r.Left() != left || r.Bad() != (err != api.OK) {
		t.Fatalf("Read of %x: left %d, want %d; bad %v, want %d", b, r.Left(), left, r.Bad(), err)
	}
	if err != api.OK {
		wantErr(t, fmt.Sprintf("End behind Read of %x", b), r.End(), err)
	}
	return err
}

func TestWords(t *testing.T) { // P14.1 to P14.5: random tokens of all sorts
	counts := map[api.Errno]int{}
	for seed := range 8 {
		d := newDraw(seed)
		for range 4000 {
			x := d.anyToken()
			g := d.grant()
			if d.IntN(2) == 0 {
				g = d.near(token.Last(x))
			}
			verified, narrowed := wantWords(t, d.key(), x, g)
			counts[verified]++
			counts[narrowed]++
			verified, narrowed = wantWords(t, d.key(), d.altered(x), g)
			counts[verified]++
			counts[narrowed]++
		}
	}
	for _, e := range []api.Errno{api.OK, api.ErrArg, api.ErrMany, api.ErrName, api.ErrWide, api.ErrToken} {
		if counts[e] < 1000 {
			t.Errorf("%v: too few of %d", counts, e)
		}
	}
}

func TestWordsRead(t *testing.T) { // P14.5: random bytes, most of them a token's of which a little is another
	counts := map[api.Errno]int{}
	for seed := range 8 {
		d := newDraw(100 + seed)
		for range 10000 {
			b := wordPut(nil, d.anyToken())
			for range d.IntN(3) {
				at := d.IntN(len(b))
				b[at] = pick(d, 0, 1, 2, 6, 7, 24, 25, b[at]^1, byte(d.Uint64()))
			}
			switch d.IntN(6) {
			case 0:
				b = b[:d.IntN(len(b)+1)]
			case 1:
				b = append(b, make([]byte, d.IntN(9))...)
			case 2:
				for i := range b {
					b[i] = byte(d.Uint64()) * byte(d.IntN(2))
				}
			}
			counts[wantReadWords(t, b)]++
		}
	}
	if counts[api.OK] < 10000 || counts[api.ErrShort] < 5000 || counts[api.ErrMany] < 5000 {
		t.Errorf("%v: too few of a sort", counts)
	}
}

// grown is a token that Mint made and Attenuate narrowed as often as it could, and the root that it is under.
func (d draw) grown(t *testing.T) (api.Token, api.Key) {
	t.Helper()
	key := d.key()
	first := api.Grant{Rights: 1 + d.IntN(127), Until: 50 * d.IntN(3)}
	if d.IntN(2) == 0 {
		first.Prefix = pick(d, "a", "log", "a.b")
		first.Exact = d.IntN(8) == 0
	}
	x, err := token.Mint(key, pick(d, "ann", "bob", "a"), 1+d.IntN(1<<40), first)
	wantErr(t, "Mint", err, api.OK)
	for range d.IntN(9) {
		y, err := token.Attenuate(x, d.near(token.Last(x)))
		if err == api.OK {
			x = y
		}
	}
	return x, key
}

func TestValidity(t *testing.T) { // P14.6: what was made verifies, and its last grant covers no more than each before
	counts := map[int]int{}
	for seed := range 4 {
		d := newDraw(200 + seed)
		for range 3000 {
			x, key := d.grown(t)
			counts[len(x.Grants)]++
			wantErr(t, "Verify", token.Verify(key, x), api.OK)
			last := token.Last(x)
			for range 20 {
				rights, stream := pick(d, 1<<d.IntN(7), d.IntN(128), last.Rights), pick(d, "", last.Prefix, last.Prefix+d.text(), d.text())
				for _, g := range x.Grants {
					if right.Covers(last, rights, stream) && !right.Covers(g, rights, stream) {
						t.Fatalf("%+v covers %d, %q, and %+v does not", last, rights, stream, g)
					}
				}
			}
		}
	}
	for n := 1; n <= 6; n++ {
		if counts[n] < 200 {
			t.Errorf("%v: too few of %d grants", counts, n)
		}
	}
}

func TestRoundTrip(t *testing.T) { // P14.7: of what was made, and of any token with texts and grants within the limits
	for seed := range 4 {
		d := newDraw(300 + seed)
		for range 5000 {
			made, key := d.grown(t)
			other := d.anyToken()
			if other.Tenant = other.Tenant[:min(24, len(other.Tenant))]; len(other.Grants) > 6 {
				other.Grants = other.Grants[:6]
			}
			for i, g := range other.Grants {
				other.Grants[i].Prefix = g.Prefix[:min(24, len(g.Prefix))]
			}
			r := pack.Read(token.Put(token.Put(nil, other), made))
			wantSame(t, "Read", token.Read(r), other)
			got := token.Read(r)
			wantSame(t, "Read", got, made)
			wantErr(t, "End", r.End(), api.OK)
			wantErr(t, "Verify", token.Verify(key, got), api.OK)
		}
	}
}
