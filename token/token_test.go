package token_test

import (
	"bytes"
	"fmt"
	"math"
	"slices"
	"strings"
	"testing"

	"sealery/api"
	"sealery/mac"
	"sealery/pack"
	"sealery/token"
)

var root = api.Key{1, 2, 3, 31: 32}

func wantErr(t *testing.T, what string, got, want api.Errno) {
	t.Helper()
	if got != want {
		t.Fatalf("%s: %d, want %d", what, got, want)
	}
}

func same(a, b api.Token) bool {
	return a.Tenant == b.Tenant && a.Id == b.Id && slices.Equal(a.Grants, b.Grants) && a.Mac == b.Mac
}

func wantSame(t *testing.T, what string, got, want api.Token) {
	t.Helper()
	if !same(got, want) {
		t.Fatalf("%s: %+v, want %+v", what, got, want)
	}
}

// wantMint is the token that Mint must make; if it is to be refused, none.
func wantMint(t *testing.T, tenant string, id int, g api.Grant, want api.Errno) api.Token {
	t.Helper()
	x, err := token.Mint(root, tenant, id, g)
	wantErr(t, fmt.Sprintf("Mint %.99q, %d, %+v", tenant, id, g), err, want)
	if want != api.OK {
		wantSame(t, "a token beside an error", x, api.Token{})
	} else {
		wantSame(t, "Mint", x, api.Token{Tenant: tenant, Id: id, Grants: []api.Grant{g}, Mac: x.Mac})
	}
	return x
}

// wantAttenuate is the token that Attenuate must make; if it is to be refused, none.
func wantAttenuate(t *testing.T, x api.Token, g api.Grant, want api.Errno) api.Token {
	t.Helper()
	y, err := token.Attenuate(x, g)
	wantErr(t, fmt.Sprintf("Attenuate %+v by %+v", x, g), err, want)
	if want != api.OK {
		wantSame(t, "a token beside an error", y, api.Token{})
	} else {
		wantSame(t, "Attenuate", y, api.Token{Tenant: x.Tenant, Id: x.Id, Grants: slices.Concat(x.Grants, []api.Grant{g}), Mac: y.Mac})
	}
	return y
}

func wantVerify(t *testing.T, what string, x api.Token, want api.Errno) {
	t.Helper()
	wantErr(t, fmt.Sprintf("Verify, %s: %+v", what, x), token.Verify(root, x), want)
}

// encoded is a grant's encoding, by pack alone.
func encoded(g api.Grant) []byte {
	b := pack.Text(pack.Int(nil, g.Rights), g.Prefix)
	if g.Exact {
		b = pack.Int(b, 1)
	} else {
		b = pack.Int(b, 0)
	}
	return pack.Int(b, g.Until)
}

// sealed is a token with its chain as its Mac, by mac and pack alone, whatever else it is.
func sealed(key api.Key, x api.Token) api.Token {
	x.Mac = mac.Of(key[:], pack.Int(pack.Text(nil, x.Tenant), x.Id))
	for _, g := range x.Grants {
		x.Mac = mac.Chain(x.Mac, encoded(g))
	}
	return x
}

// narrower is a well-formed list of n grants, each within the one ahead.
func narrower(n int) []api.Grant {
	l := make([]api.Grant, n)
	for i := range l {
		l[i] = api.Grant{Rights: api.AllRights >> (i % 7), Prefix: "open.log"[:min(i, 8)], Exact: i > 4, Until: max(0, 20-i)}
	}
	if n > 6 {
		for i := 6; i < n; i++ {
			l[i] = l[5] // which is contained in itself
		}
	}
	return l
}

// made is a token that was minted under root and attenuated till it has n grants.
func made(t *testing.T, n int) api.Token {
	t.Helper()
	l := narrower(n)
	x := wantMint(t, "ann", 7, l[0], api.OK)
	for _, g := range l[1:] {
		x = wantAttenuate(t, x, g, api.OK)
	}
	return x
}

func TestExamples(t *testing.T) { // the chapter's examples
	x := wantMint(t, "ann", 7, api.Grant{Rights: 3, Prefix: "open"}, api.OK)
	wantVerify(t, "of what was minted", x, api.OK)
	y := wantAttenuate(t, x, api.Grant{Rights: 1, Prefix: "open.log", Exact: true}, api.OK)
	wantVerify(t, "of what was attenuated", y, api.OK)
	wantAttenuate(t, x, api.Grant{Rights: 7, Prefix: "open"}, api.ErrWide)
	wantAttenuate(t, x, api.Grant{Rights: 1, Prefix: "shut"}, api.ErrWide)
	wantAttenuate(t, x, api.Grant{Rights: 0, Prefix: "open"}, api.ErrArg)
	wantMint(t, "Ann", 7, api.Grant{Rights: 3, Prefix: "open"}, api.ErrName)
	wantMint(t, "ann", 0, api.Grant{Rights: 3, Prefix: "open"}, api.ErrArg)
}

// noNames are texts that are no names.
var noNames = []string{"", "Ann", "2a", "a_b", "-", ".a", "a b", "a\x00", "\xff", "a\xff", "\u00e9", strings.Repeat("a", 25), strings.Repeat("a", 1<<16)}

// faults are grants that right.Check refuses, and how.
var faults = []struct {
	g    api.Grant
	want api.Errno
}{
	{api.Grant{}, api.ErrArg},
	{api.Grant{Rights: 0, Prefix: "open"}, api.ErrArg},
	{api.Grant{Rights: -1}, api.ErrArg},
	{api.Grant{Rights: 128}, api.ErrArg},
	{api.Grant{Rights: math.MinInt, Prefix: "OPEN"}, api.ErrArg},
	{api.Grant{Rights: 1, Until: -1}, api.ErrArg},
	{api.Grant{Rights: 1, Until: api.MaxTime + 1}, api.ErrArg},
	{api.Grant{Rights: 1, Exact: true}, api.ErrArg},
	{api.Grant{Rights: 1, Prefix: "OPEN"}, api.ErrName},
	{api.Grant{Rights: 1, Prefix: "OPEN", Exact: true}, api.ErrName},
	{api.Grant{Rights: 1, Prefix: strings.Repeat("a", 25)}, api.ErrName},
}

func TestMint(t *testing.T) { // P14.1: names, Ids about their ends, grants
	g := api.Grant{Rights: 3, Prefix: "open"}
	for _, tenant := range []string{"a", "z", "ann", "a-b.9", strings.Repeat("z", 24)} {
		wantMint(t, tenant, 1, g, api.OK)
	}
	for _, tenant := range noNames {
		wantMint(t, tenant, 1, g, api.ErrName)
	}
	for _, id := range []int{1, 2, 1 << 32, api.MaxTime - 1, api.MaxTime} {
		wantMint(t, "ann", id, g, api.OK)
	}
	for _, id := range []int{0, -1, -7, -api.MaxTime, math.MinInt, api.MaxTime + 1, math.MaxInt, 1<<63 - api.MaxTime} {
		wantMint(t, "ann", id, g, api.ErrArg)
	}
	for _, g := range []api.Grant{{Rights: 1}, {Rights: 127}, {Rights: 127, Prefix: "a", Exact: true, Until: 1}, {Rights: 64, Prefix: strings.Repeat("a", 24), Until: api.MaxTime}} {
		wantMint(t, "ann", 1, g, api.OK)
	}
	for _, f := range faults {
		wantMint(t, "ann", 1, f.g, f.want)
	}
}

func TestMintFirstError(t *testing.T) { // P14.1, R2: the tenant's error, then the Id's, then the grant's
	for _, f := range faults {
		wantMint(t, "Ann", 0, f.g, api.ErrName)
		wantMint(t, "Ann", 1, f.g, api.ErrName)
		wantMint(t, "ann", 0, f.g, api.ErrArg)
		wantMint(t, "ann", api.MaxTime+1, f.g, api.ErrArg)
	}
	wantMint(t, "Ann", 0, api.Grant{Rights: 1}, api.ErrName)
}

func TestMintMac(t *testing.T) { // P14.1: the Mac is the chain, under each root
	for _, key := range []api.Key{{}, root, {31: 1}, api.Key(bytes.Repeat([]byte{255}, 32))} {
		for _, g := range []api.Grant{{Rights: 1}, {Rights: 127, Prefix: "a", Exact: true, Until: 1}, {Rights: 64, Prefix: "open.log", Until: api.MaxTime}} {
			for _, id := range []int{1, 258, api.MaxTime} {
				x, err := token.Mint(key, "ann", id, g)
				wantErr(t, "Mint", err, api.OK)
				want := mac.Chain(mac.Of(key[:], pack.Int(pack.Text(nil, "ann"), id)), encoded(g))
				if x.Mac != want {
					t.Fatalf("%x, %d, %+v: Mac %x, want %x", key, id, g, x.Mac, want)
				}
			}
		}
	}
}

func TestAttenuateNumbers(t *testing.T) { // P14.2: of tokens with 1 to 5 grants, not of one with none, 6 or more
	g := narrower(6)[5]
	for n := 1; n <= 5; n++ {
		wantAttenuate(t, made(t, n), g, api.OK)
	}
	wantAttenuate(t, api.Token{}, g, api.ErrArg)
	wantAttenuate(t, api.Token{Tenant: "ann", Id: 1, Grants: []api.Grant{}, Mac: api.Sum{1}}, g, api.ErrArg)
	for _, n := range []int{6, 7, 8, 100, 1 << 16} {
		wantAttenuate(t, sealed(root, api.Token{Tenant: "ann", Id: 7, Grants: narrower(n)}), g, api.ErrMany)
	}
}

func TestAttenuateWide(t *testing.T) { // P14.2: what the last grant does not contain, though the first may
	x := made(t, 1)
	x = wantAttenuate(t, x, api.Grant{Rights: 3, Prefix: "open", Until: 9}, api.OK)
	for _, g := range []api.Grant{{Rights: 3, Prefix: "open", Until: 9}, {Rights: 2, Prefix: "open", Until: 1}, {Rights: 1, Prefix: "open.log", Until: 8}, {Rights: 1, Prefix: "open", Exact: true, Until: 9}} {
		wantAttenuate(t, x, g, api.OK)
	}
	for _, g := range []api.Grant{{Rights: 7, Prefix: "open", Until: 9}, {Rights: 4, Prefix: "open", Until: 9}, {Rights: 3, Prefix: "ope", Until: 9}, {Rights: 3, Until: 9}, {Rights: 3, Prefix: "shut", Until: 9}, {Rights: 3, Prefix: "open", Until: 10}, {Rights: 3, Prefix: "open"}} {
		wantAttenuate(t, x, g, api.ErrWide)
	}
	x = wantAttenuate(t, x, api.Grant{Rights: 1, Prefix: "open", Exact: true, Until: 9}, api.OK)
	for _, g := range []api.Grant{{Rights: 1, Prefix: "open", Until: 9}, {Rights: 1, Prefix: "open.log", Exact: true, Until: 9}} {
		wantAttenuate(t, x, g, api.ErrWide)
	}
}

func TestAttenuateFirstError(t *testing.T) { // P14.2, R2: the token's error, then right.Check's, then ErrWide
	for _, f := range faults {
		wantAttenuate(t, api.Token{}, f.g, api.ErrArg)
		for n := 1; n <= 5; n++ {
			wantAttenuate(t, made(t, n), f.g, f.want) // most of them are wide, too
		}
		for n := 6; n <= 8; n++ {
			wantAttenuate(t, sealed(root, api.Token{Tenant: "ann", Id: 7, Grants: narrower(n)}), f.g, api.ErrMany)
		}
	}
	wide := api.Grant{Rights: 127}
	wantAttenuate(t, api.Token{}, wide, api.ErrArg)
	wantAttenuate(t, made(t, 5), wide, api.ErrWide)
	wantAttenuate(t, made(t, 6), wide, api.ErrMany)
	narrow := sealed(root, api.Token{Tenant: "ann", Id: 7, Grants: []api.Grant{{Rights: 1, Prefix: "shut"}}})
	wantAttenuate(t, narrow, api.Grant{Rights: 1, Prefix: "OPEN"}, api.ErrName)
	wantAttenuate(t, narrow, api.Grant{Rights: 0, Prefix: "open"}, api.ErrArg)
}

func TestAttenuateMac(t *testing.T) { // P14.2: of the former Mac and the grant's encoding, whatever that Mac is
	g := api.Grant{Rights: 2, Prefix: "open.log", Exact: true, Until: 5}
	for n := 1; n <= 5; n++ {
		x := made(t, n)
		x.Grants[n-1] = api.Grant{Rights: 127, Prefix: "open"}
		for _, code := range []api.Sum{x.Mac, {}, {9}, api.Sum(bytes.Repeat([]byte{255}, 32))} {
			x.Mac = code
			if y := wantAttenuate(t, x, g, api.OK); y.Mac != mac.Chain(code, encoded(g)) {
				t.Fatalf("Mac %x, want %x", y.Mac, mac.Chain(code, encoded(g)))
			}
		}
	}
}

func TestAttenuateAnyToken(t *testing.T) { // P14.2: nothing else about the token is checked
	whole, g := api.Grant{Rights: 127}, api.Grant{Rights: 1, Prefix: "open"}
	for _, tenant := range append(noNames, "ann") {
		for _, id := range []int{0, -1, math.MinInt, math.MaxInt, 1} {
			wantAttenuate(t, api.Token{Tenant: tenant, Id: id, Grants: []api.Grant{whole}}, g, api.OK)
		}
	}
	for _, f := range faults {
		wantAttenuate(t, api.Token{Tenant: "ann", Id: 1, Grants: []api.Grant{f.g, whole}}, g, api.OK)
		wantAttenuate(t, api.Token{Tenant: "ann", Id: 1, Grants: []api.Grant{whole, f.g, f.g, whole}}, g, api.OK)
	}
	wantAttenuate(t, api.Token{Grants: []api.Grant{{Rights: 1, Prefix: "shut"}, whole}}, g, api.OK) // a wider one behind another
	wantAttenuate(t, api.Token{Grants: []api.Grant{{Rights: -1}}}, api.Grant{Rights: 127, Prefix: "a", Exact: true, Until: 1}, api.OK)
	wantAttenuate(t, api.Token{Grants: []api.Grant{{Rights: 129, Until: 1 << 50}}}, api.Grant{Rights: 1, Until: api.MaxTime}, api.OK)
	wantAttenuate(t, api.Token{Grants: []api.Grant{{Rights: 1, Until: -1}}}, api.Grant{Rights: 1, Until: 1}, api.ErrWide)
	wantAttenuate(t, api.Token{Grants: []api.Grant{{Rights: 1, Exact: true}}}, api.Grant{Rights: 1}, api.ErrWide)
	wantAttenuate(t, api.Token{Grants: []api.Grant{{}}}, api.Grant{Rights: 1}, api.ErrWide)
}

func TestVerify(t *testing.T) { // P14.3: of what was made, under its root key and under others
	for n := 1; n <= 6; n++ {
		x := made(t, n)
		wantVerify(t, "of what was made", x, api.OK)
		wantSame(t, "the chain", x, sealed(root, x))
		for bit := range 256 {
			other := root
			other[bit/8] ^= 1 << (bit % 8)
			wantErr(t, "Verify under another key", token.Verify(other, x), api.ErrToken)
			wantErr(t, "Verify under its own key", token.Verify(other, sealed(other, x)), api.OK)
		}
		wantErr(t, "Verify under no key", token.Verify(api.Key{}, x), api.ErrToken)
	}
}

// wantAltered holds that a token does not verify any more when what it has was altered by change.
func wantAltered(t *testing.T, what string, x api.Token, change func(*api.Token)) {
	t.Helper()
	x.Grants = slices.Clone(x.Grants)
	was := x
	was.Grants = slices.Clone(x.Grants)
	if change(&x); same(x, was) {
		t.Fatalf("%s: not altered", what)
	}
	wantVerify(t, what, x, api.ErrToken)
}

func TestVerifyAltered(t *testing.T) { // P14.3: each thing of a token altered, of which most are still well-formed
	for n := 1; n <= 6; n++ {
		x := made(t, n)
		for i := range len(x.Tenant) {
			for _, c := range "bz-0.A\x00" {
				wantAltered(t, "Tenant", x, func(y *api.Token) { y.Tenant = x.Tenant[:i] + string(c) + x.Tenant[i+1:] })
			}
		}
		for _, tenant := range []string{"", "an", "nn", "anna", "ann\x00", "bob"} {
			wantAltered(t, "Tenant", x, func(y *api.Token) { y.Tenant = tenant })
		}
		for bit := range 64 {
			wantAltered(t, "Id", x, func(y *api.Token) { y.Id ^= 1 << bit })
		}
		for bit := range 256 {
			wantAltered(t, "Mac", x, func(y *api.Token) { y.Mac[bit/8] ^= 1 << (bit % 8) })
		}
		wantAltered(t, "Mac", x, func(y *api.Token) { y.Mac = api.Sum{} })
		for i := range n {
			wantAlteredGrant(t, x, i)
		}
	}
}

// wantAlteredGrant alters each field of a token's grant i.
func wantAlteredGrant(t *testing.T, x api.Token, i int) {
	t.Helper()
	for bit := range 64 {
		wantAltered(t, "Rights", x, func(y *api.Token) { y.Grants[i].Rights ^= 1 << bit })
		wantAltered(t, "Until", x, func(y *api.Token) { y.Grants[i].Until ^= 1 << bit })
	}
	wantAltered(t, "Prefix", x, func(y *api.Token) { y.Grants[i].Prefix += "a" })
	wantAltered(t, "Prefix", x, func(y *api.Token) { y.Grants[i].Prefix += "\x00" })
	wantAltered(t, "Prefix", x, func(y *api.Token) { y.Grants[i].Prefix = "shut" })
	if p := x.Grants[i].Prefix; p != "" {
		wantAltered(t, "Prefix", x, func(y *api.Token) { y.Grants[i].Prefix = p[:len(p)-1] })
		wantAltered(t, "Prefix", x, func(y *api.Token) { y.Grants[i].Prefix = "" })
	}
	wantAltered(t, "Exact", x, func(y *api.Token) { y.Grants[i].Exact = !y.Grants[i].Exact })
}

func TestVerifyGrantsMoved(t *testing.T) { // P14.3: grants left out, exchanged, put twice
	for n := 1; n <= 6; n++ {
		x := made(t, n)
		for i := range n {
			wantAltered(t, "left out", x, func(y *api.Token) { y.Grants = slices.Delete(y.Grants, i, i+1) })
			wantAltered(t, "put twice", x, func(y *api.Token) { y.Grants = slices.Insert(y.Grants, i, y.Grants[i]) })
			for j := range i {
				wantAltered(t, "exchanged", x, func(y *api.Token) { y.Grants[i], y.Grants[j] = y.Grants[j], y.Grants[i] })
			}
		}
		wantAltered(t, "all left out", x, func(y *api.Token) { y.Grants = nil })
		wantAltered(t, "its last one left out, chained under another key", x, func(y *api.Token) {
			y.Grants = y.Grants[:n-1]
			y.Mac = sealed(api.Key{}, *y).Mac
		})
	}
}

func TestVerifyNotWellFormed(t *testing.T) { // P14.3: tokens that are not well-formed, though their Mac is their chain
	ok := api.Token{Tenant: "ann", Id: 7, Grants: narrower(3)}
	wantVerify(t, "well-formed", sealed(root, ok), api.OK)
	for _, tenant := range noNames {
		x := ok
		x.Tenant = tenant
		wantVerify(t, "no name", sealed(root, x), api.ErrToken)
	}
	for _, id := range []int{0, -1, math.MinInt, api.MaxTime + 1, math.MaxInt} {
		x := ok
		x.Id = id
		wantVerify(t, "no Id", sealed(root, x), api.ErrToken)
	}
	for _, id := range []int{1, api.MaxTime} {
		x := ok
		x.Id = id
		wantVerify(t, "an Id at an end", sealed(root, x), api.OK)
	}
	wantVerify(t, "none", api.Token{}, api.ErrToken)
	for n := range 20 {
		want := api.ErrToken
		if n >= 1 && n <= 6 {
			want = api.OK
		}
		wantVerify(t, fmt.Sprint(n, " grants"), sealed(root, api.Token{Tenant: "ann", Id: 7, Grants: narrower(n)}), want)
	}
	wantVerify(t, "many grants", sealed(root, api.Token{Tenant: "ann", Id: 7, Grants: narrower(1 << 12)}), api.ErrToken)
}

func TestVerifyFaultyGrants(t *testing.T) { // P14.3: a grant that right.Check refuses, or a wider one, at each place, though the Mac is the chain
	for n := 1; n <= 6; n++ {
		for i := range n {
			for _, f := range faults {
				l := narrower(n)
				l[i] = f.g
				wantVerify(t, "a faulty grant", sealed(root, api.Token{Tenant: "ann", Id: 7, Grants: l}), api.ErrToken)
			}
			if i == 0 {
				continue
			}
			for _, wide := range []api.Grant{{Rights: 7, Prefix: "open", Until: 9}, {Rights: 3, Prefix: "ope", Until: 9}, {Rights: 3, Until: 9}, {Rights: 3, Prefix: "shut", Until: 9}, {Rights: 3, Prefix: "open", Until: 10}, {Rights: 3, Prefix: "open"}} {
				l := slices.Repeat([]api.Grant{{Rights: 3, Prefix: "open", Until: 9}}, n)
				wantVerify(t, "grants each within the one ahead", sealed(root, api.Token{Tenant: "ann", Id: 7, Grants: l}), api.OK)
				l[i] = wide
				wantVerify(t, "a wide grant", sealed(root, api.Token{Tenant: "ann", Id: 7, Grants: l}), api.ErrToken)
			}
		}
	}
	within := []api.Grant{{Rights: 1, Prefix: "a", Exact: true}, {Rights: 1, Prefix: "a"}}
	wantVerify(t, "not Exact behind Exact", sealed(root, api.Token{Tenant: "ann", Id: 7, Grants: within}), api.ErrToken)
	back := []api.Grant{{Rights: 3, Prefix: "a"}, {Rights: 1, Prefix: "a"}, {Rights: 3, Prefix: "a"}}
	wantVerify(t, "within the first, not within the second", sealed(root, api.Token{Tenant: "ann", Id: 7, Grants: back}), api.ErrToken)
}

func TestLast(t *testing.T) { // P14.4
	if g := token.Last(api.Token{}); g != (api.Grant{}) {
		t.Fatalf("Last of none: %+v", g)
	}
	if g := token.Last(api.Token{Tenant: "ann", Id: 1, Grants: make([]api.Grant, 0, 4)}); g != (api.Grant{}) {
		t.Fatalf("Last of none: %+v", g)
	}
	for _, n := range []int{1, 2, 3, 6, 7, 8, 1000} {
		l := make([]api.Grant, n)
		for i := range l {
			l[i] = api.Grant{Rights: i - 3, Prefix: fmt.Sprint("A", i), Exact: i%2 == 0, Until: -i}
		}
		if g := token.Last(api.Token{Grants: l}); g != l[n-1] { // of any grants, right or not
			t.Fatalf("Last of %d: %+v", n, g)
		}
	}
}
