package right_test

import (
	"bytes"
	"fmt"
	"math"
	"math/big"
	"math/rand/v2"
	"regexp"
	"slices"
	"testing"

	"sealery/api"
	"sealery/right"
)

// The chapter's words, written a second time: names by an expression, rights bit by bit, strings byte by byte, times as numbers of any size.

var nameForm = regexp.MustCompile(`\A[a-z][a-z0-9.-]{0,23}\z`)

func wordName(s string) bool { return nameForm.MatchString(s) }

func wordHas(number, other int) bool {
	for bit := range 64 {
		if uint64(other)>>bit%2 == 1 && uint64(number)>>bit%2 == 0 {
			return false
		}
	}
	return true
}

func wordBegins(s, with string) bool {
	for n := 0; n <= len(s); n++ {
		if bytes.Equal([]byte(s[:n]), []byte(with)) {
			return true
		}
	}
	return false
}

func wordFrom(n, low, high int) bool {
	x := big.NewInt(int64(n))
	return x.Cmp(big.NewInt(int64(low))) >= 0 && x.Cmp(big.NewInt(int64(high))) <= 0
}

func wordCheck(g api.Grant) api.Errno {
	rights, until, prefix := wordFrom(g.Rights, 1, 127), wordFrom(g.Until, 0, 1099511627776), true
	if g.Exact {
		prefix = len(g.Prefix) > 0
	}
	if !(rights && until && prefix) {
		return api.ErrArg
	}
	if len(g.Prefix) > 0 && !wordName(g.Prefix) {
		return api.ErrName
	}
	return api.OK
}

func wordCovers(g api.Grant, right int, stream string) bool {
	var ofStream bool
	if g.Exact {
		ofStream = bytes.Equal([]byte(stream), []byte(g.Prefix))
	} else {
		ofStream = wordBegins(stream, g.Prefix)
	}
	return ofStream && wordHas(g.Rights, right)
}

func wordNarrow(a, b api.Grant) bool {
	if !wordHas(a.Rights, b.Rights) {
		return false
	}
	if a.Exact {
		if !b.Exact || b.Prefix != a.Prefix {
			return false
		}
	} else if !wordBegins(b.Prefix, a.Prefix) {
		return false
	}
	if a.Until != 0 {
		return wordFrom(b.Until, 1, a.Until)
	}
	return true
}

func wordCheckRules(l []api.Rule) api.Errno {
	if len(l) > 8 {
		return api.ErrMany
	}
	var errs []api.Errno
	for _, r := range l {
		if r.Prefix != "" && !wordName(r.Prefix) {
			errs = append(errs, api.ErrName)
		} else if !wordFrom(r.Rights, 0, 127) {
			errs = append(errs, api.ErrArg)
		}
	}
	return append(errs, api.OK)[0]
}

func wordAllowed(l []api.Rule, right int, stream string) bool {
	var of []api.Rule
	for _, r := range l {
		if wordBegins(stream, r.Prefix) {
			of = append(of, r)
		}
	}
	if len(of) == 0 {
		return true
	}
	slices.SortStableFunc(of, func(r, q api.Rule) int { return len(q.Prefix) - len(r.Prefix) }) // the longest first; of several, as they stood
	return wordHas(of[0].Rights, right)
}

// wantWords holds every answer about two grants, rules, rights and a stream against the words.
func wantWords(t *testing.T, a, b api.Grant, l []api.Rule, rights int, stream string) {
	t.Helper()
	for _, s := range []string{stream, a.Prefix, b.Prefix} {
		if got, want := right.Name(s), wordName(s); got != want {
			t.Fatalf("Name %q: %v, want %v", s, got, want)
		}
		for _, g := range []api.Grant{a, b} {
			if got, want := right.Covers(g, rights, s), wordCovers(g, rights, s); got != want {
				t.Fatalf("Covers %+v, %d, %q: %v, want %v", g, rights, s, got, want)
			}
		}
		if got, want := right.Allowed(l, rights, s), wordAllowed(l, rights, s); got != want {
			t.Fatalf("Allowed %+v, %d, %q: %v, want %v", l, rights, s, got, want)
		}
	}
	for _, g := range []api.Grant{a, b} {
		wantErr(t, fmt.Sprintf("Check %+v", g), right.Check(g), wordCheck(g))
		if got, want := right.Whole(g), g.Prefix == "" && !g.Exact; got != want {
			t.Fatalf("Whole %+v: %v, want %v", g, got, want)
		}
	}
	for _, x := range [][2]api.Grant{{a, b}, {b, a}, {a, a}, {b, b}} {
		if got, want := right.Narrow(x[0], x[1]), wordNarrow(x[0], x[1]); got != want {
			t.Fatalf("Narrow %+v: %v, want %v", x, got, want)
		}
	}
	wantErr(t, fmt.Sprintf("CheckRules %+v", l), right.CheckRules(l), wordCheckRules(l))
}

// draw makes random strings, numbers, grants and rules; they are often alike, and not always such as Check accepts.
type draw struct{ *rand.Rand }

func newDraw(seed int) draw { return draw{rand.New(rand.NewPCG(uint64(seed), 13))} }

func pick[T any](d draw, l ...T) T { return l[d.IntN(len(l))] }

// text is of few letters, so that one often begins with another; sometimes of bytes that no name has.
func (d draw) text() string {
	letters, most := "ab", 4
	switch d.IntN(12) {
	case 0:
		letters, most = "az09.-", 26
	case 1:
		letters, most = "aA_ \x00\xff\xc3\xa9", 4
	}
	s := make([]byte, d.IntN(most+1))
	for i := range s {
		s[i] = letters[d.IntN(len(letters))]
	}
	return string(s)
}

func (d draw) rights() int {
	switch d.IntN(10) {
	case 0:
		return int(d.Uint64())
	case 1:
		return pick(d, 0, -1, -128, 127, 128, 129, 255, 1<<62, 1<<32, math.MinInt, math.MinInt+1, math.MaxInt)
	case 2:
		return 1 << d.IntN(64)
	default:
		return d.IntN(128)
	}
}

func (d draw) until() int {
	switch d.IntN(10) {
	case 0:
		return int(d.Uint64())
	case 1:
		return pick(d, -1, math.MinInt, math.MaxInt, 1<<40-1, 1<<40, 1<<40+1, 1<<32)
	default:
		return d.IntN(6)
	}
}

func (d draw) grant() api.Grant {
	return api.Grant{Rights: d.rights(), Prefix: d.text(), Exact: d.IntN(3) == 0, Until: d.until()}
}

// near is a grant that is mostly contained in another one.
func (d draw) near(a api.Grant) api.Grant {
	b := a
	b.Rights &= d.rights() | d.rights()
	if !a.Exact {
		b.Prefix += pick(d, "", d.text())
		b.Exact = d.IntN(2) == 0
	}
	if a.Until == 0 {
		b.Until = d.until()
	} else if a.Until > 0 {
		b.Until = 1 + d.IntN(a.Until)
	}
	switch d.IntN(12) { // seldom, one thing of it is not
	case 0:
		b.Rights = d.rights()
	case 1:
		b.Prefix = d.text()
	case 2:
		b.Exact = !b.Exact
	case 3:
		b.Until = d.until()
	}
	return b
}

func (d draw) rules() []api.Rule {
	l := make([]api.Rule, d.IntN(11))
	for i := range l {
		l[i] = api.Rule{Prefix: d.text(), Rights: d.rights()}
	}
	return l
}

func TestWords(t *testing.T) { // P13.1 to P13.6, for random arguments
	for seed := range 20 {
		d := newDraw(seed)
		for range 10000 {
			a := d.grant()
			wantWords(t, a, d.near(a), d.rules(), d.rights(), d.text())
			wantWords(t, a, d.grant(), d.rules(), 1<<d.IntN(7), a.Prefix+d.text())
		}
	}
}

func TestWordsCheck(t *testing.T) { // P13.2, P13.5: random arguments of which about a half have no error
	d := newDraw(100)
	counts := map[api.Errno]int{}
	for range 100000 {
		g := api.Grant{Rights: 1 + d.IntN(127), Prefix: "a" + d.text(), Exact: d.IntN(2) == 0, Until: d.IntN(1<<40 + 1)}
		l := make([]api.Rule, 1+d.IntN(8))
		for i := range l {
			l[i] = api.Rule{Prefix: pick(d, "", "a"+d.text()), Rights: d.IntN(128)}
		}
		switch d.IntN(6) {
		case 0:
			g.Rights, l[d.IntN(len(l))].Rights = d.rights(), d.rights()
		case 1:
			g.Prefix, l[d.IntN(len(l))].Prefix = d.text(), d.text()
		case 2:
			g.Until = d.until()
			l = append(l, l...)
		}
		wantErr(t, fmt.Sprintf("Check %+v", g), right.Check(g), wordCheck(g))
		wantErr(t, fmt.Sprintf("CheckRules %+v", l), right.CheckRules(l), wordCheckRules(l))
		counts[right.Check(g)]++
		counts[right.CheckRules(l)]++
	}
	if counts[api.OK] < 50000 || counts[api.ErrArg] < 3000 || counts[api.ErrName] < 3000 || counts[api.ErrMany] < 3000 {
		t.Errorf("%v: too few of a sort", counts)
	}
}
