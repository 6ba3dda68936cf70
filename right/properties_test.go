package right_test

import (
	"math"
	"slices"
	"testing"

	"sealery/api"
	"sealery/right"
)

// smallGrants are all grants of few rights, prefixes and times; also of such as Check refuses.
func smallGrants(rights []int, prefixes []string, untils []int) []api.Grant {
	var l []api.Grant
	for _, r := range rights {
		for _, p := range prefixes {
			for _, u := range untils {
				l = append(l, api.Grant{Rights: r, Prefix: p, Until: u}, api.Grant{Rights: r, Prefix: p, Exact: true, Until: u})
			}
		}
	}
	return l
}

// expired tells whether a grant's time is over: it has one, and it is less than the clock.
func expired(g api.Grant, clock int) bool { return g.Until != 0 && g.Until < clock }

// wantContainment holds P13.7 of two grants of which the second is contained in the first.
func wantContainment(t *testing.T, a, b api.Grant, rights []int, streams []string, clocks []int) {
	t.Helper()
	for _, stream := range streams {
		for _, asked := range rights {
			if right.Covers(b, asked, stream) && !right.Covers(a, asked, stream) {
				t.Fatalf("%+v covers %d of %q, %+v does not", b, asked, stream, a)
			}
		}
	}
	if right.Whole(b) && !right.Whole(a) {
		t.Fatalf("%+v is whole, %+v is not", b, a)
	}
	for _, clock := range clocks {
		if !expired(b, clock) && expired(a, clock) {
			t.Fatalf("at %d, %+v has expired, %+v has not", clock, a, b)
		}
	}
}

func TestNarrowOfAllPairs(t *testing.T) { // P13.4, P13.7: all small grants
	rights := []int{0, 1, 2, 3, 128, -1, math.MinInt}
	untils := []int{0, 1, 2, 3, -1, math.MinInt}
	l := smallGrants(rights, []string{"", "a", "ab", "b", "A"}, untils)
	streams := []string{"", "a", "ab", "abc", "aa", "b", "ba", "A", "c"}
	contained, refused := 0, 0
	for _, a := range l {
		for _, b := range l {
			want := wordNarrow(a, b)
			wantNarrow(t, a, b, want)
			if !want {
				continue
			}
			contained++
			if right.Check(a) != api.OK || right.Check(b) != api.OK {
				refused++
			}
			wantContainment(t, a, b, rights, streams, untils)
		}
	}
	if contained < 5000 || refused < 3000 || contained-refused < 500 {
		t.Errorf("%d contained, %d of them with a grant that Check refuses: too few", contained, refused)
	}
}

func TestOrder(t *testing.T) { // P13.8: all small grants
	l := smallGrants([]int{0, 1, 2, 3, -1}, []string{"", "a", "ab", "b", "A"}, []int{0, 1, 2, 3, -1})
	within := make([][]int, len(l))
	for i, a := range l {
		if right.Check(a) == api.OK {
			wantNarrow(t, a, a, true)
		}
		for j, b := range l {
			if right.Narrow(a, b) {
				within[i] = append(within[i], j)
			}
		}
	}
	for i := range l {
		for _, j := range within[i] {
			for _, k := range within[j] {
				if _, ok := slices.BinarySearch(within[i], k); !ok {
					t.Fatalf("%+v, %+v, %+v: the last is not in the first", l[i], l[j], l[k])
				}
			}
		}
	}
}

func TestRandomContainment(t *testing.T) { // P13.7, P13.8: random grants, each mostly contained in the one ahead of it
	pairs, chains := 0, 0
	for seed := range 20 {
		d := newDraw(1000 + seed)
		for range 5000 {
			a := d.grant()
			b := d.near(a)
			c := d.near(b)
			for _, g := range []api.Grant{a, b, c} {
				if right.Check(g) == api.OK {
					wantNarrow(t, g, g, true)
				}
			}
			if !right.Narrow(a, b) {
				continue
			}
			pairs++
			clocks := []int{0, 1, a.Until - 1, a.Until, a.Until + 1, b.Until - 1, b.Until, b.Until + 1, d.until()}
			wantContainment(t, a, b, []int{0, 1, 2, 4, b.Rights, d.rights()}, []string{"", a.Prefix, b.Prefix, b.Prefix + d.text(), d.text()}, clocks)
			if right.Narrow(b, c) {
				chains++
				wantNarrow(t, a, c, true)
			}
		}
	}
	if pairs < 30000 || chains < 15000 {
		t.Errorf("%d pairs, %d chains: too few", pairs, chains)
	}
}

// wantSame holds that two lists of rules leave the same rights of a stream.
func wantSame(t *testing.T, l, more []api.Rule, stream string, rights []int) {
	t.Helper()
	for _, asked := range rights {
		if right.Allowed(l, asked, stream) != right.Allowed(more, asked, stream) {
			t.Fatalf("%d of %q: %v by %+v, not by %+v", asked, stream, right.Allowed(l, asked, stream), l, more)
		}
	}
}

// wantNoEffect holds P13.9 of a rule at each place of a list where it must be without effect.
func wantNoEffect(t *testing.T, l []api.Rule, r api.Rule, stream string, rights []int) {
	t.Helper()
	same := false // a rule with the same prefix stands ahead
	for i := 0; i <= len(l); i++ {
		if same || !wordBegins(stream, r.Prefix) {
			wantSame(t, l, slices.Insert(slices.Clone(l), i, r), stream, rights)
		}
		if i < len(l) {
			same = same || l[i].Prefix == r.Prefix
		}
	}
}

func TestRulesWithoutEffect(t *testing.T) { // P13.9: all small lists of rules
	var all []api.Rule
	for _, p := range []string{"", "a", "ab", "b"} {
		for _, n := range []int{0, 1, 2} {
			all = append(all, api.Rule{Prefix: p, Rights: n})
		}
	}
	rights, streams := []int{0, 1, 2, 3}, []string{"", "a", "ab", "abc", "b", "c"}
	for _, stream := range streams {
		for _, r := range all {
			wantNoEffect(t, nil, r, stream, rights)
			for _, first := range all {
				wantNoEffect(t, []api.Rule{first}, r, stream, rights)
				for _, second := range all {
					wantNoEffect(t, []api.Rule{first, second}, r, stream, rights)
				}
			}
		}
	}
}

func TestRandomRulesWithoutEffect(t *testing.T) { // P13.9: random lists of rules
	for seed := range 10 {
		d := newDraw(2000 + seed)
		for range 4000 {
			l := d.rules()
			r := api.Rule{Prefix: d.text(), Rights: d.rights()}
			if len(l) > 0 && d.IntN(2) == 0 {
				r.Prefix = l[d.IntN(len(l))].Prefix
			}
			for _, stream := range []string{d.text(), r.Prefix + d.text(), d.text() + d.text()} {
				wantNoEffect(t, l, r, stream, []int{1, 2, 3, 127, d.rights(), r.Rights})
			}
		}
	}
}
