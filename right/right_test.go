package right_test

import (
	"fmt"
	"math"
	"strings"
	"testing"

	"sealery/api"
	"sealery/right"
)

func wantErr(t *testing.T, what string, got, want api.Errno) {
	t.Helper()
	if got != want {
		t.Fatalf("%s: %d, want %d", what, got, want)
	}
}

func wantName(t *testing.T, s string, want bool) {
	t.Helper()
	if right.Name(s) != want {
		t.Fatalf("Name %.99q: %v", s, !want)
	}
}

func wantCovers(t *testing.T, g api.Grant, rights int, stream string, want bool) {
	t.Helper()
	if right.Covers(g, rights, stream) != want {
		t.Fatalf("Covers %+v, %d, %.99q: %v", g, rights, stream, !want)
	}
}

func wantNarrow(t *testing.T, a, b api.Grant, want bool) {
	t.Helper()
	if right.Narrow(a, b) != want {
		t.Fatalf("Narrow %+v, %+v: %v", a, b, !want)
	}
}

func wantAllowed(t *testing.T, l []api.Rule, rights int, stream string, want bool) {
	t.Helper()
	if right.Allowed(l, rights, stream) != want {
		t.Fatalf("Allowed %+v, %d, %.99q: %v", l, rights, stream, !want)
	}
}

func TestExamples(t *testing.T) { // the chapter's examples
	wantName(t, "open.log-2", true)
	for _, s := range []string{"2a", "a_b", strings.Repeat("a", 25), ""} {
		wantName(t, s, false)
	}
	g := api.Grant{Rights: api.MayRead, Prefix: "open"}
	wantCovers(t, g, api.MayRead, "open.log", true)
	wantCovers(t, g, api.MayRead, "ope", false)
	wantCovers(t, g, api.MayRead|api.MayAppend, "open", false)
	g.Exact = true
	wantCovers(t, g, api.MayRead, "open", true)
	wantCovers(t, g, api.MayRead, "open.log", false)
	a := api.Grant{Rights: 3, Prefix: "open", Until: 9}
	wantNarrow(t, a, api.Grant{Rights: 1, Prefix: "open.log", Until: 5}, true)
	wantNarrow(t, a, api.Grant{Rights: 1, Prefix: "open.log", Until: 0}, false)
	wantNarrow(t, a, api.Grant{Rights: 4, Prefix: "open.log", Until: 5}, false)
	all, one := api.Grant{Rights: 3}, api.Grant{Rights: 3, Prefix: "a", Exact: true, Until: 7}
	wantNarrow(t, all, one, true)
	wantNarrow(t, one, all, false)
	rules := []api.Rule{{Prefix: "open", Rights: api.AllRights}, {Prefix: "open.log", Rights: api.MayRead}}
	wantAllowed(t, rules, api.MayAppend, "open", true)
	wantAllowed(t, rules, api.MayAppend, "open.log.x", false)
	wantAllowed(t, rules, api.MayAppend, "shut", true)
}

func TestNameLengths(t *testing.T) { // P13.1: 1 to 24 bytes
	wantName(t, "", false)
	for n := 1; n <= 600; n++ {
		for _, s := range []string{strings.Repeat("a", n), strings.Repeat("z", n), "m" + strings.Repeat("0", n-1), "m" + strings.Repeat("9", n-1), "m" + strings.Repeat("-", n-1), "m" + strings.Repeat(".", n-1)} {
			wantName(t, s, n <= 24)
		}
	}
	for _, n := range []int{1 << 10, 1<<16 + 1, 1<<16 + 24, 1 << 20} {
		wantName(t, strings.Repeat("a", n), false)
	}
}

// nameBytes are the bytes that a name may have behind its first one.
const nameBytes = "abcdefghijklmnopqrstuvwxyz0123456789-."

func TestNameBytes(t *testing.T) { // P13.1: each single byte, and each one behind a letter, at each place, in names of each length
	for c := range 256 {
		b := string([]byte{byte(c)})
		first, behind := strings.Contains(nameBytes[:26], b), strings.Contains(nameBytes, b)
		wantName(t, b, first)
		wantName(t, "a"+b, behind)
		wantName(t, b+b, first)
		for n := 2; n <= 24; n++ {
			wantName(t, b+strings.Repeat("a", n-1), first)
			for place := 1; place < n; place++ {
				wantName(t, strings.Repeat("a", place)+b+strings.Repeat("a", n-place-1), behind)
			}
		}
	}
}

func TestNamePairs(t *testing.T) { // P13.1: all strings of two bytes
	for c := range 256 {
		for d := range 256 {
			s := string([]byte{byte(c), byte(d)})
			wantName(t, s, strings.Contains(nameBytes[:26], s[:1]) && strings.Contains(nameBytes, s[1:]))
		}
	}
}

func TestNameNotAscii(t *testing.T) { // P13.1: bytes are counted and looked at, not runes
	for _, s := range []string{
		"\xff", "a\xff", "a\xc3", "a\xa9", "\xc3\xa9", "a\xe2\x82", "a\x80", "a\xc0\x80", "a\xed\xa0\x80", "\xffa", "a\xffa",
		"\u00e9", "a\u00e9", "\u00aa", "a\u00b2", "a\u0661", "\u212a", "a\u212a", "\u0131", "\uff41", "a\uff41", "a\uff0d", "a\u2010", "a\u2024", "a\u0301", "\u0430", "a\ufffd", "a\u0000", "\U0001d44e",
		"A", "Z", "aZ", "a b", " a", "a ", "a\n", "a\r", "\na", "a\t", "a/", "a:", "a,", "a`", "a{", "a@", "a[", "`", "{", "-", ".", "-a", ".a", "0", "9", "0a", "..", "--", "a+", "a\x7f",
		strings.Repeat("\u00e9", 12), "a" + strings.Repeat("\u00e9", 11), strings.Repeat("a", 23) + "\xff", strings.Repeat("a", 24) + "\x00", strings.Repeat("a", 24) + "\n",
	} {
		wantName(t, s, false)
	}
	for _, s := range []string{"a", "z", "a.", "a-", "z..", "a--", "a0", "z9", "a.b.c", "a-b-c", "x.-.-9", "abcdefghijklmnopqrstuvwx", "yz0123456789-.yz01234567"} {
		wantName(t, s, true)
	}
}

func TestCheckRights(t *testing.T) { // P13.2
	for n := -300; n <= 300; n++ {
		want := api.ErrArg
		if n >= 1 && n <= 127 {
			want = api.OK
		}
		wantErr(t, fmt.Sprint("rights ", n), right.Check(api.Grant{Rights: n}), want)
	}
	for _, n := range []int{math.MinInt, math.MinInt + 1, -1 << 32, 1<<8 + 1, 1<<16 + 1, 1<<32 + 1, 1<<62 + 1, math.MaxInt} {
		wantErr(t, fmt.Sprint("rights ", n), right.Check(api.Grant{Rights: n}), api.ErrArg)
	}
}

func TestCheckUntil(t *testing.T) { // P13.2
	for n, want := range map[int]api.Errno{
		0: api.OK, 1: api.OK, 2: api.OK, 1 << 31: api.OK, 1 << 32: api.OK, 1<<40 - 1: api.OK, 1 << 40: api.OK,
		-1: api.ErrArg, -2: api.ErrArg, -1 << 40: api.ErrArg, math.MinInt: api.ErrArg, math.MinInt + 1: api.ErrArg, 1<<40 + 1: api.ErrArg, 1 << 41: api.ErrArg, math.MaxInt: api.ErrArg,
	} {
		for _, g := range []api.Grant{{Rights: 1}, {Rights: 127, Prefix: "a"}, {Rights: 64, Prefix: "a", Exact: true}} {
			g.Until = n
			wantErr(t, fmt.Sprintf("%+v", g), right.Check(g), want)
		}
	}
}

func TestCheckPrefix(t *testing.T) { // P13.2: empty, a name, none; with Exact and without
	for s, want := range map[string]api.Errno{
		"": api.OK, "a": api.OK, "open.log-2": api.OK, strings.Repeat("a", 24): api.OK,
		"A": api.ErrName, "2a": api.ErrName, "a_b": api.ErrName, ".a": api.ErrName, "-": api.ErrName, " ": api.ErrName, "\x00": api.ErrName, "a\xff": api.ErrName, strings.Repeat("a", 25): api.ErrName, strings.Repeat("A", 5000): api.ErrName,
	} {
		wantErr(t, fmt.Sprintf("prefix %.99q", s), right.Check(api.Grant{Rights: 1, Prefix: s}), want)
		if s == "" {
			want = api.ErrArg
		}
		wantErr(t, fmt.Sprintf("exactly %.99q", s), right.Check(api.Grant{Rights: 1, Prefix: s, Exact: true}), want)
	}
}

func TestCheckFirst(t *testing.T) { // P13.2, R2: ErrArg comes ahead of ErrName
	for _, rights := range []int{math.MinInt, -1, 0, 1, 127, 128, math.MaxInt} {
		for _, until := range []int{math.MinInt, -1, 0, 1, 1 << 40, 1<<40 + 1, math.MaxInt} {
			for _, prefix := range []string{"", "a", "A", "2", strings.Repeat("a", 25)} {
				for _, exact := range []bool{false, true} {
					want := api.OK
					switch {
					case rights != 1 && rights != 127, until != 0 && until != 1 && until != 1<<40, exact && prefix == "":
						want = api.ErrArg
					case prefix != "" && prefix != "a":
						want = api.ErrName
					}
					g := api.Grant{Rights: rights, Prefix: prefix, Exact: exact, Until: until}
					wantErr(t, fmt.Sprintf("Check %+v", g), right.Check(g), want)
				}
			}
		}
	}
}

func TestCoversRights(t *testing.T) { // P13.3: each right, several at once, none; any numbers
	for own := range 256 {
		for asked := range 256 {
			want := true
			for bit := 1; bit < 256; bit *= 2 {
				want = want && (asked/bit%2 == 0 || own/bit%2 == 1)
			}
			for _, g := range []api.Grant{{Rights: own}, {Rights: own, Prefix: "a"}, {Rights: own, Prefix: "a", Exact: true}} {
				wantCovers(t, g, asked, "a", want)
				wantCovers(t, g, asked, "b", want && g.Prefix == "")
			}
		}
	}
	for _, x := range []struct {
		own, asked int
		want       bool
	}{
		{-1, 127, true}, {-1, -1, true}, {-1, math.MinInt, true}, {-1, math.MaxInt, true}, {-1, 0, true}, {0, 0, true}, {math.MinInt, 0, true}, {math.MinInt, math.MinInt, true}, {math.MaxInt, 127, true}, {-128, -128, true}, {-127, 1, true}, {1<<62 + 1, 1 << 62, true},
		{127, -1, false}, {math.MaxInt, -1, false}, {math.MaxInt, math.MinInt, false}, {math.MinInt, 1, false}, {math.MinInt, -1, false}, {-128, 1, false}, {-2, -1, false}, {127, 128, false}, {127, 255, false}, {127, 1 << 32, false}, {127, 1<<32 + 1, false}, {1, 1<<62 + 1, false}, {0, math.MinInt, false},
	} {
		wantCovers(t, api.Grant{Rights: x.own}, x.asked, "a", x.want)
		wantCovers(t, api.Grant{Rights: x.own, Prefix: "a", Exact: true}, x.asked, "a", x.want)
	}
}

func TestCoversStreams(t *testing.T) { // P13.3: streams that are the prefix, longer, shorter, unlike; such that are no names, and empty ones; whatever else the grant has
	long := strings.Repeat("x", 70000)
	for _, x := range []struct {
		prefix, stream string
		begins         bool
	}{
		{"open", "open", true}, {"open", "open.log", true}, {"open", "opened", true}, {"open", "ope", false}, {"open", "o", false}, {"open", "", false}, {"open", "shut", false}, {"open", "opex", false}, {"open", "xopen", false}, {"open", "Open", false}, {"open", "open\x00", true}, {"open", "op\x00en", false},
		{"", "", true}, {"", "a", true}, {"", "A \xff", true}, {"", long, true},
		{"A_", "A_", true}, {"A_", "A_b", true}, {"A_", "a_", false}, {"\xff", "\xff", true}, {"\xff", "\xff\xfe", true}, {"\xff", "\xfe", false}, {"\xff", "\ufffd", false}, {"\xc3", "\u00e9", true}, {"\u00e9", "e\u0301", false}, {"\x00", "\x00", true}, {"\x00", "", false},
		{long, long, true}, {long, long + "x", true}, {long, long[1:], false}, {long, long[1:] + "y", false},
	} {
		for _, until := range []int{0, 1, -1, math.MinInt, math.MaxInt, 1<<40 + 1} {
			g := api.Grant{Rights: 2, Prefix: x.prefix, Until: until}
			wantCovers(t, g, 2, x.stream, x.begins)
			wantCovers(t, g, 3, x.stream, false)
			g.Exact = true
			wantCovers(t, g, 2, x.stream, x.prefix == x.stream)
			wantCovers(t, g, 3, x.stream, false)
		}
	}
}

func TestWhole(t *testing.T) { // P13.3: neither rights nor a time matter
	for _, rights := range []int{0, 1, 127, 128, -1, math.MinInt, math.MaxInt} {
		for _, until := range []int{0, 1, 1 << 40, -1, math.MinInt, math.MaxInt} {
			for _, prefix := range []string{"", "a", "open", "A", "\x00", " ", "\xff"} {
				for _, exact := range []bool{false, true} {
					g := api.Grant{Rights: rights, Prefix: prefix, Exact: exact, Until: until}
					if got, want := right.Whole(g), prefix == "" && !exact; got != want {
						t.Errorf("Whole %+v: %v", g, got)
					}
				}
			}
		}
	}
}

func TestNarrow(t *testing.T) { // P13.4: each part by itself
	a := api.Grant{Rights: 3, Prefix: "open", Until: 9}
	exact := api.Grant{Rights: 3, Prefix: "open", Exact: true, Until: 9}
	forever := api.Grant{Rights: 3, Prefix: "open"}
	past := api.Grant{Rights: 3, Prefix: "open", Until: -5}
	for _, x := range []struct {
		a, b api.Grant
		want bool
	}{
		{a, a, true}, {exact, exact, true}, {forever, forever, true}, {a, exact, true}, {exact, a, false}, {forever, a, true}, {a, forever, false},
		{a, api.Grant{Rights: 1, Prefix: "open", Until: 9}, true}, {a, api.Grant{Rights: 2, Prefix: "open", Until: 9}, true}, {a, api.Grant{Rights: 0, Prefix: "open", Until: 9}, true}, {a, api.Grant{Rights: 4, Prefix: "open", Until: 9}, false}, {a, api.Grant{Rights: 7, Prefix: "open", Until: 9}, false}, {a, api.Grant{Rights: 5, Prefix: "open", Until: 9}, false}, {a, api.Grant{Rights: -1, Prefix: "open", Until: 9}, false}, {a, api.Grant{Rights: math.MinInt, Prefix: "open", Until: 9}, false},
		{a, api.Grant{Rights: 3, Prefix: "open.log", Until: 9}, true}, {a, api.Grant{Rights: 3, Prefix: "ope", Until: 9}, false}, {a, api.Grant{Rights: 3, Prefix: "", Until: 9}, false}, {a, api.Grant{Rights: 3, Prefix: "shut", Until: 9}, false}, {a, api.Grant{Rights: 3, Prefix: "xopen", Until: 9}, false}, {a, api.Grant{Rights: 3, Prefix: "open.log", Exact: true, Until: 9}, true}, {a, api.Grant{Rights: 3, Prefix: "ope", Exact: true, Until: 9}, false}, {a, api.Grant{Rights: 3, Exact: true, Until: 9}, false},
		{a, api.Grant{Rights: 3, Prefix: "open", Until: 1}, true}, {a, api.Grant{Rights: 3, Prefix: "open", Until: 8}, true}, {a, api.Grant{Rights: 3, Prefix: "open", Until: 10}, false}, {a, api.Grant{Rights: 3, Prefix: "open", Until: -1}, false}, {a, api.Grant{Rights: 3, Prefix: "open", Until: math.MinInt}, false}, {a, api.Grant{Rights: 3, Prefix: "open", Until: math.MaxInt}, false},
		{exact, api.Grant{Rights: 1, Prefix: "open", Exact: true, Until: 5}, true}, {exact, api.Grant{Rights: 3, Prefix: "open", Until: 9}, false}, {exact, api.Grant{Rights: 3, Prefix: "open.log", Exact: true, Until: 9}, false}, {exact, api.Grant{Rights: 3, Prefix: "ope", Exact: true, Until: 9}, false}, {exact, api.Grant{Rights: 4, Prefix: "open", Exact: true, Until: 9}, false}, {exact, api.Grant{Rights: 3, Prefix: "open", Exact: true, Until: 10}, false}, {exact, api.Grant{Rights: 3, Prefix: "open", Exact: true}, false},
		{forever, api.Grant{Rights: 3, Prefix: "open", Until: 1}, true}, {forever, api.Grant{Rights: 3, Prefix: "open", Until: 1 << 40}, true}, {forever, api.Grant{Rights: 3, Prefix: "open", Until: math.MaxInt}, true}, {forever, api.Grant{Rights: 3, Prefix: "open", Until: -1}, true}, {forever, api.Grant{Rights: 3, Prefix: "open", Until: math.MinInt}, true},
		{past, past, false}, {past, api.Grant{Rights: 3, Prefix: "open", Until: -6}, false}, {past, a, false}, {past, forever, false}, {past, api.Grant{Rights: 3, Prefix: "open", Until: 1}, false},
		{api.Grant{Until: 1}, api.Grant{Until: 1}, true}, {api.Grant{Until: 1}, api.Grant{Until: 2}, false}, {api.Grant{Until: math.MaxInt}, api.Grant{Until: math.MaxInt}, true}, {api.Grant{Until: math.MinInt}, api.Grant{Until: math.MinInt}, false},
		{api.Grant{}, api.Grant{}, true}, {api.Grant{Exact: true}, api.Grant{Exact: true}, true}, {api.Grant{Exact: true}, api.Grant{}, false}, {api.Grant{}, api.Grant{Exact: true}, true}, {api.Grant{Exact: true}, api.Grant{Prefix: "a", Exact: true}, false}, {api.Grant{Exact: true}, api.Grant{Prefix: "a"}, false},
		{api.Grant{Rights: -1}, api.Grant{Rights: math.MinInt}, true}, {api.Grant{Rights: math.MaxInt}, api.Grant{Rights: -1}, false}, {api.Grant{Rights: 128}, api.Grant{Rights: 128}, true}, {api.Grant{Rights: 127}, api.Grant{Rights: 128}, false},
		{api.Grant{Prefix: "A_"}, api.Grant{Prefix: "A_\xff"}, true}, {api.Grant{Prefix: "\xff"}, api.Grant{Prefix: "\xfe"}, false}, {api.Grant{Prefix: "\xff"}, api.Grant{Prefix: "\ufffd"}, false}, {api.Grant{Prefix: "\xff", Exact: true}, api.Grant{Prefix: "\xff", Exact: true}, true}, {api.Grant{Prefix: "\xff", Exact: true}, api.Grant{Prefix: "\xfe", Exact: true}, false},
	} {
		wantNarrow(t, x.a, x.b, x.want)
	}
}

func TestCheckRules(t *testing.T) { // P13.5
	good, noName, noRights, neither := api.Rule{Prefix: "open", Rights: 3}, api.Rule{Prefix: "A", Rights: 3}, api.Rule{Prefix: "open", Rights: 128}, api.Rule{Prefix: "A", Rights: 128}
	for _, x := range []struct {
		what string
		l    []api.Rule
		want api.Errno
	}{
		{"nil", nil, api.OK}, {"none", []api.Rule{}, api.OK}, {"one", []api.Rule{good}, api.OK}, {"a zero", []api.Rule{{}}, api.OK}, {"one prefix twice", []api.Rule{good, good, {Prefix: "open"}}, api.OK},
		{"no name", []api.Rule{noName}, api.ErrName}, {"no rights", []api.Rule{noRights}, api.ErrArg}, {"neither", []api.Rule{neither}, api.ErrName},
		{"name, rights", []api.Rule{noName, noRights}, api.ErrName}, {"rights, name", []api.Rule{noRights, noName}, api.ErrArg}, {"rights, neither", []api.Rule{noRights, neither}, api.ErrArg}, {"neither, rights", []api.Rule{neither, noRights}, api.ErrName},
		{"good, rights, good, name", []api.Rule{good, noRights, good, noName}, api.ErrArg}, {"good, name, good, rights", []api.Rule{good, noName, good, noRights}, api.ErrName},
		{"8", make([]api.Rule, 8), api.OK}, {"9", make([]api.Rule, 9), api.ErrMany}, {"10", make([]api.Rule, 10), api.ErrMany}, {"264", make([]api.Rule, 264), api.ErrMany}, {"65536", make([]api.Rule, 65536), api.ErrMany},
		{"9 good", []api.Rule{good, good, good, good, good, good, good, good, good}, api.ErrMany}, {"9, the first no name", []api.Rule{noName, good, good, good, good, good, good, good, good}, api.ErrMany}, {"9, the first without rights", []api.Rule{noRights, good, good, good, good, good, good, good, good}, api.ErrMany}, {"9, the last neither", []api.Rule{good, good, good, good, good, good, good, good, neither}, api.ErrMany}, {"9, all neither", []api.Rule{neither, neither, neither, neither, neither, neither, neither, neither, neither}, api.ErrMany},
	} {
		wantErr(t, x.what, right.CheckRules(x.l), x.want)
	}
}

func TestCheckRulesPlaces(t *testing.T) { // P13.5: up to 8 rules of which one or two have an error, at each place
	wrong := map[api.Rule]api.Errno{{Prefix: "A", Rights: 3}: api.ErrName, {Prefix: "a", Rights: -1}: api.ErrArg, {Prefix: "", Rights: 128}: api.ErrArg, {Prefix: "2", Rights: 128}: api.ErrName}
	for n := 1; n <= 8; n++ {
		for i := range n {
			for j := i; j < n; j++ {
				for first, want := range wrong {
					for second := range wrong {
						l := make([]api.Rule, n)
						l[j] = second
						l[i] = first
						wantErr(t, fmt.Sprintf("%+v", l), right.CheckRules(l), want)
					}
				}
			}
		}
	}
}

func TestCheckRulesOfOne(t *testing.T) { // P13.5: rights from 0 to 127; a prefix that is empty, or a name
	for n := -300; n <= 300; n++ {
		want := api.ErrArg
		if n >= 0 && n <= 127 {
			want = api.OK
		}
		for _, prefix := range []string{"", "a", strings.Repeat("a", 24)} {
			wantErr(t, fmt.Sprint("rights ", n), right.CheckRules([]api.Rule{{Prefix: prefix, Rights: n}}), want)
		}
		for _, prefix := range []string{"A", "2a", "a_b", "a\xff", "\x00", " ", ".", strings.Repeat("a", 25)} {
			wantErr(t, fmt.Sprintf("%q, rights %d", prefix, n), right.CheckRules([]api.Rule{{Prefix: prefix, Rights: n}}), api.ErrName)
		}
	}
	for _, n := range []int{math.MinInt, math.MinInt + 1, -1 << 32, 1 << 32, 1<<62 + 1, math.MaxInt} {
		wantErr(t, fmt.Sprint("rights ", n), right.CheckRules([]api.Rule{{Rights: n}}), api.ErrArg)
	}
}

func TestAllowedByNone(t *testing.T) { // P13.6: without a rule that the stream begins with, any right, and any number
	for _, rights := range []int{0, 1, 2, 127, 128, -1, math.MinInt, math.MaxInt} {
		for _, stream := range []string{"", "a", "open", "A \xff"} {
			wantAllowed(t, nil, rights, stream, true)
			wantAllowed(t, []api.Rule{}, rights, stream, true)
			wantAllowed(t, []api.Rule{{Prefix: "x"}, {Prefix: "open.", Rights: 1}, {Prefix: "aa"}, {Prefix: "A  ", Rights: -1}, {Prefix: "\x00"}}, rights, stream, true)
		}
	}
}

func TestAllowedRights(t *testing.T) { // P13.6: of the rule that determines, each right, several at once, none; any numbers
	for own := range 128 {
		for asked := range 256 {
			want := asked&^own == 0
			wantAllowed(t, []api.Rule{{Prefix: "a", Rights: own}}, asked, "a", want)
			wantAllowed(t, []api.Rule{{Rights: 127}, {Prefix: "ab", Rights: own}, {Prefix: "a", Rights: 127}}, asked, "abc", want)
		}
	}
	for _, x := range []struct {
		own, asked int
		want       bool
	}{
		{-1, -1, true}, {-1, 127, true}, {-1, math.MinInt, true}, {math.MinInt, math.MinInt, true}, {math.MinInt, 0, true}, {0, 0, true}, {128, 128, true}, {math.MaxInt, math.MaxInt, true},
		{127, -1, false}, {127, 128, false}, {math.MaxInt, -1, false}, {math.MaxInt, math.MinInt, false}, {math.MinInt, 1, false}, {0, 1, false}, {0, -1, false}, {-2, 1, false},
	} {
		wantAllowed(t, []api.Rule{{Rights: x.own}}, x.asked, "a", x.want)
		wantAllowed(t, []api.Rule{{Prefix: "a", Rights: x.own}}, x.asked, "a", x.want)
		wantAllowed(t, []api.Rule{{Prefix: "b"}, {Prefix: "a", Rights: x.own}, {}}, x.asked, "a", x.want)
	}
}

// orders calls f with the rules in each order.
func orders(l []api.Rule, f func([]api.Rule)) {
	var step func(n int)
	step = func(n int) {
		if n == len(l) {
			f(append([]api.Rule(nil), l...))
			return
		}
		for i := n; i < len(l); i++ {
			l[n], l[i] = l[i], l[n]
			step(n + 1)
			l[n], l[i] = l[i], l[n]
		}
	}
	step(0)
}

func TestAllowedLongest(t *testing.T) { // P13.6: rules of unlike lengths, in each order; the empty prefix too
	rules := []api.Rule{{Prefix: "", Rights: 1}, {Prefix: "a", Rights: 2}, {Prefix: "ab", Rights: 4}, {Prefix: "abc", Rights: 8}, {Prefix: "abcdx", Rights: 16}, {Prefix: "b", Rights: 32}}
	orders(rules, func(l []api.Rule) {
		for stream, own := range map[string]int{"": 1, "x": 1, "A": 1, "a": 2, "ax": 2, "ab": 4, "abx": 4, "abc": 8, "abcd": 8, "abcdy": 8, "abcdx": 16, "abcdx.log": 16, "b": 32, "ba": 32, "\xff": 1} {
			for right := 1; right <= 64; right *= 2 {
				wantAllowed(t, l, right, stream, right == own)
			}
			wantAllowed(t, l, 0, stream, true)
			wantAllowed(t, l, 3, stream, false)
		}
	})
}

func TestAllowedFirst(t *testing.T) { // P13.6: of several rules with one prefix, the first, wherever others stand
	for _, prefix := range []string{"", "a", "open.log"} {
		rules := []api.Rule{{Prefix: prefix, Rights: 1}, {Prefix: prefix, Rights: 2}, {Prefix: prefix, Rights: 0}, {Prefix: "x", Rights: 4}, {Prefix: prefix + "y", Rights: 8}}
		orders(rules, func(l []api.Rule) {
			first := 0
			for l[first].Prefix != prefix {
				first++
			}
			for _, right := range []int{0, 1, 2, 3, 4} {
				wantAllowed(t, l, right, prefix, right == 0 || right == l[first].Rights)
				wantAllowed(t, l, right, prefix+".z", right == 0 || right == l[first].Rights)
			}
		})
	}
}

func TestAllowedByMany(t *testing.T) { // P13.6: more rules than CheckRules accepts, and such as it refuses
	var l []api.Rule
	for n := range 300 {
		l = append(l, api.Rule{Prefix: strings.Repeat("A", n*7%300), Rights: n * 7 % 300})
	}
	for n := range 300 {
		wantAllowed(t, l, n, strings.Repeat("A", n), true)
		wantAllowed(t, l, -1, strings.Repeat("A", n), false)
		wantAllowed(t, l, 512, strings.Repeat("A", n)+"B", false)
		wantAllowed(t, l, 299, strings.Repeat("A", 400), true)
	}
}

func TestRulesStay(t *testing.T) { // R3: no call changes rules, nor what is behind their end, nor takes them in
	behind := api.Rule{Prefix: "behind", Rights: -7}
	for seed := range 300 {
		d := newDraw(seed)
		was := append(d.rules(), behind, behind)
		l := append([]api.Rule(nil), was...)
		given := l[: len(l)-2 : len(l)]
		for range 5 {
			stream, rights := d.text(), d.rights()
			allowed, err := right.Allowed(given, rights, stream), right.CheckRules(given)
			for i, r := range was {
				if l[i] != r {
					t.Fatalf("seed %d: rule %d: %+v, was %+v", seed, i, l[i], r)
				}
			}
			other := append([]api.Rule(nil), given...)
			clear(given)
			if right.Allowed(other, rights, stream) != allowed || right.CheckRules(other) != err {
				t.Fatalf("seed %d: %+v: another answer", seed, other)
			}
			copy(given, other)
		}
	}
}
