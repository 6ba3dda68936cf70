package keyring_test

import (
	"encoding/binary"
	"fmt"
	"math"
	"slices"
	"strings"
	"testing"

	"sealery/api"
	"sealery/keyring"
)

// who is a subject.
type who struct{ tenant, subject string }

// holds are what a ring must have.
type holds map[who]api.Hold

func wantErr(t *testing.T, what string, got, want api.Errno) {
	t.Helper()
	if got != want {
		t.Fatalf("%s: %d, want %d", what, got, want)
	}
}

// wantHold holds one answer of Hold.
func wantHold(t *testing.T, what string, r *keyring.Ring, w who, want api.Hold, there bool) {
	t.Helper()
	if h, ok := r.Hold(w.tenant, w.subject); h != want || ok != there {
		t.Fatalf("%s: Hold %q: %v, %v, want %v, %v", what, w, h, ok, want, there)
	}
}

// slotsOf is the slots of the holds that were shredded, or of those that were not.
func slotsOf(hs holds, shred bool) []int {
	var slots []int
	for slot := 1; slot <= 64; slot++ {
		for _, h := range hs {
			if h.Slot == slot && h.Shred == shred {
				slots = append(slots, slot)
				break
			}
		}
	}
	return slots
}

// wantRing holds all that a ring answers without being turned: it has these holds, and none of subjects that are named nearly so.
func wantRing(t *testing.T, what string, r *keyring.Ring, hs holds) {
	t.Helper()
	for w, h := range hs {
		wantHold(t, what, r, w, h, true)
		for _, x := range []who{{w.subject, w.tenant}, {w.tenant + w.subject, ""}, {"", w.tenant + w.subject}, {w.tenant, w.subject + " "}, {w.tenant + "x", w.subject}, {w.tenant, ""}, {"", w.subject}} {
			h, ok := hs[x]
			wantHold(t, what, r, x, h, ok)
		}
	}
	if live, want := r.Live(), slotsOf(hs, false); !slices.Equal(live, want) {
		t.Fatalf("%s: Live: %v, want %v", what, live, want)
	}
	if dead, want := r.Dead(), slotsOf(hs, true); !slices.Equal(dead, want) {
		t.Fatalf("%s: Dead: %v, want %v", what, dead, want)
	}
}

// ringOf is a ring with these holds.
func ringOf(t *testing.T, hs holds) *keyring.Ring {
	t.Helper()
	r := keyring.New()
	for w, h := range hs {
		wantErr(t, "Make", r.Make(w.tenant, w.subject, h.Slot), api.OK)
		if h.Uses > 0 {
			wantErr(t, "Use", r.Use(w.tenant, w.subject, h.Uses), api.OK)
		}
		if h.Shred {
			wantErr(t, "Shred", r.Shred(w.tenant, w.subject), api.OK)
		}
	}
	wantRing(t, "made", r, hs)
	return r
}

// below1 are numbers that are too small for a slot and for Use.
func below1() []int {
	return []int{0, -1, -2, -64, -200, -255, -256, -1 << 32, 1 - 1<<32, math.MinInt, math.MinInt + 1, math.MinInt + 64}
}

// noSlots are numbers that are no slot's.
func noSlots() []int {
	return append(below1(), 65, 66, 128, 256, 257, 1<<16+1, 1<<32, 1<<32+1, math.MaxInt-1, math.MaxInt)
}

// tooMany are numbers that exceed 200, also if others are added and the sum wraps round.
func tooMany() []int {
	return []int{201, 202, 255, 256, 257, 1 << 16, 1<<16 + 1, 1 << 32, 1<<32 + 1, math.MaxInt32, math.MaxInt - 200, math.MaxInt - 199, math.MaxInt - 1, math.MaxInt}
}

func TestExamples(t *testing.T) { // the chapter's examples
	r := keyring.New()
	wantErr(t, "Make ann, s, 3", r.Make("ann", "s", 3), api.OK)
	wantErr(t, "Make ann, s, 4", r.Make("ann", "s", 4), api.ErrTwice)
	wantErr(t, "Make bob, s, 3", r.Make("bob", "s", 3), api.OK)
	wantErr(t, "Make ann, t, 0", r.Make("ann", "t", 0), api.ErrArg)
	wantErr(t, "Make ann, t, 65", r.Make("ann", "t", 65), api.ErrArg)
	wantErr(t, "Use ann, s, 200", r.Use("ann", "s", 200), api.OK)
	wantErr(t, "Use ann, s, 1", r.Use("ann", "s", 1), api.ErrUsed)
	wantErr(t, "Use bob, s, 201", r.Use("bob", "s", 201), api.ErrUsed)
	wantErr(t, "Use bob, u, 1", r.Use("bob", "u", 1), api.ErrNone)
	wantErr(t, "Use bob, s, 0", r.Use("bob", "s", 0), api.ErrArg)
	wantErr(t, "Shred ann, s", r.Shred("ann", "s"), api.OK)
	wantErr(t, "Shred ann, s again", r.Shred("ann", "s"), api.ErrShred)
	wantHold(t, "Hold ann, s", r, who{"ann", "s"}, api.Hold{Slot: 3, Uses: 200, Shred: true}, true)
	wantErr(t, "Use ann, s, 1", r.Use("ann", "s", 1), api.ErrShred)
	wantErr(t, "Make ann, s, 5", r.Make("ann", "s", 5), api.ErrTwice)
	wantRing(t, "Live, Dead", r, holds{{"ann", "s"}: {Slot: 3, Uses: 200, Shred: true}, {"bob", "s"}: {Slot: 3}})
	if got, want := keyring.Nonce(258), (api.Nonce{0, 0, 0, 0, 0, 0, 0, 0, 0, 0, 1, 2}); got != want {
		t.Errorf("Nonce of 258: %x, want %x", got, want)
	}
}

func TestNew(t *testing.T) { // P12.1: no subject
	r := keyring.New()
	wantRing(t, "new", r, nil)
	for _, w := range []who{{}, {"ann", "s"}, {"ann", ""}, {"", "s"}} {
		wantHold(t, "new", r, w, api.Hold{}, false)
		wantErr(t, "new: Use", r.Use(w.tenant, w.subject, 1), api.ErrNone)
		wantErr(t, "new: Shred", r.Shred(w.tenant, w.subject), api.ErrNone)
		wantHold(t, "new", r, w, api.Hold{}, false)
	}
	wantRing(t, "new, behind the errors", r, nil)
}

func TestMake(t *testing.T) { // P12.1: each slot
	all := holds{}
	one := keyring.New()
	for slot := 1; slot <= 64; slot++ {
		w := who{"ann", fmt.Sprint("s", slot)}
		r := keyring.New()
		for _, r := range []*keyring.Ring{r, one} {
			wantErr(t, "Make", r.Make(w.tenant, w.subject, slot), api.OK)
		}
		all[w] = api.Hold{Slot: slot}
		wantRing(t, fmt.Sprint("slot ", slot), r, holds{w: {Slot: slot}})
		wantRing(t, fmt.Sprint("slots up to ", slot), one, all)
	}
}

func TestMakeNoSlot(t *testing.T) { // P12.1, R2: ErrArg comes first, and nothing has changed
	hs := holds{{"ann", "s"}: {Slot: 3, Uses: 5}, {"ann", "t"}: {Slot: 4, Uses: 6, Shred: true}}
	r := ringOf(t, hs)
	for _, slot := range noSlots() {
		for _, w := range []who{{"ann", "s"}, {"ann", "t"}, {"ann", "u"}, {"bob", "s"}, {}} {
			what := fmt.Sprintf("Make %q, %d", w, slot)
			wantErr(t, what, r.Make(w.tenant, w.subject, slot), api.ErrArg)
			h, ok := hs[w]
			wantHold(t, what, r, w, h, ok)
		}
		wantRing(t, fmt.Sprint("no slot ", slot), r, hs)
	}
	wantErr(t, "Make", r.Make("bob", "s", 64), api.OK)
	hs[who{"bob", "s"}] = api.Hold{Slot: 64}
	wantRing(t, "Make", r, hs)
}

func TestMakeTwice(t *testing.T) { // P12.1, P12.8: of a subject with a hold, and of one that was shredded, with each slot
	hs := holds{{"ann", "s"}: {Slot: 3}, {"ann", "t"}: {Slot: 4, Uses: 6}, {"ann", "u"}: {Slot: 5, Shred: true}, {"ann", "v"}: {Slot: 6, Uses: 200, Shred: true}}
	r := ringOf(t, hs)
	for w := range hs {
		for slot := 1; slot <= 64; slot++ {
			wantErr(t, fmt.Sprintf("Make %q, %d", w, slot), r.Make(w.tenant, w.subject, slot), api.ErrTwice)
		}
		wantRing(t, "ErrTwice", r, hs)
	}
}

// alike are subjects whose strings are alike: joined, swapped, cut, with bytes between them, without meaning as UTF-8; no two are one.
func alike() []who {
	long := strings.Repeat("x", 5000)
	return []who{
		{"", ""}, {"a", ""}, {"", "a"}, {"ab", ""}, {"a", "b"}, {"", "ab"}, {"b", "a"}, {"aa", "a"}, {"a", "aa"}, {"a", "a"},
		{"a", "bc"}, {"ab", "c"}, {"abc", ""}, {"", "abc"}, {"a/b", "c"}, {"a", "b/c"}, {"a\x00b", "c"}, {"a", "b\x00c"}, {"a\x00", "b"}, {"a", "\x00b"}, {"\x00", ""}, {"", "\x00"}, {"\x00", "\x00"}, {"a,b", "c"}, {"a", "b,c"}, {"a b", "c"}, {"a", "b c"}, {"a:b", "c"}, {"a", "b:c"}, {`a"`, `"b`}, {`a" "`, "b"}, {"a.b", "c"}, {"a", "b.c"}, {"a-b", "c"}, {"a", "b-c"},
		{"1", "23"}, {"12", "3"}, {"A", "b"}, {"a", "B"}, {"a ", "b"}, {"a", "b "}, {" a", "b"},
		{"\xff", ""}, {"\xfe", ""}, {"\ufffd", ""}, {"", "\xff"}, {"", "\xfe"}, {"\u00e9", ""}, {"e\u0301", ""},
		{long, ""}, {"", long}, {long + "x", ""}, {long, "x"}, {long[1:], "x"}, {long[:30], "y"}, {long[:30] + "y", ""},
	}
}

func TestNames(t *testing.T) { // the definition of a subject: both strings, each for itself; whatever they are
	all := alike()
	r := keyring.New()
	hs := holds{}
	for i, w := range all {
		wantHold(t, "before Make", r, w, api.Hold{}, false)
		wantErr(t, fmt.Sprintf("Make %.99q", w), r.Make(w.tenant, w.subject, i+1), api.OK)
		hs[w] = api.Hold{Slot: i + 1}
	}
	if len(hs) != len(all) || len(all) > 64 {
		t.Fatalf("%d subjects of %d", len(hs), len(all))
	}
	wantRing(t, "Make", r, hs)
	for i, w := range all {
		wantErr(t, "Make again", r.Make(w.tenant, w.subject, 64), api.ErrTwice)
		wantErr(t, "Use", r.Use(w.tenant, w.subject, i+1), api.OK)
		hs[w] = api.Hold{Slot: i + 1, Uses: i + 1}
		wantRing(t, fmt.Sprintf("Use %.99q", w), r, hs)
	}
	for i, w := range all {
		wantErr(t, "Shred", r.Shred(w.tenant, w.subject), api.OK)
		hs[w] = api.Hold{Slot: i + 1, Uses: i + 1, Shred: true}
		wantRing(t, fmt.Sprintf("Shred %.99q", w), r, hs)
	}
}

func TestOneSlot(t *testing.T) { // P12.1, P12.5: two subjects share a slot, not a hold
	for _, two := range [][2]who{{{"ann", "s"}, {"bob", "s"}}, {{"ann", "s"}, {"ann", "t"}}} {
		a, b := two[0], two[1]
		r := ringOf(t, holds{a: {Slot: 7}, b: {Slot: 7}})
		wantErr(t, "Use", r.Use(a.tenant, a.subject, 200), api.OK)
		wantErr(t, "Use", r.Use(b.tenant, b.subject, 3), api.OK)
		wantRing(t, "Use", r, holds{a: {Slot: 7, Uses: 200}, b: {Slot: 7, Uses: 3}})
		wantErr(t, "Shred", r.Shred(a.tenant, a.subject), api.OK)
		wantRing(t, "the one is shredded", r, holds{a: {Slot: 7, Uses: 200, Shred: true}, b: {Slot: 7, Uses: 3}})
		wantErr(t, "Use", r.Use(b.tenant, b.subject, 4), api.OK)
		wantErr(t, "Shred", r.Shred(b.tenant, b.subject), api.OK)
		wantRing(t, "both are shredded", r, holds{a: {Slot: 7, Uses: 200, Shred: true}, b: {Slot: 7, Uses: 7, Shred: true}})
	}
}

func TestUse(t *testing.T) { // P12.3: each number behind each number of those that are used
	for uses := range 201 {
		for n := 1; n <= 202; n++ {
			hs := holds{{"ann", "s"}: {Slot: 1, Uses: uses}}
			r := ringOf(t, hs)
			what := fmt.Sprintf("Use %d behind %d", n, uses)
			if uses+n > 200 {
				wantErr(t, what, r.Use("ann", "s", n), api.ErrUsed)
				wantRing(t, what, r, hs)
			} else {
				wantErr(t, what, r.Use("ann", "s", n), api.OK)
				wantRing(t, what, r, holds{{"ann", "s"}: {Slot: 1, Uses: uses + n}})
			}
		}
	}
}

func TestUseOneByOne(t *testing.T) { // P12.3, P12.7: 200 calls, and the one behind; what is refused takes nothing
	r := ringOf(t, holds{{"ann", "s"}: {Slot: 64}})
	for i := range 200 {
		for _, n := range below1() {
			wantErr(t, fmt.Sprint("Use ", n), r.Use("ann", "s", n), api.ErrArg)
		}
		for _, n := range append(tooMany(), 201-i) {
			wantErr(t, fmt.Sprintf("Use %d behind %d", n, i), r.Use("ann", "s", n), api.ErrUsed)
		}
		wantRing(t, "what is refused", r, holds{{"ann", "s"}: {Slot: 64, Uses: i}})
		wantErr(t, fmt.Sprintf("Use 1 behind %d", i), r.Use("ann", "s", 1), api.OK)
		wantRing(t, "what is taken", r, holds{{"ann", "s"}: {Slot: 64, Uses: i + 1}})
	}
	for _, n := range append(tooMany(), 1, 2, 199, 200) {
		wantErr(t, fmt.Sprintf("Use %d behind 200", n), r.Use("ann", "s", n), api.ErrUsed)
		wantRing(t, "all are taken", r, holds{{"ann", "s"}: {Slot: 64, Uses: 200}})
	}
}

func TestErrorsOfUse(t *testing.T) { // P12.3, R2: the order, where several apply, and nothing has changed
	hs := holds{{"ann", "free"}: {Slot: 1, Uses: 3}, {"ann", "full"}: {Slot: 2, Uses: 200}, {"ann", "gone"}: {Slot: 3, Uses: 5, Shred: true}, {"ann", "both"}: {Slot: 4, Uses: 200, Shred: true}}
	r := ringOf(t, hs)
	for _, subject := range []string{"free", "full", "gone", "both", "none", ""} {
		for _, n := range below1() {
			wantErr(t, fmt.Sprintf("Use ann, %s, %d", subject, n), r.Use("ann", subject, n), api.ErrArg)
		}
		want := api.ErrNone
		switch subject {
		case "free", "full":
			want = api.ErrUsed
		case "gone", "both":
			want = api.ErrShred
		}
		for _, n := range tooMany() {
			wantErr(t, fmt.Sprintf("Use ann, %s, %d", subject, n), r.Use("ann", subject, n), want)
		}
		if subject != "free" {
			for _, n := range []int{1, 2, 195, 196, 200} {
				wantErr(t, fmt.Sprintf("Use ann, %s, %d", subject, n), r.Use("ann", subject, n), want)
			}
		}
		wantErr(t, "Use bob", r.Use("bob", subject, 1), api.ErrNone)
		wantRing(t, "Use "+subject, r, hs)
		wantHold(t, "Use "+subject, r, who{"bob", subject}, api.Hold{}, false)
	}
}

func TestShred(t *testing.T) { // P12.4, P12.8: once and again; Slot and Uses stay, for good
	for _, uses := range []int{0, 1, 7, 199, 200} {
		r := ringOf(t, holds{{"ann", "s"}: {Slot: 9, Uses: uses}})
		wantErr(t, "Shred of none", r.Shred("ann", "t"), api.ErrNone)
		wantErr(t, "Shred of none", r.Shred("bob", "s"), api.ErrNone)
		wantRing(t, "Shred of none", r, holds{{"ann", "s"}: {Slot: 9, Uses: uses}})
		wantErr(t, "Shred", r.Shred("ann", "s"), api.OK)
		hs := holds{{"ann", "s"}: {Slot: 9, Uses: uses, Shred: true}}
		wantRing(t, "Shred", r, hs)
		for range 3 {
			wantErr(t, "Shred again", r.Shred("ann", "s"), api.ErrShred)
			wantErr(t, "Use", r.Use("ann", "s", 1), api.ErrShred)
			wantErr(t, "Use", r.Use("ann", "s", 201), api.ErrShred)
			wantErr(t, "Use", r.Use("ann", "s", 0), api.ErrArg)
			wantErr(t, "Make", r.Make("ann", "s", 9), api.ErrTwice)
			wantErr(t, "Make", r.Make("ann", "s", 10), api.ErrTwice)
			wantErr(t, "Make", r.Make("ann", "s", 0), api.ErrArg)
			wantRing(t, "Shred again", r, hs)
		}
		wantErr(t, "another one with that slot", r.Make("ann", "t", 9), api.OK)
		hs[who{"ann", "t"}] = api.Hold{Slot: 9}
		wantRing(t, "another one with that slot", r, hs)
	}
}

func TestOthersStay(t *testing.T) { // no call turns another subject's hold, nor another tenant's
	hs := holds{{"ann", "s"}: {Slot: 1, Uses: 1}, {"ann", "t"}: {Slot: 2, Uses: 2}, {"bob", "s"}: {Slot: 1, Uses: 3}, {"bob", "t"}: {Slot: 3, Uses: 4}, {"bob", "u"}: {Slot: 4, Shred: true}, {"s", "ann"}: {Slot: 2, Uses: 5}}
	calls := []struct {
		name string
		do   func(r *keyring.Ring, w who) api.Errno
		then func(h api.Hold) api.Hold
	}{
		{"Use", func(r *keyring.Ring, w who) api.Errno { return r.Use(w.tenant, w.subject, 9) }, func(h api.Hold) api.Hold { h.Uses += 9; return h }},
		{"Shred", func(r *keyring.Ring, w who) api.Errno { return r.Shred(w.tenant, w.subject) }, func(h api.Hold) api.Hold { h.Shred = true; return h }},
		{"Use of too many", func(r *keyring.Ring, w who) api.Errno { r.Use(w.tenant, w.subject, 201); return api.OK }, func(h api.Hold) api.Hold { return h }},
		{"Make", func(r *keyring.Ring, w who) api.Errno { r.Make(w.tenant, w.subject, 64); return api.OK }, func(h api.Hold) api.Hold { return h }},
		{"Hold", func(r *keyring.Ring, w who) api.Errno { r.Hold(w.tenant, w.subject); return api.OK }, func(h api.Hold) api.Hold { return h }},
	}
	for _, c := range calls {
		for w, h := range hs {
			if h.Shred {
				continue
			}
			r := ringOf(t, hs)
			wantErr(t, c.name, c.do(r, w), api.OK)
			want := holds{}
			for x, h := range hs {
				want[x] = h
			}
			want[w] = c.then(h)
			wantRing(t, fmt.Sprintf("%s of %q", c.name, w), r, want)
		}
	}
	r := ringOf(t, hs)
	wantErr(t, "Make of another", r.Make("ann", "u", 4), api.OK)
	hs[who{"ann", "u"}] = api.Hold{Slot: 4}
	wantRing(t, "Make of another", r, hs)
}

func TestLiveDead(t *testing.T) { // P12.5: ascending, each slot once
	for _, x := range []struct {
		name       string
		hs         []api.Hold
		live, dead []int
	}{
		{"no hold", nil, nil, nil},
		{"one hold", []api.Hold{{Slot: 64}}, []int{64}, nil},
		{"one hold, shredded", []api.Hold{{Slot: 64, Shred: true}}, nil, []int{64}},
		{"the first and the last slot", []api.Hold{{Slot: 64}, {Slot: 1}, {Slot: 64, Shred: true}, {Slot: 1, Shred: true}}, []int{1, 64}, []int{1, 64}},
		{"descending", []api.Hold{{Slot: 60}, {Slot: 10}, {Slot: 9, Shred: true}, {Slot: 2}, {Slot: 1, Shred: true}}, []int{2, 10, 60}, []int{1, 9}},
		{"one slot, three holds", []api.Hold{{Slot: 5}, {Slot: 5, Uses: 200}, {Slot: 5, Uses: 1}}, []int{5}, nil},
		{"one slot, three holds, shredded", []api.Hold{{Slot: 5, Shred: true}, {Slot: 5, Uses: 200, Shred: true}, {Slot: 5, Uses: 1, Shred: true}}, nil, []int{5}},
		{"one slot, two holds, one shredded", []api.Hold{{Slot: 5, Shred: true}, {Slot: 5}}, []int{5}, []int{5}},
		{"one slot, two holds, the other shredded", []api.Hold{{Slot: 5}, {Slot: 5, Shred: true}}, []int{5}, []int{5}},
		{"slots that are shared in part", []api.Hold{{Slot: 7}, {Slot: 3}, {Slot: 7, Shred: true}, {Slot: 3}, {Slot: 4, Shred: true}, {Slot: 8}, {Slot: 4, Shred: true}}, []int{3, 7, 8}, []int{4, 7}},
	} {
		hs := holds{}
		for i, h := range x.hs {
			hs[who{fmt.Sprint("t", i%2), fmt.Sprint("s", i)}] = h
		}
		for range 20 { // however a map is gone through
			r := ringOf(t, hs)
			if live, dead := r.Live(), r.Dead(); !slices.Equal(live, x.live) || !slices.Equal(dead, x.dead) {
				t.Fatalf("%s: %v, %v, want %v, %v", x.name, live, dead, x.live, x.dead)
			}
		}
	}
}

func TestLiveDeadOfAll(t *testing.T) { // P12.5: 64 slots, one after the other shredded
	hs := holds{}
	for slot := 1; slot <= 64; slot++ {
		hs[who{"ann", fmt.Sprint("s", slot)}] = api.Hold{Slot: slot}
	}
	r := ringOf(t, hs)
	for i := range 64 {
		w := who{"ann", fmt.Sprint("s", i*37%64+1)}
		h := hs[w]
		h.Shred = true
		hs[w] = h
		wantErr(t, "Shred", r.Shred(w.tenant, w.subject), api.OK)
		wantRing(t, "Shred", r, hs)
		wantRing(t, "asked again", r, hs)
	}
}

// spoil changes all that a list has, behind its end too.
func spoil(l []int) {
	l = l[:cap(l)]
	for i := range l {
		l[i] = -7
	}
}

func TestAnswersAreNew(t *testing.T) { // P12.5, R3: what Live and Dead return is shared with nothing
	hs := holds{{"ann", "s"}: {Slot: 2}, {"ann", "t"}: {Slot: 3}, {"ann", "u"}: {Slot: 5, Shred: true}, {"ann", "v"}: {Slot: 6, Shred: true}, {"bob", "s"}: {Slot: 2, Shred: true}}
	r := ringOf(t, hs)
	live, dead := r.Live(), r.Dead()
	liveToo, deadToo := r.Live(), r.Dead()
	spoil(liveToo)
	spoil(deadToo)
	if !slices.Equal(live, []int{2, 3}) || !slices.Equal(dead, []int{2, 5, 6}) {
		t.Fatalf("%v, %v: two answers share memory", live, dead)
	}
	wantErr(t, "Shred", r.Shred("ann", "t"), api.OK)
	wantErr(t, "Make", r.Make("bob", "t", 1), api.OK)
	if !slices.Equal(live, []int{2, 3}) || !slices.Equal(dead, []int{2, 5, 6}) {
		t.Fatalf("%v, %v: an answer changes with the ring", live, dead)
	}
	spoil(live)
	spoil(dead)
	hs[who{"ann", "t"}] = api.Hold{Slot: 3, Shred: true}
	hs[who{"bob", "t"}] = api.Hold{Slot: 1}
	wantRing(t, "spoilt answers", r, hs)
	h, _ := r.Hold("ann", "s")
	h.Uses, h.Slot, h.Shred = 100, 50, true
	wantRing(t, "a changed hold", r, hs)
}

func TestTwoRings(t *testing.T) { // each has its own holds
	r, q := keyring.New(), keyring.New()
	wantErr(t, "Make", r.Make("ann", "s", 1), api.OK)
	wantRing(t, "the other one", q, nil)
	wantErr(t, "the other one's Use", q.Use("ann", "s", 1), api.ErrNone)
	wantErr(t, "the other one's Shred", q.Shred("ann", "s"), api.ErrNone)
	wantErr(t, "the other one's Make", q.Make("ann", "s", 2), api.OK)
	wantErr(t, "Use", r.Use("ann", "s", 200), api.OK)
	wantErr(t, "Shred", r.Shred("ann", "s"), api.OK)
	wantErr(t, "the other one's Use", q.Use("ann", "s", 3), api.OK)
	wantErr(t, "the other one's Make", q.Make("ann", "t", 4), api.OK)
	wantRing(t, "the one", r, holds{{"ann", "s"}: {Slot: 1, Uses: 200, Shred: true}})
	wantRing(t, "the other one", q, holds{{"ann", "s"}: {Slot: 2, Uses: 3}, {"ann", "t"}: {Slot: 4}})
	wantRing(t, "a third one", keyring.New(), nil)
}

func TestNonce(t *testing.T) { // P12.6
	for n, want := range map[int]api.Nonce{
		0:                  {},
		1:                  {11: 1},
		200:                {11: 200},
		255:                {11: 255},
		256:                {10: 1},
		258:                {10: 1, 11: 2},
		0x0102030405060708: {0, 0, 0, 0, 1, 2, 3, 4, 5, 6, 7, 8},
		0x7FEDCBA987654321: {0, 0, 0, 0, 0x7F, 0xED, 0xCB, 0xA9, 0x87, 0x65, 0x43, 0x21},
		-1:                 {0, 0, 0, 0, 255, 255, 255, 255, 255, 255, 255, 255},
		-2:                 {0, 0, 0, 0, 255, 255, 255, 255, 255, 255, 255, 254},
		-256:               {0, 0, 0, 0, 255, 255, 255, 255, 255, 255, 255, 0},
		-258:               {0, 0, 0, 0, 255, 255, 255, 255, 255, 255, 254, 254},
		math.MaxInt:        {0, 0, 0, 0, 0x7F, 255, 255, 255, 255, 255, 255, 255},
		math.MinInt:        {4: 0x80},
		math.MinInt + 1:    {4: 0x80, 11: 1},
	} {
		if got := keyring.Nonce(n); got != want {
			t.Errorf("Nonce of %d: %x, want %x", n, got, want)
		}
	}
}

func TestNonces(t *testing.T) { // P12.6: four bytes 0, then the number; unlike numbers have unlike nonces
	numbers := map[int]bool{}
	for n := -300; n <= 70000; n++ {
		numbers[n] = true
	}
	for bit := range 64 {
		for d := -2; d <= 2; d++ {
			numbers[1<<bit+d], numbers[-1<<bit+d] = true, true
		}
		for other := range bit {
			numbers[1<<bit|1<<other] = true
		}
	}
	of := map[api.Nonce]int{}
	for n := range numbers {
		nonce := keyring.Nonce(n)
		if m, ok := of[nonce]; ok {
			t.Fatalf("Nonce of %d and of %d: %x", n, m, nonce)
		}
		of[nonce] = n
		if want := binary.BigEndian.AppendUint64(make([]byte, 4), uint64(n)); string(nonce[:]) != string(want) {
			t.Fatalf("Nonce of %d: %x, want %x", n, nonce, want)
		}
	}
}
