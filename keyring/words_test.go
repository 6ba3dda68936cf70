package keyring_test

import (
	"fmt"
	"math"
	"math/rand/v2"
	"testing"

	"sealery/api"
	"sealery/keyring"
)

// row is a subject with a hold; taken are the numbers of its key that were used.
type row struct {
	who
	slot     int
	taken    []int
	shredded bool
}

// words is a ring as the chapter's words have it, written a second time, without a map.
type words struct{ rows []*row }

func (x *words) find(w who) *row {
	for _, r := range x.rows {
		if r.tenant == w.tenant && r.subject == w.subject {
			return r
		}
	}
	return nil
}

func (x *words) Make(w who, slot int) api.Errno {
	if slot < 1 || slot > 64 {
		return api.ErrArg
	}
	if x.find(w) != nil {
		return api.ErrTwice
	}
	x.rows = append(x.rows, &row{who: w, slot: slot})
	return api.OK
}

func (x *words) Use(w who, n int) api.Errno {
	if n < 1 {
		return api.ErrArg
	}
	r := x.find(w)
	if r == nil {
		return api.ErrNone
	}
	if r.shredded {
		return api.ErrShred
	}
	if float64(len(r.taken))+float64(n) > 200 {
		return api.ErrUsed
	}
	for range n {
		r.taken = append(r.taken, len(r.taken)+1)
	}
	return api.OK
}

func (x *words) Shred(w who) api.Errno {
	r := x.find(w)
	if r == nil {
		return api.ErrNone
	}
	if r.shredded {
		return api.ErrShred
	}
	r.shredded = true
	return api.OK
}

func (x *words) holds() holds {
	hs := holds{}
	for _, r := range x.rows {
		hs[r.who] = api.Hold{Slot: r.slot, Uses: len(r.taken), Shred: r.shredded}
	}
	return hs
}

// game is random calls to a ring and to the chapter's words.
type game struct {
	r     *rand.Rand
	ring  *keyring.Ring
	words *words
	names []string
	taken map[who]map[int]bool // the numbers that the ring's answers gave
	gone  holds                // what was shredded, as it was then
}

func newGame(seed int) *game {
	return &game{
		r:     rand.New(rand.NewPCG(uint64(seed), 12)),
		ring:  keyring.New(),
		words: &words{},
		names: []string{"", "a", "b", "ab", "aa", "ann", "bob", "a\x00", "s"},
		taken: map[who]map[int]bool{},
		gone:  holds{},
	}
}

func (g *game) name() string { return g.names[g.r.IntN(len(g.names))] }

// number is from 1 to most or beside it, or any at all.
func (g *game) number(most int) int {
	switch g.r.IntN(12) {
	case 0:
		return []int{0, -1, most, most + 1, math.MaxInt, math.MaxInt - g.r.IntN(300), math.MinInt, math.MinInt + g.r.IntN(300)}[g.r.IntN(8)]
	case 1:
		return int(g.r.Uint64())
	case 2:
		return g.r.IntN(3*most) - most
	default:
		return 1 + g.r.IntN(most)
	}
}

// take notes the numbers that a Use took, by the holds ahead of it and behind it: P12.7.
func (g *game) take(t *testing.T, what string, w who, from, n int) {
	t.Helper()
	if g.taken[w] == nil {
		g.taken[w] = map[int]bool{}
	}
	for number := from + 1; number <= from+n; number++ {
		if g.taken[w][number] || number < 1 || number > 200 {
			t.Fatalf("%s: takes %d", what, number)
		}
		g.taken[w][number] = true
	}
	if h, _ := g.ring.Hold(w.tenant, w.subject); h.Uses != from+n {
		t.Fatalf("%s: %d used behind %d", what, h.Uses, from)
	}
}

// turn does one call to both, and holds their answers against each other.
func (g *game) turn(t *testing.T, seed, i int) {
	t.Helper()
	w := who{g.name(), g.name()}
	at := func(call string, n int) string {
		return fmt.Sprintf("seed %d, turn %d: %s %q, %d", seed, i, call, w, n)
	}
	before, _ := g.ring.Hold(w.tenant, w.subject)
	switch g.r.IntN(20) {
	case 0, 1, 2, 3, 4:
		n := g.number(64)
		wantErr(t, at("Make", n), g.ring.Make(w.tenant, w.subject, n), g.words.Make(w, n))
	case 5:
		err := g.ring.Shred(w.tenant, w.subject)
		wantErr(t, at("Shred", 0), err, g.words.Shred(w))
		if err == api.OK {
			before.Shred = true
			g.gone[w] = before
		}
	default:
		n := g.number([]int{4, 30, 200}[g.r.IntN(3)])
		err := g.ring.Use(w.tenant, w.subject, n)
		wantErr(t, at("Use", n), err, g.words.Use(w, n))
		if err == api.OK {
			g.take(t, at("Use", n), w, before.Uses, n)
		}
	}
	if i%7 == 0 {
		wantRing(t, at("behind", 0), g.ring, g.words.holds())
		for w, h := range g.gone { // P12.8: as it was when it was shredded
			wantHold(t, at("shredded", 0), g.ring, w, h, true)
		}
	}
}

func TestWords(t *testing.T) { // P12.1 to P12.5, P12.7, P12.8, in any sequence
	for seed := range 30 {
		g := newGame(seed)
		for i := range 1500 {
			g.turn(t, seed, i)
		}
		wantRing(t, fmt.Sprintf("seed %d, the end", seed), g.ring, g.words.holds())
	}
}
