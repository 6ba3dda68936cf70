package vault_test

import (
	"bytes"
	"fmt"
	"math/rand/v2"
	"slices"
	"testing"

	"sealery/api"
	"sealery/disk"
	"sealery/vault"
)

func TestPowerFailsInPut(t *testing.T) { // P11.2: in its Write, which takes effect, and in its Sync
	for n := range 2 {
		for _, hs := range [][]held{nil, {has(1)}, {gone, has(2), gone}, many(63)} {
			what := fmt.Sprintf("%d slots, power for %d operations", len(hs), n)
			d, v := filled(t, api.MaxRoom, hs...)
			before := see(d)
			d.Arm(n)
			noPut(t, what, v, keyOf(70), api.ErrDown)
			wantView(t, what, d, before.after(1, slotsOf(append(slices.Clone(hs), has(70))...)).without())
			wantDead(t, what, d, v, hs)
		}
	}
}

func TestPowerFailsInZero(t *testing.T) { // P11.4: nothing is erased
	for n := 1; n <= 3; n++ {
		hs := []held{has(1), {}, has(3), gone}
		d, v := filled(t, api.MaxRoom, hs...)
		before := see(d)
		d.Arm(0)
		wantErr(t, "Zero", v.Zero(n), api.ErrDown)
		wantView(t, "Zero", d, before.without())
		wantDead(t, "Zero", d, v, hs)
		d.Crash(nil)
		wantAgain(t, "Zero", d, hs)
		v = open(t, "Zero", d)
		wantErr(t, "Zero", v.Zero(n), api.OK)
		hs[n-1] = gone
		wantAgain(t, "Zero", d, hs)
	}
}

func TestPowerFailsInOpen(t *testing.T) { // P11.1: its Cut, or its Sync, is not done
	for _, x := range pieces() {
		for _, durable := range []int{0, len(x.b) / 2, len(x.b)} {
			var c contents
			c.hold(0, x.b, durable)
			d := c.disk(t, api.MaxRoom)
			before := see(d)
			d.Arm(0)
			v, err := vault.Open(d)
			if len(x.b) == 0 {
				wantErr(t, "no byte", err, api.OK)
				wantView(t, "no byte", d, before)
				continue
			}
			if v != nil || err != api.ErrDown {
				t.Fatalf("%s: a vault: %v, %d, want none, ErrDown", x.name, v != nil, err)
			}
			wantView(t, x.name, d, before.without())
			d.Crash([]int{len(x.b)})
			wantSlots(t, x.name, open(t, x.name, d), x.slots)
			wantAgain(t, x.name, d, x.slots)
		}
	}
}

func TestPowerHolds(t *testing.T) { // P11.2, P11.4: what is armed counts a call's operations, and no more
	d, v := filled(t, 1000)
	d.Arm(7)
	put(t, "2", v, keyOf(1), 1)
	put(t, "4", v, keyOf(2), 2)
	wantErr(t, "5", v.Zero(1), api.OK)
	wantErr(t, "5", v.Zero(1), api.OK)
	put(t, "7", v, keyOf(3), 3)
	wantErr(t, "none is left", v.Zero(2), api.ErrDown)
	wantDead(t, "none is left", d, v, []held{gone, has(2), has(3)})
}

// words is a vault as the chapter's words have it, written a second time.
type words struct {
	d     *disk.Disk
	slots []held
	dead  bool
}

func openWords(d *disk.Disk) (*words, api.Errno) {
	w := &words{d: d}
	if d.Down() {
		return nil, api.ErrDown
	}
	b := d.Read(0)
	for n := 1; n <= 64 && len(b) >= n*slotSize; n++ {
		next := b[(n-1)*slotSize : n*slotSize]
		h := held{key: api.Key(next[:32])}
		if bytes.Equal(next, make([]byte, slotSize)) {
			h = gone
		}
		if !bytes.Equal(next, slotOf(n, h)) {
			break
		}
		w.slots = append(w.slots, h)
	}
	err := api.OK
	if size := len(w.slots) * slotSize; size < len(b) {
		err = d.Cut(0, size)
	} else if size > 0 {
		err = d.Sync(0)
	}
	if err != api.OK {
		return nil, err
	}
	return w, api.OK
}

func (w *words) Put(key api.Key) (int, api.Errno) {
	if w.dead {
		return 0, api.ErrDown
	}
	if len(w.slots) == 64 {
		return 0, api.ErrMany
	}
	err := w.d.Write(0, slotOf(len(w.slots)+1, held{key: key}))
	if err == api.OK {
		err = w.d.Sync(0)
	}
	if err != api.OK {
		w.dead = err == api.ErrDown
		return 0, err
	}
	w.slots = append(w.slots, held{key: key})
	return len(w.slots), api.OK
}

func (w *words) Zero(number int) api.Errno {
	if w.dead {
		return api.ErrDown
	}
	if number < 1 || number > len(w.slots) {
		return api.ErrNone
	}
	if w.slots[number-1].erased {
		return api.OK
	}
	if err := w.d.Over(0, (number-1)*slotSize, make([]byte, slotSize)); err != api.OK {
		w.dead = true
		return err
	}
	w.slots[number-1] = gone
	return api.OK
}

// twins are two disks that are called alike: one by the package, the other by the chapter's words.
type twins struct {
	d, e *disk.Disk
	v    *vault.Vault
	w    *words
	r    *rand.Rand
}

// turn does one thing to both disks, and holds their answers against each other.
func (x *twins) turn(t *testing.T, what string) {
	t.Helper()
	switch x.r.IntN(10) {
	case 0:
		if x.r.IntN(3) == 0 {
			n := x.r.IntN(7)
			x.d.Arm(n)
			x.e.Arm(n)
		}
	case 1:
		f, b := 1+x.r.IntN(files-1), noise(3, x.r.IntN(40))
		wantErr(t, what+": the log's Write", x.d.Write(f, b), x.e.Write(f, b))
	case 2:
		f := 1 + x.r.IntN(files-1)
		wantErr(t, what+": the log's Cut", x.d.Cut(f, 0), x.e.Cut(f, 0))
	case 3, 4, 5:
		n := x.r.IntN(len(x.w.slots)+3) - 1
		wantErr(t, fmt.Sprintf("%s: Zero %d", what, n), x.v.Zero(n), x.w.Zero(n))
	default:
		k := keyOf(x.r.IntN(1000))
		n, err := x.v.Put(k)
		m, wantE := x.w.Put(k)
		wantErr(t, what+": Put", err, wantE)
		if n != m {
			t.Fatalf("%s: Put: %d, want %d", what, n, m)
		}
	}
	wantSlots(t, what, x.v, x.w.slots)
	wantView(t, what, x.d, see(x.e))
}

// crash crashes both disks alike, and opens them, whose power may fail in between.
func (x *twins) crash(t *testing.T, what string) {
	t.Helper()
	for {
		keep := make([]int, x.r.IntN(4))
		for i := range keep {
			keep[i] = x.r.IntN(60) - 10
		}
		x.d.Crash(keep)
		x.e.Crash(keep)
		if n := x.r.IntN(6); n < 2 {
			x.d.Arm(n)
			x.e.Arm(n)
		}
		v, err := vault.Open(x.d)
		w, wantE := openWords(x.e)
		wantErr(t, what+": Open", err, wantE)
		wantView(t, what+": Open", x.d, see(x.e))
		if err == api.OK {
			x.v, x.w = v, w
			wantSlots(t, what+": Open", v, w.slots)
			return
		}
		if v != nil {
			t.Fatalf("%s: ErrDown with a vault", what)
		}
	}
}

func TestTwins(t *testing.T) { // P11.1 to P11.5, in any sequence, on disks of much room and of little
	for seed := range 150 {
		r := rand.New(rand.NewPCG(uint64(seed), 1))
		room := []int{api.MaxRoom, 3000, 900, 200}[seed%4]
		x := &twins{d: disk.New(room), e: disk.New(room), r: r}
		x.crash(t, fmt.Sprintf("twins %d, new", seed))
		for i := range 200 {
			what := fmt.Sprintf("twins %d, turn %d", seed, i)
			if x.turn(t, what); r.IntN(40) == 0 || x.d.Down() && r.IntN(4) == 0 {
				x.crash(t, what)
			}
		}
		x.crash(t, fmt.Sprintf("twins %d, last", seed))
	}
}

func TestTwinsOfWhateverBytes(t *testing.T) { // P11.1: random pieces, wherever they are put together
	for seed := range 600 {
		r := rand.New(rand.NewPCG(uint64(seed), 2))
		x := &twins{d: disk.New(api.MaxRoom), e: disk.New(api.MaxRoom), r: r}
		b := randomFile(r)
		n := r.IntN(len(b) + 1)
		for _, d := range []*disk.Disk{x.d, x.e} {
			wantErr(t, "the test's Write", d.Write(0, b[:n]), api.OK)
			wantErr(t, "the test's Sync", d.Sync(0), api.OK)
			wantErr(t, "the test's Write", d.Write(0, b[n:]), api.OK)
		}
		if r.IntN(2) == 0 {
			v, err := vault.Open(x.d)
			w, wantE := openWords(x.e)
			wantErr(t, "Open", err, wantE)
			wantView(t, "Open", x.d, see(x.e))
			x.v, x.w = v, w
			wantSlots(t, "Open", v, w.slots)
		} else {
			x.crash(t, fmt.Sprintf("bytes %d", seed))
		}
		for i := range 20 {
			x.turn(t, fmt.Sprintf("bytes %d, turn %d", seed, i))
		}
		x.crash(t, fmt.Sprintf("bytes %d, last", seed))
	}
}

// randomFile is slots, most of them with the expected number, some of them erased or spoilt.
func randomFile(r *rand.Rand) []byte {
	var b []byte
	spoilt := 10 + r.IntN(200)
	for n := range r.IntN(70) {
		next := slotOf(n+1, has(r.IntN(1000)))
		if r.IntN(4) == 0 {
			next = slotOf(n+1, gone)
		}
		switch r.IntN(spoilt) {
		case 0:
			next = next[:r.IntN(slotSize)]
		case 1:
			next[r.IntN(slotSize)] ^= 1 << r.IntN(8)
		case 2:
			next = slotOf(r.IntN(70), has(n))
		case 3:
			next = append(next, byte(r.IntN(2)))
		}
		b = append(b, next...)
	}
	return b
}

// action is Zero of that slot, or Put if it is 0.
type action int

// scripts are what a vault is asked before the power fails.
func scripts() [][]action {
	long := make([]action, 70) // to 64 slots and behind
	long[30], long[31], long[66], long[69] = 7, 7, 64, 64
	return [][]action{
		{},
		{0},
		{0, 1},
		{0, 0, 1, 0, 2, 3},
		{0, 0, 0, 3, 1, 1, 2, 0, 4, 0},
		{1, 0, 2, 0, 9, -1, 1},
		long,
	}
}

// kept are numbers of bytes that a crash keeps: each up to a slot's, and more than there are. For a long script, there are fewer.
func kept(script []action) []int {
	ks := []int{-1, 80, 120, 1 << 40}
	if len(script) > 20 {
		return append(ks, 0, 1, 20, 39, 40, 41)
	}
	for k := range slotSize + 2 {
		ks = append(ks, k)
	}
	return ks
}

// trial is a vault's disk, with the slots that it must have, and the one that a crash may keep.
type trial struct {
	d     *disk.Disk
	slots []held
	half  []held
	puts  int // so that each key is another
}

// play does a script till the power fails, or to its end.
func (x *trial) play(t *testing.T, what string, v *vault.Vault, script []action) {
	t.Helper()
	for _, a := range script {
		if x.d.Down() {
			return
		}
		x.half = nil
		if a == 0 {
			x.put(t, what, v)
		} else if n := int(a); v.Zero(n) == api.OK {
			x.slots[n-1] = gone
		}
		wantSlots(t, what, v, x.slots)
	}
}

// put lays a key into the next slot, or into half of it.
func (x *trial) put(t *testing.T, what string, v *vault.Vault) {
	t.Helper()
	x.puts++
	h := has(x.puts)
	switch n, err := v.Put(h.key); {
	case err == api.OK && n == len(x.slots)+1:
		x.slots = append(x.slots, h)
	case err == api.ErrDown && n == 0:
		x.half = []held{h}
	case err != api.ErrMany && err != api.ErrFull || n != 0:
		t.Fatalf("%s: Put: %d, %d", what, n, err)
	}
}

// crash leaves the slots, and with a whole slot kept that of the Put in which the power failed: P11.6, P11.7.
func (x *trial) crash(keep int) {
	x.d.Crash([]int{keep})
	if keep >= slotSize {
		x.slots = append(x.slots, x.half...)
	}
	x.half = nil
}

// wantOpen opens what a crash left.
func (x *trial) wantOpen(t *testing.T, what string) *vault.Vault {
	t.Helper()
	v := open(t, what, x.d)
	wantSlots(t, what, v, x.slots)
	if !bytes.Equal(x.d.Read(0), slotsOf(x.slots...)) {
		t.Fatalf("%s: the slots' bytes are others", what)
	}
	return v
}

// noOpen opens what a crash left, and the power fails at its operation, if it does one.
func (x *trial) noOpen(t *testing.T, what string) {
	t.Helper()
	none := len(x.d.Read(0)) == 0
	x.d.Arm(0)
	if v, err := vault.Open(x.d); none != (err == api.OK) || none != (v != nil) || !none && err != api.ErrDown {
		t.Fatalf("%s: a vault: %v, %d", what, v != nil, err)
	}
}

// operations is how many a script does.
func operations(t *testing.T, script []action) int {
	x := &trial{d: disk.New(api.MaxRoom)}
	x.play(t, "with power", open(t, "a new disk", x.d), script)
	return x.d.Count()
}

func TestDurability(t *testing.T) { // P11.6 to P11.8: each place at which the power may fail, and many numbers of bytes that are kept
	for i, script := range scripts() {
		for n := range operations(t, script) + 2 {
			for _, keep := range kept(script) {
				for _, twice := range []bool{false, true} {
					what := fmt.Sprintf("script %d, power for %d operations, %d bytes kept, Open interrupted: %v", i, n, keep, twice)
					x := &trial{d: disk.New(api.MaxRoom)}
					v := open(t, what, x.d)
					x.d.Arm(n)
					x.play(t, what, v, script)
					x.crash(keep)
					if twice {
						x.noOpen(t, what)
						x.crash(keep)
					}
					x.wantOpen(t, what)
					wantAgain(t, what, x.d, x.slots)
					x.play(t, what, x.wantOpen(t, what), []action{0, 1, 0}) // it goes on, and what it had stays
					x.crash(keep)
					x.wantOpen(t, what+", gone on")
				}
			}
		}
	}
}

func TestManyCrashes(t *testing.T) { // P11.6 to P11.8: one disk, whose power fails again and again, till it is full
	for seed := range 100 {
		r := rand.New(rand.NewPCG(uint64(seed), 3))
		x := &trial{d: disk.New([]int{api.MaxRoom, 2000, 500}[seed%3])}
		for i := range 60 {
			what := fmt.Sprintf("seed %d, crash %d", seed, i)
			for r.IntN(4) == 0 { // the power fails in Open
				x.noOpen(t, what)
				x.crash(r.IntN(60))
			}
			v := x.wantOpen(t, what)
			x.d.Arm(r.IntN(12))
			script := make([]action, r.IntN(10))
			for i := range script {
				script[i] = action(max(0, r.IntN(len(x.slots)+6)-4))
			}
			x.play(t, what, v, script)
			x.crash(r.IntN(60) - 5)
		}
		x.wantOpen(t, "the last one")
		wantAgain(t, "the last one", x.d, x.slots)
	}
}
