package wal_test

import (
	"bytes"
	"encoding/binary"
	"fmt"
	"hash/crc32"
	"math/rand/v2"
	"slices"
	"testing"

	"sealery/api"
	"sealery/disk"
	"sealery/wal"
)

// words is a log as the chapter's words have it, written a second time: it keeps nothing but whether it is dead, and finds its end on the disk at each call.
type words struct {
	d    *disk.Disk
	dead bool
}

// scan takes frames off the front of bytes, and counts those.
func scan(b []byte) ([]api.Frame, int) {
	var rows []api.Frame
	at := 0
	for len(b)-at >= around && b[at] != 0 {
		n := int(binary.BigEndian.Uint32(b[at+1:]))
		if n > 2039 || len(b)-at < around+n {
			break
		}
		end := at + 5 + n
		if binary.BigEndian.Uint32(b[end:]) != crc32.ChecksumIEEE(b[at:end]) {
			break
		}
		rows = append(rows, api.Frame{Kind: int(b[at]), Body: bytes.Clone(b[at+5 : end])})
		at = end + 4
	}
	return rows, at
}

// end is a disk's log: its rows, the segment in which it ends, and how many of its bytes are the log's.
func end(d *disk.Disk) (rows []api.Frame, seg, size int) {
	for s := 1; s <= api.MaxSegs; s++ {
		b := d.Read(s)
		frames, n := scan(b)
		if !bytes.HasPrefix(b, headOf(s)) {
			return rows, seg, size
		}
		rows, seg, size = append(rows, frames[1:]...), s, n
		if n < len(b) {
			return rows, seg, size
		}
	}
	return rows, seg, size
}

// run calls the disk, till it is down.
func (w *words) run(calls ...func() api.Errno) api.Errno {
	for _, call := range calls {
		if call() == api.ErrDown {
			w.dead = true
			return api.ErrDown
		}
	}
	return api.OK
}

// sync, cut and write are operations that run does.
func (w *words) sync(f int) func() api.Errno {
	return func() api.Errno { return w.d.Sync(f) }
}

func (w *words) cut(f, n int) func() api.Errno {
	return func() api.Errno { return w.d.Cut(f, n) }
}

func (w *words) write(f int, b []byte) func() api.Errno {
	return func() api.Errno { return w.d.Write(f, b) }
}

func openWords(d *disk.Disk) (*words, []api.Frame, api.Errno) {
	w := &words{d: d}
	if d.Down() {
		return nil, nil, api.ErrDown
	}
	rows, seg, size := end(d)
	var calls []func() api.Errno
	for s := max(seg, 1); s <= api.MaxSegs; s++ {
		if s > seg {
			size = 0
		}
		if len(d.Read(s)) > size {
			calls = append(calls, w.cut(s, size))
		}
	}
	if seg > 0 {
		calls = append(calls, w.sync(seg))
	}
	if w.run(calls...) != api.OK {
		return nil, nil, api.ErrDown
	}
	return w, rows, api.OK
}

func (w *words) Append(kind int, body []byte) api.Errno {
	if w.dead || w.d.Down() {
		w.dead = true
		return api.ErrDown
	}
	if kind < 1 || kind > 254 {
		return api.ErrKind
	}
	if len(body) > maxBody {
		return api.ErrLong
	}
	b := encoding(byte(kind), body)
	_, seg, size := end(w.d)
	free := w.d.Room() - w.d.Used()
	if seg > 0 && size+len(b) <= api.MaxSeg {
		if len(b) > free {
			return api.ErrFull
		}
		return w.run(w.write(seg, b))
	}
	if seg == api.MaxSegs || headSize+len(b) > free {
		return api.ErrFull
	}
	calls := []func() api.Errno{w.sync(seg), w.write(seg+1, headOf(seg+1)), w.write(seg+1, b)}
	if seg == 0 {
		calls = calls[1:]
	}
	return w.run(calls...)
}

func (w *words) Sync() api.Errno {
	if w.dead || w.d.Down() {
		w.dead = true
		return api.ErrDown
	}
	if _, seg, _ := end(w.d); seg > 0 {
		return w.run(w.sync(seg))
	}
	return api.OK
}

func (w *words) Seg() int {
	_, seg, _ := end(w.d)
	return seg
}

// twins are two disks that are called alike: one by the package, the other by the chapter's words.
type twins struct {
	d, e *disk.Disk
	l    *wal.Log
	w    *words
	r    *rand.Rand
}

// body has a length that fits at times, and at times fills a segment, or is too long.
func (x *twins) body() []byte {
	n := x.r.IntN(60)
	switch x.r.IntN(6) {
	case 0:
		n = x.r.IntN(maxBody + 1)
	case 1:
		n = maxBody - x.r.IntN(3)
	case 2:
		if _, _, size := end(x.e); size > 0 { // about what is left
			n = max(0, api.MaxSeg-size-around-1+x.r.IntN(3))
		}
	case 3:
		n = max(0, x.e.Room()-x.e.Used()-around-headSize*x.r.IntN(2)-1+x.r.IntN(3))
	}
	return noise(n, n)
}

// turn does one thing to both disks, and holds their answers against each other.
func (x *twins) turn(t *testing.T, what string) {
	t.Helper()
	switch x.r.IntN(12) {
	case 0, 1:
		wantErr(t, what+": Sync", x.l.Sync(), x.w.Sync())
	case 2:
		if x.r.IntN(3) == 0 {
			n := x.r.IntN(7)
			x.d.Arm(n)
			x.e.Arm(n)
		}
	case 3:
		b := noise(3, x.r.IntN(40))
		wantErr(t, what+": the vault's Write", x.d.Write(0, b), x.e.Write(0, b))
	case 4:
		kind := x.r.IntN(600) - 200
		b := x.body()
		wantErr(t, what+": Append of any kind", x.l.Append(kind, b), x.w.Append(kind, b))
	default:
		kind := 1 + x.r.IntN(254)
		b := x.body()
		wantErr(t, fmt.Sprintf("%s: Append %d of %d bytes", what, kind, len(b)), x.l.Append(kind, b), x.w.Append(kind, b))
	}
	wantSeg(t, what, x.l, x.w.Seg())
	wantView(t, what, x.d, see(x.e))
}

// crash crashes both disks alike, and opens them, whose power may fail in between.
func (x *twins) crash(t *testing.T, what string) {
	t.Helper()
	for {
		keep := make([]int, x.r.IntN(4))
		for i := range keep {
			keep[i] = x.r.IntN(1+x.r.IntN(2500)) - 20
		}
		x.d.Crash(keep)
		x.e.Crash(keep)
		if n := x.r.IntN(8); n < 3 {
			x.d.Arm(n)
			x.e.Arm(n)
		}
		l, rows, err := wal.Open(x.d)
		w, want, wantE := openWords(x.e)
		wantErr(t, what+": Open", err, wantE)
		wantRows(t, what+": Open", rows, want)
		wantView(t, what+": Open", x.d, see(x.e))
		if err == api.OK {
			x.l, x.w = l, w
			wantSeg(t, what+": Open", l, w.Seg())
			return
		}
		if l != nil || rows != nil {
			t.Fatalf("%s: ErrDown with %v, %v", what, l, rows)
		}
	}
}

func TestTwins(t *testing.T) { // P10.1 to P10.4, in any sequence, on disks of much room and of little
	for seed := range 120 {
		r := rand.New(rand.NewPCG(uint64(seed), 1))
		room := []int{api.MaxRoom, 70000, 9000, 3000, 200}[seed%5]
		x := &twins{d: disk.New(room), e: disk.New(room), r: r}
		x.crash(t, fmt.Sprintf("twins %d, new", seed))
		for i := range 120 {
			what := fmt.Sprintf("twins %d, turn %d", seed, i)
			if x.turn(t, what); r.IntN(30) == 0 || x.d.Down() && r.IntN(4) == 0 {
				x.crash(t, what)
			}
		}
		x.crash(t, fmt.Sprintf("twins %d, last", seed))
	}
}

func TestTwinsOfWhateverBytes(t *testing.T) { // P10.1: segments of random pieces, wherever they are put together
	for seed := range 500 {
		r := rand.New(rand.NewPCG(uint64(seed), 2))
		x := &twins{d: disk.New(api.MaxRoom), e: disk.New(api.MaxRoom), r: r}
		for s := range 1 + r.IntN(files) {
			b := randomSegment(r, s)
			for _, d := range []*disk.Disk{x.d, x.e} {
				n := len(b) * s / files
				wantErr(t, "the test's Write", d.Write(s, b[:n]), api.OK)
				wantErr(t, "the test's Sync", d.Sync(s), api.OK)
				wantErr(t, "the test's Write", d.Write(s, b[n:]), api.OK)
			}
		}
		if r.IntN(2) == 0 {
			l, rows, err := wal.Open(x.d)
			w, want, _ := openWords(x.e)
			wantErr(t, "Open", err, api.OK)
			wantRows(t, "Open", rows, want)
			wantView(t, "Open", x.d, see(x.e))
			x.l, x.w = l, w
		} else {
			x.crash(t, fmt.Sprintf("bytes %d", seed))
		}
		for i := range 12 {
			x.turn(t, fmt.Sprintf("bytes %d, turn %d", seed, i))
		}
		x.crash(t, fmt.Sprintf("bytes %d, last", seed))
	}
}

// randomSegment begins, most times, with its head, and mostly holds whole frames.
func randomSegment(r *rand.Rand, s int) []byte {
	var b []byte
	if r.IntN(12) > 0 {
		b = headOf(s)
	}
	for range r.IntN(4) {
		p := encoding(byte(1+r.IntN(255)), noise(s, r.IntN(40)))
		switch r.IntN(30) {
		case 0:
			p = p[:r.IntN(len(p))]
		case 1:
			p[r.IntN(len(p))] ^= 1 << r.IntN(8)
		case 2:
			p = encoding(0, number(s))
		case 3:
			p = headOf(r.IntN(files))
		}
		b = append(b, p...)
	}
	return b
}

// action is Append of so many bytes, or Sync if there are fewer than none.
type action int

// scripts are what a log is asked before the power fails.
func scripts() [][]action {
	return [][]action{
		{},
		{-1, 3, -1},
		{5},
		{5, -1, 6, 0, -1, 7},
		{0, 0, 0, -1, 0, 0},
		{2, 2012, 1, 1},       // the chapter's example
		{1100, 1100, -1, 900}, // two segments, one synced
		{maxBody, maxBody, maxBody, 4, -1},
		{1000, 900, 1000, -1, 900, 1000, -1, 900},
	}
}

// kept are numbers of bytes that a crash keeps: each small one, those about a row's end, and more than there are.
func kept() []int {
	ks := []int{-1, 900, 1023, 1025, 1026, 1100, 1108, 1109, 1110, 1125, 1126, 2020, 2037, 2038, 2039, 2047, 2048, 2049, 1 << 40}
	for k := range 64 {
		ks = append(ks, k)
	}
	return ks
}

// trial is a log, with the rows that must outlast a crash, and all that may.
type trial struct {
	d         *disk.Disk
	sure, all []api.Frame
}

// play does a script till the power fails, or to its end.
func (x *trial) play(l *wal.Log, script []action) {
	for i, a := range script {
		if a < 0 {
			if l.Sync() == api.OK {
				x.sure = slices.Clone(x.all)
			}
			continue
		}
		r := row(1+i, i, int(a))
		if !x.d.Down() { // else it is not appended at all
			x.all = append(x.all, r)
		}
		if l.Append(r.Kind, r.Body) == api.ErrFull {
			x.all = x.all[:len(x.all)-1]
		}
	}
}

// wantOpen opens what a crash left: P10.5. From there on, these rows are sure, and no others are there.
func (x *trial) wantOpen(t *testing.T, what string) *wal.Log {
	t.Helper()
	l, rows := open(t, what, x.d)
	n := len(rows)
	if n < len(x.sure) || n > len(x.all) || !sameRows(rows, x.all[:n]) {
		t.Fatalf("%s: %s, want from %d on of %s", what, told(rows), len(x.sure), told(x.all))
	}
	x.sure, x.all = rows, slices.Clone(rows)
	return l
}

// wantAgain opens it once more, without a crash and behind one that keeps nothing: P10.6.
func (x *trial) wantAgain(t *testing.T, what string) {
	t.Helper()
	before := see(x.d).files
	for range 2 {
		x.wantOpen(t, what+", again")
		if len(x.all) != len(x.sure) || see(x.d).files != before {
			t.Fatalf("%s: opening again changed the files: %v", what, see(x.d))
		}
		x.d.Crash(nil)
	}
	x.wantOpen(t, what+", behind a crash that keeps nothing")
	if see(x.d).files != before {
		t.Fatalf("%s: what was opened did not last: %v", what, see(x.d))
	}
}

// tried is a script, played with power for n operations, and a crash.
func tried(t *testing.T, script []action, n, keep int) *trial {
	t.Helper()
	d, l := opened(t, api.MaxRoom)
	x := &trial{d: d}
	d.Arm(n)
	x.play(l, script)
	d.Crash([]int{keep, keep, keep})
	return x
}

// operations is how many a script does.
func operations(t *testing.T, script []action) int {
	d, l := opened(t, api.MaxRoom)
	(&trial{d: d}).play(l, script)
	return d.Count()
}

func TestDurability(t *testing.T) { // P10.5, P10.6: each place at which the power may fail, and many numbers of bytes that are kept
	for i, script := range scripts() {
		for n := range operations(t, script) + 2 {
			for _, keep := range kept() {
				what := fmt.Sprintf("script %d, power for %d operations, %d bytes kept", i, n, keep)
				x := tried(t, script, n, keep)
				l := x.wantOpen(t, what)
				x.wantAgain(t, what)
				l = x.wantOpen(t, what)
				x.play(l, []action{40, -1, 50}) // it goes on, and what it had stays
				x.d.Crash([]int{keep})
				x.wantOpen(t, what+", gone on")
			}
		}
	}
}

func TestPowerFailsInOpen(t *testing.T) { // P10.5: Open is interrupted at each of its operations, one after the other, and nothing more is lost
	for i, script := range scripts() {
		for n := range operations(t, script) + 1 {
			for _, keep := range kept() {
				what := fmt.Sprintf("script %d, power for %d operations, %d bytes kept, Open interrupted", i, n, keep)
				x := tried(t, script, n, keep)
				whole := tried(t, script, n, keep)
				whole.wantOpen(t, what)
				for m := range 2 { // a Cut and a Sync, at most: what was torn is at the log's end
					x.d.Arm(m)
					if l, rows, err := wal.Open(x.d); err != api.OK && (l != nil || rows != nil || err != api.ErrDown) {
						t.Fatalf("%s: %v, %v, %d", what, l, rows, err)
					}
					x.d.Crash([]int{keep})
				}
				x.d.Arm(2)
				x.wantOpen(t, what)
				wantRows(t, what, x.all, whole.all)
				x.wantAgain(t, what)
			}
		}
	}
}

func TestManyCrashes(t *testing.T) { // P10.5, P10.6: one disk, whose power fails again and again, till it is full
	for seed := range 60 {
		r := rand.New(rand.NewPCG(uint64(seed), 3))
		room := []int{api.MaxRoom, 20000, 5000}[seed%3]
		x := &trial{d: disk.New(room)}
		for i := range 60 {
			what := fmt.Sprintf("seed %d, crash %d", seed, i)
			for r.IntN(4) == 0 { // the power fails in Open
				x.d.Arm(r.IntN(3))
				wal.Open(x.d)
				x.d.Crash([]int{r.IntN(100)})
			}
			l := x.wantOpen(t, what)
			x.d.Arm(r.IntN(12))
			x.play(l, randomScript(r))
			x.d.Crash([]int{r.IntN(1 + r.IntN(2500))})
		}
		x.wantOpen(t, "the last one")
		x.wantAgain(t, "the last one")
	}
}

func randomScript(r *rand.Rand) []action {
	script := make([]action, r.IntN(12))
	for i := range script {
		script[i] = action(r.IntN(1+r.IntN(maxBody+1)) - r.IntN(2)*r.IntN(500))
	}
	return script
}
