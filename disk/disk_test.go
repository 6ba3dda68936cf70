package disk_test

import (
	"bytes"
	"fmt"
	"math"
	"math/rand/v2"
	"slices"
	"strings"
	"testing"

	"sealery/api"
	"sealery/disk"
)

const files = api.MaxSegs + 1

// view is what a disk tells without being turned.
type view struct {
	files             [files]string
	used, room, count int
	down              bool
}

// String leaves files without bytes out.
func (v view) String() string {
	told := fmt.Sprintf("%d of %d used, %d operations, down: %v", v.used, v.room, v.count, v.down)
	for f, s := range v.files {
		if s != "" {
			told += fmt.Sprintf(", %d: %q", f, s)
		}
	}
	return told
}

func see(d *disk.Disk) view {
	v := view{used: d.Used(), room: d.Room(), count: d.Count(), down: d.Down()}
	for f := range files {
		v.files[f] = string(d.Read(f))
	}
	return v
}

func wantView(t *testing.T, what string, d *disk.Disk, want view) {
	t.Helper()
	if got := see(d); got != want {
		t.Errorf("%s: %v, want %v", what, got, want)
	}
}

func wantErr(t *testing.T, what string, got, want api.Errno) {
	t.Helper()
	if got != want {
		t.Errorf("%s: %d, want %d", what, got, want)
	}
}

func wantText(t *testing.T, what string, d *disk.Disk, f int, want string) {
	t.Helper()
	if got := string(d.Read(f)); got != want {
		t.Errorf("%s: file %d is %q, want %q", what, f, got, want)
	}
}

// wantDurable finds out, by laying nothing over each place, how many bytes of a file are durable.
func wantDurable(t *testing.T, what string, d *disk.Disk, f, durable int) {
	t.Helper()
	for at := range len(d.Read(f)) + 2 {
		want := api.OK
		if at > durable {
			want = api.ErrArg
		}
		if got := d.Over(f, at, nil); got != want {
			t.Errorf("%s: Over(%d, %d) of nothing: %d, want %d, as %d bytes are durable", what, f, at, got, want, durable)
		}
	}
}

// holding is a disk whose file has these durable bytes, and these volatile ones behind them.
func holding(t *testing.T, room, f int, durable, volatile string) *disk.Disk {
	t.Helper()
	d := disk.New(room)
	wantErr(t, "Write", d.Write(f, []byte(durable)), api.OK)
	wantErr(t, "Sync", d.Sync(f), api.OK)
	wantErr(t, "Write", d.Write(f, []byte(volatile)), api.OK)
	return d
}

// call is an operation with its arguments.
type call struct {
	name string
	do   func(d *disk.Disk) api.Errno
}

func write(f int, s string) call {
	return call{"Write", func(d *disk.Disk) api.Errno { return d.Write(f, []byte(s)) }}
}

func syncing(f int) call {
	return call{"Sync", func(d *disk.Disk) api.Errno { return d.Sync(f) }}
}

func cut(f, n int) call {
	return call{"Cut", func(d *disk.Disk) api.Errno { return d.Cut(f, n) }}
}

func over(f, at int, s string) call {
	return call{"Over", func(d *disk.Disk) api.Errno { return d.Over(f, at, []byte(s)) }}
}

func TestExamples(t *testing.T) { // the chapter's examples
	d := disk.New(10)
	wantErr(t, "Write 1 of abcd", d.Write(1, []byte("abcd")), api.OK)
	wantErr(t, "Sync 1", d.Sync(1), api.OK)
	wantErr(t, "Write 1 of efg", d.Write(1, []byte("efg")), api.OK)
	wantErr(t, "Write 2 of hijk", d.Write(2, []byte("hijk")), api.ErrFull)
	if d.Used() != 7 {
		t.Errorf("Used: %d, want 7", d.Used())
	}
	d.Crash([]int{2})
	wantText(t, "Crash of 2", d, 1, "abcdef")
	wantErr(t, "Over 1 at 1", d.Over(1, 1, []byte("XY")), api.OK)
	wantErr(t, "Over 1 at 5", d.Over(1, 5, []byte("XY")), api.ErrArg)
	wantText(t, "Over", d, 1, "aXYdef")
	d.Arm(1)
	wantErr(t, "Cut 1 to 4", d.Cut(1, 4), api.OK)
	wantErr(t, "Write 1 of z", d.Write(1, []byte("z")), api.ErrDown)
	wantErr(t, "Sync 1", d.Sync(1), api.ErrDown)
	if !d.Down() {
		t.Error("Down: false, want true")
	}
	d.Crash([]int{1})
	wantText(t, "Crash of 1", d, 1, "aXYdz")
	if d.Count() != 6 {
		t.Errorf("Count: %d, want 6", d.Count())
	}
}

func TestNew(t *testing.T) { // P8.1
	for _, x := range []struct{ room, want int }{
		{math.MinInt, 0}, {-api.MaxRoom, 0}, {-1, 0}, {0, 0}, {1, 1}, {10, 10},
		{api.MaxRoom - 1, api.MaxRoom - 1}, {api.MaxRoom, api.MaxRoom}, {api.MaxRoom + 1, api.MaxRoom}, {math.MaxInt, api.MaxRoom},
	} {
		d := disk.New(x.room)
		wantView(t, "a new disk", d, view{room: x.want})
		wantErr(t, "Write of one byte too many", d.Write(0, make([]byte, x.want+1)), api.ErrFull)
		wantView(t, "after it", d, view{room: x.want})
		wantErr(t, "Write of all there is room for", d.Write(0, make([]byte, x.want)), api.OK)
		wantErr(t, "Write of one more", d.Write(1, []byte{0}), api.ErrFull)
		wantErr(t, "Write of none", d.Write(1, nil), api.OK)
		if d.Used() != x.want || len(d.Read(0)) != x.want {
			t.Errorf("New(%d): %d used, %d bytes, want %d", x.room, d.Used(), len(d.Read(0)), x.want)
		}
	}
}

func TestFileNumbers(t *testing.T) { // P8.2, P8.3, P8.4
	calls := func(f int) []call {
		return []call{write(f, "a"), write(f, ""), syncing(f), cut(f, 0), over(f, 0, "")}
	}
	for _, f := range []int{math.MinInt, -files, -1, files, files + 1, math.MaxInt} {
		d := holding(t, 4, 1, "ab", "cd")
		before := see(d)
		for _, c := range append(calls(f), write(f, "too many"), cut(f, -1), over(f, 9, "")) {
			wantErr(t, c.name+" of no file", c.do(d), api.ErrArg)
			wantView(t, c.name+" of no file", d, before)
		}
		if b := d.Read(f); len(b) != 0 {
			t.Errorf("Read(%d): %q, want nothing", f, b)
		}
	}
	for f := range files {
		for _, c := range calls(f) {
			wantErr(t, c.name+" of a file", c.do(disk.New(1)), api.OK)
		}
	}
}

func TestFilesApart(t *testing.T) { // P8.2, P8.3: an operation touches no other file
	d := disk.New(api.MaxRoom)
	var want [files]string
	for f := range files {
		want[f] = strings.Repeat(string(rune('A'+f)), f+1)
		wantErr(t, "Write", d.Write(f, []byte(want[f])), api.OK)
	}
	check := func(what string) {
		t.Helper()
		if got := see(d).files; got != want {
			t.Errorf("%s: %q, want %q", what, got, want)
		}
	}
	check("Write")
	for _, f := range []int{0, 7, api.MaxSegs} {
		wantErr(t, "Sync", d.Sync(f), api.OK)
		wantErr(t, "Over", d.Over(f, f, []byte("-")), api.OK)
		want[f] = want[f][:f] + "-"
		check("Over")
	}
	wantErr(t, "Cut", d.Cut(5, 2), api.OK)
	want[5] = want[5][:2]
	check("Cut")
	d.Crash(nil)
	for f := range files {
		if f != 0 && f != 5 && f != 7 && f != api.MaxSegs {
			want[f] = ""
		}
	}
	check("Crash")
}

func TestWrite(t *testing.T) { // P8.2
	d := disk.New(9)
	wantErr(t, "Write of none", d.Write(3, []byte{}), api.OK)
	wantErr(t, "Write", d.Write(3, []byte("ab")), api.OK)
	wantErr(t, "Write", d.Write(4, []byte{0, 255}), api.OK)
	wantErr(t, "Write of one too many", d.Write(3, []byte("cdefgh")), api.ErrFull)
	wantText(t, "after it", d, 3, "ab")
	wantErr(t, "Write of just as many as there is room for", d.Write(3, []byte("cdefg")), api.OK)
	wantErr(t, "Write of one more", d.Write(4, []byte("h")), api.ErrFull)
	wantErr(t, "Write of one more", d.Write(32, []byte("h")), api.ErrFull)
	wantErr(t, "Write of none without room", d.Write(4, nil), api.OK)
	want := view{used: 9, room: 9, count: 5}
	want.files[3], want.files[4] = "abcdefg", "\x00\xff"
	wantView(t, "all writes", d, want)
	wantDurable(t, "all writes", d, 3, 0)
	wantDurable(t, "all writes", d, 4, 0)
	d.Crash(nil)
	wantView(t, "Crash", d, view{room: 9, count: 7}) // wantDurable laid nothing over two places
	wantErr(t, "Write into what was lost", d.Write(9, []byte("123456789")), api.OK)
}

func TestWriteBehindDurable(t *testing.T) { // P8.2
	d := holding(t, 100, 2, "abc", "de")
	wantText(t, "Write", d, 2, "abcde")
	wantDurable(t, "Write", d, 2, 3)
	wantErr(t, "Write", d.Write(2, []byte("fg")), api.OK)
	wantText(t, "Write", d, 2, "abcdefg")
	wantDurable(t, "Write", d, 2, 3)
}

func TestSync(t *testing.T) { // P8.2
	d := holding(t, 100, 2, "abc", "de")
	wantErr(t, "Write of another", d.Write(3, []byte("xyz")), api.OK)
	for range 2 { // the second time, there are no volatile bytes
		wantErr(t, "Sync", d.Sync(2), api.OK)
		wantText(t, "Sync", d, 2, "abcde")
		wantDurable(t, "Sync", d, 2, 5)
		wantDurable(t, "Sync", d, 3, 0)
	}
	before := d.Count()
	wantErr(t, "Sync of no byte", d.Sync(0), api.OK)
	if d.Count() != before+1 {
		t.Errorf("Count: %d, want %d", d.Count(), before+1)
	}
	d.Crash(nil)
	wantText(t, "Crash", d, 2, "abcde")
	wantText(t, "Crash", d, 3, "")
}

func TestCut(t *testing.T) { // P8.3
	const durable, volatile = "abc", "defg"
	for n := range len(durable+volatile) + 1 { // none, within either part, at their seam, and all
		d := holding(t, 7, 2, durable, volatile)
		want := (durable + volatile)[:n]
		wantErr(t, "Cut", d.Cut(2, n), api.OK)
		if d.Used() != n || d.Count() != 4 {
			t.Errorf("Cut to %d: %d used, %d operations", n, d.Used(), d.Count())
		}
		wantText(t, "Cut", d, 2, want)
		wantDurable(t, "Cut", d, 2, n)
		wantErr(t, "Write behind it", d.Write(2, []byte("+")[:min(1, 7-n)]), api.OK)
		d.Crash([]int{0})
		wantText(t, "Cut, and Crash", d, 2, want)
		wantErr(t, "Write into the room that it left", d.Write(8, make([]byte, 7-n)), api.OK)
	}
	for _, n := range []int{math.MinInt, -1, 8, 9, math.MaxInt} {
		d := holding(t, 7, 2, durable, volatile)
		before := see(d)
		wantErr(t, "Cut to what there is not", d.Cut(2, n), api.ErrArg)
		wantView(t, "Cut to what there is not", d, before)
		wantDurable(t, "Cut to what there is not", d, 2, 3)
	}
	d := disk.New(1)
	wantErr(t, "Cut of an empty file", d.Cut(0, 0), api.OK)
	wantErr(t, "Cut of an empty file", d.Cut(0, 1), api.ErrArg)
}

func TestOver(t *testing.T) { // P8.3
	for _, x := range []struct {
		at   int
		b    string
		want string // nothing if the call is rejected
	}{
		{0, "X", "Xbcdefg"}, {0, "XYZ_", "XYZ_efg"}, {1, "XY", "aXYdefg"}, {3, "X", "abcXefg"}, // both ends of the durable bytes
		{0, "", "abcdefg"}, {2, "", "abcdefg"}, {4, "", "abcdefg"}, // no byte
		{0, "XYZ_V", ""}, {3, "XY", ""}, {4, "X", ""}, {4, "XYZ", ""}, {5, "X", ""}, {5, "", ""}, {6, "X", ""}, {7, "", ""}, // volatile ones
		{7, "X", ""}, {0, "XYZ_VWUT", ""}, {8, "", ""}, {8, "X", ""}, {math.MaxInt, "", ""}, {math.MaxInt, "X", ""}, // past the end
		{-1, "", ""}, {-1, "X", ""}, {-1, "XY", ""}, {math.MinInt, "", ""}, {math.MinInt, "X", ""},
	} {
		d := holding(t, 7, 2, "abcd", "efg")
		want := see(d)
		code := api.ErrArg
		if x.want != "" {
			want.files[2], code = x.want, api.OK
			want.count++
		}
		if err := d.Over(2, x.at, []byte(x.b)); err != code {
			t.Errorf("Over at %d of %q: %d, want %d", x.at, x.b, err, code)
		}
		wantView(t, "Over", d, want)
		wantDurable(t, "Over", d, 2, 4)
		d.Crash(nil)
		wantText(t, "Over, and Crash", d, 2, want.files[2][:4])
	}
	d := holding(t, 4, 2, "abcd", "")
	wantErr(t, "Over without room", d.Over(2, 0, []byte("WXYZ")), api.OK)
	wantText(t, "Over without room", d, 2, "WXYZ")
	wantErr(t, "Over of an empty file", d.Over(3, 0, nil), api.OK)
	wantErr(t, "Over of an empty file", d.Over(3, 0, []byte("a")), api.ErrArg)
}

// refusal is a call that is rejected, and the error that it is rejected with.
type refusal struct {
	call
	err api.Errno
}

// rejected are calls that a disk without room left, whose file 2 has 4 durable bytes and 3 volatile ones, rejects.
func rejected() []refusal {
	return []refusal{
		{write(2, "x"), api.ErrFull}, {write(0, "x"), api.ErrFull},
		{write(-1, ""), api.ErrArg}, {write(files, "x"), api.ErrArg},
		{syncing(-1), api.ErrArg}, {syncing(files), api.ErrArg},
		{cut(2, 8), api.ErrArg}, {cut(2, -1), api.ErrArg}, {cut(-1, 0), api.ErrArg}, {cut(files, 0), api.ErrArg},
		{over(2, 3, "XY"), api.ErrArg}, {over(2, -1, ""), api.ErrArg}, {over(2, 5, ""), api.ErrArg}, {over(-1, 0, ""), api.ErrArg}, {over(files, 0, ""), api.ErrArg},
	}
}

// wantRejected makes all of these calls, none of which changes anything.
func wantRejected(t *testing.T, d *disk.Disk, before view) {
	t.Helper()
	for _, c := range rejected() {
		wantErr(t, c.name, c.do(d), c.err)
		wantView(t, c.name+", rejected", d, before)
	}
}

func TestRejected(t *testing.T) { // P8.2, P8.3, P8.4, P8.5: they change nothing, and are not counted by what is armed
	for _, armed := range []int{-1, 0, 1, 2} {
		d := holding(t, 7, 2, "abcd", "efg")
		want := see(d)
		d.Arm(armed)
		wantRejected(t, d, want)
		for range armed {
			wantErr(t, "Over ahead of the interrupted one", d.Over(2, 0, []byte("A")), api.OK)
			want.files[2] = "Abcdefg"
			want.count++
			wantRejected(t, d, want)
		}
		if armed < 0 {
			wantErr(t, "Over, as nothing is armed", d.Over(2, 0, []byte("A")), api.OK)
			continue
		}
		wantErr(t, "the interrupted one", d.Over(2, 0, []byte("B")), api.ErrDown)
		want.down = true
		wantView(t, "the interrupted one", d, want)
	}
}

func TestInterrupted(t *testing.T) { // P8.4, P8.5
	for _, x := range []struct {
		call
		file    string // the file's bytes then
		count   int    // how much more there is of it
		durable int
	}{
		{write(2, "hi"), "abcdefghi", 1, 4},
		{write(2, ""), "abcdefg", 1, 4},
		{syncing(2), "abcdefg", 0, 4},
		{cut(2, 7), "abcdefg", 0, 4},
		{cut(2, 5), "abcdefg", 0, 4},
		{cut(2, 0), "abcdefg", 0, 4},
		{over(2, 1, "XY"), "abcdefg", 0, 4},
		{over(2, 4, ""), "abcdefg", 0, 4},
	} {
		for kept := range 6 {
			d := holding(t, 9, 2, "abcd", "efg")
			want := see(d)
			d.Arm(0)
			wantView(t, "Arm", d, want)
			wantErr(t, x.name, x.do(d), api.ErrDown)
			want.files[2], want.used, want.down = x.file, len(x.file), true
			want.count += x.count
			wantView(t, x.name+", interrupted", d, want)
			wantErr(t, "again", x.do(d), api.ErrDown)
			wantView(t, x.name+", again", d, want)
			d.Crash([]int{kept})
			want.files[2], want.down = x.file[:min(x.durable+kept, len(x.file))], false
			want.used = len(want.files[2])
			wantView(t, x.name+", and Crash", d, want)
			wantErr(t, "Sync, as nothing is armed", d.Sync(2), api.OK)
		}
	}
}

func TestInterruptedNewFile(t *testing.T) { // P8.5: there, all bytes that are kept are volatile ones of the interrupted Write
	for kept := range 4 {
		d := disk.New(3)
		d.Arm(0)
		wantErr(t, "Write", d.Write(0, []byte("abc")), api.ErrDown)
		wantText(t, "Write", d, 0, "abc")
		d.Crash([]int{kept})
		wantText(t, "Crash", d, 0, "abc"[:kept])
		wantDurable(t, "Crash", d, 0, kept)
	}
}

func TestArm(t *testing.T) { // P8.5
	calls := []call{write(1, "abc"), write(1, ""), syncing(1), over(1, 0, "X"), cut(1, 2), syncing(9), write(8, "z"), cut(8, 0), over(1, 2, "")}
	for n := range len(calls) {
		d, free := disk.New(100), disk.New(100)
		d.Arm(n)
		for _, c := range calls[:n] {
			wantErr(t, c.name+" ahead of the interrupted one", c.do(d), api.OK)
			wantErr(t, c.name+" of a disk that is not armed", c.do(free), api.OK)
			wantView(t, c.name, d, see(free))
		}
		wantErr(t, calls[n].name+", interrupted", calls[n].do(d), api.ErrDown)
		if !d.Down() {
			t.Errorf("Arm(%d): the power is on", n)
		}
		d.Crash(nil)
		for range 20 {
			wantErr(t, "Write after it", d.Write(3, []byte("a")), api.OK)
		}
	}
}

func TestArmAnew(t *testing.T) { // P8.5
	for _, x := range []struct {
		arms []int // an operation stands behind each
		left int   // how many take effect from then on; -1: all
	}{
		{[]int{1, 3}, 2}, {[]int{3, 1}, 0}, {[]int{1, 1, 1, 1}, 0}, {[]int{5, 2}, 1}, // armed anew while armed
		{[]int{3, -1}, -1}, {[]int{1, -1}, -1}, {[]int{2, math.MinInt}, -1}, {[]int{-1}, -1}, {[]int{-7}, -1}, // a negative number
		{[]int{-5, 2}, 1}, {[]int{-1, 1}, 0}, {[]int{math.MaxInt}, -1}, {[]int{math.MaxInt, 1}, 0},
	} {
		d := disk.New(100)
		for _, n := range x.arms {
			d.Arm(n)
			wantErr(t, "Write", d.Write(1, []byte("a")), api.OK)
		}
		if x.left < 0 {
			for range 30 {
				wantErr(t, "Write, as nothing is armed", d.Write(1, []byte("a")), api.OK)
			}
			continue
		}
		for range x.left {
			wantErr(t, "Write", d.Write(1, []byte("a")), api.OK)
		}
		wantErr(t, "Write, interrupted", d.Write(1, []byte("a")), api.ErrDown)
	}
}

func TestArmWithoutPower(t *testing.T) { // P8.5, P8.6: nothing takes effect there, and a Crash leaves nothing armed
	for _, n := range []int{-1, 0, 1, 2, 5} {
		d := holding(t, 100, 1, "abc", "de")
		d.Arm(0)
		wantErr(t, "Sync, interrupted", d.Sync(1), api.ErrDown)
		before := see(d)
		d.Arm(n)
		wantView(t, "Arm", d, before)
		for range 4 {
			wantErr(t, "Write", d.Write(1, []byte("x")), api.ErrDown)
			wantErr(t, "Sync", d.Sync(1), api.ErrDown)
			wantView(t, "operations without power", d, before)
		}
		d.Crash([]int{1})
		wantText(t, "Crash", d, 1, "abcd")
		for range 20 {
			wantErr(t, "Write after it", d.Write(1, []byte("a")), api.OK)
		}
	}
}

func TestCrashDisarms(t *testing.T) { // P8.6
	for n := range 4 {
		d := disk.New(100)
		d.Arm(n)
		d.Crash(nil)
		for range 20 {
			wantErr(t, "Write after it", d.Write(1, []byte("a")), api.OK)
		}
	}
}

func TestWithoutPower(t *testing.T) { // P8.1 ff.: ErrDown stands ahead of all other errors
	d := holding(t, 7, 2, "abcd", "efg")
	d.Arm(0)
	wantErr(t, "Sync, interrupted", d.Sync(2), api.ErrDown)
	want := view{used: 7, room: 7, count: 3, down: true}
	want.files[2] = "abcdefg"
	calls := []call{write(2, ""), write(0, ""), syncing(2), syncing(0), cut(2, 1), cut(2, 7), cut(0, 0), over(2, 0, "X"), over(2, 0, "")}
	for _, c := range rejected() {
		calls = append(calls, c.call)
	}
	for _, c := range calls {
		wantErr(t, c.name+" without power", c.do(d), api.ErrDown)
		wantView(t, c.name+" without power", d, want)
	}
	if b := d.Read(-1); len(b) != 0 {
		t.Errorf("Read of no file: %q", b)
	}
	d.Crash([]int{2})
	want.files[2], want.used, want.down = "abcdef", 6, false
	wantView(t, "Crash", d, want)
}

func TestCrash(t *testing.T) { // P8.6
	for _, x := range []struct {
		keep []int
		want [3]string // of the files 1, 4 and 32; the file 2 has no volatile bytes
	}{
		{nil, [3]string{"", "d", ""}},
		{[]int{}, [3]string{"", "d", ""}},
		{[]int{0, 0, 0}, [3]string{"", "d", ""}},
		{[]int{1}, [3]string{"a", "d", ""}}, // fewer than there are files with volatile bytes
		{[]int{2, 1}, [3]string{"ab", "de", ""}},
		{[]int{0, 0, 1}, [3]string{"", "d", "g"}},
		{[]int{1, 2, 2}, [3]string{"a", "def", "gh"}},
		{[]int{1, 2, 2, 9, 9}, [3]string{"a", "def", "gh"}}, // more
		{[]int{3, 2, 4}, [3]string{"abc", "def", "ghij"}},
		{[]int{4, 3, 5}, [3]string{"abc", "def", "ghij"}}, // above what a file has
		{[]int{math.MaxInt, math.MaxInt, math.MaxInt}, [3]string{"abc", "def", "ghij"}},
		{[]int{-1, 1, -1}, [3]string{"", "de", ""}}, // below 0
		{[]int{math.MinInt, -7, 1}, [3]string{"", "d", "g"}},
	} {
		for _, down := range []bool{false, true} {
			d := disk.New(100)
			wantErr(t, "Write", d.Write(4, []byte("d")), api.OK)
			wantErr(t, "Write", d.Write(2, []byte("xyz")), api.OK)
			wantErr(t, "Sync", d.Sync(4), api.OK)
			wantErr(t, "Sync", d.Sync(2), api.OK)
			wantErr(t, "Write", d.Write(32, []byte("ghij")), api.OK)
			wantErr(t, "Write", d.Write(4, []byte("ef")), api.OK)
			wantErr(t, "Write", d.Write(1, []byte("abc")), api.OK)
			wantErr(t, "Write", d.Write(0, nil), api.OK) // leaves no volatile byte
			if down {
				d.Arm(0)
				wantErr(t, "Sync, interrupted", d.Sync(1), api.ErrDown)
			}
			keep := slices.Clone(x.keep)
			d.Crash(keep)
			want := view{room: 100, count: 8}
			want.files[1], want.files[2], want.files[4], want.files[32] = x.want[0], "xyz", x.want[1], x.want[2]
			want.used = 3 + len(x.want[0]+x.want[1]+x.want[2])
			wantView(t, "Crash", d, want)
			if !slices.Equal(keep, x.keep) {
				t.Errorf("Crash made %v of %v", keep, x.keep)
			}
			d.Crash([]int{0, 0, 0}) // what was kept is durable
			wantView(t, "Crash again", d, want)
			wantDurable(t, "Crash", d, 1, len(x.want[0]))
			wantDurable(t, "Crash", d, 4, len(x.want[1]))
			wantDurable(t, "Crash", d, 32, len(x.want[2]))
		}
	}
}

func TestCrashTakesNoNumber(t *testing.T) { // P8.6: of files without volatile bytes
	d := disk.New(100)
	for f := range files {
		wantErr(t, "Write", d.Write(f, []byte("abcd")), api.OK)
		switch f % 4 {
		case 0:
			wantErr(t, "Sync", d.Sync(f), api.OK)
		case 1:
			wantErr(t, "Cut", d.Cut(f, 3), api.OK)
		case 2:
			wantErr(t, "Cut", d.Cut(f, 0), api.OK)
		}
	}
	before := see(d)
	var keep []int
	for f, s := range before.files {
		if f%4 == 3 && s != "" {
			keep = append(keep, 1+len(keep)%4)
			before.files[f] = s[:keep[len(keep)-1]]
			before.used -= len(s) - len(before.files[f])
		}
	}
	if len(keep) != 8 {
		t.Fatalf("%d files with volatile bytes, want 8", len(keep))
	}
	d.Crash(keep)
	wantView(t, "Crash", d, before)
	d.Crash(nil)
	wantView(t, "Crash again", d, before)
}

func TestDurability(t *testing.T) { // P8.7
	d := disk.New(100)
	wantErr(t, "Write", d.Write(1, []byte("abcd")), api.OK)
	wantErr(t, "Sync", d.Sync(1), api.OK)
	wantErr(t, "Over", d.Over(1, 1, []byte("XY")), api.OK) // what was laid over is durable at once
	wantErr(t, "Write", d.Write(1, []byte("efgh")), api.OK)
	d.Crash(nil)
	wantText(t, "Crash", d, 1, "aXYd")
	wantErr(t, "Write", d.Write(1, []byte("ijkl")), api.OK)
	wantErr(t, "Over", d.Over(1, 3, []byte("Z")), api.OK)
	d.Crash([]int{2})
	wantText(t, "Crash", d, 1, "aXYZij")
	d.Crash([]int{0})
	wantText(t, "Crash", d, 1, "aXYZij")
	wantErr(t, "Write", d.Write(1, []byte("mn")), api.OK)
	d.Arm(0)
	wantErr(t, "Over, interrupted", d.Over(1, 0, []byte("QQQ")), api.ErrDown)
	d.Crash([]int{1})
	wantText(t, "Crash", d, 1, "aXYZijm")
}

// spoil turns all bits of bytes and of the room behind them.
func spoil(b []byte) {
	b = b[:cap(b)]
	for i := range b {
		b[i] ^= 0xff
	}
}

func TestSharesNothing(t *testing.T) { // R3, P8.2, P8.3, P8.4
	d := disk.New(100)
	long := []byte("abcdefgh")
	for _, part := range [][]byte{long[:3], long[3:3], long[2:5]} {
		wantErr(t, "Write", d.Write(1, part), api.OK)
		if string(long) != "abcdefgh" {
			t.Fatalf("Write turned %q", long)
		}
	}
	spoil(long)
	wantText(t, "Write", d, 1, "abccde")
	wantErr(t, "Sync", d.Sync(1), api.OK)
	part := []byte("UVWXYZ")
	wantErr(t, "Over", d.Over(1, 1, part[:2]), api.OK)
	if string(part) != "UVWXYZ" {
		t.Fatalf("Over turned %q", part)
	}
	spoil(part)
	wantText(t, "Over", d, 1, "aUVcde")
	first, second := d.Read(1), d.Read(1)
	spoil(first)
	if string(second) != "aUVcde" {
		t.Errorf("two results share memory: %q", second)
	}
	wantText(t, "Read", d, 1, "aUVcde")
	wantErr(t, "Over of what was read", d.Over(1, 0, second[1:]), api.OK)
	if string(second) != "aUVcde" {
		t.Errorf("Over turned what Read returned: %q", second)
	}
	wantErr(t, "Cut", d.Cut(1, 1), api.OK)
	wantErr(t, "Write", d.Write(1, []byte("12345")), api.OK)
	if string(second) != "aUVcde" {
		t.Errorf("Write turned what Read returned: %q", second)
	}
	spoil(d.Read(1))
	wantText(t, "Read", d, 1, "U12345")
}

func TestKeepIsLeft(t *testing.T) { // R3, P8.6
	d := disk.New(100)
	for f := range 3 {
		wantErr(t, "Write", d.Write(f, []byte("abc")), api.OK)
	}
	keep := []int{-3, 99, 2, 7, 8}
	d.Crash(keep[:2])
	if !slices.Equal(keep, []int{-3, 99, 2, 7, 8}) {
		t.Errorf("Crash turned keep to %v", keep)
	}
	wantText(t, "Crash", d, 0, "")
	wantText(t, "Crash", d, 1, "abc")
	wantText(t, "Crash, behind the numbers", d, 2, "")
}

func TestDisksApart(t *testing.T) { // two disks share nothing
	a, b := disk.New(10), disk.New(10)
	wantErr(t, "Write a", a.Write(1, []byte("abc")), api.OK)
	wantView(t, "b", b, view{room: 10})
	wantErr(t, "Write b", b.Write(1, []byte("0123456789")), api.OK)
	wantErr(t, "Sync b", b.Sync(1), api.OK)
	wantText(t, "a", a, 1, "abc")
	wantDurable(t, "a", a, 1, 0)
	a.Arm(0)
	wantErr(t, "Over b", b.Over(1, 0, []byte("X")), api.OK)
	wantErr(t, "Write a, interrupted", a.Write(1, []byte("d")), api.ErrDown)
	if b.Down() {
		t.Error("the power of b is off")
	}
	wantErr(t, "Cut b", b.Cut(1, 4), api.OK)
	b.Crash(nil)
	if !a.Down() || b.Count() != 4 {
		t.Errorf("a is down: %v, b counts %d", a.Down(), b.Count())
	}
	wantText(t, "a", a, 1, "abcd")
	a.Crash(nil)
	wantText(t, "a", a, 1, "")
	wantText(t, "b", b, 1, "X123")
}

// model is the disk as the chapter words it: what each file has that is durable, and what is volatile.
type model struct {
	durable, volatile [files]string
	room, count       int
	down, armed       bool
	left              int
}

func (m *model) view() view {
	v := view{room: m.room, count: m.count, down: m.down}
	for f := range files {
		v.files[f] = m.durable[f] + m.volatile[f]
		v.used += len(v.files[f])
	}
	return v
}

// run is an operation: why it is rejected, its effect, and whether it has that even if interrupted.
func (m *model) run(reject api.Errno, effect func(), always bool) api.Errno {
	switch {
	case m.down:
		return api.ErrDown
	case reject != api.OK:
		return reject
	case !m.armed || m.left > 0:
		effect()
		m.count++
		m.left--
		return api.OK
	}
	if always {
		effect()
		m.count++
	}
	m.down, m.armed = true, false
	return api.ErrDown
}

func (m *model) write(f int, b string) api.Errno {
	var reject api.Errno
	switch {
	case f < 0 || f > 32:
		reject = api.ErrArg
	case m.view().used+len(b) > m.room:
		reject = api.ErrFull
	}
	return m.run(reject, func() { m.volatile[f] += b }, true)
}

func (m *model) sync(f int) api.Errno {
	var reject api.Errno
	if f < 0 || f > 32 {
		reject = api.ErrArg
	}
	return m.run(reject, func() { m.durable[f], m.volatile[f] = m.durable[f]+m.volatile[f], "" }, false)
}

func (m *model) cut(f, n int) api.Errno {
	var reject api.Errno
	if f < 0 || f > 32 || n < 0 || n > len(m.durable[f]+m.volatile[f]) {
		reject = api.ErrArg
	}
	return m.run(reject, func() { m.durable[f], m.volatile[f] = (m.durable[f] + m.volatile[f])[:n], "" }, false)
}

func (m *model) over(f, at int, b string) api.Errno {
	var reject api.Errno
	if f < 0 || f > 32 || at < 0 || at > len(m.durable[f]) || at+len(b) > len(m.durable[f]) {
		reject = api.ErrArg
	}
	return m.run(reject, func() { m.durable[f] = m.durable[f][:at] + b + m.durable[f][at+len(b):] }, false)
}

func (m *model) crash(keep []int) {
	next := 0
	for f := range files {
		if m.volatile[f] == "" {
			continue
		}
		kept := 0
		if next < len(keep) {
			kept = keep[next]
		}
		next++
		kept = max(0, min(kept, len(m.volatile[f])))
		m.durable[f], m.volatile[f] = m.durable[f]+m.volatile[f][:kept], ""
	}
	m.down, m.armed = false, false
}

// walker makes a disk and its model do the same, of its own choice.
type walker struct {
	*rand.Rand
	d     *disk.Disk
	m     *model
	files []int
}

func (w walker) file() int { return w.files[w.IntN(len(w.files))] }

func (w walker) bytes() string {
	b := make([]byte, w.IntN(12))
	for i := range b {
		b[i] = byte(w.Uint32())
	}
	return string(b)
}

// step does one thing, and returns what the disk and the model say of it.
func (w walker) step() (what string, got, want api.Errno) {
	f, n, b := w.file(), w.IntN(40)-2, w.bytes()
	switch w.IntN(12) {
	case 0, 1, 2, 3:
		return "Write", w.d.Write(f, []byte(b)), w.m.write(f, b)
	case 4, 5:
		return "Sync", w.d.Sync(f), w.m.sync(f)
	case 6:
		return "Cut", w.d.Cut(f, n), w.m.cut(f, n)
	case 7, 8, 9:
		return "Over", w.d.Over(f, n, []byte(b)), w.m.over(f, n, b)
	case 10:
		n = w.IntN(8) - 1
		w.d.Arm(n)
		w.m.armed, w.m.left = n >= 0, n
		return "Arm", 0, 0
	}
	keep := make([]int, w.IntN(5))
	for i := range keep {
		keep[i] = w.IntN(16) - 2
	}
	w.d.Crash(keep)
	w.m.crash(keep)
	return "Crash", 0, 0
}

func TestWalks(t *testing.T) { // P8.1 to P8.8: many calls, each held against the chapter's words
	for seed := range uint64(300) {
		r := rand.New(rand.NewPCG(seed, 8))
		w := walker{Rand: r, files: []int{0, 1, 2, 17, 32, 32, 1, -1, 33}}
		room := r.IntN(150)
		w.d, w.m = disk.New(room), &model{room: room}
		for i := range 400 {
			before, lasting := see(w.d).files, w.m.durable
			what, got, want := w.step()
			if got != want {
				t.Fatalf("walk %d, step %d: %s: %d, want %d", seed, i, what, got, want)
			}
			after := see(w.d)
			if after != w.m.view() {
				t.Fatalf("walk %d, step %d: %s: %v, want %v", seed, i, what, after, w.m.view())
			}
			if after.used > after.room {
				t.Fatalf("walk %d, step %d: %s: %d used of %d", seed, i, what, after.used, after.room)
			}
			for f := range files {
				if what == "Crash" && !strings.HasPrefix(before[f], after.files[f]) {
					t.Fatalf("walk %d, step %d: Crash made %q of %q", seed, i, after.files[f], before[f])
				}
				if what != "Cut" && what != "Over" && !strings.HasPrefix(after.files[f], lasting[f]) {
					t.Fatalf("walk %d, step %d: %s made %q of the durable %q", seed, i, what, after.files[f], lasting[f])
				}
			}
		}
	}
}

func TestLargest(t *testing.T) { // P8.1, P8.8: as many bytes as a disk may have, over all of its files
	d := disk.New(math.MaxInt)
	part := bytes.Repeat([]byte{7}, api.MaxRoom/files)
	for f := range files {
		wantErr(t, "Write", d.Write(f, part), api.OK)
	}
	left := api.MaxRoom - d.Used()
	wantErr(t, "Write of one too many", d.Write(3, make([]byte, left+1)), api.ErrFull)
	wantErr(t, "Write of what is left", d.Write(3, make([]byte, left)), api.OK)
	if d.Used() != api.MaxRoom {
		t.Errorf("%d used, want %d", d.Used(), api.MaxRoom)
	}
	for f := range files {
		wantErr(t, "Write of one more", d.Write(f, []byte{1}), api.ErrFull)
	}
}
