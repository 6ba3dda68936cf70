package wal_test

import (
	"bytes"
	"encoding/binary"
	"fmt"
	"hash/crc32"
	"math"
	"math/rand/v2"
	"slices"
	"testing"

	"sealery/api"
	"sealery/disk"
	"sealery/wal"
)

const (
	files    = api.MaxSegs + 1
	headSize = 17 // bytes of a segment's head
	around   = 9  // bytes of a frame beside its body
	maxBody  = 2022
)

// encoding is a frame's bytes, of any kind and body, without layer 9.
func encoding(kind byte, body []byte) []byte {
	b := binary.BigEndian.AppendUint32([]byte{kind}, uint32(len(body)))
	b = append(b, body...)
	return binary.BigEndian.AppendUint32(b, crc32.ChecksumIEEE(b))
}

func number(n int) []byte { return binary.BigEndian.AppendUint64(nil, uint64(n)) }

// headOf is a segment's head.
func headOf(seg int) []byte { return encoding(255, number(seg)) }

// noise is bytes without a pattern, the same for the same seed.
func noise(seed, n int) []byte {
	r := rand.New(rand.NewPCG(uint64(seed), 10))
	b := make([]byte, n)
	for i := range b {
		b[i] = byte(r.Uint32())
	}
	return b
}

// row is a row, and encodings is what rows are on the disk.
func row(kind, seed, n int) api.Frame { return api.Frame{Kind: kind, Body: noise(seed, n)} }

func encodings(rows ...api.Frame) []byte {
	var b []byte
	for _, r := range rows {
		b = append(b, encoding(byte(r.Kind), r.Body)...)
	}
	return b
}

func joined(parts ...[]byte) []byte { return slices.Concat(parts...) }

// told is rows in few words.
func told(rows []api.Frame) string {
	s := fmt.Sprint(len(rows), " rows")
	for _, r := range rows {
		s += fmt.Sprintf(" %d:%d:%08X", r.Kind, len(r.Body), crc32.ChecksumIEEE(r.Body))
	}
	return s
}

func sameRows(a, b []api.Frame) bool {
	return slices.EqualFunc(a, b, func(f, g api.Frame) bool { return f.Kind == g.Kind && bytes.Equal(f.Body, g.Body) })
}

func wantRows(t *testing.T, what string, got, want []api.Frame) {
	t.Helper()
	if !sameRows(got, want) {
		t.Fatalf("%s: %s, want %s", what, told(got), told(want))
	}
}

func wantErr(t *testing.T, what string, got, want api.Errno) {
	t.Helper()
	if got != want {
		t.Fatalf("%s: %d, want %d", what, got, want)
	}
}

func wantSeg(t *testing.T, what string, l *wal.Log, want int) {
	t.Helper()
	if l.Seg() != want {
		t.Fatalf("%s: segment %d, want %d", what, l.Seg(), want)
	}
}

// view is what a disk tells without being turned.
type view struct {
	files             [files]string
	used, room, count int
	down              bool
}

// String leaves out what the bytes are.
func (v view) String() string {
	s := fmt.Sprintf("%d of %d used, %d operations, down: %v", v.used, v.room, v.count, v.down)
	for f, b := range v.files {
		if b != "" {
			s += fmt.Sprintf(", %d: %d bytes %08X", f, len(b), crc32.ChecksumIEEE([]byte(b)))
		}
	}
	return s
}

func see(d *disk.Disk) view {
	v := view{used: d.Used(), room: d.Room(), count: d.Count(), down: d.Down()}
	for f := range files {
		v.files[f] = string(d.Read(f))
	}
	return v
}

func wantView(t *testing.T, what string, d *disk.Disk, want view) {
	t.Helper()
	if got := see(d); got != want {
		t.Fatalf("%s: %v, want %v", what, got, want)
	}
}

// wantCount is how many operations there were since a view.
func wantCount(t *testing.T, what string, d *disk.Disk, since view, want int) {
	t.Helper()
	if got := d.Count() - since.count; got != want {
		t.Fatalf("%s: %d operations, want %d", what, got, want)
	}
}

// contents are a disk's files: what is durable, and what is volatile behind it.
type contents [files]struct{ durable, volatile []byte }

// disk is a disk that holds them.
func (c contents) disk(t *testing.T, room int) *disk.Disk {
	t.Helper()
	d := disk.New(room)
	for f, x := range c {
		wantErr(t, "the test's Write", d.Write(f, x.durable), api.OK)
		wantErr(t, "the test's Sync", d.Sync(f), api.OK)
		wantErr(t, "the test's Write", d.Write(f, x.volatile), api.OK)
	}
	return d
}

// hold lets a file have bytes, of which so many are durable.
func (c *contents) hold(f int, b []byte, durable int) {
	durable = min(durable, len(b))
	c[f].durable, c[f].volatile = b[:durable], b[durable:]
}

func open(t *testing.T, what string, d *disk.Disk) (*wal.Log, []api.Frame) {
	t.Helper()
	l, rows, err := wal.Open(d)
	if err != api.OK || l == nil {
		t.Fatalf("%s: %v, %d, want a log, OK", what, l, err)
	}
	return l, rows
}

// opened is a log on a new disk.
func opened(t *testing.T, room int) (*disk.Disk, *wal.Log) {
	t.Helper()
	d := disk.New(room)
	l, rows := open(t, "a new disk", d)
	wantRows(t, "a new disk", rows, nil)
	return d, l
}

func put(t *testing.T, l *wal.Log, r api.Frame) {
	t.Helper()
	wantErr(t, fmt.Sprintf("Append %d of %d bytes", r.Kind, len(r.Body)), l.Append(r.Kind, r.Body), api.OK)
}

// wantDown holds that a log is dead: whatever is asked, ErrDown comes, and nothing is done.
func wantDown(t *testing.T, what string, d *disk.Disk, l *wal.Log) {
	t.Helper()
	before, seg := see(d), l.Seg()
	for range 2 {
		for _, kind := range []int{1, 0, 255, -1} {
			for _, n := range []int{0, 5, maxBody, maxBody + 1} {
				wantErr(t, what+": Append", l.Append(kind, make([]byte, n)), api.ErrDown)
			}
		}
		wantErr(t, what+": Sync", l.Sync(), api.ErrDown)
	}
	wantView(t, what, d, before)
	wantSeg(t, what, l, seg)
}

func TestExamples(t *testing.T) { // the chapter's examples, in sequence
	d, l := opened(t, api.MaxRoom)
	wantSeg(t, "Open", l, 0)
	put(t, l, api.Frame{Kind: 1, Body: []byte("ab")})
	wantSeg(t, "Append", l, 1)
	wantErr(t, "Append 0", l.Append(0, nil), api.ErrKind)
	wantErr(t, "Append 255", l.Append(255, nil), api.ErrKind)
	wantErr(t, "Append 1 of 2023 bytes", l.Append(1, make([]byte, 2023)), api.ErrLong)
	put(t, l, row(2, 1, 2012))
	wantSeg(t, "Append 2 of 2012 bytes", l, 2)
	put(t, l, row(2, 2, 1))
	wantSeg(t, "Append 2 of 1 byte", l, 2)
	put(t, l, row(3, 3, 1))
	wantSeg(t, "Append 3 of 1 byte", l, 3)
	d.Crash(nil)
	l, rows := open(t, "Open", d)
	wantRows(t, "Open", rows, []api.Frame{{Kind: 1, Body: []byte("ab")}, row(2, 1, 2012), row(2, 2, 1)})
	wantSeg(t, "Open", l, 2)
}

func TestOpenNew(t *testing.T) { // P10.1: no operation is done
	for _, room := range []int{0, 1, 26, 1000, api.MaxRoom} {
		d := disk.New(room)
		d.Arm(0)
		before := see(d)
		for range 2 {
			l, rows := open(t, "a new disk", d)
			wantRows(t, "a new disk", rows, nil)
			wantSeg(t, "a new disk", l, 0)
		}
		wantView(t, "a new disk", d, before)
		wantErr(t, "what was armed is armed still", d.Sync(0), api.ErrDown)
	}
}

func TestOpenWithoutPower(t *testing.T) { // P10.1
	var none, whole, torn, other contents
	whole.hold(1, joined(headOf(1), encodings(row(1, 1, 5))), 20)
	torn.hold(1, joined(headOf(1), encodings(row(1, 1, 5)), []byte("torn")), 20)
	torn.hold(2, []byte("not a head"), 3)
	other.hold(7, []byte("something"), 3)
	for i, c := range []contents{none, whole, torn, other} {
		d := c.disk(t, 1000)
		d.Arm(0)
		wantErr(t, "the test's Sync", d.Sync(0), api.ErrDown)
		before := see(d)
		for range 2 {
			if l, rows, err := wal.Open(d); l != nil || rows != nil || err != api.ErrDown {
				t.Errorf("disk %d: %v, %v, %d, want nothing, ErrDown", i, l, rows, err)
			}
		}
		wantView(t, "without power", d, before)
	}
}

// piece is what a segment may hold: whether it begins with its head, the rows behind that, and how many bytes belong to the log.
type piece struct {
	name   string
	b      []byte
	headed bool
	rows   []api.Frame
	kept   int
}

// unheaded are pieces that do not begin with the segment's head.
func unheaded(seg int) []piece {
	r := encodings(row(1, 1, 3))
	turned := headOf(seg)
	turned[headSize-1] ^= 1
	all := map[string][]byte{
		"no frame":                  noise(seg, 40),
		"zeros":                     make([]byte, 40),
		"a row":                     r,
		"a row ahead of the head":   joined(r, headOf(seg)),
		"a byte ahead of the head":  joined([]byte{7}, headOf(seg)),
		"the next one's head":       joined(headOf(seg+1), r),
		"the one's ahead":           joined(headOf(seg-1), r),
		"the head of a segment 0":   joined(headOf(0), r),
		"a head below 0":            joined(headOf(-seg), r),
		"a head 256 above":          joined(headOf(seg+256), r),
		"a head 2^32 above":         joined(headOf(seg+1<<32), r),
		"a head 2^63 off":           joined(headOf(seg+math.MinInt), r),
		"another head, then its":    joined(headOf(seg+1), headOf(seg), r),
		"kind 254":                  joined(encoding(254, number(seg)), r),
		"kind 1":                    joined(encoding(1, number(seg)), r),
		"kind 0":                    joined(encoding(0, number(seg)), r),
		"a longer body":             joined(encoding(255, append(number(seg), 0)), r),
		"a longer body at its left": joined(encoding(255, joined([]byte{0}, number(seg))), r),
		"two numbers":               joined(encoding(255, joined(number(seg), number(seg))), r),
		"a shorter body":            joined(encoding(255, number(seg)[:7]), r),
		"a shorter body, its right": joined(encoding(255, number(seg)[1:]), r),
		"a body of one byte":        joined(encoding(255, []byte{byte(seg)}), r),
		"no body":                   joined(encoding(255, nil), r),
		"the lowest byte first":     joined(encoding(255, binary.LittleEndian.AppendUint64(nil, uint64(seg))), r),
		"a text":                    joined(encoding(255, []byte(fmt.Sprint(seg))), r),
		"a head with a turned sum":  joined(turned, r),
	}
	ps := []piece{{name: "no byte"}}
	for name, b := range all {
		ps = append(ps, piece{name: name, b: b})
	}
	for n := range headSize {
		ps = append(ps, piece{name: fmt.Sprint(n, " bytes of a head"), b: headOf(seg)[:n]})
	}
	return ps
}

// headed are pieces that begin with the segment's head; some hold more behind the log's end.
func headed(seg int) []piece {
	one, two, three := row(1, 1, 3), row(254, 2, 0), row(9, 3, 500)
	again := api.Frame{Kind: 255, Body: number(seg)}
	next := api.Frame{Kind: 255, Body: number(seg + 1)}
	large := row(4, 4, 2039)
	turned := encodings(two)
	turned[len(turned)-1] ^= 128
	off := encodings(three)
	off[100] ^= 1
	var ps []piece
	add := func(name string, behind []byte, rows ...api.Frame) {
		b := joined(headOf(seg), encodings(rows...))
		ps = append(ps, piece{name, joined(b, behind), true, rows, len(b)})
	}
	add("the head", nil)
	add("rows", nil, one, two, three)
	add("rows of kind 255", nil, again, one, next, again, row(255, 5, 0), row(255, 6, 9))
	add("more than a segment's bytes", nil, large, one, large)
	for n := range len(encodings(one)) {
		add(fmt.Sprint(n, " bytes of a row"), encodings(one)[:n])
		add(fmt.Sprint(n, " bytes of a third row"), encodings(one)[:n], three, two)
	}
	add("kind 0", joined(encoding(0, []byte("body")), encodings(one)))
	add("kind 0 behind a row", joined(encoding(0, nil), encodings(two)), one)
	add("a zero", []byte{0}, one, one)
	add("a sum that is turned", joined(turned, encodings(three)), one)
	add("a body that is turned", joined(off, encodings(one)), two, one)
	add("a body that is too long", joined(encoding(1, make([]byte, 2040)), encodings(one)), one)
	add("no frame", noise(3, 700), three)
	return ps
}

// opening is what Open is to do with a disk: its rows, the segment in which the log ends, and its calls of the disk.
type opening struct {
	rows  []api.Frame
	seg   int
	calls []func(d *disk.Disk) api.Errno
}

func (o *opening) cut(f, n int) {
	o.calls = append(o.calls, func(d *disk.Disk) api.Errno { return d.Cut(f, n) })
}

func (o *opening) sync(f int) {
	o.calls = append(o.calls, func(d *disk.Disk) api.Errno { return d.Sync(f) })
}

// wantOpening opens a disk that holds this, with the power failing at each of the calls, and behind them; a second disk is called as it should be.
func wantOpening(t *testing.T, what string, c contents, o opening) {
	t.Helper()
	for n := range len(o.calls) + 1 {
		d, twin := c.disk(t, api.MaxRoom), c.disk(t, api.MaxRoom)
		d.Arm(n)
		twin.Arm(n)
		l, rows, err := wal.Open(d)
		for _, call := range o.calls {
			call(twin)
		}
		wantView(t, what, d, see(twin))
		if n < len(o.calls) {
			if l != nil || rows != nil || err != api.ErrDown {
				t.Fatalf("%s, power for %d operations: %v, %v, %d, want nothing, ErrDown", what, n, l, rows, err)
			}
		} else {
			wantErr(t, what, err, api.OK)
			wantRows(t, what, rows, o.rows)
			wantSeg(t, what, l, o.seg)
			wantReopening(t, what, c, o)
		}
		d.Crash(nil) // what is left is what was durable
		twin.Crash(nil)
		wantView(t, what+", then a crash", d, see(twin))
	}
}

// wantReopening opens a disk twice: P10.6. Then the log goes on behind its rows.
func wantReopening(t *testing.T, what string, c contents, o opening) {
	t.Helper()
	d := c.disk(t, api.MaxRoom)
	open(t, what, d)
	first := see(d)
	l, rows := open(t, what+", again", d)
	wantRows(t, what+", again", rows, o.rows)
	wantSeg(t, what+", again", l, o.seg)
	if see(d).files != first.files {
		t.Fatalf("%s: opening again changed the files: %v, want %v", what, see(d), first)
	}
	wantCount(t, what+", again", d, first, min(o.seg, 1)) // a Sync, if there is a segment
	more := row(77, 7, 30)
	if err := l.Append(more.Kind, more.Body); o.seg == api.MaxSegs && err == api.ErrFull {
		return
	} else {
		wantErr(t, what+", Append", err, api.OK)
	}
	_, rows = open(t, what+", with a row more", d) // no crash: others' segments may be volatile, as no log lets them be
	wantRows(t, what+", with a row more", rows, joinedRows(o.rows, more))
}

func joinedRows(rows []api.Frame, more ...api.Frame) []api.Frame { return slices.Concat(rows, more) }

// later lets segments behind one hold something in one of several ways; the rows are those of a log that goes on there, or nil where none does.
func later(seg, way int) (map[int][]byte, []api.Frame, int) {
	held := map[int][]byte{}
	switch {
	case way == 1 && seg+2 < api.MaxSegs: // a log's bytes, that are none, as the next segment has none
		held[seg+2] = joined(headOf(seg+2), encodings(row(8, 8, 8)))
		held[api.MaxSegs] = []byte("x")
	case way == 2 && seg < api.MaxSegs: // all have bytes, the next is another's
		for s := seg + 1; s <= api.MaxSegs; s++ {
			held[s] = joined(headOf(s-1), noise(s, 3*s))
		}
	case way == 3 && seg < api.MaxSegs: // all go on
		var rows []api.Frame
		for s := seg + 1; s <= api.MaxSegs; s++ {
			r := row(s, s, s)
			held[s] = joined(headOf(s), encodings(r))
			rows = append(rows, r)
		}
		return held, rows, api.MaxSegs
	}
	return held, nil, seg
}

// ahead lets all segments ahead of one be whole, and returns their rows.
func ahead(c *contents, seg int) []api.Frame {
	var rows []api.Frame
	for s := 1; s < seg; s++ {
		r := row(s, -s, s%3)
		c.hold(s, joined(headOf(s), encodings(r)), 5*s)
		rows = append(rows, r)
	}
	return rows
}

func TestOpenWhateverBytes(t *testing.T) { // P10.1, and P10.6 with each
	for _, seg := range []int{1, 2, 30, 31, 32} {
		for _, p := range append(unheaded(seg), headed(seg)...) {
			for way := range 4 {
				for _, durable := range []int{0, 20, 5000} {
					openWhatever(t, seg, p, way, durable)
				}
			}
		}
	}
}

// openWhatever opens a disk whose segment seg holds a piece, with such segments ahead of it and behind.
func openWhatever(t *testing.T, seg int, p piece, way, durable int) {
	t.Helper()
	var c contents
	c.hold(0, []byte("the vault's bytes"), 9)
	var o opening
	o.rows = ahead(&c, seg)
	o.seg = seg - 1
	c.hold(seg, p.b, durable)
	behind, more, last := later(seg, way)
	for s, b := range behind {
		c.hold(s, b, durable)
	}
	if p.headed {
		o.rows, o.seg = joinedRows(o.rows, p.rows...), seg
		if p.kept == len(p.b) {
			o.rows, o.seg = joinedRows(o.rows, more...), last
		} else {
			o.cut(seg, p.kept)
		}
	} else if len(p.b) > 0 {
		o.cut(seg, 0)
	}
	for s := max(seg, o.seg) + 1; s <= api.MaxSegs; s++ {
		if len(behind[s]) > 0 {
			o.cut(s, 0)
		}
	}
	if o.seg > 0 {
		o.sync(o.seg)
	}
	wantOpening(t, fmt.Sprintf("segment %d: %s, behind it way %d, %d durable", seg, p.name, way, durable), c, o)
}

func TestOpenWithoutRoom(t *testing.T) { // P10.1: no room is needed
	var c contents
	b := joined(headOf(1), encodings(row(1, 1, 5)))
	c.hold(1, b, 4)
	d := c.disk(t, len(b))
	l, rows := open(t, "a full disk", d)
	wantRows(t, "a full disk", rows, []api.Frame{row(1, 1, 5)})
	wantErr(t, "Append", l.Append(1, nil), api.ErrFull)
	wantErr(t, "Sync", l.Sync(), api.OK)
}

func TestAppendKinds(t *testing.T) { // P10.2
	for _, kind := range []int{math.MinInt, math.MinInt + 1, -1 << 32, -256, -255, -254, -2, -1, 0, 255, 256, 257, 510, 511, 1 << 8, 1<<16 + 1, 1 << 32, 1<<32 + 1, math.MaxInt} {
		d, l := opened(t, 1000)
		for _, begun := range []bool{false, true} {
			if begun {
				put(t, l, row(1, 1, 1))
			}
			before, seg := see(d), l.Seg()
			wantErr(t, fmt.Sprint("Append ", kind), l.Append(kind, []byte("body")), api.ErrKind)
			wantView(t, "no kind", d, before)
			wantSeg(t, "no kind", l, seg)
		}
	}
	d, l := opened(t, api.MaxRoom)
	var want []api.Frame
	for kind := 1; kind <= 254; kind++ {
		want = append(want, row(kind, kind, kind%11))
		put(t, l, want[kind-1])
	}
	wantErr(t, "Sync", l.Sync(), api.OK)
	d.Crash(nil)
	_, rows := open(t, "all kinds", d)
	wantRows(t, "all kinds", rows, want)
}

func TestAppendBodies(t *testing.T) { // P10.2: each length, alone on a disk
	for n := range maxBody + 1 {
		d, l := opened(t, 4000)
		r := row(1+n%254, n, n)
		put(t, l, r)
		wantSeg(t, "one row", l, 1)
		if got, want := d.Read(1), joined(headOf(1), encodings(r)); !bytes.Equal(got, want) || d.Used() != len(want) {
			t.Fatalf("%d bytes: %x, want %x", n, got, want)
		}
	}
	for _, n := range []int{maxBody + 1, maxBody + 2, 2030, 2031, 2032, 2039, 2040, 2048, 5000, 1 << 16, api.MaxRoom, api.MaxRoom + 1} {
		d, l := opened(t, api.MaxRoom)
		for range 2 {
			before, seg := see(d), l.Seg()
			wantErr(t, fmt.Sprint(n, " bytes"), l.Append(1, make([]byte, n)), api.ErrLong)
			wantView(t, "too long", d, before)
			wantSeg(t, "too long", l, seg)
			put(t, l, row(1, 1, 1))
		}
	}
}

func TestErrorOrder(t *testing.T) { // P10.2: ErrDown, ErrKind, ErrLong, ErrFull
	d, l := opened(t, 20)
	before := see(d)
	for _, x := range []struct {
		kind, n int
		want    api.Errno
	}{
		{0, 0, api.ErrKind}, {255, maxBody + 1, api.ErrKind}, {256, maxBody, api.ErrKind}, {-1, 5000, api.ErrKind},
		{1, maxBody + 1, api.ErrLong}, {254, api.MaxRoom + 1, api.ErrLong}, {1, maxBody, api.ErrFull}, {254, 0, api.ErrFull},
	} {
		wantErr(t, fmt.Sprintf("Append %d of %d bytes", x.kind, x.n), l.Append(x.kind, make([]byte, x.n)), x.want)
	}
	wantView(t, "errors", d, before)
	d.Arm(0)
	wantErr(t, "errors leave what is armed", l.Append(1, nil), api.ErrFull)
	wantErr(t, "the test's Sync", d.Sync(0), api.ErrDown)
	wantDown(t, "without power", d, l)
	d, l = filled(t)
	wantErr(t, "a full log", l.Append(0, nil), api.ErrKind)
	wantErr(t, "a full log", l.Append(1, make([]byte, maxBody+1)), api.ErrLong)
	d.Arm(0)
	wantErr(t, "a full log", l.Append(1, nil), api.ErrFull)
	wantErr(t, "a full log", l.Sync(), api.ErrDown)
	wantDown(t, "a full log", d, l)
}

// filled is a log whose last segment is full, as are all others.
func filled(t *testing.T) (*disk.Disk, *wal.Log) {
	t.Helper()
	d, l := opened(t, api.MaxRoom)
	for s := range api.MaxSegs {
		put(t, l, row(1, s, maxBody))
		wantSeg(t, "a full segment", l, s+1)
	}
	return d, l
}

func TestFits(t *testing.T) { // P10.2: a frame that just fits, and one that is one byte too long
	for _, size := range []int{0, 1, 100, 1000, 2000, 2012, 2013} {
		for over := range 3 {
			d, l := opened(t, api.MaxRoom)
			first, second := row(1, 1, size), row(2, 2, maxBody-size-around+over)
			put(t, l, first)
			put(t, l, second)
			one, two := joined(headOf(1), encodings(first)), []byte(nil)
			if over == 0 {
				one = joined(one, encodings(second))
				wantSeg(t, "it just fits", l, 1)
			} else {
				two = joined(headOf(2), encodings(second))
				wantSeg(t, "one byte too long", l, 2)
			}
			if !bytes.Equal(d.Read(1), one) || !bytes.Equal(d.Read(2), two) || d.Used() != len(one)+len(two) {
				t.Errorf("rows of %d and %d bytes: segments of %d and %d bytes, want %d and %d", len(first.Body), len(second.Body), len(d.Read(1)), len(d.Read(2)), len(one), len(two))
			}
		}
	}
	d, l := opened(t, api.MaxRoom) // a body of 2013 bytes leaves no room for an empty one's frame, but 2012 leaves just that
	put(t, l, row(1, 1, 2014))
	put(t, l, row(1, 2, 0))
	wantSeg(t, "no room for an empty body", l, 2)
	if len(d.Read(1)) != api.MaxSeg-8 || len(d.Read(2)) != headSize+around {
		t.Errorf("segments of %d and %d bytes", len(d.Read(1)), len(d.Read(2)))
	}
}

func TestSegmentThatIsTooLong(t *testing.T) { // P10.2: others wrote a segment of more than MaxSeg bytes; nothing fits behind them
	for _, n := range []int{maxBody, maxBody + 1, 2039} {
		var c contents
		c.hold(1, joined(headOf(1), encodings(row(1, 1, n))), 0)
		d := c.disk(t, api.MaxRoom)
		l, rows := open(t, "too long", d)
		wantRows(t, "too long", rows, []api.Frame{row(1, 1, n)})
		before := d.Read(1)
		put(t, l, row(2, 2, 0))
		wantSeg(t, "too long", l, 2)
		if !bytes.Equal(d.Read(1), before) {
			t.Errorf("%d bytes: the segment became %d bytes", n, len(d.Read(1)))
		}
	}
}

func TestLastSegment(t *testing.T) { // P10.2: it is full, then not just full
	d, l := filled(t)
	before := see(d)
	for _, n := range []int{0, 1, maxBody} {
		wantErr(t, "a full log", l.Append(1, make([]byte, n)), api.ErrFull)
	}
	wantView(t, "a full log", d, before)
	wantSeg(t, "a full log", l, api.MaxSegs)
	wantErr(t, "Sync", l.Sync(), api.OK)
	d.Crash(nil)
	l, rows := open(t, "a full log", d)
	if len(rows) != api.MaxSegs {
		t.Errorf("%d rows", len(rows))
	}
	wantErr(t, "opened again", l.Append(254, nil), api.ErrFull)

	d, l = opened(t, api.MaxRoom)
	for s := range api.MaxSegs - 1 {
		put(t, l, row(1, s, maxBody))
	}
	put(t, l, row(2, 2, maxBody-around-3))
	before = see(d)
	wantErr(t, "one byte too many", l.Append(3, make([]byte, 4)), api.ErrFull)
	wantView(t, "one byte too many", d, before)
	put(t, l, row(3, 3, 3))
	wantSeg(t, "the last segment", l, api.MaxSegs)
	if len(d.Read(api.MaxSegs)) != api.MaxSeg {
		t.Errorf("the last segment has %d bytes", len(d.Read(api.MaxSegs)))
	}
	wantErr(t, "nothing is left", l.Append(3, nil), api.ErrFull)
}

func TestRoom(t *testing.T) { // P10.2: just what is to be written, and one byte less
	for _, size := range []int{0, 1, 300, maxBody} {
		for _, vault := range []int{0, 7, 2560} { // bytes of another file count, too
			for less := range 3 {
				r := row(5, size, size)
				d := disk.New(vault + headSize + around + size - less)
				wantErr(t, "the test's Write", d.Write(0, make([]byte, vault)), api.OK)
				l, _ := open(t, "some room", d)
				wantAppend(t, d, l, r, less == 0, 0, 1, 2)
			}
		}
	}
}

// wantAppend appends a row that has, or has not, room on the disk; then so many operations are done.
func wantAppend(t *testing.T, d *disk.Disk, l *wal.Log, r api.Frame, room bool, before, after, count int) {
	t.Helper()
	wantSeg(t, "ahead", l, before)
	was := see(d)
	if !room {
		d.Arm(0)
		wantErr(t, "without room", l.Append(r.Kind, r.Body), api.ErrFull)
		d.Arm(-1)
		wantView(t, "without room", d, was)
		wantSeg(t, "without room", l, before)
		return
	}
	put(t, l, r)
	wantCount(t, "with room", d, was, count)
	wantSeg(t, "with room", l, after)
	if d.Used() != d.Room() {
		t.Fatalf("%d of %d used", d.Used(), d.Room())
	}
}

func TestRoomBehindRows(t *testing.T) { // P10.2: without a head, and with the next segment's
	for less := range 2 {
		first, second := row(1, 1, 1000), row(2, 2, 500)
		d, l := opened(t, headSize+around+1000+around+500-less)
		put(t, l, first)
		wantAppend(t, d, l, second, less == 0, 1, 1, 1)

		third := row(3, 3, 1014) // one byte too many for the segment
		d, l = opened(t, headSize+around+1000+headSize+around+1014-less)
		put(t, l, first)
		wantAppend(t, d, l, third, less == 0, 1, 2, 3)
		if less > 0 { // a row that is shorter, or that needs no head, still has room
			put(t, l, row(4, 4, 1013))
			wantSeg(t, "without a head", l, 1)
		}
		d.Crash(nil)
		_, rows := open(t, "a crash", d)
		wantRows(t, "a crash", rows, []api.Frame{first}[:1-less]) // where there was no room, nothing was synced
	}
}

func TestSyncAhead(t *testing.T) { // P10.2: the segment ahead is synced when a new one begins, and only then
	d, l := opened(t, api.MaxRoom)
	var want []api.Frame
	for i := range 12 {
		r := row(1+i, i, 600)
		before, seg := see(d), l.Seg()
		put(t, l, r)
		switch i % 3 {
		case 0:
			wantSeg(t, "a new segment", l, seg+1)
			wantCount(t, "a new segment", d, before, 2+min(i, 1)) // a Sync, if there is one ahead; two Writes
			lost := again(t, d)
			_, rows := open(t, "a crash", lost)
			wantRows(t, "a crash", rows, want)
		default:
			wantSeg(t, "the same segment", l, seg)
			wantCount(t, "the same segment", d, before, 1)
		}
		want = append(want, r)
	}
}

// again is a disk that had the same calls as that of TestSyncAhead, up to now, and then crashed; the first one goes on.
func again(t *testing.T, d *disk.Disk) *disk.Disk {
	t.Helper()
	twin, l := opened(t, api.MaxRoom)
	for i := 0; twin.Count() < d.Count(); i++ {
		put(t, l, row(1+i, i, 600))
	}
	wantView(t, "the same calls", twin, see(d))
	twin.Crash(nil)
	return twin
}

func TestSync(t *testing.T) { // P10.3
	d, l := opened(t, api.MaxRoom)
	want := []api.Frame{row(1, 1, 10), row(2, 2, 20)}
	for i, r := range want {
		put(t, l, r)
		for range 2 { // the second time, there is nothing volatile
			before := see(d)
			wantErr(t, "Sync", l.Sync(), api.OK)
			wantCount(t, "Sync", d, before, 1)
			if see(d).files != before.files {
				t.Errorf("Sync changed the files: %v, want %v", see(d), before)
			}
		}
		d.Crash(nil)
		var rows []api.Frame
		l, rows = open(t, "a crash", d)
		wantRows(t, "a crash", rows, want[:i+1])
	}
	put(t, l, row(3, 3, 30))
	d.Crash(nil)
	_, rows := open(t, "no Sync", d)
	wantRows(t, "no Sync", rows, want)
}

func TestSyncOfNone(t *testing.T) { // P10.3: a log that ends in no segment syncs nothing
	var c contents
	c.hold(0, []byte("the vault's bytes"), 9)
	d := c.disk(t, 1000)
	l, _ := open(t, "no segment", d)
	before := see(d)
	d.Arm(0)
	for range 3 {
		wantErr(t, "Sync", l.Sync(), api.OK)
	}
	wantView(t, "Sync", d, before)
	wantErr(t, "it is armed still", d.Cut(0, 0), api.ErrDown)
	wantDown(t, "without power", d, l)
	wantSeg(t, "without power", l, 0)
}

func TestOthersFiles(t *testing.T) { // P10.1 to P10.3: the vault's file stays as it is, volatile bytes too
	var c contents
	c.hold(0, []byte("the vault's bytes"), 9)
	d := c.disk(t, api.MaxRoom)
	l, _ := open(t, "a vault", d)
	for i := range 8 {
		put(t, l, row(1, i, 900))
		wantErr(t, "Sync", l.Sync(), api.OK)
	}
	l, _ = open(t, "a vault", d)
	wantErr(t, "the test's Write", d.Write(0, []byte(", more")), api.OK) // while the log is in use
	put(t, l, row(1, 1, 900))
	if got := string(d.Read(0)); got != "the vault's bytes, more" {
		t.Errorf("file 0 is %q", got)
	}
	d.Crash(nil)
	if got := string(d.Read(0)); got != "the vault" {
		t.Errorf("file 0 is %q after a crash", got)
	}
}

func TestSeg(t *testing.T) { // P10.4: behind each call
	d, l := opened(t, api.MaxRoom)
	wantSeg(t, "a new disk", l, 0)
	wantErr(t, "Sync", l.Sync(), api.OK)
	wantSeg(t, "Sync", l, 0)
	for i := range 2 * api.MaxSegs {
		put(t, l, row(1, i, 1000)) // two rows a segment
		wantSeg(t, "Append", l, 1+i/2)
		wantErr(t, "Append 0", l.Append(0, nil), api.ErrKind)
		wantErr(t, "Sync", l.Sync(), api.OK)
		wantSeg(t, "Sync", l, 1+i/2)
		m, rows := open(t, "Open", d)
		wantSeg(t, "Open", m, 1+i/2)
		if len(rows) != i+1 {
			t.Errorf("%d rows, want %d", len(rows), i+1)
		}
		l = m
	}
	wantErr(t, "a full log", l.Append(1, make([]byte, 1000)), api.ErrFull)
	wantSeg(t, "a full log", l, api.MaxSegs)
}

func TestPowerFailsInAppend(t *testing.T) { // P10.2, P10.4: at each operation, and the log is dead from there on
	first, second := row(1, 1, 1100), row(2, 2, 1100)
	begun := joined(headOf(1), encodings(first))
	for _, x := range []struct {
		name     string
		rows     []api.Frame
		n        int    // operations that the last row's call does
		one, two []byte // the segments' bytes
		seg      int
	}{
		{"the first head", []api.Frame{first}, 0, headOf(1), nil, 1},
		{"the first row", []api.Frame{first}, 1, begun, nil, 1},
		{"a row behind another", []api.Frame{first, row(3, 3, 3)}, 0, joined(begun, encodings(row(3, 3, 3))), nil, 1},
		{"the Sync of the segment ahead", []api.Frame{first, second}, 0, begun, nil, 1},
		{"the second head", []api.Frame{first, second}, 1, begun, headOf(2), 2}, // a Write that is interrupted takes effect
		{"the second segment's row", []api.Frame{first, second}, 2, begun, joined(headOf(2), encodings(second)), 2},
	} {
		d, l := opened(t, api.MaxRoom)
		last := len(x.rows) - 1
		for _, r := range x.rows[:last] {
			put(t, l, r)
		}
		d.Arm(x.n)
		wantErr(t, x.name, l.Append(x.rows[last].Kind, x.rows[last].Body), api.ErrDown)
		if !bytes.Equal(d.Read(1), x.one) || !bytes.Equal(d.Read(2), x.two) || d.Used() != len(x.one)+len(x.two) {
			t.Errorf("%s: segments of %d and %d bytes, want %d and %d", x.name, len(d.Read(1)), len(d.Read(2)), len(x.one), len(x.two))
		}
		wantSeg(t, x.name, l, x.seg)
		wantDown(t, x.name, d, l)
	}
}

func TestPowerFailsInSync(t *testing.T) { // P10.3, P10.4
	d, l := opened(t, api.MaxRoom)
	put(t, l, row(1, 1, 10))
	d.Arm(0)
	before := see(d)
	before.down = true
	wantErr(t, "Sync", l.Sync(), api.ErrDown)
	wantView(t, "Sync", d, before)
	wantDown(t, "Sync", d, l)
	wantSeg(t, "Sync", l, 1)
	d.Crash(nil)
	_, rows := open(t, "nothing was synced", d)
	wantRows(t, "nothing was synced", rows, nil)
}

func TestPowerFailsElsewhere(t *testing.T) { // P10.2, P10.3: another's call of the disk was interrupted
	for _, n := range []int{0, 1} {
		d, l := opened(t, api.MaxRoom)
		for range n {
			put(t, l, row(1, 1, 10))
		}
		d.Arm(0)
		wantErr(t, "the test's Write", d.Write(0, []byte("a slot")), api.ErrDown)
		wantDown(t, "another's call", d, l)
		wantSeg(t, "another's call", l, n)
	}
}

func TestDeadStaysDead(t *testing.T) { // P10.4: also when the power is back, where the log's end may be elsewhere
	for name, die := range map[string]func(d *disk.Disk, l *wal.Log) api.Errno{
		"in Sync":          func(d *disk.Disk, l *wal.Log) api.Errno { d.Arm(0); return l.Sync() },
		"in Append":        func(d *disk.Disk, l *wal.Log) api.Errno { d.Arm(0); return l.Append(1, nil) },
		"in a segment":     func(d *disk.Disk, l *wal.Log) api.Errno { d.Arm(1); return l.Append(1, make([]byte, maxBody)) },
		"Sync, without":    func(d *disk.Disk, l *wal.Log) api.Errno { d.Arm(0); d.Sync(0); return l.Sync() },
		"Append, without":  func(d *disk.Disk, l *wal.Log) api.Errno { d.Arm(0); d.Sync(0); return l.Append(1, nil) },
		"no kind, without": func(d *disk.Disk, l *wal.Log) api.Errno { d.Arm(0); d.Sync(0); return l.Append(0, nil) },
	} {
		d, l := opened(t, api.MaxRoom)
		put(t, l, row(1, 1, 10))
		wantErr(t, name, die(d, l), api.ErrDown)
		d.Crash([]int{5}) // at once: a call ahead of it would find the power off
		wantDown(t, name+", then a crash", d, l)
	}
}

func TestPowerHolds(t *testing.T) { // P10.2, P10.3: what is armed counts a call's operations, and no more
	d, l := opened(t, api.MaxRoom)
	d.Arm(7)
	put(t, l, row(1, 1, 1100))                // 2
	wantErr(t, "Sync", l.Sync(), api.OK)      // 1
	put(t, l, row(2, 2, 1100))                // 3
	put(t, l, row(3, 3, 10))                  // 1
	wantErr(t, "Sync", l.Sync(), api.ErrDown) // none is left
	wantDown(t, "Sync", d, l)
}

func TestArgumentsStay(t *testing.T) { // R3: a body, and the room behind it
	for _, n := range []int{0, 1, 10, 1100, maxBody, maxBody + 1} {
		d, l := opened(t, api.MaxRoom)
		var want []api.Frame
		for i := range 4 { // some begin a segment
			whole := noise(i, n+300)
			body := whole[:n]
			err := l.Append(7, body)
			if !bytes.Equal(whole, noise(i, n+300)) {
				t.Errorf("%d bytes: the argument was changed", n)
			}
			clear(whole) // what was appended is the log's own
			if err == api.OK {
				want = append(want, row(7, i, n))
			}
		}
		_, rows := open(t, "Open", d)
		wantRows(t, "Open", rows, want)
	}
}

func TestAnswersAreNew(t *testing.T) { // R3: rows share nothing with the disk, the log, other rows, or another answer
	d, l := opened(t, api.MaxRoom)
	want := []api.Frame{row(1, 1, 30), row(2, 2, 0), row(3, 3, 50), row(4, 4, maxBody), row(5, 5, 40)}
	for _, r := range want {
		put(t, l, r)
	}
	m, first := open(t, "Open", d)
	_, second := open(t, "Open", d)
	before := see(d)
	for i := range first {
		for j, b := range first[i].Body[:cap(first[i].Body)] {
			first[i].Body[:cap(first[i].Body)][j] = ^b
		}
		if i+1 < len(first) && first[i+1].Kind != want[i+1].Kind {
			t.Errorf("row %d was changed", i+1)
		}
		wantRows(t, "the other rows", first[i+1:], want[i+1:])
	}
	first[1] = api.Frame{Kind: 99}
	_ = append(first[:2], api.Frame{Kind: 98})
	wantRows(t, "the other answer", second, want)
	wantView(t, "the disk", d, before)
	put(t, m, row(6, 6, 6))
	_, third := open(t, "Open", d)
	wantRows(t, "a later answer", third, joinedRows(want, row(6, 6, 6)))
}

func TestNothingIsNothing(t *testing.T) { // R3: a nil body and an empty one are alike
	bodies := [][]byte{nil, {}, noise(1, 9)[:0]}
	d, l := opened(t, api.MaxRoom)
	var want []byte
	for _, b := range bodies {
		wantErr(t, "nothing", l.Append(7, b), api.OK)
		want = append(want, encodings(api.Frame{Kind: 7})...)
	}
	if got := d.Read(1); !bytes.Equal(got, joined(headOf(1), want)) {
		t.Errorf("%x", got)
	}
}

func TestTwoLogs(t *testing.T) { // each has its own disk, and its own death
	d, l := opened(t, api.MaxRoom)
	e, m := opened(t, api.MaxRoom)
	put(t, l, row(1, 1, 1100))
	put(t, l, row(1, 1, 1100))
	wantSeg(t, "the other one", m, 0)
	d.Arm(0)
	wantErr(t, "Sync", l.Sync(), api.ErrDown)
	put(t, m, row(2, 2, 2))
	wantErr(t, "the other one's Sync", m.Sync(), api.OK)
	wantDown(t, "the one", d, l)
	_, rows := open(t, "the other one", e)
	wantRows(t, "the other one", rows, []api.Frame{row(2, 2, 2)})
}
