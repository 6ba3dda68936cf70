package pack_test

import (
	"bytes"
	"encoding/binary"
	"math"
	"math/rand/v2"
	"testing"

	"sealery/api"
	"sealery/pack"
)

type kind int

const (
	number kind = iota
	digest
	blob
	text
	count // a number that is read by Count
	kinds
)

func (k kind) String() string { return [...]string{"Int", "Sum", "Blob", "Text", "Count"}[k] }

// value is one value of a kind; what the kind has no use for is zero.
type value struct {
	kind kind
	n    int
	s    api.Sum
	p    []byte
}

func same(v, w value) bool {
	return v.kind == w.kind && v.n == w.n && v.s == w.s && bytes.Equal(v.p, w.p)
}

// words are the bytes that the chapter's words ask for.
func (v value) words() []byte {
	switch v.kind {
	case digest:
		return bytes.Clone(v.s[:])
	case blob, text:
		return append(binary.BigEndian.AppendUint64(nil, uint64(len(v.p))), v.p...)
	}
	return binary.BigEndian.AppendUint64(nil, uint64(v.n))
}

// lay calls the function of the value's kind.
func (v value) lay(b []byte) []byte {
	switch v.kind {
	case digest:
		return pack.Sum(b, v.s)
	case blob:
		return pack.Blob(b, v.p)
	case text:
		return pack.Text(b, string(v.p))
	}
	return pack.Int(b, v.n)
}

// take calls the reader's method of a kind.
func take(r *pack.Reader, k kind, most int) value {
	v := value{kind: k}
	switch k {
	case number:
		v.n = r.Int()
	case digest:
		v.s = r.Sum()
	case blob:
		v.p = r.Blob(most)
	case text:
		v.p = []byte(r.Text(most))
	case count:
		v.n = r.Count(most)
	}
	return v
}

// most is the smallest most that a value may be read with.
func (v value) most() int {
	if v.kind == count {
		return v.n
	}
	return len(v.p)
}

// wantTaken takes a value's kind from a reader, and holds the value, and what is left then, against what is wanted.
func wantTaken(t *testing.T, r *pack.Reader, want value, most, left int) {
	t.Helper()
	if got := take(r, want.kind, most); !same(got, want) {
		t.Errorf("%v(%d): %v, want %v", want.kind, most, got, want)
	}
	if end := endOf(left); r.Left() != left || r.Bad() || r.End() != end {
		t.Errorf("behind %v of %v: %d left, %v, %d, want %d, false, %d", want.kind, want, r.Left(), r.Bad(), r.End(), left, end)
	}
}

// endOf is what End returns where nothing has stuck.
func endOf(left int) api.Errno {
	if left > 0 {
		return api.ErrLong
	}
	return api.OK
}

// wantStuck asks a reader everything, in turn, and finds nothing but the error, each time.
func wantStuck(t *testing.T, what string, r *pack.Reader, err api.Errno) {
	t.Helper()
	if r.Left() != 0 || !r.Bad() || r.End() != err {
		t.Fatalf("%s: %d left, %v, %d, want 0, true, %d", what, r.Left(), r.Bad(), r.End(), err)
	}
	for first := range kinds {
		for _, most := range []int{0, -1, 1, math.MinInt, math.MaxInt} {
			for k := range kinds {
				k = (first + k) % kinds
				if v := take(r, k, most); !same(v, value{kind: k}) {
					t.Fatalf("%s: %v(%d) after the error: %v", what, k, most, v)
				}
				if r.Left() != 0 || !r.Bad() || r.End() != err {
					t.Fatalf("%s: after %v(%d): %d left, %v, %d, want 0, true, %d", what, k, most, r.Left(), r.Bad(), r.End(), err)
				}
			}
		}
	}
}

// wantError takes a kind from a reader of bytes, and finds nothing but the error, then and later.
func wantError(t *testing.T, b []byte, k kind, most int, err api.Errno) {
	t.Helper()
	r := pack.Read(b)
	if v := take(r, k, most); !same(v, value{kind: k}) {
		t.Errorf("%v(%d) of %x: %v, want nothing", k, most, b, v)
	}
	wantStuck(t, k.String(), r, err)
}

// noise is bytes without a pattern, the same for the same seed.
func noise(seed, n int) []byte {
	var s [32]byte
	binary.LittleEndian.PutUint64(s[:], uint64(seed))
	b := make([]byte, n)
	rand.NewChaCha8(s).Read(b)
	return b
}

// joined is new bytes: those of all parts.
func joined(parts ...[]byte) []byte { return bytes.Join(parts, nil) }

// spoil turns all bits of bytes and of the room behind them.
func spoil(b []byte) {
	b = b[:cap(b)]
	for i := range b {
		b[i] ^= 0xff
	}
}

// numbers are both ends of int, what stands about 0, each bit alone, and all bits but one.
func numbers() []int {
	ns := []int{math.MinInt, math.MinInt + 1, math.MaxInt, math.MaxInt - 1, 258, 0x0102030405060708, -0x0102030405060708}
	for n := -300; n <= 300; n++ {
		ns = append(ns, n)
	}
	for bit := range 64 {
		ns = append(ns, 1<<bit, ^(1 << bit), 1<<bit-1, 1<<bit+1)
	}
	return ns
}

// pieces are byte strings of no byte, of one and of many, zeros and bytes that are no UTF-8 among them.
func pieces() [][]byte {
	ps := [][]byte{nil, {}, {0}, {0xff}, {5, 6}, []byte("a"), []byte("\xff\xfe\x80"), []byte("häßlich \u2713"), make([]byte, 8), bytes.Repeat([]byte{0xff}, 8)}
	for _, n := range []int{1, 7, 8, 9, 31, 32, 33, 255, 256, 257, 65535, 65536, 70000} {
		ps = append(ps, noise(n, n))
	}
	return ps
}

// values are some of each kind.
func values() []value {
	var vs []value
	for _, n := range numbers() {
		vs = append(vs, value{kind: number, n: n})
		if n >= 0 {
			vs = append(vs, value{kind: count, n: n})
		}
	}
	for _, p := range pieces() {
		vs = append(vs, value{kind: blob, p: p}, value{kind: text, p: p})
	}
	vs = append(vs, value{kind: digest}, value{kind: digest, s: api.Sum(bytes.Repeat([]byte{0xff}, 32))}, value{kind: digest, s: api.Sum(noise(1, 32))})
	for i := range 32 {
		var s api.Sum
		s[i] = byte(i + 1)
		vs = append(vs, value{kind: digest, s: s})
	}
	return vs
}

// few are values of each kind whose encodings are short.
func few() []value {
	return []value{
		{kind: number}, {kind: number, n: -2}, {kind: number, n: math.MinInt}, {kind: number, n: math.MaxInt},
		{kind: digest, s: api.Sum(noise(2, 32))},
		{kind: blob}, {kind: blob, p: []byte{9}}, {kind: blob, p: noise(3, 20)},
		{kind: text}, {kind: text, p: []byte("a")}, {kind: text, p: []byte("some text\x00\xff")},
		{kind: count}, {kind: count, n: 5}, {kind: count, n: math.MaxInt},
	}
}

func TestExamplesOfBytes(t *testing.T) { // P7.1: those of the chapter
	for _, x := range []struct {
		what      string
		got, want []byte
	}{
		{"Int of none and 258", pack.Int(nil, 258), []byte{0, 0, 0, 0, 0, 0, 1, 2}},
		{"Int of 07 and -2", pack.Int([]byte{7}, -2), []byte{7, 0xff, 0xff, 0xff, 0xff, 0xff, 0xff, 0xff, 0xfe}},
		{"Blob of none and 05 06", pack.Blob(nil, []byte{5, 6}), []byte{0, 0, 0, 0, 0, 0, 0, 2, 5, 6}},
		{"Text of none and a", pack.Text(nil, "a"), []byte{0, 0, 0, 0, 0, 0, 0, 1, 0x61}},
	} {
		if !bytes.Equal(x.got, x.want) {
			t.Errorf("%s: %x, want %x", x.what, x.got, x.want)
		}
	}
}

func TestExamplesOfReaders(t *testing.T) { // P7.3 to P7.5: those of the chapter
	third := []byte{0, 0, 0, 0, 0, 0, 0, 2, 5, 6}
	r := pack.Read(joined(third, []byte{9}))
	if p := r.Blob(2); !bytes.Equal(p, []byte{5, 6}) || r.Left() != 1 || r.End() != api.ErrLong {
		t.Errorf("Blob(2): %x, %d left, %d", p, r.Left(), r.End())
	}
	r = pack.Read(joined(third, []byte{9}))
	if p := r.Blob(1); len(p) != 0 || r.Left() != 0 || r.Int() != 0 || r.End() != api.ErrMany {
		t.Errorf("Blob(1): %x, %d left, %d", p, r.Left(), r.End())
	}
	r = pack.Read(third[:9])
	if p := r.Blob(9); len(p) != 0 || !r.Bad() || r.End() != api.ErrShort {
		t.Errorf("Blob(9): %x, %v, %d", p, r.Bad(), r.End())
	}
	r = pack.Read(bytes.Repeat([]byte{0xff}, 8))
	if n := r.Count(5); n != 0 || r.End() != api.ErrMany {
		t.Errorf("Count(5): %d, %d", n, r.End())
	}
	r = pack.Read(make([]byte, 8))
	if n := r.Count(-1); n != 0 || r.End() != api.ErrMany {
		t.Errorf("Count(-1): %d, %d", n, r.End())
	}
}

func TestBytes(t *testing.T) { // P7.1, R3: behind no bytes and some, with room behind their length and without
	for _, v := range values() {
		want := v.words()
		for _, long := range []int{0, 1, 7, 8, 9, 50} {
			for _, room := range []int{0, 1, 8, len(want), len(want) + 40} {
				whole := noise(long, long+room)
				before := bytes.Clone(whole)
				b := whole[:long:len(whole)]
				if got := v.lay(b); !bytes.Equal(got, joined(before[:long], want)) {
					t.Fatalf("%v of %d bytes and %v: %x, want %x behind %x", v.kind, long, v, got, want, before[:long])
				}
				if !bytes.Equal(whole, before) {
					t.Fatalf("%v of %d bytes with room for %d: %x became %x", v.kind, long, room, before, whole)
				}
			}
		}
		if got := v.lay(nil); !bytes.Equal(got, want) {
			t.Errorf("%v of nil and %v: %x, want %x", v.kind, v, got, want)
		}
	}
}

func TestBytesAreKeptAsTheyAre(t *testing.T) { // R3: the string that is laid, and the room behind it
	for _, long := range []int{0, 1, 8, 100} {
		whole := noise(4, long+60)
		before := bytes.Clone(whole)
		pack.Blob(noise(5, 3), whole[:long])
		pack.Blob(whole[:long], whole[long:long+9])
		pack.Blob(whole[:long], whole[:long])
		if !bytes.Equal(whole, before) {
			t.Errorf("%d bytes: %x became %x", long, before, whole)
		}
	}
}

func TestBytesWithinThemselves(t *testing.T) { // P7.1: a string that lies in the bytes ahead of it, or in the room behind them
	for _, long := range []int{0, 1, 8, 30} {
		whole := noise(6, 60)
		for from := range 40 {
			p := whole[from : from+20]
			want := joined(whole[:long], []byte{0, 0, 0, 0, 0, 0, 0, 20}, p)
			if got := pack.Blob(whole[:long], p); !bytes.Equal(got, want) {
				t.Errorf("%d bytes, and 20 of them from %d on: %x, want %x", long, from, got, want)
			}
		}
	}
}

func TestBytesAreNew(t *testing.T) { // R3: what is returned shares nothing with what was given, nor with what else is returned
	for _, v := range append(few(), value{kind: blob, p: noise(7, 3000)}) {
		for _, long := range []int{0, 1, 60} {
			b := append(make([]byte, 0, long+4000), noise(8, long)...)
			before, p := bytes.Clone(b[:cap(b)]), bytes.Clone(v.p)
			first, second := v.lay(b), v.lay(b)
			third := v.lay(first)
			want := joined(before[:long], v.words())
			spoil(first)
			if !bytes.Equal(b[:cap(b)], before) || !bytes.Equal(v.p, p) || !bytes.Equal(second, want) || !bytes.Equal(third, joined(want, v.words())) {
				t.Errorf("%v behind %d bytes: what was returned is elsewhere too", v, long)
			}
			spoil(b)
			if !bytes.Equal(second, want) || !bytes.Equal(third, joined(want, v.words())) {
				t.Errorf("%v behind %d bytes: what was given is in what was returned", v, long)
			}
		}
	}
}

func TestBlobIsNotTheString(t *testing.T) { // R3: the string that was laid is changed later
	p := noise(9, 200)
	for _, b := range [][]byte{nil, {}, noise(10, 7), make([]byte, 0, 1000)} {
		got := pack.Blob(b, p)
		want := bytes.Clone(got)
		spoil(p)
		if !bytes.Equal(got, want) {
			t.Errorf("behind %d bytes: %x, want %x", len(b), got, want)
		}
	}
}

func TestNothingIsNothing(t *testing.T) { // R3: nil and empty are alike
	nothing := [][]byte{nil, {}, noise(11, 9)[:0]}
	for _, b := range nothing {
		for _, p := range nothing {
			if got := pack.Blob(b, p); !bytes.Equal(got, make([]byte, 8)) {
				t.Errorf("Blob of nothing: %x", got)
			}
		}
		r := pack.Read(b)
		if r.Left() != 0 || r.Bad() || r.End() != api.OK {
			t.Errorf("a reader of nothing: %d left, %v, %d", r.Left(), r.Bad(), r.End())
		}
	}
}

func TestReadBack(t *testing.T) { // P7.3 to P7.6: each value, alone and with bytes behind
	for _, v := range values() {
		for _, behind := range []int{0, 1, 8, 40} {
			for _, most := range []int{v.most(), math.MaxInt} {
				wantTaken(t, pack.Read(joined(v.words(), noise(12, behind))), v, most, behind)
				wantTaken(t, pack.Read(joined(v.words(), bytes.Repeat([]byte{0xff}, behind))), v, most, behind)
			}
		}
	}
}

func TestMostThatIsMore(t *testing.T) { // P7.4: just the most, and one above it
	for _, k := range []kind{blob, text} {
		for long := range 40 {
			v := value{kind: k, p: noise(13, long)}
			for most := range 45 {
				for _, behind := range []int{0, 20} {
					b := joined(v.words(), noise(14, behind))
					if most < long {
						wantError(t, b, k, most, api.ErrMany)
					} else {
						wantTaken(t, pack.Read(b), v, most, behind)
					}
				}
			}
		}
	}
}

func TestCount(t *testing.T) { // P7.4: numbers beside what they may be at most, at both ends of int, about 0 and about one another
	mosts := []int{math.MinInt, math.MinInt + 1, -258, -2, -1, 0, 1, 2, 5, 255, 256, 258, 1 << 31, 1 << 32, math.MaxInt - 1, math.MaxInt}
	for _, n := range numbers() {
		for _, most := range append(mosts, n-1, n, n+1) {
			b := joined(binary.BigEndian.AppendUint64(nil, uint64(n)), noise(15, 9))
			if n >= 0 && n <= most {
				wantTaken(t, pack.Read(b), value{kind: count, n: n}, most, 9)
			} else {
				wantError(t, b, count, most, api.ErrMany)
			}
		}
	}
}

func TestLengths(t *testing.T) { // P7.4: lengths below 0, above the most, and allowed where fewer bytes are left
	for _, k := range []kind{blob, text} {
		for _, long := range []int{0, 1, 2, 20} {
			for _, n := range numbers() {
				b := joined(binary.BigEndian.AppendUint64(nil, uint64(n)), noise(16, long))
				for _, most := range []int{math.MinInt, -1, 0, 1, n - 1, n, math.MaxInt} {
					switch {
					case n < 0 || n > most:
						wantError(t, b, k, most, api.ErrMany)
					case n > long:
						wantError(t, b, k, most, api.ErrShort)
					default:
						wantTaken(t, pack.Read(b), value{kind: k, p: b[8 : 8+n]}, most, long-n)
					}
				}
			}
		}
	}
}

func TestTooFewBytes(t *testing.T) { // P7.3, P7.4, P7.7: each number of bytes missing, whatever is wanted at most, and ahead of what the number might be
	for _, v := range few() {
		all := v.words()
		for cut := range len(all) {
			for _, ahead := range []int{0, 1, 8} {
				r := pack.Read(joined(binary.BigEndian.AppendUint64(nil, uint64(ahead)), noise(17, ahead), all[:cut]))
				wantTaken(t, r, value{kind: blob, p: noise(17, ahead)}, ahead, cut)
				if got := take(r, v.kind, v.most()); !same(got, value{kind: v.kind}) {
					t.Errorf("%v of %x: %v, want nothing", v.kind, all[:cut], got)
				}
				wantStuck(t, "truncated", r, api.ErrShort)
			}
		}
	}
	for k := range kinds {
		for cut := range 8 {
			for _, most := range []int{math.MinInt, -1, 0, 1, math.MaxInt} {
				wantError(t, bytes.Repeat([]byte{0xff}, cut), k, most, api.ErrShort)
				wantError(t, make([]byte, cut), k, most, api.ErrShort)
			}
		}
	}
}

func TestStuck(t *testing.T) { // 'Definitions', P7.5: whatever stands behind the error is not read any more
	for k := range kinds {
		for _, ok := range few() {
			b := joined(binary.BigEndian.AppendUint64(nil, 3), ok.words(), ok.words())
			r := pack.Read(b)
			r.Count(2)
			if v := take(r, k, math.MaxInt); !same(v, value{kind: k}) {
				t.Errorf("%v after ErrMany: %v", k, v)
			}
			wantStuck(t, "ErrMany, with bytes behind", r, api.ErrMany)
			r = pack.Read(joined(binary.BigEndian.AppendUint64(nil, 4000), b))
			r.Blob(4000)
			if v := take(r, k, math.MaxInt); !same(v, value{kind: k}) {
				t.Errorf("%v after ErrShort: %v", k, v)
			}
			wantStuck(t, "ErrShort, with bytes behind", r, api.ErrShort)
			r = pack.Read(noise(18, 31))
			r.Sum()
			if v := take(r, k, math.MaxInt); !same(v, value{kind: k}) {
				t.Errorf("%v after ErrShort: %v", k, v)
			}
			wantStuck(t, "ErrShort, with bytes of a digest", r, api.ErrShort)
		}
	}
}

func TestAskedTwice(t *testing.T) { // P7.5: asking changes nothing, and ErrLong is not sticky
	ask := func(r *pack.Reader, left int, bad bool, err api.Errno) {
		t.Helper()
		for range 3 {
			if r.Left() != left || r.Bad() != bad || r.End() != err || r.End() != err || r.Bad() != bad || r.Left() != left {
				t.Errorf("%d left, %v, %d, want %d, %v, %d", r.Left(), r.Bad(), r.End(), left, bad, err)
			}
		}
	}
	r := pack.Read(joined(value{kind: number, n: 1}.words(), value{kind: text, p: []byte("ab")}.words(), make([]byte, 32)))
	ask(r, 50, false, api.ErrLong)
	if n := r.Int(); n != 1 {
		t.Errorf("the number is %d", n)
	}
	ask(r, 42, false, api.ErrLong)
	if s := r.Text(2); s != "ab" {
		t.Errorf("the text is %q", s)
	}
	ask(r, 32, false, api.ErrLong)
	if s := r.Sum(); s != (api.Sum{}) {
		t.Errorf("the digest is %x", s)
	}
	ask(r, 0, false, api.OK)
	if n := r.Int(); n != 0 {
		t.Errorf("behind the end: %d", n)
	}
	ask(r, 0, true, api.ErrShort)
	r = pack.Read(nil)
	ask(r, 0, false, api.OK)
	r = pack.Read([]byte{1})
	ask(r, 1, false, api.ErrLong)
	r.Count(0)
	ask(r, 0, true, api.ErrShort)
	r = pack.Read(bytes.Repeat([]byte{0xff}, 9))
	ask(r, 9, false, api.ErrLong)
	r.Count(0)
	ask(r, 0, true, api.ErrMany)
}

func TestReadKeepsTheBytes(t *testing.T) { // P7.2, R3: as they are at the call; they stay as they are
	for _, v := range few() {
		w := value{kind: blob, p: noise(19, 11)}
		b := joined(v.words(), w.words(), make([]byte, 64))
		long := len(b) - 64
		before := bytes.Clone(b)
		r := pack.Read(b[:long])
		spoil(b)
		wantTaken(t, r, v, v.most(), long-len(v.words()))
		clear(b)
		wantTaken(t, r, w, 11, 0)
		if !bytes.Equal(b, make([]byte, len(before))) {
			t.Errorf("%v: the bytes were changed after Read", v)
		}
		copy(b, before)
		r = pack.Read(b[:long])
		take(r, v.kind, v.most())
		take(r, blob, 11)
		take(r, blob, 11)
		if !bytes.Equal(b, before) {
			t.Errorf("%v: the bytes were changed", v)
		}
	}
}

func TestBlobsAreNew(t *testing.T) { // R3: what Blob returns shares nothing with the reader, the bytes, or another result
	b := joined(value{kind: blob, p: noise(20, 30)}.words(), value{kind: blob}.words(), value{kind: blob, p: noise(21, 30)}.words(), value{kind: text, p: noise(22, 30)}.words())
	before := bytes.Clone(b)
	r := pack.Read(b)
	first := r.Blob(30)
	spoil(first)
	none := r.Blob(30)
	spoil(none)
	second := r.Blob(30)
	want := noise(21, 30)
	if !bytes.Equal(second, want) {
		t.Errorf("the second: %x, want %x", second, want)
	}
	text := r.Text(30)
	spoil(second)
	again := bytes.Repeat([]byte{0xff}, 30)
	for i, x := range noise(20, 30) {
		again[i] ^= x
	}
	if text != string(noise(22, 30)) || !bytes.Equal(first, again) || !bytes.Equal(b, before) || r.End() != api.OK {
		t.Errorf("what was returned is elsewhere too: %q, %x, %x", text, first, b)
	}
}

func TestTwoReaders(t *testing.T) { // P7.2: each has its own place and its own error
	b := joined(value{kind: blob, p: noise(23, 9)}.words(), value{kind: number, n: 7}.words())
	first, second := pack.Read(b), pack.Read(b)
	first.Blob(8)
	wantTaken(t, second, value{kind: blob, p: noise(23, 9)}, 9, 8)
	third := pack.Read(b)
	wantStuck(t, "the first", first, api.ErrMany)
	wantTaken(t, second, value{kind: number, n: 7}, 0, 0)
	wantTaken(t, third, value{kind: blob, p: noise(23, 9)}, 9, 8)
}

// row is some values of any kinds, chosen by a seed.
func row(seed int) []value {
	from := few()
	var vs []value
	for _, b := range noise(seed, 1+seed%7) {
		vs = append(vs, from[int(b)%len(from)])
	}
	return vs
}

func laid(vs []value) []byte {
	var b []byte
	for _, v := range vs {
		b = v.lay(b)
	}
	return b
}

func TestRoundTrip(t *testing.T) { // P7.6: values in sequence, and the bytes that follow
	for seed := range 300 {
		vs := row(seed)
		b := laid(vs)
		for _, behind := range []int{0, 1, 33} {
			r := pack.Read(joined(b, noise(seed, behind)))
			left := len(b) + behind
			for _, v := range vs {
				left -= len(v.words())
				wantTaken(t, r, v, v.most(), left)
			}
		}
	}
}

func TestBytesThatFollow(t *testing.T) { // P7.6: they are still there, as they were
	for seed := range 100 {
		vs, follow := row(seed), row(seed+1000)
		r := pack.Read(joined(laid(vs), laid(follow)))
		left := r.Left()
		for _, v := range append(vs, follow...) {
			left -= len(v.words())
			wantTaken(t, r, v, math.MaxInt, left)
		}
		if r.Left() != 0 || r.End() != api.OK {
			t.Errorf("%d are left, %d", r.Left(), r.End())
		}
	}
}

func TestTruncation(t *testing.T) { // P7.7: cut short at each place
	for seed := range 60 {
		vs := row(seed)
		b := laid(vs)
		for cut := range len(b) {
			r := pack.Read(b[:cut])
			left := cut
			for _, v := range vs {
				if left -= len(v.words()); left >= 0 {
					wantTaken(t, r, v, v.most(), left)
				} else if got := take(r, v.kind, v.most()); !same(got, value{kind: v.kind}) {
					t.Errorf("%v, cut at %d of %d: %v, want nothing", v, cut, len(b), got)
				}
			}
			wantStuck(t, "cut short", r, api.ErrShort)
		}
	}
}

func TestUniqueEncoding(t *testing.T) { // P7.8: any bytes, read by any calls
	read := 0
	for seed := range 4000 {
		b := noise(seed, 20+seed%100)
		for i := range b { // small lengths are likely then
			if seed%3 > 0 && i%8 < 7 {
				b[i] = 0
			} else if seed%3 == 1 {
				b[i] %= 9
			}
		}
		r := pack.Read(b)
		var vs []value
		for _, k := range noise(seed+5000, 12) {
			v := take(r, kind(k)%kinds, math.MaxInt)
			if r.Bad() {
				break
			}
			vs = append(vs, v)
			if got, want := laid(vs), b[:len(b)-r.Left()]; !bytes.Equal(got, want) {
				t.Fatalf("%v: %x, want %x", vs, got, want)
			}
		}
		read += len(vs)
	}
	if read < 5000 { // else the bytes are no test
		t.Errorf("only %d values were read", read)
	}
}
