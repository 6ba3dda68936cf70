package frame_test

import (
	"bytes"
	"encoding/binary"
	"hash/crc32"
	"math"
	"math/rand/v2"
	"slices"
	"testing"

	"sealery/api"
	"sealery/frame"
)

const (
	maxBody = 2039
	head    = 5 // bytes ahead of the body
	sum     = 4 // bytes behind it
)

// words is the checksum as the chapter's words compute it, bit by bit.
func words(b []byte) uint32 {
	register := uint32(math.MaxUint32)
	for _, c := range b {
		register ^= uint32(c)
		for range 8 {
			out := register & 1
			register >>= 1
			if out == 1 {
				register ^= 0xEDB88320
			}
		}
	}
	return ^register
}

// withSum lays the right checksum behind bytes.
func withSum(b []byte) []byte {
	return binary.BigEndian.AppendUint32(bytes.Clone(b), words(b))
}

// encoding is the bytes that the chapter's words ask for, whatever the kind and the length may be.
func encoding(kind byte, length uint32, body []byte) []byte {
	b := binary.BigEndian.AppendUint32([]byte{kind}, length)
	return withSum(append(b, body...))
}

// put is Put of what it accepts.
func put(t *testing.T, kind int, body []byte) []byte {
	t.Helper()
	b, err := frame.Put(kind, body)
	if err != api.OK {
		t.Fatalf("Put of %d and %d bytes: %d", kind, len(body), err)
	}
	return b
}

// wantFrame gets a frame.
func wantFrame(t *testing.T, what string, b []byte, kind int, body []byte, size int) {
	t.Helper()
	f, n, err := frame.Get(b)
	if f.Kind != kind || !bytes.Equal(f.Body, body) || n != size || err != api.OK {
		t.Errorf("%s: %d, %x, %d, %d, want %d, %x, %d, OK", what, f.Kind, f.Body, n, err, kind, body, size)
	}
}

// wantError gets nothing but an error.
func wantError(t *testing.T, what string, b []byte, want api.Errno) {
	t.Helper()
	f, n, err := frame.Get(b)
	if f.Kind != 0 || f.Body != nil || n != 0 || err != want {
		t.Errorf("%s: %d, %x, %d, %d, want the zero frame, 0, %d", what, f.Kind, f.Body, n, err, want)
	}
}

// wantScan scans frames.
func wantScan(t *testing.T, what string, b []byte, want []api.Frame, size int) {
	t.Helper()
	got, n := frame.Scan(b)
	same := slices.EqualFunc(got, want, func(f, g api.Frame) bool { return f.Kind == g.Kind && bytes.Equal(f.Body, g.Body) })
	if !same || n != size {
		t.Errorf("%s: %v, %d, want %v, %d", what, got, n, want, size)
	}
}

// noise is bytes without a pattern, the same for the same seed.
func noise(seed, n int) []byte {
	r := rand.New(rand.NewPCG(uint64(seed), 9))
	b := make([]byte, n)
	for i := range b {
		b[i] = byte(r.Uint32())
	}
	return b
}

// inverted is bytes with some bits inverted; in each byte the lowest bit is the first.
func inverted(b []byte, bits ...int) []byte {
	b = bytes.Clone(b)
	for _, i := range bits {
		b[i/8] ^= 1 << (i % 8)
	}
	return b
}

// The chapter's examples.
func TestExamples(t *testing.T) {
	if got := frame.Sum([]byte("123456789")); got != 0xCBF43926 {
		t.Errorf("Sum of 123456789: %08X", got)
	}
	if got := frame.Sum(nil); got != 0 {
		t.Errorf("Sum of none: %08X", got)
	}
	for kind, want := range map[int]api.Errno{0: api.ErrKind, 256: api.ErrKind} {
		if b, err := frame.Put(kind, nil); b != nil || err != want {
			t.Errorf("Put of %d: %x, %d", kind, b, err)
		}
	}
	if b, err := frame.Put(1, make([]byte, 2040)); b != nil || err != api.ErrLong {
		t.Errorf("Put of 1 and 2040 bytes: %x, %d", b, err)
	}
	if b := put(t, 1, make([]byte, 2039)); len(b) != 2048 {
		t.Errorf("Put of 1 and 2039 bytes: %d bytes", len(b))
	}
	wantError(t, "four bytes", []byte{1, 0, 0, 0}, api.ErrShort)
	wantError(t, "five zeros", make([]byte, 5), api.ErrKind)
	wantError(t, "2040 bytes", []byte{1, 0, 0, 7, 0xF8}, api.ErrLong)
	one, two, three := put(t, 7, []byte("one")), put(t, 8, nil), put(t, 9, []byte("three"))
	wantScan(t, "two and a half", slices.Concat(one, two, three[:len(three)/2]), []api.Frame{{Kind: 7, Body: []byte("one")}, {Kind: 8}}, len(one)+len(two))
}

// P9.1: no byte, one byte of each value, many, all values.
func TestSum(t *testing.T) {
	all := make([]byte, 256)
	for i := range all {
		all[i] = byte(i)
		one := []byte{byte(i)}
		if got := frame.Sum(one); got != words(one) {
			t.Errorf("Sum(%x) = %08X, want %08X", one, got, words(one))
		}
	}
	inputs := [][]byte{nil, {}, all, make([]byte, 1000), bytes.Repeat([]byte{0xFF}, 1000), noise(1, 100000)}
	for n := range 100 {
		inputs = append(inputs, noise(n, n))
	}
	for _, b := range inputs {
		want := words(b)
		if want != crc32.ChecksumIEEE(b) {
			t.Fatalf("%d bytes: the tests' own sum is wrong", len(b))
		}
		if got := frame.Sum(b); got != want {
			t.Errorf("Sum of %d bytes: %08X, want %08X", len(b), got, want)
		}
	}
}

// P9.2: kinds at both ends, and beyond them.
func TestPutKinds(t *testing.T) {
	for _, kind := range []int{math.MinInt, -256, -255, -1, 0, 256, 257, 511, 1 << 32, 1<<32 + 1, math.MaxInt} {
		for _, body := range [][]byte{nil, {1}, make([]byte, maxBody), make([]byte, maxBody+1)} { // a body that is too long comes second
			if b, err := frame.Put(kind, body); b != nil || err != api.ErrKind {
				t.Errorf("Put of %d and %d bytes: %x, %d", kind, len(body), b, err)
			}
		}
	}
	for kind := 1; kind <= 255; kind++ {
		body := noise(kind, kind%7)
		if b, want := put(t, kind, body), encoding(byte(kind), uint32(len(body)), body); !bytes.Equal(b, want) {
			t.Errorf("Put of %d and %x: %x, want %x", kind, body, b, want)
		}
	}
}

// P9.2: bodies of each length that there may be, and longer ones.
func TestPutBodies(t *testing.T) {
	for n := range maxBody + 1 {
		body := noise(n, n)
		if b, want := put(t, 1+n%255, body), encoding(byte(1+n%255), uint32(n), body); !bytes.Equal(b, want) {
			t.Errorf("Put of %d bytes: %x, want %x", n, b, want)
		}
	}
	for _, n := range []int{maxBody + 1, maxBody + 2, api.MaxSeg, 1 << 16, 1<<16 + 1, 1 << 24} {
		if b, err := frame.Put(1, make([]byte, n)); b != nil || err != api.ErrLong {
			t.Errorf("Put of %d bytes: %d bytes, %d", n, len(b), err)
		}
	}
}

// P9.3: fewer than five bytes, whatever they are.
func TestGetShort(t *testing.T) {
	wantError(t, "nil", nil, api.ErrShort)
	for n := range head {
		wantError(t, "zeros", make([]byte, n), api.ErrShort)
		wantError(t, "ones", bytes.Repeat([]byte{0xFF}, n), api.ErrShort)
		wantError(t, "a head", put(t, 3, nil)[:n], api.ErrShort)
	}
}

// P9.3: the kind is held ahead of the length, the length ahead of what there is, and that ahead of the sum.
func TestGetOrder(t *testing.T) {
	body := []byte("body")
	wantError(t, "kind 0", encoding(0, 4, body), api.ErrKind)
	wantError(t, "kind 0, too long", encoding(0, maxBody+1, body), api.ErrKind)
	wantError(t, "kind 0, short", []byte{0, 0, 0, 0, 4}, api.ErrKind)
	wantError(t, "kind 0, a wrong sum", append([]byte{0, 0, 0, 0, 0}, 1, 2, 3, 4), api.ErrKind)
	wantError(t, "too long, all there", encoding(1, maxBody+1, make([]byte, maxBody+1)), api.ErrLong)
	for _, length := range []uint32{maxBody + 1, maxBody + 2, 1 << 12, 1 << 16, 1<<16 + 4, 1<<24 + 4, 1 << 31, 1<<31 + 4, math.MaxUint32 - 8, math.MaxUint32 - 4, math.MaxUint32} {
		b := encoding(1, length, body)
		wantError(t, "too long", b, api.ErrLong)
		wantError(t, "too long, a head alone", b[:head], api.ErrLong)
	}
	b := encoding(1, maxBody, make([]byte, maxBody))
	wantFrame(t, "as long as may be", b, 1, make([]byte, maxBody), api.MaxSeg)
	wantError(t, "as long as may be, short", b[:len(b)-1], api.ErrShort)
	wantError(t, "as long as may be, a head alone", b[:head], api.ErrShort)
}

// P9.3: each byte of the sum, turned in each way, and sums of other bytes than these.
func TestGetSum(t *testing.T) {
	body := []byte("some bytes")
	b := put(t, 200, body)
	for i := len(b) - sum; i < len(b); i++ {
		for x := 1; x < 256; x++ {
			c := bytes.Clone(b)
			c[i] ^= byte(x)
			wantError(t, "a byte of the sum turned", c, api.ErrSum)
		}
	}
	end := len(b) - sum
	wantError(t, "the sum of the body", binary.BigEndian.AppendUint32(bytes.Clone(b[:end]), words(body)), api.ErrSum)
	wantError(t, "the sum of all but the kind", binary.BigEndian.AppendUint32(bytes.Clone(b[:end]), words(b[1:end])), api.ErrSum)
	wantError(t, "the sum with its lowest byte first", binary.LittleEndian.AppendUint32(bytes.Clone(b[:end]), words(b[:end])), api.ErrSum)
	wantError(t, "the sum's inverse", binary.BigEndian.AppendUint32(bytes.Clone(b[:end]), ^words(b[:end])), api.ErrSum)
	wantError(t, "a sum of zero", append(bytes.Clone(b[:end]), 0, 0, 0, 0), api.ErrSum)
}

// P9.5: a frame is got whatever follows it, and cut short nowhere.
func TestRoundTrip(t *testing.T) {
	for _, n := range []int{0, 1, 2, 3, 4, 8, 9, 100, 255, 256, 257, 1000, maxBody - 1, maxBody} {
		for _, kind := range []int{1, 2, 127, 128, 254, 255} {
			body := noise(n+kind, n)
			b := put(t, kind, body)
			for _, rest := range [][]byte{nil, {0}, {1}, {0xFF}, b, noise(3, 50), make([]byte, 3000)} {
				wantFrame(t, "with bytes behind it", slices.Concat(b, rest), kind, body, len(b))
			}
			for i := range b {
				wantError(t, "cut short", b[:i], api.ErrShort)
			}
		}
	}
}

// P9.4: what may stand behind the frames, and nothing ahead of them.
func TestScan(t *testing.T) {
	wantScan(t, "nil", nil, nil, 0)
	wantScan(t, "no byte", []byte{}, nil, 0)
	wantScan(t, "zeros", make([]byte, 100), nil, 0)
	wantScan(t, "noise", noise(5, 100), nil, 0)
	frames := []api.Frame{{Kind: 1}, {Kind: 255, Body: []byte{5}}, {Kind: 1, Body: []byte("more")}, {Kind: 2, Body: noise(6, maxBody)}, {Kind: 1}}
	var b []byte
	for i, f := range frames {
		next := put(t, f.Kind, f.Body)
		turned := bytes.Clone(next)
		turned[len(turned)-1] ^= 1
		for _, rest := range [][]byte{nil, {0}, {1, 0, 0, 0}, next[:len(next)/2], next[:len(next)-1], make([]byte, 20), noise(i, 200), turned, slices.Concat(turned, next)} {
			wantScan(t, "frames and what follows", slices.Concat(b, rest), frames[:i], len(b))
		}
		b = append(b, next...)
		wantScan(t, "frames alone", b, frames[:i+1], len(b))
		wantScan(t, "frames behind a byte", slices.Concat([]byte{0}, b), nil, 0)
	}
}

// P9.6: each single bit of the kind, the body and the sum.
func TestSingleBits(t *testing.T) {
	for _, n := range []int{0, 1, 7, 64, maxBody} {
		b := put(t, 0x55, noise(n, n))
		for i := range 8 * len(b) {
			if i >= 8 && i < 8*head {
				continue // the length's, of which nothing is promised
			}
			wantError(t, "a bit inverted", inverted(b, i), api.ErrSum)
		}
	}
}

// P9.6: several bits of the kind: all other kinds that there are.
func TestKindBits(t *testing.T) {
	for _, n := range []int{0, 1, 50} {
		for kind := 1; kind < 256; kind++ {
			b := put(t, kind, noise(n, n))
			for x := 1; x < 256; x++ {
				other, want := kind^x, api.ErrSum
				if other == 0 {
					want = api.ErrKind
				}
				b[0] = byte(other)
				wantError(t, "another kind", b, want)
			}
		}
	}
}

// P9.6: several bits of the sum.
func TestSumBits(t *testing.T) {
	r := rand.New(rand.NewPCG(9, 5))
	for range 10000 {
		b := put(t, 1+r.IntN(255), noise(r.IntN(100), r.IntN(40)))
		pattern := max(r.Uint32()&r.Uint32(), 1)
		wantError(t, "bits of the sum inverted", inverted(b, bitsOf(pattern, 8*(len(b)-sum), 8*len(b))...), api.ErrSum)
	}
}

// P9.6: bits of the body within 32 adjacent ones, the first of them being any.
func TestBodyBits(t *testing.T) {
	r := rand.New(rand.NewPCG(9, 6))
	for range 20000 {
		n := 1 + r.IntN(40)
		b := put(t, 1+r.IntN(255), noise(n, n))
		pattern := r.Uint32() | 1
		if r.IntN(2) == 0 {
			pattern |= 1 << 31 // as far apart as may be
		}
		bits := bitsOf(pattern, 8*head+r.IntN(8*n), 8*(head+n))
		wantError(t, "bits of the body inverted", inverted(b, bits...), api.ErrSum)
	}
}

// bitsOf is the places of a pattern's ones, where its first bit lies at a place, and what is not ahead of the end is left out.
func bitsOf(pattern uint32, at, end int) []int {
	var bits []int
	for i := range 32 {
		if pattern>>i&1 == 1 && at+i < end {
			bits = append(bits, at+i)
		}
	}
	return bits
}

// P9.7: what was scanned, encoded again, is what was counted; nothing is got from there on.
func TestUnique(t *testing.T) {
	r := rand.New(rand.NewPCG(9, 7))
	for range 3000 {
		var b []byte
		for range r.IntN(6) {
			b = append(b, put(t, 1+r.IntN(255), noise(r.IntN(100), r.IntN(30)))...)
		}
		switch r.IntN(3) {
		case 0:
			b = b[:r.IntN(len(b)+1)]
		case 1:
			b = append(b, noise(r.IntN(100), r.IntN(20))...)
		}
		if len(b) > 0 && r.IntN(2) == 0 {
			b[r.IntN(len(b))] ^= byte(1 << r.IntN(8))
		}
		frames, n := frame.Scan(b)
		var again []byte
		for _, f := range frames {
			again = append(again, put(t, f.Kind, f.Body)...)
		}
		if !bytes.Equal(again, b[:n]) {
			t.Errorf("%x: scanned and encoded again: %x, %d counted", b, again, n)
		}
		if _, _, err := frame.Get(b[n:]); err == api.OK {
			t.Errorf("%x: a frame behind the %d that Scan counted", b, n)
		}
	}
}

// R3: arguments stay as they were, with what is behind their ends, and answers share nothing with them, nor with one another.
func TestSharing(t *testing.T) {
	room := noise(4, 500)
	room[0] = 1
	copy(room[20:], put(t, 3, []byte("first")))
	copy(room[34:], put(t, 4, []byte("second")))
	kept := bytes.Clone(room)
	frame.Sum(room[:10])
	one, two := put(t, 2, room[:10]), put(t, 2, room[:10])
	want := bytes.Clone(two)
	frames, n := frame.Scan(room[20:100])
	if len(frames) != 2 || n != 29 {
		t.Fatalf("Scan: %v, %d", frames, n)
	}
	f, _, _ := frame.Get(room[20:100])
	g, _, _ := frame.Get(room[20:100])
	scribble(one)
	scribble(f.Body)
	scribble(frames[0].Body)
	if !bytes.Equal(room, kept) {
		t.Error("an argument was changed")
	}
	clear(room)
	if !bytes.Equal(two, want) || string(g.Body) != "first" || string(frames[1].Body) != "second" {
		t.Errorf("an answer was changed: %x, %q, %q", two, g.Body, frames[1].Body)
	}
}

// scribble lays other bytes over all of a slice, and over what is behind its end.
func scribble(b []byte) {
	b = b[:cap(b)]
	for i := range b {
		b[i] ^= 0xA5
	}
}
