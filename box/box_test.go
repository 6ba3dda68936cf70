package box_test

import (
	"bytes"
	"encoding/binary"
	"math"
	"math/rand/v2"
	"testing"

	"sealery/api"
	"sealery/box"
)

// sealing is what a Seal was given, and what it has returned.
type sealing struct {
	k                   api.Key
	n                   api.Nonce
	head, plain, sealed []byte
}

// model is a box, and what the promises' words say of it.
type model struct {
	box   *box.Box
	l     []byte
	drawn int
	rows  []sealing
}

func begun(l []byte) *model { return &model{box: box.New(l), l: bytes.Clone(l)} }

// next is the next byte drawn.
func (m *model) next() byte {
	m.drawn++
	if m.drawn > len(m.l) {
		return 0
	}
	return m.l[m.drawn-1]
}

// seal seals, and holds what is returned, and the number of rows, against the words.
func (m *model) seal(t *testing.T, k api.Key, n api.Nonce, head, plain []byte) sealing {
	t.Helper()
	want := binary.LittleEndian.AppendUint64(nil, uint64(len(m.rows)))
	for range 8 + len(plain) {
		want = append(want, m.next())
	}
	sealed := m.box.Seal(k, n, head, plain)
	if !bytes.Equal(sealed, want) {
		t.Fatalf("a list of %d bytes, row %d, %d bytes: %x, want %x", len(m.l), len(m.rows), len(plain), sealed, want)
	}
	m.rows = append(m.rows, sealing{k, n, bytes.Clone(head), bytes.Clone(plain), sealed})
	m.wantLen(t)
	return m.rows[len(m.rows)-1]
}

func (m *model) wantLen(t *testing.T) {
	t.Helper()
	if got := m.box.Len(); got != len(m.rows) {
		t.Errorf("%d rows, want %d", got, len(m.rows))
	}
}

func (m *model) wantOpen(t *testing.T, what string, s sealing) {
	t.Helper()
	if plain, ok := m.box.Open(s.k, s.n, s.head, s.sealed); !ok || !bytes.Equal(plain, s.plain) {
		t.Errorf("%s: Open of %x: %x, %v, want %x", what, s.sealed, plain, ok, s.plain)
	}
	m.wantLen(t)
}

func (m *model) wantShut(t *testing.T, what string, s sealing) {
	t.Helper()
	if plain, ok := m.box.Open(s.k, s.n, s.head, s.sealed); ok || plain != nil {
		t.Errorf("%s: Open of %x: %x, %v, want nothing", what, s.sealed, plain, ok)
	}
	m.wantLen(t)
}

// wantAllOpen holds each row against what Open returns, in both orders.
func (m *model) wantAllOpen(t *testing.T) {
	t.Helper()
	for i := range m.rows {
		m.wantOpen(t, "what was sealed", m.rows[i])
		m.wantOpen(t, "what was sealed", m.rows[len(m.rows)-1-i])
	}
}

// noise is bytes without a pattern, the same for the same seed.
func noise(seed, n int) []byte {
	var s [32]byte
	binary.LittleEndian.PutUint64(s[:], uint64(seed))
	b := make([]byte, n)
	rand.NewChaCha8(s).Read(b)
	return b
}

// secrets are a key and a nonce without a pattern.
func secrets(seed int) (api.Key, api.Nonce) {
	b := noise(seed, 44)
	return api.Key(b[:32]), api.Nonce(b[32:])
}

// filled is a model with rows of some lengths of heads and plain bytes.
func filled(t *testing.T, l []byte) *model {
	t.Helper()
	m := begun(l)
	for i, size := range []int{0, 1, 2, 7, 8, 9, 16, 40, 0, 1} {
		k, n := secrets(i)
		m.seal(t, k, n, noise(i+100, (i*5)%17), noise(i+200, size))
	}
	return m
}

// joined is new bytes: those of all parts.
func joined(parts ...[]byte) []byte { return bytes.Join(parts, nil) }

// turned is new bytes, with one bit turned.
func turned(b []byte, bit int) []byte {
	b = bytes.Clone(b)
	b[bit/8] ^= 1 << (bit % 8)
	return b
}

// spoil turns all bits of bytes and of the room behind them.
func spoil(b []byte) {
	b = b[:cap(b)]
	for i := range b {
		b[i] ^= 0xff
	}
}

func TestExample(t *testing.T) { // P6.1 to P6.4: that of the chapter
	x := box.New([]byte{5, 6, 7})
	two := x.Seal(api.Key{1}, api.Nonce{2}, []byte("head"), []byte{3, 4})
	if want := []byte{0, 0, 0, 0, 0, 0, 0, 0, 5, 6, 7, 0, 0, 0, 0, 0, 0, 0}; !bytes.Equal(two, want) {
		t.Errorf("two bytes: %v, want %v", two, want)
	}
	none := x.Seal(api.Key{1}, api.Nonce{2}, []byte("head"), nil)
	if want := []byte{1, 0, 0, 0, 0, 0, 0, 0, 0, 0, 0, 0, 0, 0, 0, 0}; !bytes.Equal(none, want) {
		t.Errorf("no bytes: %v, want %v", none, want)
	}
	if plain, ok := x.Open(api.Key{1}, api.Nonce{2}, []byte("head"), two); !ok || !bytes.Equal(plain, []byte{3, 4}) {
		t.Errorf("two bytes opened: %v, %v", plain, ok)
	}
	if plain, ok := x.Open(api.Key{1}, api.Nonce{2}, []byte("head"), none); !ok || len(plain) != 0 {
		t.Errorf("no bytes opened: %v, %v", plain, ok)
	}
	if x.Len() != 2 {
		t.Errorf("%d rows, want 2", x.Len())
	}
}

func TestIsACipher(t *testing.T) { // 'Types': a Box is an api.Cipher
	var c api.Cipher = box.New(nil)
	sealed := c.Seal(api.Key{}, api.Nonce{}, nil, []byte("text"))
	if plain, ok := c.Open(api.Key{}, api.Nonce{}, nil, sealed); !ok || string(plain) != "text" {
		t.Errorf("%q, %v", plain, ok)
	}
}

func TestNewHasNoRows(t *testing.T) { // P6.1, P6.3, P6.4: whatever the list holds
	for _, l := range [][]byte{nil, {}, {0}, noise(1, 300)} {
		m := begun(l)
		m.wantLen(t)
		for _, b := range [][]byte{nil, {}, l, make([]byte, 7), make([]byte, 8), make([]byte, 16), make([]byte, 17), bytes.Repeat([]byte{0xff}, 16)} {
			m.wantShut(t, "of no row", sealing{sealed: b})
		}
		m.wantShut(t, "what the first row would be", sealing{sealed: joined(make([]byte, 8), append(bytes.Clone(l), make([]byte, 8)...)[:8])})
	}
}

func TestEachListBesideEachLength(t *testing.T) { // P6.1, P6.2: a list that ends ahead of, within and behind the sealings
	for long := range 61 {
		for wide := range 20 {
			m := begun(noise(2, long))
			for i, size := range []int{wide, 0, 1, wide, 2 * wide} {
				k, n := secrets(i)
				m.seal(t, k, n, noise(i, wide), noise(i+3, size))
			}
			m.wantAllOpen(t)
		}
	}
}

func TestListThatNeverEnds(t *testing.T) { // P6.1, P6.2: longer than all sealings need
	m := begun(noise(3, 100000))
	for i := range 500 {
		k, n := secrets(i)
		m.seal(t, k, n, noise(i, i%9), noise(i+4, i*7%101))
	}
	if m.drawn >= len(m.l) {
		t.Fatalf("%d bytes were drawn of %d", m.drawn, len(m.l))
	}
	m.wantAllOpen(t)
}

func TestListsBytes(t *testing.T) { // P6.1: a byte of the list that is 00 is no end of it
	for _, l := range [][]byte{{0}, {0, 0, 0, 1}, {1, 0, 0, 0, 0, 0, 0, 0, 2, 0, 3}, bytes.Repeat([]byte{0xff}, 30), append(make([]byte, 20), 9)} {
		m := begun(l)
		for size := range 6 {
			m.seal(t, api.Key{}, api.Nonce{}, nil, make([]byte, size))
		}
		m.wantAllOpen(t)
	}
}

func TestListIsKept(t *testing.T) { // P6.1: the list as it was at New, without what stands behind its end
	for _, long := range []int{0, 1, 8, 20, 100} {
		whole := noise(5, long+50)
		m := begun(whole[:long])
		spoil(whole)
		m.seal(t, api.Key{}, api.Nonce{}, nil, []byte("text"))
		spoil(whole)
		m.seal(t, api.Key{}, api.Nonce{}, nil, []byte("text"))
		clear(whole)
		for range 5 {
			m.seal(t, api.Key{}, api.Nonce{}, nil, noise(6, 15))
		}
		m.wantAllOpen(t)
		if !bytes.Equal(whole, make([]byte, long+50)) {
			t.Errorf("a list of %d bytes, or what stands behind it, was changed", long)
		}
	}
}

func TestManyRows(t *testing.T) { // P6.2, P6.4, P6.5: numbers of one, two and three bytes
	m := begun(noise(7, 1000))
	seen := map[string]int{}
	for i := range 1<<16 + 300 {
		s := m.seal(t, api.Key{byte(i), byte(i >> 8)}, api.Nonce{byte(i >> 16)}, noise(i, 2), []byte{byte(i), byte(i >> 5)}[:i%3])
		if j, twice := seen[string(s.sealed)]; twice {
			t.Fatalf("rows %d and %d have the same sealed bytes", j, i)
		}
		seen[string(s.sealed)] = i
	}
	m.wantAllOpen(t)
	for i, s := range m.rows {
		other := m.rows[(i+256)%len(m.rows)]
		other.sealed = s.sealed
		m.wantShut(t, "of another row", other)
	}
}

func TestLongBytes(t *testing.T) { // P6.2, P6.3
	m := begun(noise(8, 70000))
	k, n := secrets(8)
	for _, size := range []int{255, 256, 257, 65535, 65536, 100000} {
		m.seal(t, k, n, noise(9, size), noise(10, size))
	}
	m.wantAllOpen(t)
}

func TestSameTwice(t *testing.T) { // P6.2, P6.5: a row for each, and each opens
	for _, l := range [][]byte{nil, noise(11, 10), noise(11, 200), bytes.Repeat([]byte{7}, 200)} {
		for size := range 20 {
			m := begun(l)
			k, n := secrets(size)
			first := m.seal(t, k, n, []byte("head"), noise(12, size))
			second := m.seal(t, k, n, []byte("head"), noise(12, size))
			if bytes.Equal(first.sealed, second.sealed) {
				t.Errorf("%d bytes: both are %x", size, first.sealed)
			}
			m.wantAllOpen(t)
		}
	}
}

func TestSameSecrets(t *testing.T) { // P6.3: other bytes under the same key, nonce and head are other rows
	m := begun(nil)
	for i := range 300 {
		m.seal(t, api.Key{1}, api.Nonce{2}, []byte("head"), []byte{byte(i), byte(i >> 8)})
	}
	m.wantAllOpen(t)
}

func TestNoBytes(t *testing.T) { // R3: nil and empty are alike, as a list, a head and plain bytes
	nothing := [][]byte{nil, {}, noise(13, 9)[:0]}
	for _, l := range nothing {
		m := begun(l)
		for _, head := range nothing {
			for _, plain := range nothing {
				s := m.seal(t, api.Key{3}, api.Nonce{4}, head, plain)
				for _, other := range nothing {
					s.head = other
					m.wantOpen(t, "of nothing", s)
				}
				s.head = []byte{0}
				m.wantShut(t, "with a head", s)
			}
		}
	}
}

func TestOtherSecrets(t *testing.T) { // P6.3, P6.5: each bit of the key and of the nonce has its part
	m := filled(t, noise(14, 90))
	for _, s := range m.rows {
		other := s
		for bit := range 8 * len(s.k) {
			other.k = api.Key(turned(s.k[:], bit))
			m.wantShut(t, "one bit of the key turned", other)
		}
		other = s
		for bit := range 8 * len(s.n) {
			other.n = api.Nonce(turned(s.n[:], bit))
			m.wantShut(t, "one bit of the nonce turned", other)
		}
		other = s
		other.k = api.Key{}
		m.wantShut(t, "no key", other)
		other = s
		other.n = api.Nonce{}
		m.wantShut(t, "no nonce", other)
	}
	m.wantAllOpen(t)
}

func TestOtherHeads(t *testing.T) { // P6.3, P6.5: each bit of the head, and its length
	for _, long := range []int{0, 1, 2, 8, 33} {
		for _, head := range [][]byte{noise(15, long), make([]byte, long)} {
			m := begun(noise(16, 30))
			k, n := secrets(16)
			s := m.seal(t, k, n, head, []byte("text"))
			other := s
			for bit := range 8 * long {
				other.head = turned(head, bit)
				m.wantShut(t, "one bit of the head turned", other)
			}
			for cut := 1; cut <= long; cut++ {
				other.head = head[:long-cut]
				m.wantShut(t, "the head's end is missing", other)
				other.head = head[cut:]
				m.wantShut(t, "the head's start is missing", other)
			}
			for more := 1; more < 20; more++ {
				other.head = joined(head, make([]byte, more))
				m.wantShut(t, "a longer head", other)
				other.head = joined(make([]byte, more), head, []byte{1})
				m.wantShut(t, "a longer head", other)
			}
			m.wantAllOpen(t)
		}
	}
}

func TestBoundaryOfTheHead(t *testing.T) { // P6.3: the same bytes, cut elsewhere into a head and plain bytes
	all := noise(17, 12)
	for cut := range len(all) + 1 {
		m := begun(nil)
		s := m.seal(t, api.Key{}, api.Nonce{}, all[:cut], all[cut:])
		for other := range len(all) + 1 {
			if other != cut {
				s.head = all[:other]
				m.wantShut(t, "cut elsewhere", s)
			}
		}
		m.wantAllOpen(t)
	}
}

func TestOtherBytes(t *testing.T) { // P6.3, P6.5: each byte, changed to each other one
	m := filled(t, noise(18, 70))
	for _, s := range m.rows {
		other := s
		for i := range s.sealed {
			for by := 1; by < 256; by++ {
				other.sealed = bytes.Clone(s.sealed)
				other.sealed[i] ^= byte(by)
				m.wantShut(t, "one byte changed", other)
			}
		}
		other.sealed = bytes.Repeat([]byte{0xff}, len(s.sealed))
		m.wantShut(t, "bytes never sealed", other)
	}
	m.wantAllOpen(t)
}

func TestAnotherLength(t *testing.T) { // P6.3, P6.5: bytes that are missing or too many, at each end
	for _, l := range [][]byte{nil, noise(19, 70)} {
		m := filled(t, l)
		for _, s := range m.rows {
			other := s
			for cut := 1; cut <= len(s.sealed); cut++ {
				other.sealed = s.sealed[:len(s.sealed)-cut]
				m.wantShut(t, "the end is missing", other)
				other.sealed = s.sealed[cut:]
				m.wantShut(t, "the start is missing", other)
			}
			other.sealed = nil
			m.wantShut(t, "nil", other)
			for more := 1; more < 20; more++ {
				for _, b := range [][]byte{make([]byte, more), noise(20, more)} {
					other.sealed = joined(s.sealed, b)
					m.wantShut(t, "bytes behind", other)
					other.sealed = joined(b, s.sealed)
					m.wantShut(t, "bytes ahead", other)
				}
			}
		}
		m.wantAllOpen(t)
	}
}

func TestOtherNumbers(t *testing.T) { // P6.3, R1: a number of no row, up to the highest, and that of another row
	for _, l := range [][]byte{nil, noise(21, 500)} {
		m := filled(t, l)
		numbers := []uint64{math.MaxUint64, math.MaxInt64, math.MaxInt64 + 1, -uint64(len(m.rows)), math.MaxUint32}
		for i := range 20 {
			numbers = append(numbers, uint64(i), 1<<63+uint64(i), 1<<32+uint64(i))
		}
		for i, s := range m.rows {
			other := s
			for _, number := range numbers {
				if number != uint64(i) {
					other.sealed = binary.LittleEndian.AppendUint64(nil, number)
					m.wantShut(t, "a number alone", other)
					other.sealed = joined(other.sealed, s.sealed[8:])
					m.wantShut(t, "another number", other)
				}
			}
		}
		m.wantAllOpen(t)
	}
}

func TestEachRowUnderEach(t *testing.T) { // P6.3, P6.5: rows that differ in one part only
	m := begun(nil)
	for _, k := range []api.Key{{}, {31: 1}, {1}} {
		for _, n := range []api.Nonce{{}, {11: 1}, {1}} {
			for _, head := range []string{"", "\x00", "h", "hh"} {
				m.seal(t, k, n, []byte(head), []byte("text"))
			}
		}
	}
	for i, s := range m.rows {
		for j, other := range m.rows {
			if i != j {
				other.sealed = s.sealed
				m.wantShut(t, "as another row", other)
			}
		}
	}
	m.wantAllOpen(t)
}

func TestOpenChangesNothing(t *testing.T) { // P6.3: what is sealed behind it is drawn as if nothing was opened
	m := begun(noise(22, 60))
	for i := range 10 {
		k, n := secrets(i)
		s := m.seal(t, k, n, noise(i, i), noise(i+1, i))
		m.wantAllOpen(t)
		s.k[0]++
		m.wantShut(t, "another key", s)
		s.sealed = nil
		m.wantShut(t, "nothing", s)
	}
}

func TestLen(t *testing.T) { // P6.4: it counts what is sealed, and changes nothing
	x := box.New(noise(23, 20))
	for i := range 600 {
		for range 2 {
			if got := x.Len(); got != i {
				t.Fatalf("%d rows, want %d", got, i)
			}
		}
		x.Seal(api.Key{}, api.Nonce{}, nil, make([]byte, i%5))
	}
}

func TestTwoBoxes(t *testing.T) { // P6.1: what one does has no part in what the other does
	l := noise(24, 100)
	first, second := &model{box: box.New(l), l: bytes.Clone(l)}, &model{box: box.New(l), l: bytes.Clone(l)}
	for i := range 20 {
		k, n := secrets(i)
		s := first.seal(t, k, n, noise(i, 3), noise(i, i))
		second.wantShut(t, "what the other one sealed", s)
		if i%3 == 0 {
			k, n = secrets(i + 100)
			s = second.seal(t, k, n, noise(i+1, 4), noise(i+1, i/2))
			first.wantShut(t, "what the other one sealed", s)
		}
		first.wantAllOpen(t)
		second.wantAllOpen(t)
	}
}

func TestOnlyLengthsAreTold(t *testing.T) { // P6.6: other keys, nonces, heads and plain bytes of the same lengths, other Opens
	for _, l := range [][]byte{nil, noise(25, 40), noise(25, 1000)} {
		first, second := box.New(l), box.New(l)
		for i := range 30 {
			k, n := secrets(i)
			plain := noise(i+26, i*11%17)
			x := first.Seal(k, n, noise(i, i%7), plain)
			first.Open(k, n, noise(i, i%7), x)
			y := second.Seal(api.Key{}, api.Nonce{}, nil, make([]byte, len(plain)))
			if !bytes.Equal(x, y) {
				t.Errorf("a list of %d bytes, row %d: %x and %x", len(l), i, x, y)
			}
		}
	}
}

func TestArgumentsChangedAfter(t *testing.T) { // R3: none is kept
	m := begun(noise(27, 50))
	var given [][]byte
	for i := range 12 {
		k, n := secrets(i)
		head, plain := noise(i+28, i), noise(i+29, 2*i)
		m.seal(t, k, n, head, plain)
		given = append(given, head, plain)
	}
	for _, b := range given {
		spoil(b)
	}
	m.wantAllOpen(t)
	for _, s := range m.rows {
		sealed := bytes.Clone(s.sealed)
		m.box.Open(s.k, s.n, s.head, sealed)
		spoil(sealed)
	}
	m.wantAllOpen(t)
}

func TestArgumentsAreLeft(t *testing.T) { // R3: those behind the slices' ends too
	for _, long := range []int{0, 1, 8, 20} {
		for _, wide := range []int{0, 1, 8, 20} {
			l, head, plain := noise(30, 60), noise(31, long+100), noise(32, wide+100)
			kept := [][]byte{bytes.Clone(l), bytes.Clone(head), bytes.Clone(plain)}
			m := begun(l[:10])
			s := m.seal(t, api.Key{5}, api.Nonce{6}, head[:long], plain[:wide])
			m.seal(t, api.Key{7}, api.Nonce{8}, plain[:wide], head[:long])
			sealed := joined(s.sealed, noise(33, 100))
			shut := turned(sealed, 8*len(s.sealed)-1)
			kept = append(kept, bytes.Clone(sealed), bytes.Clone(shut))
			m.wantOpen(t, "with room behind", sealing{s.k, s.n, head[:long], plain[:wide], sealed[:len(s.sealed)]})
			m.wantShut(t, "with room behind", sealing{s.k, s.n, head[:long], nil, shut[:len(s.sealed)]})
			for i, b := range [][]byte{l, head, plain, sealed, shut} {
				if !bytes.Equal(b, kept[i]) {
					t.Errorf("a head of %d and %d bytes: argument %d, or what stands behind it, was changed", long, wide, i)
				}
			}
		}
	}
}

func TestArgumentsInOneArray(t *testing.T) { // R3: a list, a head and plain bytes that share memory
	for cut := range 30 {
		all := noise(34, 60)
		before := bytes.Clone(all)
		m := begun(all)
		m.seal(t, api.Key{}, api.Nonce{}, all[:cut], all[cut:])
		m.seal(t, api.Key{}, api.Nonce{}, all, all)
		if !bytes.Equal(all, before) {
			t.Errorf("cut at %d: the arguments were changed", cut)
		}
		spoil(all)
		m.wantAllOpen(t)
	}
}

func TestOpenedWrittenOver(t *testing.T) { // R3: what Open returned is new memory each time
	m := filled(t, noise(35, 60))
	for _, s := range m.rows {
		for range 3 {
			opened, ok := m.box.Open(s.k, s.n, s.head, s.sealed)
			again, _ := m.box.Open(s.k, s.n, s.head, s.sealed)
			spoil(opened)
			if !ok || !bytes.Equal(again, s.plain) {
				t.Errorf("%d bytes: results share memory", len(s.plain))
			}
			m.wantAllOpen(t)
		}
	}
}

func TestSealedWrittenOver(t *testing.T) { // R3: what Seal returned is new memory
	for _, long := range []int{0, 5, 60, 1000} {
		m := begun(noise(36, long))
		for i := range 12 {
			k, n := secrets(i)
			head, plain := noise(i+37, i), noise(i+38, i)
			first := m.seal(t, k, n, head, plain)
			sealed := bytes.Clone(first.sealed)
			spoil(first.sealed)
			m.wantShut(t, "what was written over", first)
			if !bytes.Equal(head, noise(i+37, i)) || !bytes.Equal(plain, noise(i+38, i)) {
				t.Errorf("%d bytes: a result shares an argument's memory", i)
			}
			m.rows[i].sealed = sealed
			m.wantAllOpen(t)
		}
	}
}
