package poly_test

import (
	"bytes"
	"crypto/sha256"
	"encoding/hex"
	"math/big"
	"testing"

	"sealery/api"
	"sealery/poly"
)

const forum = "Cryptographic Forum Research Group"

// noise is bytes without a pattern, the same for the same seed.
func noise(seed uint32, n int) []byte {
	b := make([]byte, n)
	for i := range b {
		seed = seed*1664525 + 1013904223
		b[i] = byte(seed >> 24)
	}
	return b
}

// number is the number of bytes, the first one the lowest.
func number(b []byte) *big.Int {
	n := new(big.Int)
	for i := len(b) - 1; i >= 0; i-- {
		n.Lsh(n, 8).Or(n, big.NewInt(int64(b[i])))
	}
	return n
}

// bytesOf is the 16 bytes of a number modulo 2^128.
func bytesOf(n *big.Int) [16]byte {
	var b [16]byte
	for i := range b {
		b[i] = byte(new(big.Int).Rsh(n, uint(8*i)).Uint64())
	}
	return b
}

// power is 2^exponent and some more.
func power(exponent uint, more int64) *big.Int {
	n := new(big.Int).Lsh(big.NewInt(1), exponent)
	return n.Add(n, big.NewInt(more))
}

// prime is p.
func prime() *big.Int { return power(130, -5) }

// mask is the bits of each byte of a key that are cleared.
func mask(i int) byte {
	switch i {
	case 3, 7, 11, 15:
		return 0xf0
	case 4, 8, 12:
		return 0x03
	}
	return 0
}

// multiplier is r.
func multiplier(k api.Key) *big.Int {
	r := bytes.Clone(k[:16])
	for i := range r {
		r[i] &^= mask(i)
	}
	return number(r)
}

// accumulated is a, as the promise's words say it.
func accumulated(k api.Key, b []byte) *big.Int {
	r, a := multiplier(k), new(big.Int)
	for len(b) > 0 {
		n := min(16, len(b))
		block := append(bytes.Clone(b[:n]), 1)
		a.Add(a, number(block))
		a.Mod(a.Mul(a, r), prime())
		b = b[n:]
	}
	return a
}

// reference is the tag as the promise's words say it.
func reference(k api.Key, b []byte) api.Tag {
	return bytesOf(new(big.Int).Add(accumulated(k, b), number(k[16:])))
}

// keyOf is a key of those halves.
func keyOf(r, s []byte) api.Key {
	var k api.Key
	copy(k[:16], r)
	copy(k[16:], s)
	return k
}

// full is 16 bytes FF.
func full() []byte { return bytes.Repeat([]byte{0xff}, 16) }

// unhex is bytes of their hexadecimal text.
func unhex(t *testing.T, text string) []byte {
	t.Helper()
	b, err := hex.DecodeString(text)
	if err != nil {
		t.Fatal(err)
	}
	return b
}

// wantReference holds a tag against the promise's words.
func wantReference(t *testing.T, what string, k api.Key, b []byte) {
	t.Helper()
	if got, want := poly.Sum(k, b), reference(k, b); got != want {
		t.Errorf("%s: the key %x, %d bytes %x: %x, want %x", what, k, len(b), b, got, want)
	}
}

func TestExamples(t *testing.T) { // P4.1: those of the chapter
	k := api.Key(unhex(t, "85d6be7857556d337f4452fe42d506a80103808afb0db2fd4abff6af4149f51b"))
	want := api.Tag(unhex(t, "a8061dc1305136c6c22b8baf0c0127a9"))
	if got := poly.Sum(k, []byte(forum)); got != want {
		t.Errorf("%s: %x, want %x", forum, got, want)
	}
	if got := poly.Sum(api.Key{2}, full()); got != (api.Tag{3}) {
		t.Errorf("the key 02, sixteen bytes FF: %x", got)
	}
}

func TestPublished(t *testing.T) { // P4.1, P4.2: those of RFC 8439, A.3, which are chosen to come near p and 2^130
	const (
		s      = "36e5f6b5c5e06070f0efca96227a863e"
		zeros  = "00000000000000000000000000000000"
		ones   = "ffffffffffffffffffffffffffffffff"
		one    = "01000000000000000000000000000000"
		two    = "02000000000000000000000000000000"
		intent = "Any submission to the IETF intended by the Contributor for publication as all or part of an IETF Internet-Draft or RFC and any statement made within the context of an IETF activity is considered an \"IETF Contribution\". Such statements include oral statements in IETF sessions, as well as written and electronic communications made at any time or place, which are addressed to"
		slithy = "'Twas brillig, and the slithy toves\nDid gyre and gimble in the wabe:\nAll mimsy were the borogoves,\nAnd the mome raths outgrabe."
		fall   = "e33594d7505e43b900000000000000003394d7505e4379cd01000000000000000000000000000000000000000000000001000000000000000000000000000000"
	)
	texts := map[int]string{2: intent, 3: intent, 4: slithy}
	for i, x := range []struct{ key, message, want string }{
		{zeros + zeros, zeros + zeros + zeros + zeros, zeros},
		{zeros + s, "", s},
		{s + zeros, "", "f3477e7cd95417af89a6b8794c310cf0"},
		{"1c9240a5eb55d38af333888604f6b5f0473917c1402b80099dca5cbc207075c0", "", "4541669a7eaaee61e708dc7cbcc5eb62"},
		{two + zeros, ones, "03000000000000000000000000000000"},
		{two + ones, two, "03000000000000000000000000000000"},
		{one + zeros, ones + "f0ffffffffffffffffffffffffffffff" + "11000000000000000000000000000000", "05000000000000000000000000000000"},
		{one + zeros, ones + "fbfefefefefefefefefefefefefefefe" + "01010101010101010101010101010101", zeros},
		{two + zeros, "fdffffffffffffffffffffffffffffff", "faffffffffffffffffffffffffffffff"},
		{"01000000000000000400000000000000" + zeros, fall, "14000000000000005500000000000000"},
		{"01000000000000000400000000000000" + zeros, fall[:96], "13000000000000000000000000000000"},
	} {
		message := append([]byte(texts[i+1]), unhex(t, x.message)...)
		got, want := poly.Sum(api.Key(unhex(t, x.key)), message), api.Tag(unhex(t, x.want))
		if got != want {
			t.Errorf("number %d: %x, want %x", i+1, got, want)
		}
	}
}

func TestReference(t *testing.T) { // the words that the other tests go by, held against a published tag
	k := api.Key(unhex(t, "85d6be7857556d337f4452fe42d506a80103808afb0db2fd4abff6af4149f51b"))
	if want := api.Tag(unhex(t, "a8061dc1305136c6c22b8baf0c0127a9")); reference(k, []byte(forum)) != want {
		t.Errorf("%x, want %x", reference(k, []byte(forum)), want)
	}
}

func TestEachLength(t *testing.T) { // P4.1: no byte, 1, 15, 16, 17 and several blocks among them
	for n := range 300 {
		for seed := range uint32(20) {
			wantReference(t, "noise", api.Key(noise(seed, 32)), noise(seed+100, n))
		}
		wantReference(t, "zeros", api.Key(noise(1, 32)), make([]byte, n))
		wantReference(t, "ones", api.Key(bytes.Repeat([]byte{0xff}, 32)), bytes.Repeat([]byte{0xff}, n))
	}
}

func TestLongMessages(t *testing.T) { // P4.1
	for _, n := range []int{4095, 4096, 4097, 65535, 65536, 65537, 100000} {
		wantReference(t, "noise", api.Key(noise(2, 32)), noise(3, n))
		wantReference(t, "ones", api.Key(bytes.Repeat([]byte{0xff}, 32)), bytes.Repeat([]byte{0xff}, n))
	}
}

func TestManyTags(t *testing.T) { // P4.1: the digest of 2000 tags that OpenSSL 3.0 makes of the same keys and messages
	h := sha256.New()
	for i := range 2000 {
		tag := poly.Sum(api.Key(noise(uint32(i), 32)), noise(uint32(i+5000), i%700))
		h.Write(tag[:])
	}
	const want = "19bc730d5d2d1d23981aa3d443b4f41b1a71d77bae991488bc6aa976f98ed0db"
	if got := hex.EncodeToString(h.Sum(nil)); got != want {
		t.Errorf("%s, want %s", got, want)
	}
}

func TestLastBlock(t *testing.T) { // P4.1: a byte 01 behind the rest, where zeros would be mistaken for it
	k := api.Key{1}
	for n := 1; n <= 16; n++ {
		b := noise(4, n)
		want := append(bytes.Clone(b), 1)
		want = append(want, make([]byte, 16)...)
		if got := poly.Sum(k, b); got != api.Tag(want[:16]) {
			t.Errorf("%d bytes: %x, want %x", n, got, want[:16])
		}
		seen := map[api.Tag]int{}
		for zeros := range 40 {
			tag := poly.Sum(api.Key(noise(5, 32)), append(bytes.Clone(b), make([]byte, zeros)...))
			if before, twice := seen[tag]; twice {
				t.Errorf("%d bytes: the same tag with %d and with %d zeros", n, before, zeros)
			}
			seen[tag] = zeros
		}
	}
}

func TestOrderOfBlocks(t *testing.T) { // P4.1: an earlier block is multiplied more often
	k := api.Key{3}
	first, second := []byte("the first block!"), []byte("the second block")
	there, back := append(bytes.Clone(first), second...), append(bytes.Clone(second), first...)
	wantReference(t, "there", k, there)
	wantReference(t, "back", k, back)
	if poly.Sum(k, there) == poly.Sum(k, back) {
		t.Error("the order of two blocks has no part in the tag")
	}
}

func TestEachBitOfAMessage(t *testing.T) { // P4.1: each bit has its part at its place
	k, b := api.Key(noise(6, 32)), noise(7, 50)
	first := poly.Sum(k, b)
	for bit := range 8 * len(b) {
		other := bytes.Clone(b)
		other[bit/8] ^= 1 << (bit % 8)
		wantReference(t, "one bit turned", k, other)
		if poly.Sum(k, other) == first {
			t.Errorf("bit %d has no part in the tag", bit)
		}
	}
}

// cutIn is blocks with the given numbers: each is a block's own number less 2^128.
func cutIn(numbers ...*big.Int) []byte {
	var b []byte
	for _, n := range numbers {
		block := bytesOf(n)
		b = append(b, block[:]...)
	}
	return b
}

func TestSumsNearTheModulus(t *testing.T) { // P4.1: with an r of 1, a plus a block's number is each number near p and 2^130
	first, second := power(128, 7), power(129, -100)
	sofar := new(big.Int).Add(first, second)
	for more := int64(-40); more <= 40; more++ {
		target := power(130, more)
		b := cutIn(first, second, new(big.Int).Sub(target, sofar))
		want := bytesOf(new(big.Int).Mod(target, prime()))
		if got := poly.Sum(api.Key{1}, b); got != want {
			t.Errorf("the sum 2^130 %+d: %x, want %x", more, got, want)
		}
		for _, behind := range [][]byte{{0}, {1, 2, 3}, full(), noise(31, 40)} {
			wantReference(t, "a sum near the modulus, and more blocks", api.Key{1}, append(bytes.Clone(b), behind...))
		}
	}
}

func TestProductsNearTheModulus(t *testing.T) { // P4.1: one block times r, which is each even number about p and 2^130
	for r := int64(2); r <= 8; r += 2 {
		for more := int64(-64); more <= 64; more++ {
			whole := power(130, more)
			block, rest := new(big.Int).DivMod(whole, big.NewInt(r), new(big.Int))
			if rest.Sign() != 0 || block.Cmp(power(128, 0)) < 0 || block.Cmp(power(129, -1)) > 0 {
				continue
			}
			want := bytesOf(new(big.Int).Mod(whole, prime()))
			if got := poly.Sum(api.Key{byte(r)}, cutIn(block)); got != want {
				t.Errorf("r %d, the product 2^130 %+d: %x, want %x", r, more, got, want)
			}
		}
	}
}

// reaching is a message of two blocks after which a is the wanted number, and whether there is one for that r and first block.
func reaching(r, first, want *big.Int) ([]byte, bool) {
	inverse := new(big.Int).ModInverse(r, prime())
	a := new(big.Int).Mul(first, r)
	second := new(big.Int).Mul(want, inverse)
	second.Sub(second, a).Mod(second, prime())
	if second.Cmp(power(128, 0)) < 0 || second.Cmp(power(129, -1)) > 0 {
		return nil, false
	}
	return cutIn(first, second), true
}

func TestNumbersNearTheModulus(t *testing.T) { // P4.1: with an r of many bits, a becomes each number just below p, and 0 and those above it
	for seed := range uint32(8) {
		k := api.Key(noise(seed+8, 32))
		r := multiplier(k)
		for more := int64(-8); more <= 8; more++ {
			want := new(big.Int).Mod(power(130, more-5), prime())
			found := false
			for attempt := range uint32(200) {
				first := new(big.Int).Add(power(128, 0), number(noise(attempt, 16)))
				b, ok := reaching(r, first, want)
				if !ok {
					continue
				}
				found = true
				if accumulated(k, b).Cmp(want) != 0 {
					t.Fatalf("the test's message does not reach p %+d", more)
				}
				wantReference(t, "a near p", k, b)
				wantReference(t, "a near p, and a block behind it", k, append(b, full()...))
				wantReference(t, "a near p, and a byte behind it", k, append(b, 0))
			}
			if !found {
				t.Errorf("seed %d: no message reaches p %+d", seed, more)
			}
		}
	}
}

func TestSumsPastTheTag(t *testing.T) { // P4.1: a plus s at 2^128, 2^129 and 2^130, just below, equal, just above
	for _, a := range []*big.Int{power(128, 0), power(128, 5), power(129, -1), power(129, -9)} {
		for _, s := range []*big.Int{power(0, -1), power(0, 0), power(1, 0), power(64, -1), power(64, 0), power(127, 0), power(128, -9), power(128, -2), power(128, -1)} {
			end := bytesOf(s)
			want := bytesOf(new(big.Int).Add(a, s))
			if got := poly.Sum(keyOf([]byte{1}, end[:]), cutIn(a)); got != want {
				t.Errorf("a %s, s %s: %x, want %x", a, s, got, want)
			}
		}
	}
	two := make([]byte, 16)
	two[0] = 2
	if got := poly.Sum(keyOf([]byte{2}, full()), two); got != (api.Tag{3}) {
		t.Errorf("the key 02 .. FF .., sixteen bytes 02 00 ..: %x", got)
	}
}

func TestTagIsNotReduced(t *testing.T) { // P4.1: a plus s is taken modulo 2^128, not modulo p
	a := power(129, -1)
	for _, block := range [][]byte{cutIn(a), cutIn(a, power(128, 0)), cutIn(a, a)} {
		for _, low := range []byte{0xf0, 0xfa, 0xfb, 0xfc, 0xff} {
			s := full()
			s[0] = low
			wantReference(t, "a great s", keyOf([]byte{1}, s), block)
		}
	}
	got := poly.Sum(keyOf([]byte{1}, full()), cutIn(power(129, -1), power(129, -6))) // a is p - 2, and 2^130 is passed by s
	if want := bytesOf(new(big.Int).Add(power(130, -7), power(128, -1))); got != want {
		t.Errorf("p - 2 and 2^128 - 1: %x, want %x", got, want)
	}
}

func TestCarriesThroughATag(t *testing.T) { // P4.1: a carry out of each byte of the sum, and through all those behind it
	for i := range 16 {
		s := make([]byte, 16)
		s[i] = 0xff
		wantReference(t, "a carry out of one byte", keyOf([]byte{1}, s), full())
		long := append(make([]byte, i), full()...)[:16]
		wantReference(t, "a carry through the rest", keyOf([]byte{1}, long), cutIn(power(uint(8*i), 0)))
	}
}

func TestEmptyMessage(t *testing.T) { // P4.2
	for seed := range uint32(200) {
		k := api.Key(noise(seed, 32))
		want := api.Tag(k[16:])
		for _, b := range [][]byte{nil, {}, noise(9, 20)[:0]} {
			if got := poly.Sum(k, b); got != want {
				t.Errorf("the key %x: of nothing %x, want %x", k, got, want)
			}
		}
	}
	if got := poly.Sum(keyOf(full(), full()), nil); got != api.Tag(full()) {
		t.Errorf("a key of ones: of nothing %x", got)
	}
}

func TestMultiplierOfZero(t *testing.T) { // P4.2: also where only bits that are cleared are set
	var cleared [16]byte
	for i := range cleared {
		cleared[i] = mask(i)
	}
	for _, r := range [][]byte{nil, cleared[:]} {
		for n := range 100 {
			s := noise(uint32(n), 16)
			for _, b := range [][]byte{noise(10, n), make([]byte, n), bytes.Repeat([]byte{0xff}, n)} {
				if got := poly.Sum(keyOf(r, s), b); got != api.Tag(s) {
					t.Errorf("r of %x, %d bytes: %x, want %x", r, n, got, s)
				}
			}
		}
	}
}

func TestNotDegenerate(t *testing.T) { // P4.2: a byte 00 is a message already, and an r of 1 is not 0
	for seed := range uint32(20) {
		s := noise(seed+11, 16)
		for _, b := range [][]byte{{0}, {1}, make([]byte, 15), make([]byte, 17), {15: 1}} {
			k := keyOf([]byte{1}, s)
			wantReference(t, "an r of 1", k, b)
			if poly.Sum(k, b) == api.Tag(s) {
				t.Errorf("%d bytes: the tag is s", len(b))
			}
		}
	}
}

func TestAnotherEnd(t *testing.T) { // P4.3
	ends := [][]byte{make([]byte, 16), full(), {1}, {15: 0x80}, {0xfb, 15: 0xff}, noise(12, 16), noise(13, 16)}
	for seed := range uint32(30) {
		r := noise(seed+14, 16)
		for _, n := range []int{0, 1, 15, 16, 17, 32, 33, 100} {
			b := noise(seed+15, n)
			for _, s := range ends {
				for _, other := range ends {
					tag, moved := poly.Sum(keyOf(r, s), b), poly.Sum(keyOf(r, other), b)
					by := new(big.Int).Sub(number(other), number(s))
					if want := bytesOf(by.Add(by, number(tag[:])).Mod(by, power(128, 0))); moved != want {
						t.Errorf("r %x, s %x and %x, %d bytes: %x and %x", r, s, other, n, tag, moved)
					}
				}
			}
		}
	}
}

func TestEachBitOfTheEnd(t *testing.T) { // P4.3: each bit of s adds or takes away its own power of 2
	k, b := api.Key(noise(16, 32)), noise(17, 40)
	first := poly.Sum(k, b)
	for bit := range 128 {
		other := k
		other[16+bit/8] ^= 1 << (bit % 8)
		step := power(uint(bit), 0)
		if k[16+bit/8]>>(bit%8)&1 == 1 {
			step.Neg(step)
		}
		want := bytesOf(step.Add(step, number(first[:])).Mod(step, power(128, 0)))
		if got := poly.Sum(other, b); got != want {
			t.Errorf("bit %d of s: %x, want %x", bit, got, want)
		}
	}
}

func TestEachBitOfAMultiplier(t *testing.T) { // P4.4: those that are cleared have no effect, and all others have one
	messages := [][]byte{{1}, []byte(forum), full(), noise(18, 16), noise(19, 100)}
	for seed := range uint32(20) {
		k := api.Key(noise(seed+20, 32))
		if seed == 0 {
			k = api.Key{}
		}
		without := 0
		for bit := range 128 {
			other := k
			other[bit/8] ^= 1 << (bit % 8)
			cleared := mask(bit/8)>>(bit%8)&1 == 1
			if cleared {
				without++
			}
			for _, b := range messages {
				tag, moved := poly.Sum(k, b), poly.Sum(other, b)
				if (tag == moved) != cleared {
					t.Errorf("seed %d: bit %d of r, cleared %v: %x and %x", seed, bit, cleared, tag, moved)
				}
				wantReference(t, "one bit of r turned", other, b)
			}
		}
		if without != 22 {
			t.Fatalf("%d cleared bits, want 22", without)
		}
	}
}

func TestClearedBitsTogether(t *testing.T) { // P4.4: each choice of a byte's cleared bits, and all of all bytes
	b := noise(21, 70)
	for seed := range uint32(10) {
		k := api.Key(noise(seed+22, 32))
		bare, whole := k, k
		for i := range 16 {
			bare[i] &^= mask(i)
			whole[i] |= mask(i)
		}
		want := poly.Sum(bare, b)
		if poly.Sum(k, b) != want || poly.Sum(whole, b) != want {
			t.Errorf("seed %d: cleared bits have an effect", seed)
		}
		for i := range 16 {
			for bits := range 256 {
				other := bare
				other[i] |= byte(bits) & mask(i)
				if poly.Sum(other, b) != want {
					t.Errorf("seed %d: byte %d with %02X has an effect", seed, i, byte(bits)&mask(i))
				}
			}
		}
	}
}

func TestEndIsNotCleared(t *testing.T) { // P4.4: the same bits of s have their effect
	k := api.Key(noise(23, 32))
	for i := range 16 {
		for bit := range 8 {
			other := k
			other[16+i] ^= mask(i) & (1 << bit)
			if other != k && poly.Sum(other, nil) == poly.Sum(k, nil) {
				t.Errorf("bit %d of byte %d of s has no effect", bit, i)
			}
		}
	}
}

func TestGreatestKeyAndMessage(t *testing.T) { // P4.1: the greatest r and blocks, whose products are the greatest
	k := keyOf(full(), full())
	for n := range 1000 {
		wantReference(t, "ones", k, bytes.Repeat([]byte{0xff}, n))
	}
}

func TestArgumentsAreLeft(t *testing.T) { // R3: the bytes behind the slice's end too, where the byte 01 would fall
	k := api.Key(noise(24, 32))
	for n := range 140 {
		all := noise(25, n+200)
		before := bytes.Clone(all)
		poly.Sum(k, all[:n])
		if !bytes.Equal(all, before) {
			t.Errorf("%d bytes, or those behind their end, were changed", n)
		}
	}
}

func TestBehindTheEnd(t *testing.T) { // R3, P4.1: what stands behind the slice's end has no part in the tag
	k := api.Key(noise(26, 32))
	for n := range 70 {
		ones, zeros := bytes.Repeat([]byte{0xff}, n+50), bytes.Repeat([]byte{0xff}, n)
		zeros = append(zeros, make([]byte, 50)...)
		if poly.Sum(k, ones[:n]) != poly.Sum(k, zeros[:n]) {
			t.Errorf("%d bytes: those behind their end have a part in the tag", n)
		}
	}
}

func TestAskedAgain(t *testing.T) { // R4: what was asked before has no part in it
	k, b := api.Key(noise(27, 32)), noise(28, 90)
	first := poly.Sum(k, b)
	poly.Sum(api.Key(noise(29, 32)), noise(30, 33))
	if again := poly.Sum(k, b); again != first {
		t.Errorf("asked again: %x, want %x", again, first)
	}
}
