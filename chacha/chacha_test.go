package chacha_test

import (
	"bytes"
	"crypto/sha256"
	"encoding/binary"
	"encoding/hex"
	"math"
	"testing"

	"sealery/api"
	"sealery/chacha"
)

const sunscreen = "Ladies and Gentlemen of the class of '99: If I could offer you only one tip for the future, sunscreen would be it."

// counters are those about their end and their middle, and small ones.
var counters = []uint32{0, 1, 2, 255, 256, math.MaxInt32, math.MaxInt32 + 1, math.MaxUint32 - 2, math.MaxUint32 - 1, math.MaxUint32}

// noise is bytes without a pattern, the same for the same seed.
func noise(seed uint32, n int) []byte {
	b := make([]byte, n)
	for i := range b {
		seed = seed*1664525 + 1013904223
		b[i] = byte(seed >> 24)
	}
	return b
}

// secrets are a key and a nonce without a pattern.
func secrets(seed uint32) (api.Key, api.Nonce) {
	return api.Key(noise(seed, 32)), api.Nonce(noise(seed+1, 12))
}

// countedKey is the key 00 01 .. 1F.
func countedKey() api.Key {
	var k api.Key
	for i := range k {
		k[i] = byte(i)
	}
	return k
}

// turnLeft adds words[from] to words[to], and rotates what the sum makes of words[other] to the left: a half line of a quarter round.
func turnLeft(words []uint32, to, from, other, by int) {
	words[to] += words[from]
	x := uint64(words[other]^words[to]) << by
	words[other] = uint32(x) | uint32(x>>32)
}

// reference is a block as the promise's words say it.
func reference(key api.Key, counter uint32, nonce api.Nonce) []byte {
	text := append([]byte("expand 32-byte k"), key[:]...)
	text = binary.LittleEndian.AppendUint32(text, counter)
	text = append(text, nonce[:]...)
	var initial []uint32
	for ; len(text) > 0; text = text[4:] {
		initial = append(initial, binary.LittleEndian.Uint32(text))
	}
	words := append([]uint32(nil), initial...)
	for round := range 20 {
		slant := round % 2 // none for columns, one for diagonals
		for i := range 4 {
			a, b, c, d := i, 4+(i+slant)%4, 8+(i+2*slant)%4, 12+(i+3*slant)%4
			turnLeft(words, a, b, d, 16)
			turnLeft(words, c, d, b, 12)
			turnLeft(words, a, b, d, 8)
			turnLeft(words, c, d, b, 7)
		}
	}
	var block []byte
	for i, w := range words {
		block = binary.LittleEndian.AppendUint32(block, w+initial[i])
	}
	return block
}

// stream is the first n bytes of a keystream, by its blocks.
func stream(key api.Key, counter uint32, nonce api.Nonce, n int) []byte {
	var s []byte
	for ; len(s) < n; counter++ {
		s = append(s, reference(key, counter, nonce)...)
	}
	return s[:n]
}

// combined is the exclusive or of bytes at the same index.
func combined(a, b []byte) []byte {
	x := make([]byte, len(a))
	for i := range x {
		x[i] = a[i] ^ b[i]
	}
	return x
}

func wantHex(t *testing.T, what string, got []byte, want string) {
	t.Helper()
	if text := hex.EncodeToString(got); text != want {
		t.Errorf("%s: %s, want %s", what, text, want)
	}
}

func TestBlockExamples(t *testing.T) { // P3.1: those of the chapter, those of RFC 8439, and words that are all ones
	var ones api.Key
	var allOnes api.Nonce
	copy(ones[:], bytes.Repeat([]byte{0xff}, 32))
	copy(allOnes[:], bytes.Repeat([]byte{0xff}, 12))
	for _, x := range []struct {
		what    string
		key     api.Key
		counter uint32
		nonce   api.Nonce
		want    string
	}{
		{"00 01 .. 1F", countedKey(), 1, api.Nonce{3: 9, 7: 0x4a}, "10f1e7e4d13b5915500fdd1fa32071c4c7d1f4c733c068030422aa9ac3d46c4ed2826446079faa0914c2d705d98b02a2b5129cd1de164eb9cbd083e8a2503c4e"},
		{"zeros", api.Key{}, 0, api.Nonce{}, "76b8e0ada0f13d90405d6ae55386bd28bdd219b8a08ded1aa836efcc8b770dc7da41597c5157488d7724e03fb8d84a376a43b8f41518a11cc387b669b2ee6586"},
		{"zeros, counter 1", api.Key{}, 1, api.Nonce{}, "9f07e7be5551387a98ba977c732d080dcb0f29a048e3656912c6533e32ee7aed29b721769ce64e43d57133b074d839d531ed1f28510afb45ace10a1f4b794d6f"},
		{"a key's last byte", api.Key{31: 1}, 1, api.Nonce{}, "3aeb5224ecf849929b9d828db1ced4dd832025e8018b8160b82284f3c949aa5a8eca00bbb4a73bdad192b5c42f73f2fd4e273644c8b36125a64addeb006c13a0"},
		{"a key's second byte", api.Key{1: 0xff}, 2, api.Nonce{}, "72d54dfbf12ec44b362692df94137f328fea8da73990265ec1bbbea1ae9af0ca13b25aa26cb4a648cb9b9d1be65b2c0924a66c54d545ec1b7374f4872e99f096"},
		{"a nonce's last byte", api.Key{}, 0, api.Nonce{11: 2}, "c2c64d378cd536374ae204b9ef933fcd1a8b2288b3dfa49672ab765b54ee27c78a970e0e955c14f3a88e741b97c286f75f8fc299e8148362fa198a39531bed6d"},
		{"ones", ones, math.MaxUint32, allOnes, "d72b21cfa4b6b0c41d61f62b8a11159c6a4f63bc56c2035796c7ad37811121bbec56d54a530f3a933dd28a50feb23bfaf64f405be985f3718bdf4683e96be749"},
		{"ones, counter 2^31", ones, 1 << 31, allOnes, "cc0f55f09878471bdf93880d15edbb04166e4f50e86c52b0f8ca39a27e3889ec123b29d24fe033c08a003aaa9d74e2204f85e182526d369a66b84e9e95a94e1a"},
	} {
		block := chacha.Block(x.key, x.counter, x.nonce)
		wantHex(t, x.what, block[:], x.want)
	}
}

func TestBlockAsWritten(t *testing.T) { // P3.1
	for seed := range uint32(300) {
		key, nonce := secrets(seed)
		for _, counter := range append(counters, seed*0x01010101) {
			block := chacha.Block(key, counter, nonce)
			if want := reference(key, counter, nonce); !bytes.Equal(block[:], want) {
				t.Fatalf("seed %d, counter %d: %x, want %x", seed, counter, block, want)
			}
		}
	}
}

func TestBlockOfEachBit(t *testing.T) { // P3.1: each bit of the key, the counter and the nonce has its part at its place
	key, nonce := secrets(1)
	const counter = 0x12345678
	first := chacha.Block(key, counter, nonce)
	check := func(what string, bit int, key api.Key, counter uint32, nonce api.Nonce) {
		got := chacha.Block(key, counter, nonce)
		if want := reference(key, counter, nonce); !bytes.Equal(got[:], want) || got == first {
			t.Errorf("bit %d of the %s turned: %x, want %x", bit, what, got, want)
		}
	}
	for bit := range 8 * len(key) {
		turned := key
		turned[bit/8] ^= 1 << (bit % 8)
		check("key", bit, turned, counter, nonce)
	}
	for bit := range 32 {
		check("counter", bit, key, counter^1<<bit, nonce)
	}
	for bit := range 8 * len(nonce) {
		turned := nonce
		turned[bit/8] ^= 1 << (bit % 8)
		check("nonce", bit, key, counter, turned)
	}
}

func TestXorExamples(t *testing.T) { // P3.2: that of the chapter, and the whole text of RFC 8439
	nonce := api.Nonce{7: 0x4a}
	wantHex(t, "16 bytes", chacha.Xor(countedKey(), 1, nonce, []byte("Ladies and Gentl")), "6e2e359a2568f98041ba0728dd0d6981")
	wantHex(t, "the whole", chacha.Xor(countedKey(), 1, nonce, []byte(sunscreen)), "6e2e359a2568f98041ba0728dd0d6981e97e7aec1d4360c20a27afccfd9fae0bf91b65c5524733ab8f593dabcd62b3571639d624e65152ab8f530c359f0861d807ca0dbf500d6a6156a38e088a22b65e52bc514d16ccf806818ce91ab77937365af90bbf74a35be6b40b8eedf2785e42874d")
}

func TestXorOfALongText(t *testing.T) { // P3.2: 70000 zeros, and what another program's keystream digests to
	var nonce api.Nonce
	for i := range nonce {
		nonce[i] = byte(i)
	}
	digest := sha256.Sum256(chacha.Xor(countedKey(), 7, nonce, make([]byte, 70000)))
	wantHex(t, "the keystream's digest", digest[:], "d1183e6f5b8c3364068f62ea02e35df52f8e2c6d7619a5ed3a42bcd886242c75")
}

func TestXorOfNothing(t *testing.T) { // P3.2: no byte, nil or empty
	key, nonce := secrets(2)
	for _, counter := range counters {
		for _, b := range [][]byte{nil, {}, noise(3, 10)[:0]} {
			if x := chacha.Xor(key, counter, nonce, b); len(x) != 0 {
				t.Errorf("counter %d: of nothing %x", counter, x)
			}
		}
	}
}

func TestXorOfEachLength(t *testing.T) { // P3.2: 63, 64 and 65 bytes among them, with each counter
	for _, counter := range counters {
		key, nonce := secrets(counter)
		for n := range 330 {
			b := noise(uint32(n), n)
			want := combined(b, stream(key, counter, nonce, n))
			if x := chacha.Xor(key, counter, nonce, b); !bytes.Equal(x, want) {
				t.Errorf("counter %d, %d bytes: %x, want %x", counter, n, x, want)
			}
		}
	}
}

func TestXorIsByBlocks(t *testing.T) { // P3.2: of zeros, what Block returns, and behind the counter 2^32 - 1 that of 0
	key, nonce := secrets(4)
	for _, counter := range counters {
		x := chacha.Xor(key, counter, nonce, make([]byte, 6*64))
		for n := range 6 {
			if block := chacha.Block(key, counter+uint32(n), nonce); !bytes.Equal(x[64*n:64*n+64], block[:]) {
				t.Errorf("counter %d: block %d is not Block's", counter, n)
			}
		}
	}
	last, none, one := chacha.Block(key, math.MaxUint32, nonce), chacha.Block(key, 0, nonce), chacha.Block(key, 1, nonce)
	want := append(append(last[:], none[:]...), one[:]...)
	if x := chacha.Xor(key, math.MaxUint32, nonce, make([]byte, 3*64)); !bytes.Equal(x, want) {
		t.Error("the counter 2^32 - 1 is not followed by 0 and 1")
	}
}

func TestCounterCarriesNowhere(t *testing.T) { // P3.2: the nonce stays as it is behind the counter's end
	key, nonce := secrets(5)
	carried := nonce
	binary.LittleEndian.PutUint32(carried[:], binary.LittleEndian.Uint32(nonce[:])+1)
	x := chacha.Xor(key, math.MaxUint32, nonce, make([]byte, 128))
	if wrong := chacha.Block(key, 0, carried); bytes.Equal(x[64:], wrong[:]) {
		t.Error("behind the counter's end the nonce is another")
	}
}

func TestXorOfXor(t *testing.T) { // P3.3
	for _, counter := range counters {
		for n := range 200 {
			key, nonce := secrets(uint32(n))
			b := noise(uint32(n)+7, n)
			if back := chacha.Xor(key, counter, nonce, chacha.Xor(key, counter, nonce, b)); !bytes.Equal(back, b) {
				t.Errorf("counter %d, %d bytes: %x, want %x", counter, n, back, b)
			}
		}
	}
	key, nonce := secrets(6)
	b := noise(8, 100000)
	if back := chacha.Xor(key, 0, nonce, chacha.Xor(key, 0, nonce, b)); !bytes.Equal(back, b) {
		t.Error("100000 bytes do not come back")
	}
}

func TestXorOfXorOtherwise(t *testing.T) { // P3.3: with another key, counter or nonce the bytes are others
	key, nonce := secrets(9)
	b := noise(10, 100)
	x := chacha.Xor(key, 5, nonce, b)
	otherKey, otherNonce := key, nonce
	otherKey[31] ^= 0x80
	otherNonce[11] ^= 0x80
	for _, back := range [][]byte{
		chacha.Xor(otherKey, 5, nonce, x), chacha.Xor(key, 6, nonce, x), chacha.Xor(key, 5, otherNonce, x),
	} {
		if bytes.Equal(back, b) {
			t.Error("the bytes come back by what they were not combined with")
		}
	}
}

func TestCutAnywhere(t *testing.T) { // P3.4: the first bytes are those of the whole, wherever it is cut
	for _, counter := range []uint32{0, 9, math.MaxUint32 - 1, math.MaxUint32} {
		key, nonce := secrets(counter + 11)
		b := noise(12, 300)
		whole := chacha.Xor(key, counter, nonce, b)
		for cut := range len(b) + 1 {
			if x := chacha.Xor(key, counter, nonce, b[:cut]); !bytes.Equal(x, whole[:cut]) {
				t.Errorf("counter %d, cut at %d: %x, want %x", counter, cut, x, whole[:cut])
			}
			rest := append(make([]byte, cut), b[cut:]...)
			if x := chacha.Xor(key, counter, nonce, rest); !bytes.Equal(x[cut:], whole[cut:]) {
				t.Errorf("counter %d, zeros up to %d: %x, want %x", counter, cut, x[cut:], whole[cut:])
			}
		}
	}
}

func TestOneByteOther(t *testing.T) { // P3.4: a byte has a part in the one at its index, by the same difference, and in no other
	key, nonce := secrets(13)
	b := noise(14, 200)
	whole := chacha.Xor(key, math.MaxUint32, nonce, b)
	for i := range b {
		for _, by := range []byte{1, 0x80, 0xff} {
			other, want := bytes.Clone(b), bytes.Clone(whole)
			other[i] ^= by
			want[i] ^= by
			if x := chacha.Xor(key, math.MaxUint32, nonce, other); !bytes.Equal(x, want) {
				t.Errorf("byte %d differs by %02X: %x, want %x", i, by, x, want)
			}
		}
	}
}

func TestGreaterCounter(t *testing.T) { // P3.4: from index 64 n on, with a counter that is greater by n
	for _, counter := range counters {
		key, nonce := secrets(counter + 15)
		for _, length := range []int{0, 63, 64, 65, 128, 500, 640} {
			b := noise(16, length)
			whole := chacha.Xor(key, counter, nonce, b)
			for n := range length/64 + 1 {
				if x := chacha.Xor(key, counter+uint32(n), nonce, b[64*n:]); !bytes.Equal(x, whole[64*n:]) {
					t.Errorf("counter %d, %d bytes, from block %d on: %x, want %x", counter, length, n, x, whole[64*n:])
				}
			}
		}
	}
}

func TestGreaterCounterFarOn(t *testing.T) { // P3.4: block numbers that need more than one byte, and more than two
	key, nonce := secrets(17)
	b := noise(18, 64*70000+3)
	whole := chacha.Xor(key, math.MaxUint32-300, nonce, b)
	for _, n := range []int{255, 256, 257, 300, 301, 302, 65535, 65536, 69999, 70000} {
		counter := uint32(math.MaxUint32 - 300)
		counter += uint32(n)
		end := min(64*n+200, len(b))
		if x := chacha.Xor(key, counter, nonce, b[64*n:end]); !bytes.Equal(x, whole[64*n:end]) {
			t.Errorf("block %d: %x, want %x", n, x, whole[64*n:end])
		}
	}
}

func TestArgumentsAreLeft(t *testing.T) { // R3: those behind the slice's end too
	key, nonce := secrets(19)
	for n := range 140 {
		all := noise(20, n+200)
		before := bytes.Clone(all)
		chacha.Xor(key, 3, nonce, all[:n])
		if !bytes.Equal(all, before) {
			t.Errorf("%d bytes, or those behind their end, were changed", n)
		}
	}
}

func TestResultsAreNew(t *testing.T) { // R3: they share no memory with the argument, nor with each other
	key, nonce := secrets(21)
	for _, n := range []int{0, 1, 63, 64, 65, 200} {
		b := noise(22, n)
		before := bytes.Clone(b)
		x, y := chacha.Xor(key, 3, nonce, b), chacha.Xor(key, 3, nonce, b)
		want := bytes.Clone(y)
		x = x[:cap(x)]
		for i := range x {
			x[i] ^= 0xff
		}
		if !bytes.Equal(b, before) || !bytes.Equal(y, want) {
			t.Errorf("%d bytes: what was returned is not new memory", n)
		}
	}
}

func TestAskedAgain(t *testing.T) { // R4: what was asked before has no part in it
	key, nonce := secrets(23)
	b := noise(24, 150)
	block, x := chacha.Block(key, 8, nonce), chacha.Xor(key, 8, nonce, b)
	chacha.Block(countedKey(), 9, api.Nonce{})
	chacha.Xor(countedKey(), 9, api.Nonce{}, noise(25, 100))
	if chacha.Block(key, 8, nonce) != block || !bytes.Equal(chacha.Xor(key, 8, nonce, b), x) {
		t.Error("asked again, another answer")
	}
}
