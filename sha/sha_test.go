package sha_test

import (
	"bytes"
	"crypto/sha256"
	"encoding/hex"
	"strings"
	"testing"

	"sealery/api"
	"sealery/sha"
)

// noise is bytes without a pattern, the same for the same seed.
func noise(seed uint32, n int) []byte {
	b := make([]byte, n)
	for i := range b {
		seed = seed*1664525 + 1013904223
		b[i] = byte(seed >> 24)
	}
	return b
}

// reference is the digest as the standard library knows it.
func reference(b []byte) api.Sum { return api.Sum(sha256.Sum256(b)) }

// written is the digest of pieces that are written to one hash in order.
func written(pieces ...[]byte) api.Sum {
	h := sha.New()
	for _, p := range pieces {
		h.Write(p)
	}
	return h.Sum()
}

func wantHex(t *testing.T, what string, got api.Sum, want string) {
	t.Helper()
	if text := hex.EncodeToString(got[:]); text != want {
		t.Errorf("%s: %s, want %s", what, text, want)
	}
}

func TestSumOfExamples(t *testing.T) { // P1.1
	for _, x := range []struct{ text, want string }{
		{"", "e3b0c44298fc1c149afbf4c8996fb92427ae41e4649b934ca495991b7852b855"},
		{"abc", "ba7816bf8f01cfea414140de5dae2223b00361a396177a9cb410ff61f20015ad"},
		{"abcdbcdecdefdefgefghfghighijhijkijkljklmklmnlmnomnopnopq", "248d6a61d20638b8e5c026930c3e6039a33ce45964ff2167f6ecedd419db06c1"},
		{"abcdefghbcdefghicdefghijdefghijkefghijklfghijklmghijklmnhijklmnoijklmnopjklmnopqklmnopqrlmnopqrsmnopqrstnopqrstu", "cf5b16a778af8380036ce59e7b0492370b249b11e8f07a51afac45037afee9d1"},
	} {
		wantHex(t, "Sum of "+x.text, sha.Sum([]byte(x.text)), x.want)
		wantHex(t, "written "+x.text, written([]byte(x.text)), x.want)
	}
	wantHex(t, "Sum of nil", sha.Sum(nil), "e3b0c44298fc1c149afbf4c8996fb92427ae41e4649b934ca495991b7852b855")
}

func TestSumAboutBlockEnds(t *testing.T) { // P1.1: where the padding just fits, and where it needs one more block
	for _, x := range []struct {
		length int
		want   string
	}{
		{0, "e3b0c44298fc1c149afbf4c8996fb92427ae41e4649b934ca495991b7852b855"},
		{1, "ca978112ca1bbdcafac231b39a23dc4da786eff8147c4e72b9807785afee48bb"},
		{55, "9f4390f8d30c2dd92ec9f095b65e2b9ae9b0a925a5258e241c9f1e910f734318"},
		{56, "b35439a4ac6f0948b6d6f9e3c6af0f5f590ce20f1bde7090ef7970686ec6738a"},
		{57, "f13b2d724659eb3bf47f2dd6af1accc87b81f09f59f2b75e5c0bed6589dfe8c6"},
		{63, "7d3e74a05d7db15bce4ad9ec0658ea98e3f06eeecf16b4c6fff2da457ddc2f34"},
		{64, "ffe054fe7ae0cb6dc65c3af9b61d5209f439851db43d0ba5997337df154668eb"},
		{65, "635361c48bb9eab14198e76ea8ab7f1a41685d6ad62aa9146d301d4f17eb0ae0"},
		{119, "31eba51c313a5c08226adf18d4a359cfdfd8d2e816b13f4af952f7ea6584dcfb"},
		{120, "2f3d335432c70b580af0e8e1b3674a7c020d683aa5f73aaaedfdc55af904c21c"},
		{127, "c57e9278af78fa3cab38667bef4ce29d783787a2f731d4e12200270f0c32320a"},
		{128, "6836cf13bac400e9105071cd6af47084dfacad4e5e302c94bfed24e013afb73e"},
	} {
		b := []byte(strings.Repeat("a", x.length))
		wantHex(t, "so many bytes: "+string(b), sha.Sum(b), x.want)
	}
}

func TestSumOfEachLength(t *testing.T) { // P1.1
	b := noise(1, 70000)
	lengths := []int{4095, 4096, 4097, 8191, 8192, 65535, 65536, 70000} // their bits need a third byte, a fourth one
	for n := range 600 {
		lengths = append(lengths, n)
	}
	for _, n := range lengths {
		if got, want := sha.Sum(b[:n]), reference(b[:n]); got != want {
			t.Errorf("%d bytes: %x, want %x", n, got, want)
		}
	}
}

func TestBlockOfOneBit(t *testing.T) { // P1.2: each bit of a block, set alone and cleared alone
	for _, fill := range []byte{0x00, 0xff} {
		block := bytes.Repeat([]byte{fill}, 64)
		for bit := range 8 * 64 {
			block[bit/8] ^= 128 >> (bit % 8)
			if got, want := sha.Sum(block), reference(block); got != want {
				t.Errorf("filled with %x, bit %d turned: %x, want %x", fill, bit, got, want)
			}
			block[bit/8] ^= 128 >> (bit % 8)
		}
	}
}

func TestBlocksOfNoise(t *testing.T) { // P1.2
	for seed := range uint32(500) {
		b := noise(seed, 64*(1+int(seed)%5))
		if got, want := sha.Sum(b), reference(b); got != want {
			t.Errorf("seed %d: %x, want %x", seed, got, want)
		}
	}
}

func TestBlocksInOrder(t *testing.T) { // P1.1, P1.2
	first, second := noise(1, 64), noise(2, 64)
	there, back := written(first, second), written(second, first)
	if want := reference(append(bytes.Clone(first), second...)); there != want {
		t.Errorf("first, second: %x, want %x", there, want)
	}
	if want := reference(append(bytes.Clone(second), first...)); back != want {
		t.Errorf("second, first: %x, want %x", back, want)
	}
}

func TestNewIsEmpty(t *testing.T) { // P1.3
	sha.New().Write([]byte("to another one"))
	if got, want := sha.New().Sum(), reference(nil); got != want {
		t.Errorf("a new hash: %x, want %x", got, want)
	}
}

func TestHashesApart(t *testing.T) { // P1.3: what is written to one is not written to another
	b, c := noise(3, 200), noise(4, 200)
	g, h := sha.New(), sha.New()
	for i := 0; i < 200; i += 40 {
		g.Write(b[i : i+40])
		h.Write(c[i : i+40])
	}
	if g.Sum() != reference(b) || h.Sum() != reference(c) {
		t.Error("two hashes that are written to by turns have other digests than alone")
	}
}

func TestWrittenMayBeOverwritten(t *testing.T) { // P1.3
	for _, n := range []int{1, 55, 63, 64, 65, 100, 128, 130} {
		text := noise(5, 3*n)
		h := sha.New()
		lent := make([]byte, n)
		for i := 0; i < 3*n; i += n {
			copy(lent, text[i:])
			h.Write(lent)
			clear(lent)
		}
		if got, want := h.Sum(), reference(text); got != want {
			t.Errorf("pieces of %d bytes: %x, want %x", n, got, want)
		}
	}
}

func TestSumTwice(t *testing.T) { // P1.3
	for n := range 140 {
		b := noise(6, n)
		h := sha.New()
		h.Write(b)
		if first, second, want := h.Sum(), h.Sum(), reference(b); first != want || second != want {
			t.Errorf("%d bytes: %x, then %x, want %x", n, first, second, want)
		}
	}
}

func TestSumDoesNotChange(t *testing.T) { // P1.3
	h := sha.New()
	h.Write(noise(7, 100))
	before := *h
	h.Sum()
	if *h != before {
		t.Error("Sum has changed the hash")
	}
}

func TestTwoPieces(t *testing.T) { // P1.4: cut at each place, with pieces of no bytes about the cut
	text := noise(8, 200)
	want := reference(text)
	for cut := range len(text) + 1 {
		head, tail := text[:cut], text[cut:]
		if got := written(head, tail); got != want {
			t.Errorf("cut at %d: %x, want %x", cut, got, want)
		}
		if got := written(nil, head, []byte{}, nil, tail, nil, []byte{}); got != want {
			t.Errorf("cut at %d, with empty pieces: %x, want %x", cut, got, want)
		}
	}
}

func TestThreePieces(t *testing.T) { // P1.4
	text := noise(9, 140)
	want := reference(text)
	for first := range len(text) + 1 {
		for second := first; second <= len(text); second++ {
			if got := written(text[:first], text[first:second], text[second:]); got != want {
				t.Fatalf("cut at %d and %d: %x, want %x", first, second, got, want)
			}
		}
	}
}

func TestManyPieces(t *testing.T) { // P1.4: a Sum behind each piece, of what was written so far
	text := noise(10, 700)
	for step := 1; step < 200; step++ {
		h := sha.New()
		for i := 0; i < len(text); i += step {
			end := min(i+step, len(text))
			h.Write(text[i:end])
			h.Write(nil)
			if got, want := h.Sum(), reference(text[:end]); got != want {
				t.Fatalf("step %d: the first %d bytes: %x, want %x", step, end, got, want)
			}
		}
	}
}

func TestPiecesOfAnyLength(t *testing.T) { // P1.4: asked in between and not asked, with the same digest in the end
	for seed := range uint32(300) {
		lengths := noise(seed, 12)
		quiet, asked := sha.New(), sha.New()
		var all []byte
		for i, n := range lengths {
			piece := noise(seed+uint32(i), int(n))
			all = append(all, piece...)
			quiet.Write(piece)
			asked.Write(piece)
			if got, want := asked.Sum(), reference(all); got != want {
				t.Fatalf("seed %d: behind piece %d: %x, want %x", seed, i, got, want)
			}
		}
		if want := reference(all); quiet.Sum() != want || asked.Sum() != want {
			t.Errorf("seed %d: %x not asked in between, %x asked, want %x", seed, quiet.Sum(), asked.Sum(), want)
		}
	}
}

func TestArgumentsAreLeft(t *testing.T) { // R3
	for n := range 140 {
		whole := noise(11, n+200)
		before := bytes.Clone(whole)
		b := whole[:n]
		sha.Sum(b)
		h := sha.New()
		h.Write([]byte("ahead"))
		h.Write(b)
		h.Sum()
		h.Write(b)
		h.Sum()
		if !bytes.Equal(whole, before) {
			t.Errorf("%d bytes, or those behind their end, were changed", n)
		}
	}
}
