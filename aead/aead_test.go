package aead_test

import (
	"bytes"
	"crypto/sha256"
	"encoding/binary"
	"encoding/hex"
	"testing"

	"sealery/aead"
	"sealery/api"
	"sealery/chacha"
	"sealery/poly"
)

const (
	sunscreen = "Ladies and Gentlemen of the class of '99: If I could offer you only one tip for the future, sunscreen would be it."
	drafts    = "Internet-Drafts are draft documents valid for a maximum of six months and may be updated, replaced, or obsoleted by other documents at any time. It is inappropriate to use Internet-Drafts as reference material or to cite them other than as /“work in progress./”"

	sunscreenSealed = "d31a8d34648e60db7b86afbc53ef7ec2a4aded51296e08fea9e2b5a736ee62d63dbea45e8ca9671282fafb69da92728b1a71de0a9e060b2905d6a5b67ecd3b3692ddbd7f2d778b8c9803aee328091b58fab324e4fad675945585808b4831d7bc3ff4def08e4b7a9de576d26586cec64b61161ae10b594f09e26a7e902ecbd0600691"
	draftsSealed    = "64a0861575861af460f062c79be643bd5e805cfd345cf389f108670ac76c8cb24c6cfc18755d43eea09ee94e382d26b0bdb7b73c321b0100d4f03b7f355894cf332f830e710b97ce98c8a84abd0b948114ad176e008d33bd60f982b1ff37c8559797a06ef4f0ef61c186324e2b3506383606907b6a7c02b0f9f6157b53c867e4b9166c767b804d46a59b5216cde7a4e99040c5a40433225ee282a1b0a06c523eaf4534d7f83fa1155b0047718cbc546a0d072b04b3564eea1b422273f548271a0bb2316053fa76991955ebd63159434ecebb4e466dae5a1073a6727627097a1049e617d91d361094fa68f0ff77987130305beaba2eda04df997b714d6c6f2c29a6ad5cb4022b02709beead9d67890cbb22392336fea1851f38"
)

// lengths are those of no byte, and those about the ends of the tag's blocks and of the keystream's.
var lengths = []int{0, 1, 2, 15, 16, 17, 31, 32, 33, 47, 48, 49, 63, 64, 65, 127, 128, 129, 256, 300}

// noise is bytes without a pattern, the same for the same seed.
func noise(seed uint32, n int) []byte {
	var nonce api.Nonce
	binary.LittleEndian.PutUint32(nonce[:], seed)
	return chacha.Xor(api.Key{}, 0, nonce, make([]byte, n))
}

// secrets are a key and a nonce without a pattern.
func secrets(seed uint32) (api.Key, api.Nonce) {
	return api.Key(noise(seed, 32)), api.Nonce(noise(seed+3000, 12))
}

// published are the key, the nonce and the head of the chapter's examples.
func published() (api.Key, api.Nonce, []byte) {
	var k api.Key
	for i := range k {
		k[i] = 0x80 + byte(i)
	}
	return k, api.Nonce{7, 0, 0, 0, 0x40, 0x41, 0x42, 0x43, 0x44, 0x45, 0x46, 0x47}, []byte("PQRS\xc0\xc1\xc2\xc3\xc4\xc5\xc6\xc7")
}

func unhex(t *testing.T, text string) []byte {
	t.Helper()
	b, err := hex.DecodeString(text)
	if err != nil {
		t.Fatal(err)
	}
	return b
}

// joined is new bytes: those of all parts.
func joined(parts ...[]byte) []byte { return bytes.Join(parts, nil) }

// turned is new bytes, with one bit turned.
func turned(b []byte, bit int) []byte {
	b = bytes.Clone(b)
	b[bit/8] ^= 1 << (bit % 8)
	return b
}

// withTag is ciphertext bytes and their tag, as the chapter's words say it.
func withTag(k api.Key, n api.Nonce, head, c []byte) []byte {
	var text []byte
	for _, part := range [][]byte{head, c} {
		text = append(text, part...)
		for len(text)%16 != 0 {
			text = append(text, 0)
		}
	}
	for _, part := range [][]byte{head, c} {
		text = binary.LittleEndian.AppendUint64(text, uint64(len(part)))
	}
	block := chacha.Block(k, 0, n)
	tag := poly.Sum(api.Key(block[:32]), text)
	return joined(c, tag[:])
}

// reference is what Seal returns, as the promise's words say it.
func reference(k api.Key, n api.Nonce, head, plain []byte) []byte {
	return withTag(k, n, head, chacha.Xor(k, 1, n, plain))
}

func wantOpen(t *testing.T, what string, k api.Key, n api.Nonce, head, sealed, want []byte) {
	t.Helper()
	if plain, ok := aead.New().Open(k, n, head, sealed); !ok || !bytes.Equal(plain, want) {
		t.Errorf("%s: Open of %x: %x, %v, want %x", what, sealed, plain, ok, want)
	}
}

func wantShut(t *testing.T, what string, k api.Key, n api.Nonce, head, sealed []byte) {
	t.Helper()
	if plain, ok := aead.New().Open(k, n, head, sealed); ok || plain != nil {
		t.Errorf("%s: Open of %x: %x, %v, want nothing", what, sealed, plain, ok)
	}
}

func TestExamples(t *testing.T) { // P5.2, P5.3: those of the chapter
	k, n, head := published()
	sealed := aead.New().Seal(k, n, head, []byte(sunscreen))
	if want := unhex(t, sunscreenSealed); !bytes.Equal(sealed, want) || len(sealed) != 130 {
		t.Errorf("%d bytes: %x, want %x", len(sealed), sealed, want)
	}
	wantOpen(t, "the whole", k, n, head, sealed, []byte(sunscreen))
	wantShut(t, "without the last one", k, n, head, sealed[:129])
	wantShut(t, "with another head", k, n, []byte("another head"), sealed)
	wantShut(t, "15 bytes", k, n, head, sealed[:15])
}

func TestOtherPublished(t *testing.T) { // P5.2, P5.3: that of RFC 8439's appendix
	k := api.Key(unhex(t, "1c9240a5eb55d38af333888604f6b5f0473917c1402b80099dca5cbc207075c0"))
	n, head, sealed := api.Nonce{4: 1, 2, 3, 4, 5, 6, 7, 8}, unhex(t, "f33388860000000000004e91"), unhex(t, draftsSealed)
	wantOpen(t, "the appendix's", k, n, head, sealed, []byte(drafts))
	if got := aead.New().Seal(k, n, head, []byte(drafts)); !bytes.Equal(got, sealed) {
		t.Errorf("%x, want %x", got, sealed)
	}
}

func TestManySealed(t *testing.T) { // P5.2: the digest of 3000 results of OpenSSL 3.0 for the same arguments
	a, h := aead.New(), sha256.New()
	for i := range 3000 {
		k, n := secrets(uint32(i))
		h.Write(a.Seal(k, n, noise(uint32(i+6000), i*7%103), noise(uint32(i+9000), i%331)))
	}
	const want = "f8b31ab6194e01dffe86a8e557da297c01bd42892bdcd0bb4e7eb940507cccbc"
	if got := hex.EncodeToString(h.Sum(nil)); got != want {
		t.Errorf("%s, want %s", got, want)
	}
}

func TestLongLengths(t *testing.T) { // P5.2: lengths of several bytes, and the digests of OpenSSL's results
	k, n := api.Key(noise(1, 32)), api.Nonce(noise(2, 12))
	for _, x := range []struct {
		head, plain int
		want        string
	}{
		{255, 256, "e313cacecd1d6862a8377388ad689b9192053a5b6b5dbb536bafeef74e27a2bc"},
		{256, 255, "ff7f406f3051ba903e982b784a81a5de9f53f78b2cff2b39348aa69ee3f9d1a7"},
		{65535, 65536, "61be5d3bb98ce54f1e313c41455d32e57b596899995a5143503f92633ddc8f81"},
		{65537, 65535, "0fbad072d775ff1e6ebae91e82f14f50635c39635a1667f15143a344753b62a6"},
		{0, 100000, "8fff6b12392856dc38c407a3ba9ccfd87536d73d5c759699b35a0603734fbb50"},
		{100000, 0, "7f840269b55fb8cdd78ee7bb82fb6b0ea3a7cd04eb20657ef4290fbc12b0f66a"},
		{1<<24 + 5, 3, "c252c3b6a95d1fc9b66e257f224b6b9fbe13f3d8d85bfcb15c38e6ffcf78d49f"},
	} {
		head, plain := noise(3, x.head), noise(4, x.plain)
		sealed := aead.New().Seal(k, n, head, plain)
		if digest := sha256.Sum256(sealed); hex.EncodeToString(digest[:]) != x.want {
			t.Errorf("a head of %d and %d bytes: their digest is %x, want %s", x.head, x.plain, digest, x.want)
		}
		if back, ok := aead.New().Open(k, n, head, sealed); !ok || !bytes.Equal(back, plain) {
			t.Errorf("a head of %d and %d bytes do not open", x.head, x.plain)
		}
	}
}

func TestEachLengthBesideEach(t *testing.T) { // P5.2, P5.3, P5.4
	a := aead.New()
	for _, long := range lengths {
		for _, wide := range lengths {
			k, n := secrets(uint32(1000*long + wide))
			for _, head := range [][]byte{noise(5, long), make([]byte, long), bytes.Repeat([]byte{0xff}, long)} {
				for _, plain := range [][]byte{noise(6, wide), make([]byte, wide)} {
					sealed := a.Seal(k, n, head, plain)
					if want := reference(k, n, head, plain); !bytes.Equal(sealed, want) || len(sealed) != wide+16 {
						t.Fatalf("a head of %d and %d bytes: %x, want %x", long, wide, sealed, want)
					}
					wantOpen(t, "what was sealed", k, n, head, sealed, plain)
				}
			}
		}
	}
}

func TestNoBytes(t *testing.T) { // P5.2, P5.3, R3: nil and empty are alike
	a := aead.New()
	for seed := range uint32(20) {
		k, n := secrets(seed)
		nothing := [][]byte{nil, {}, noise(7, 9)[:0]}
		for _, head := range nothing {
			for _, plain := range nothing {
				sealed := a.Seal(k, n, head, plain)
				if want := reference(k, n, nil, nil); !bytes.Equal(sealed, want) || len(sealed) != 16 {
					t.Errorf("of nothing: %x, want %x", sealed, want)
				}
				wantOpen(t, "of nothing", k, n, nil, sealed, nil)
				wantOpen(t, "of nothing", k, n, []byte{}, sealed, nil)
			}
		}
	}
}

func TestFewBytes(t *testing.T) { // P5.3: fewer than 16 never open, whatever they are; 16 do, if they are the tag of none
	k, n := secrets(8)
	for _, head := range [][]byte{nil, {1}, noise(8, 15), noise(8, 16), noise(8, 17), noise(8, 70)} {
		none := reference(k, n, head, nil)
		one := reference(k, n, head, []byte{1})
		for size := range 16 {
			for _, b := range [][]byte{none[:size], none[16-size:], one[:size], one[17-size:], make([]byte, size), bytes.Repeat([]byte{0xff}, size)} {
				wantShut(t, "too few", k, n, head, b)
			}
		}
		wantShut(t, "nil", k, n, head, nil)
		wantOpen(t, "just 16", k, n, head, none, nil)
		for _, b := range [][]byte{one[:16], one[1:], make([]byte, 16), bytes.Repeat([]byte{0xff}, 16)} {
			wantShut(t, "another 16", k, n, head, b)
		}
	}
}

func TestEachBit(t *testing.T) { // P5.3: of the ciphertext, its tag and the head
	k, n := secrets(9)
	for _, long := range []int{0, 1, 15, 16, 17, 40} {
		for _, wide := range []int{0, 1, 15, 16, 17, 70} {
			head, plain := noise(10, long), noise(11, wide)
			sealed := aead.New().Seal(k, n, head, plain)
			for bit := range 8 * len(sealed) {
				wantShut(t, "one bit turned", k, n, head, turned(sealed, bit))
			}
			for bit := range 8 * len(head) {
				wantShut(t, "one bit of the head turned", k, n, turned(head, bit), sealed)
			}
		}
	}
}

func TestEachBitOfTheSecrets(t *testing.T) { // P5.2, P5.3: each one of the key and the nonce has its part
	k, n := secrets(12)
	for _, wide := range []int{0, 1, 16, 70} {
		head, plain := noise(13, 20), noise(14, wide)
		sealed := aead.New().Seal(k, n, head, plain)
		check := func(what string, k api.Key, n api.Nonce) {
			t.Helper()
			wantShut(t, what, k, n, head, sealed)
			if got, want := aead.New().Seal(k, n, head, plain), reference(k, n, head, plain); !bytes.Equal(got, want) {
				t.Errorf("%s: %x, want %x", what, got, want)
			}
		}
		for bit := range 8 * len(k) {
			check("one bit of the key turned", api.Key(turned(k[:], bit)), n)
		}
		for bit := range 8 * len(n) {
			check("one bit of the nonce turned", k, api.Nonce(turned(n[:], bit)))
		}
		check("another key", api.Key{}, n)
		check("another nonce", k, api.Nonce{})
	}
}

func TestOtherTags(t *testing.T) { // P5.5
	k, n := secrets(15)
	for _, wide := range []int{0, 1, 16, 50} {
		head, plain := noise(16, 12), noise(17, wide)
		sealed := aead.New().Seal(k, n, head, plain)
		with := func(change func(tag []byte)) {
			t.Helper()
			other := bytes.Clone(sealed)
			change(other[wide:])
			if !bytes.Equal(other, sealed) {
				wantShut(t, "another tag", k, n, head, other)
			}
		}
		for i := range 16 {
			for by := range 256 {
				with(func(tag []byte) { tag[i] ^= byte(by) })
			}
			for j := range i { // differences that cancel out in a sum, an exclusive or, or a set of the bytes
				with(func(tag []byte) { tag[i], tag[j] = tag[i]^0x55, tag[j]^0x55 })
				with(func(tag []byte) { tag[i], tag[j] = tag[i]+1, tag[j]-1 })
				with(func(tag []byte) { tag[i], tag[j] = tag[j], tag[i] })
			}
		}
		for seed := range uint32(200) {
			with(func(tag []byte) { copy(tag, noise(seed+18, 16)) })
		}
		with(func(tag []byte) { clear(tag) })
		with(func(tag []byte) { copy(tag, reference(k, n, nil, plain)[wide:]) })
		with(func(tag []byte) { copy(tag, reference(k, n, head, append(plain, 0))[wide+1:]) })
	}
}

func TestAnotherLength(t *testing.T) { // P5.3: bytes that are missing or too many, at each end
	k, n := secrets(19)
	for _, wide := range []int{0, 1, 15, 16, 17, 50} {
		head := noise(20, 21)
		sealed := aead.New().Seal(k, n, head, noise(21, wide))
		for cut := 1; cut <= len(sealed); cut++ {
			wantShut(t, "the end is missing", k, n, head, sealed[:len(sealed)-cut])
			wantShut(t, "the start is missing", k, n, head, sealed[cut:])
		}
		for more := 1; more <= 33; more++ {
			zeros := make([]byte, more)
			wantShut(t, "zeros behind", k, n, head, joined(sealed, zeros))
			wantShut(t, "zeros ahead", k, n, head, joined(zeros, sealed))
			wantShut(t, "zeros ahead of the tag", k, n, head, joined(sealed[:wide], zeros, sealed[wide:]))
		}
	}
}

func TestPaddingIsNotTheBytes(t *testing.T) { // P5.3: zeros of a head or of a ciphertext are not those that they are padded with
	k, n := secrets(22)
	for size := range 50 {
		head, c := append(noise(23, size), 0), append(noise(24, size), 0)
		sealed := withTag(k, n, head, c)
		tag := sealed[len(c):]
		wantShut(t, "a head without its zero", k, n, head[:size], sealed)
		wantShut(t, "bytes without their zero", k, n, head, joined(c[:size], tag))
		for more := 1; more <= 32; more++ {
			zeros := make([]byte, more)
			wantShut(t, "a head with zeros", k, n, joined(head, zeros), sealed)
			wantShut(t, "bytes with zeros", k, n, head, joined(c, zeros, tag))
		}
	}
}

func TestBoundaryOfTheHead(t *testing.T) { // P5.3: the same bytes, cut elsewhere into a head and a ciphertext
	k, n := secrets(25)
	for _, size := range []int{1, 16, 32, 33, 64, 80} {
		all := noise(26, size)
		for cut := range size + 1 {
			sealed := withTag(k, n, all[:cut], all[cut:])
			tag := sealed[size-cut:]
			wantOpen(t, "as it was cut", k, n, all[:cut], sealed, chacha.Xor(k, 1, n, all[cut:]))
			for other := range size + 1 {
				if other != cut {
					wantShut(t, "cut elsewhere", k, n, all[:other], joined(all[other:], tag))
				}
			}
			if 2*cut != size {
				wantShut(t, "head and bytes exchanged", k, n, all[cut:], joined(all[:cut], tag))
			}
		}
	}
}

func TestSealedAgain(t *testing.T) { // P5.4: what opens, also where it was not Seal that made it
	a := aead.New()
	for _, long := range lengths {
		for _, wide := range lengths {
			k, n := secrets(uint32(long + wide))
			head := noise(27, long)
			for _, c := range [][]byte{noise(28, wide), make([]byte, wide), bytes.Repeat([]byte{0xff}, wide)} {
				sealed := withTag(k, n, head, c)
				plain, ok := a.Open(k, n, head, sealed)
				if want := chacha.Xor(k, 1, n, c); !ok || !bytes.Equal(plain, want) {
					t.Fatalf("a head of %d and %d bytes: %x, %v, want %x", long, wide, plain, ok, want)
				}
				if again := a.Seal(k, n, head, plain); !bytes.Equal(again, sealed) {
					t.Errorf("a head of %d and %d bytes: sealed again %x, want %x", long, wide, again, sealed)
				}
			}
		}
	}
}

func TestTagsKeyIsNotTheText(t *testing.T) { // P5.2: the block of the counter 0 is the tag's, and those from 1 on the text's
	k, n := secrets(29)
	sealed := aead.New().Seal(k, n, nil, make([]byte, 100))
	if want := chacha.Xor(k, 0, n, make([]byte, 164))[64:]; !bytes.Equal(sealed[:100], want) {
		t.Errorf("zeros: %x, want %x", sealed[:100], want)
	}
	head := noise(30, 16)
	if x, y := aead.New().Seal(k, n, head, noise(31, 60)), aead.New().Seal(k, n, nil, noise(31, 60)); !bytes.Equal(x[:60], y[:60]) || bytes.Equal(x[60:], y[60:]) {
		t.Error("a head has its part in the tag, and only there")
	}
}

func TestAllAlike(t *testing.T) { // P5.1: what one of them did has no part in what any does
	var first, second api.Cipher = aead.New(), aead.New()
	for seed := range uint32(50) {
		k, n := secrets(seed)
		head, plain := noise(seed+32, int(seed)), noise(seed+33, int(2*seed))
		want := reference(k, n, head, plain)
		sealed := first.Seal(k, n, head, plain)
		first.Open(k, n, head, sealed[1:])
		second.Seal(api.Key{}, api.Nonce{}, nil, plain)
		for _, c := range []api.Cipher{first, second, aead.New()} {
			if got := c.Seal(k, n, head, plain); !bytes.Equal(got, want) || !bytes.Equal(sealed, want) {
				t.Errorf("seed %d: %x, then %x, want %x", seed, sealed, got, want)
			}
			if back, ok := c.Open(k, n, head, sealed); !ok || !bytes.Equal(back, plain) {
				t.Errorf("seed %d: Open by another: %x, %v, want %x", seed, back, ok, plain)
			}
		}
	}
}

func TestArgumentsAreLeft(t *testing.T) { // R3: those behind the slices' ends too, where padding and a tag would fall
	k, n := secrets(34)
	for _, long := range lengths {
		for _, wide := range lengths {
			head, plain := noise(35, long+100), noise(36, wide+100)
			sealed := joined(reference(k, n, head[:long], plain[:wide]), noise(37, 100))
			shut := bytes.Clone(sealed)
			shut[wide] ^= 1
			kept := [][]byte{bytes.Clone(head), bytes.Clone(plain), bytes.Clone(sealed), bytes.Clone(shut)}
			a := aead.New()
			if got := a.Seal(k, n, head[:long], plain[:wide]); !bytes.Equal(got, kept[2][:wide+16]) {
				t.Errorf("a head of %d and %d bytes with room behind: %x, want %x", long, wide, got, kept[2][:wide+16])
			}
			wantOpen(t, "with room behind", k, n, head[:long], sealed[:wide+16], plain[:wide])
			wantShut(t, "with room behind", k, n, head[:long], shut[:wide+16])
			for i, b := range [][]byte{head, plain, sealed, shut} {
				if !bytes.Equal(b, kept[i]) {
					t.Errorf("a head of %d and %d bytes: argument %d, or what stands behind it, was changed", long, wide, i)
				}
			}
		}
	}
}

func TestArgumentsInOneArray(t *testing.T) { // R3: a head, and right behind it what it is the head of
	k, n := secrets(38)
	for _, long := range lengths {
		for _, wide := range lengths {
			plains := joined(noise(39, long), noise(40, wide), noise(41, 50))
			want := reference(k, n, plains[:long], plains[long:long+wide])
			before := bytes.Clone(plains)
			if got := aead.New().Seal(k, n, plains[:long], plains[long:long+wide]); !bytes.Equal(got, want) || !bytes.Equal(plains, before) {
				t.Errorf("a head of %d ahead of %d bytes: %x, want %x", long, wide, got, want)
			}
			whole := joined(plains[:long], want, noise(42, 50))
			before = bytes.Clone(whole)
			wantOpen(t, "right behind the head", k, n, whole[:long], whole[long:long+wide+16], plains[long:long+wide])
			if !bytes.Equal(whole, before) {
				t.Errorf("a head of %d ahead of %d sealed bytes: they were changed", long, wide+16)
			}
		}
	}
	same := noise(43, 40)
	if got, want := aead.New().Seal(k, n, same, same), reference(k, n, bytes.Clone(same), same); !bytes.Equal(got, want) {
		t.Errorf("the same bytes as the head and the text: %x, want %x", got, want)
	}
}

// spoil turns all bits of bytes and of the room behind them.
func spoil(b []byte) {
	b = b[:cap(b)]
	for i := range b {
		b[i] ^= 0xff
	}
}

func TestResultsAreNew(t *testing.T) { // R3: they share no memory with the arguments, nor with each other
	k, n := secrets(44)
	for _, long := range []int{0, 1, 16, 40} {
		for _, wide := range lengths {
			head, plain := noise(45, long), noise(46, wide)
			want := reference(k, n, head, plain)
			a := aead.New()
			sealed, other := a.Seal(k, n, head, plain), a.Seal(k, n, head, plain)
			opened, _ := a.Open(k, n, head, other)
			again, _ := a.Open(k, n, head, other)
			spoil(sealed)
			spoil(opened)
			if !bytes.Equal(other, want) || !bytes.Equal(again, plain) {
				t.Errorf("a head of %d and %d bytes: results share memory", long, wide)
			}
			if !bytes.Equal(head, noise(45, long)) || !bytes.Equal(plain, noise(46, wide)) {
				t.Errorf("a head of %d and %d bytes: a result shares an argument's memory", long, wide)
			}
		}
	}
}
