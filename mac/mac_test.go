package mac_test

import (
	"bytes"
	"crypto/hmac"
	"crypto/sha256"
	"encoding/hex"
	"go/ast"
	"go/parser"
	"go/token"
	"testing"

	"sealery/api"
	"sealery/mac"
	"sealery/sha"
)

// noise is bytes without a pattern, the same for the same seed.
func noise(seed uint32, n int) []byte {
	b := make([]byte, n)
	for i := range b {
		seed = seed*1664525 + 1013904223
		b[i] = byte(seed >> 24)
	}
	return b
}

// reference is the code as the standard library knows it.
func reference(key, b []byte) api.Sum {
	h := hmac.New(sha256.New, key)
	h.Write(b)
	return api.Sum(h.Sum(nil))
}

// zerosBehind is a key with so many 00 bytes behind it.
func zerosBehind(key []byte, n int) []byte { return append(bytes.Clone(key), make([]byte, n)...) }

func wantHex(t *testing.T, what string, got api.Sum, want string) {
	t.Helper()
	if text := hex.EncodeToString(got[:]); text != want {
		t.Errorf("%s: %s, want %s", what, text, want)
	}
}

func TestOfExamples(t *testing.T) { // P2.1: those of the chapter, and the others of RFC 4231
	counted := make([]byte, 25)
	for i := range counted {
		counted[i] = byte(i + 1)
	}
	for _, x := range []struct {
		key  []byte
		text string
		want string
	}{
		{bytes.Repeat([]byte{0x0b}, 20), "Hi There", "b0344c61d8db38535ca8afceaf0bf12b881dc200c9833da726e9376c2e32cff7"},
		{[]byte("Jefe"), "what do ya want for nothing?", "5bdcc146bf60754e6a042426089575c75a003f089d2739839dec58b964ec3843"},
		{bytes.Repeat([]byte{0xaa}, 131), "Test Using Larger Than Block-Size Key - Hash Key First", "60e431591ee0b67f0d8a26aacbf5b77f8e0bc6213728c5140546040f0ee37f54"},
		{bytes.Repeat([]byte{0xaa}, 20), string(bytes.Repeat([]byte{0xdd}, 50)), "773ea91e36800e46854db8ebd09181a72959098b3ef8c122d9635514ced565fe"},
		{counted, string(bytes.Repeat([]byte{0xcd}, 50)), "82558a389a443c0ea4cc819899f2083a85f0faa3e578f8077a2e3ff46729665b"},
		{bytes.Repeat([]byte{0xaa}, 131), "This is a test using a larger than block-size key and a larger than block-size data. The key needs to be hashed before being used by the HMAC algorithm.", "9b09ffa71b942fcb27635fbcd5b0e944bfdc63644f0713938a7f51535c3a35e2"},
	} {
		wantHex(t, x.text, mac.Of(x.key, []byte(x.text)), x.want)
	}
	const none = "b613679a0814d9ec772f95d778c35fc5ff1697c493715653c6c712144292c5ad" // no key, no bytes
	wantHex(t, "nil and nil", mac.Of(nil, nil), none)
	wantHex(t, "empty and empty", mac.Of([]byte{}, []byte{}), none)
}

func TestOfAsWritten(t *testing.T) { // P2.1: the promise's words, with the digests of layer 1
	for _, n := range []int{0, 1, 32, 63, 64, 65, 200} {
		key, b := noise(1, n), noise(2, 77)
		block := make([]byte, 64)
		if n > 64 {
			digest := sha.Sum(key)
			copy(block, digest[:])
		} else {
			copy(block, key)
		}
		inner, outer := bytes.Clone(block), bytes.Clone(block)
		for i := range block {
			inner[i] ^= 0x36
			outer[i] ^= 0x5c
		}
		within := sha.Sum(append(inner, b...))
		if got, want := mac.Of(key, b), sha.Sum(append(outer, within[:]...)); got != want {
			t.Errorf("a key of %d bytes: %x, want %x", n, got, want)
		}
	}
}

func TestOfEachKeyLength(t *testing.T) { // P2.1: none, 64 and 65 bytes among them
	for n := range 300 {
		key := noise(uint32(n), n)
		for _, length := range []int{0, 1, 55, 56, 64, 100} {
			b := noise(3, length)
			if got, want := mac.Of(key, b), reference(key, b); got != want {
				t.Errorf("a key of %d bytes, %d bytes: %x, want %x", n, length, got, want)
			}
		}
	}
}

func TestOfEachLength(t *testing.T) { // P2.1
	lengths := []int{4096, 65536, 70000}
	for n := range 300 {
		lengths = append(lengths, n)
	}
	for _, size := range []int{0, 32, 64, 65} {
		key := noise(4, size)
		for _, n := range lengths {
			b := noise(5, n)
			if got, want := mac.Of(key, b), reference(key, b); got != want {
				t.Errorf("a key of %d bytes, %d bytes: %x, want %x", size, n, got, want)
			}
		}
	}
}

func TestOfEachKeyByte(t *testing.T) { // P2.1: each byte of a key has a part in the code, the last ones too
	for _, n := range []int{1, 63, 64, 65, 128, 131} {
		key, b := noise(6, n), []byte("text")
		first := mac.Of(key, b)
		for i := range key {
			key[i] ^= 1
			if got, want := mac.Of(key, b), reference(key, b); got != want || got == first {
				t.Errorf("a key of %d bytes, byte %d turned: %x, want %x", n, i, got, want)
			}
			key[i] ^= 1
		}
	}
}

func TestKeyAndBytesApart(t *testing.T) { // P2.1: where the key ends is not where the bytes begin
	text := noise(7, 130)
	for cut := range len(text) + 1 {
		if got, want := mac.Of(text[:cut], text[cut:]), reference(text[:cut], text[cut:]); got != want {
			t.Errorf("cut at %d: %x, want %x", cut, got, want)
		}
	}
}

func TestSameOfEqualCodes(t *testing.T) { // P2.2
	for seed := range uint32(50) {
		a := mac.Of(noise(seed, 20), nil)
		b := a
		if !mac.Same(a, b) || !mac.Same(a, a) {
			t.Errorf("%x is not the same as itself", a)
		}
	}
	var none, full api.Sum
	for i := range full {
		full[i] = 0xff
	}
	if !mac.Same(none, none) || !mac.Same(full, full) || mac.Same(none, full) || mac.Same(full, none) {
		t.Error("codes of 00 bytes and of FF bytes alone")
	}
}

func TestSameOfOneByteOther(t *testing.T) { // P2.2: at each place, by each difference
	for _, a := range []api.Sum{{}, mac.Of([]byte("key"), nil)} {
		for i := range a {
			for by := 1; by < 256; by++ {
				b := a
				b[i] ^= byte(by)
				if mac.Same(a, b) || mac.Same(b, a) {
					t.Errorf("byte %d differs by %02X, but they are told the same", i, by)
				}
			}
		}
	}
}

func TestSameOfTwoBytesOther(t *testing.T) { // P2.2: differences that would cancel out in a sum or an exclusive or
	for _, by := range []byte{1, 0x40, 0x80, 0xff} {
		for i := range 32 {
			for j := range i {
				var a, b, c api.Sum
				b[i], b[j] = by, by
				c[i], c[j] = by, -by
				if mac.Same(a, b) || mac.Same(a, c) || mac.Same(b, a) || mac.Same(c, a) {
					t.Errorf("bytes %d and %d differ by %02X, but they are told the same", i, j, by)
				}
			}
		}
	}
	var a, b api.Sum
	for i := range b {
		b[i] = 8 // 32 of them make 256
	}
	if mac.Same(a, b) {
		t.Error("all bytes differ by 8, but they are told the same")
	}
}

func TestSameInAnotherOrder(t *testing.T) { // P2.2
	a := mac.Of(nil, nil)
	for i := range 31 {
		b := a
		b[i], b[i+1] = b[i+1], b[i]
		if mac.Same(a, b) != (a[i] == a[i+1]) {
			t.Errorf("bytes %d and %d changed for each other", i, i+1)
		}
	}
}

func TestSameLeavesOffNowhere(t *testing.T) { // P2.2: no answer shows which bytes were examined, so this reads how Same is written
	file, err := parser.ParseFile(token.NewFileSet(), "mac.go", nil, 0)
	if err != nil {
		t.Fatal(err)
	}
	same, ok := file.Scope.Lookup("Same").Decl.(*ast.FuncDecl)
	if !ok {
		t.Fatal("no function Same")
	}
	loops := 0
	ast.Inspect(same.Body, func(n ast.Node) bool {
		switch x := n.(type) {
		case *ast.RangeStmt:
			loops++
		case *ast.IfStmt, *ast.SwitchStmt, *ast.BranchStmt, *ast.CallExpr:
			t.Errorf("Same goes another way by what it sees, or asks others: %T", x)
		case *ast.BinaryExpr:
			if x.Op == token.LAND || x.Op == token.LOR {
				t.Errorf("Same leaves a part out by %s", x.Op)
			}
		}
		return true
	})
	if last := same.Body.List[len(same.Body.List)-1]; loops != 1 || !onlyReturn(same.Body, last) {
		t.Error("Same is not one loop over all bytes with an answer behind it")
	}
}

// onlyReturn tells whether the body returns at its last statement and nowhere else.
func onlyReturn(body *ast.BlockStmt, last ast.Stmt) bool {
	returns := 0
	ast.Inspect(body, func(n ast.Node) bool {
		if _, ok := n.(*ast.ReturnStmt); ok {
			returns++
		}
		return true
	})
	_, ok := last.(*ast.ReturnStmt)
	return ok && returns == 1
}

func TestChainIsOf(t *testing.T) { // P2.3
	for seed := range uint32(100) {
		s := mac.Of(noise(seed, 10), nil)
		b := noise(seed+1, int(2*seed))
		if got, want := mac.Chain(s, b), mac.Of(s[:], b); got != want {
			t.Errorf("seed %d: %x, want %x", seed, got, want)
		}
		if got, want := mac.Chain(s, b), reference(s[:], b); got != want {
			t.Errorf("seed %d: %x, want %x", seed, got, want)
		}
	}
	var none api.Sum
	if mac.Chain(none, nil) != mac.Of(make([]byte, 32), nil) {
		t.Error("a code of 00 bytes, and no bytes")
	}
}

func TestChainOfChain(t *testing.T) { // P2.3: the order of the pieces counts
	s := mac.Of([]byte("root"), []byte("first"))
	there := mac.Chain(mac.Chain(s, []byte("a")), []byte("b"))
	inner := reference(s[:], []byte("a"))
	if want := reference(inner[:], []byte("b")); there != want {
		t.Errorf("a, then b: %x, want %x", there, want)
	}
	if back := mac.Chain(mac.Chain(s, []byte("b")), []byte("a")); back == there {
		t.Error("b, then a: the code of a, then b")
	}
}

func TestZerosBehindAKey(t *testing.T) { // P2.4: up to 64 bytes in all
	b := []byte("what is shown")
	for n := range 65 {
		key := noise(8, n)
		want := mac.Of(key, b)
		for zeros := range 64 - n + 1 {
			if got := mac.Of(zerosBehind(key, zeros), b); got != want {
				t.Errorf("a key of %d bytes with %d zeros: %x, want %x", n, zeros, got, want)
			}
		}
	}
}

func TestZerosBeyondABlock(t *testing.T) { // P2.4: from 65 bytes on they are part of what is digested
	b := []byte("what is shown")
	for _, n := range []int{0, 1, 63, 64} {
		key := noise(9, n)
		for _, total := range []int{65, 66, 128} {
			long := zerosBehind(key, total-n)
			if got, want := mac.Of(long, b), reference(long, b); got != want || got == mac.Of(key, b) {
				t.Errorf("a key of %d bytes, %d with zeros: %x, want %x", n, total, got, want)
			}
		}
	}
}

func TestZerosAheadOfAKey(t *testing.T) { // P2.4: only those behind a key have no part in it
	key, b := noise(10, 20), []byte("what is shown")
	if mac.Of(append([]byte{0}, key...), b) == mac.Of(key, b) {
		t.Error("a zero ahead of a key leaves its code as it is")
	}
}

func TestLongerKeyIsItsDigest(t *testing.T) { // P2.4
	b := []byte("what is shown")
	for n := 65; n < 300; n++ {
		key := noise(11, n)
		digest := sha.Sum(key)
		want := mac.Of(key, b)
		if got := mac.Of(digest[:], b); got != want {
			t.Errorf("a key of %d bytes: %x under its digest, want %x", n, got, want)
		}
		if got := mac.Of(zerosBehind(digest[:], 32), b); got != want {
			t.Errorf("a key of %d bytes: %x under its digest's block, want %x", n, got, want)
		}
		if got := mac.Chain(digest, b); got != want {
			t.Errorf("a key of %d bytes: %x as a chain, want %x", n, got, want)
		}
	}
}

func TestShorterKeyIsNotItsDigest(t *testing.T) { // P2.4
	for _, n := range []int{0, 1, 32, 63, 64} {
		key := noise(12, n)
		digest := sha.Sum(key)
		if mac.Of(key, nil) == mac.Of(digest[:], nil) {
			t.Errorf("a key of %d bytes has the code of its digest", n)
		}
	}
}

func TestArgumentsAreLeft(t *testing.T) { // R3: those behind the ends of the slices too
	for _, n := range []int{0, 1, 20, 32, 63, 64, 65, 131} {
		keys, texts := noise(13, n+200), noise(14, n+200)
		keysBefore, textsBefore := bytes.Clone(keys), bytes.Clone(texts)
		s := mac.Of(keys[:n], texts[:n])
		sBefore := s
		mac.Chain(s, texts[:n])
		if !bytes.Equal(keys, keysBefore) || !bytes.Equal(texts, textsBefore) || s != sBefore {
			t.Errorf("%d bytes, or those behind their end, were changed", n)
		}
	}
}

func TestKeyAndBytesShared(t *testing.T) { // R3: one memory as the key and as the bytes
	for _, n := range []int{0, 20, 64, 65, 100} {
		b := noise(15, n)
		if got, want := mac.Of(b, b), reference(b, b); got != want {
			t.Errorf("%d bytes under themselves: %x, want %x", n, got, want)
		}
	}
}

func TestOfAgain(t *testing.T) { // R4: what was asked before has no part in it
	key, b := noise(16, 40), noise(17, 90)
	first := mac.Of(key, b)
	mac.Of(noise(18, 70), noise(19, 10))
	if again := mac.Of(key, b); again != first {
		t.Errorf("asked again: %x, want %x", again, first)
	}
}
