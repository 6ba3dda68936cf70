package sha

import (
	"encoding/binary"
	"math/big"
	"math/bits"
	"testing"
)

// primes are the first n primes.
func primes(n int) []int64 {
	var l []int64
	for c := int64(2); len(l) < n; c++ {
		if big.NewInt(c).ProbablyPrime(0) {
			l = append(l, c)
		}
	}
	return l
}

// fraction is the first 32 fractional bits of p's root of that degree: the greatest x with x^degree at most p times 2^(32 degree), without its whole part.
func fraction(p int64, degree uint) uint32 {
	scaled := new(big.Int).Lsh(big.NewInt(p), 32*degree)
	var x uint64
	for bit := 40; bit >= 0; bit-- {
		next := new(big.Int).SetUint64(x | 1<<bit)
		if next.Exp(next, big.NewInt(int64(degree)), nil).Cmp(scaled) <= 0 {
			x |= 1 << bit
		}
	}
	return uint32(x)
}

func TestConstants(t *testing.T) { // P1.1, P1.2
	for i, p := range primes(8) {
		if want := fraction(p, 2); starts[i] != want {
			t.Errorf("H[%d] = %08X, want %08X", i, starts[i], want)
		}
	}
	for i, p := range primes(64) {
		if want := fraction(p, 3); constants[i] != want {
			t.Errorf("K[%d] = %08X, want %08X", i, constants[i], want)
		}
	}
	if starts[0] != 0x6A09E667 || constants[0] != 0x428A2F98 || constants[63] != 0xC67178F2 {
		t.Error("the constants that the chapter names are others")
	}
}

func TestPadding(t *testing.T) { // P1.1: lengths whose bits need all eight bytes, too, which no test can write
	lengths := []uint64{1<<29 - 1, 1 << 29, 1<<31 - 1, 1 << 31, 0x0123456789abcdef}
	for n := range uint64(200) {
		lengths = append(lengths, n)
	}
	for _, n := range lengths {
		p := padding(n)
		if size := uint64(len(p)); (n+size)%64 != 0 || size < 9 || size > 72 {
			t.Errorf("%d bytes: a padding of %d", n, size)
			continue
		}
		if p[0] != 128 {
			t.Errorf("%d bytes: the padding begins with %d", n, p[0])
		}
		for i, x := range p[1 : len(p)-8] {
			if x != 0 {
				t.Errorf("%d bytes: no zero at %d of the padding", n, i+1)
			}
		}
		if got := binary.BigEndian.Uint64(p[len(p)-8:]); got != 8*n {
			t.Errorf("%d bytes: %d bits, want %d", n, got, 8*n)
		}
	}
}

func TestTurned(t *testing.T) { // P1.2
	const x = 0x80000003
	if turned(x) != 0 || turned(x, 1) != 0xC0000001 || turned(x, 1, 4) != 0xC0000001^0x38000000 {
		t.Error("the exclusive or of rotations to the right is another")
	}
	for n := range 32 {
		if got, want := turned(x, n), bits.RotateLeft32(x, 32-n); got != want {
			t.Errorf("turned by %d: %08X, want %08X", n, got, want)
		}
	}
}
