package poly

import (
	"math/big"
	"testing"

	"sealery/api"
)

// value is the number that limbs stand for.
func value(n number) *big.Int {
	v := new(big.Int)
	for i := limbs - 1; i >= 0; i-- {
		v.Lsh(v, 26).Add(v, new(big.Int).SetUint64(n[i]))
	}
	return v
}

// prime is p.
func prime() *big.Int {
	p := new(big.Int).Lsh(big.NewInt(1), 130)
	return p.Sub(p, big.NewInt(5))
}

// small tells whether each limb is below 2^26.
func small(n number) bool {
	for _, limb := range n {
		if limb >= 1<<26 {
			return false
		}
	}
	return true
}

// extremes are numbers of all choices of extreme limbs below a bound.
func extremes(bound uint64) []number {
	choices := []uint64{0, 1, 1<<26 - 6, 1<<26 - 5, 1<<26 - 1, bound - 1}
	l := []number{{}}
	for i := range limbs {
		var longer []number
		for _, n := range l {
			for _, limb := range choices {
				n[i] = limb
				longer = append(longer, n)
			}
		}
		l = longer
	}
	return l
}

func TestNormal(t *testing.T) { // P4.1
	for _, bound := range []uint64{1 << 26, 1 << 27, 1 << 36, 1 << 58} {
		for _, n := range extremes(bound) {
			got, over := normal(n)
			whole := new(big.Int).Lsh(new(big.Int).SetUint64(over), 130)
			if whole.Add(whole, value(got)); !small(got) || whole.Cmp(value(n)) != 0 {
				t.Fatalf("%X: %X and %X", n, got, over)
			}
		}
	}
}

func TestReduced(t *testing.T) { // P4.1: p and 2^130 themselves, those beside them, and all that is as great as a product may be
	for _, bound := range []uint64{1 << 26, 1<<26 + 1, 1<<26 + 5, 1 << 27, 1 << 36, 1 << 58} {
		for _, n := range extremes(bound) {
			got, want := reduced(n), value(n)
			if want.Mod(want, prime()); !small(got) || value(got).Cmp(want) != 0 {
				t.Fatalf("%X: %X, want the number %X", n, got, want)
			}
		}
	}
}

func TestReducedNearTheModulus(t *testing.T) { // P4.1: one by one about p and 2^130, and once more below 2 p
	highest := number{1<<26 - 1, 1<<26 - 1, 1<<26 - 1, 1<<26 - 1, 1<<26 - 1} // 2^130 - 1
	for _, times := range []uint64{1, 2, 3, 1 << 20} {
		for low := range uint64(64) {
			n := number{0, times * highest[1], times * highest[2], times * highest[3], times * highest[4]}
			n[0] = times*(1<<26) - 32 + low
			got, want := reduced(n), value(n)
			if want.Mod(want, prime()); !small(got) || value(got).Cmp(want) != 0 {
				t.Errorf("%X: %X, want the number %X", n, got, want)
			}
		}
	}
}

func TestProduct(t *testing.T) { // P4.1: limbs as great as they may be, whose sums stay below 2^58
	least := []number{{}, {1}, {0, 0, 0, 0, 1}, {5}, {1<<26 - 1, 1<<26 - 1, 1<<26 - 1, 1<<26 - 1, 1<<26 - 1}, {1, 2, 3, 4, 5}}
	for _, x := range extremes(1 << 27) {
		for _, y := range least {
			n := product(x, y)
			for _, limb := range n {
				if limb >= 1<<58 {
					t.Fatalf("%X times %X: %X", x, y, n)
				}
			}
			got, want := value(n), new(big.Int).Mul(value(x), value(y))
			if got.Mod(got, prime()).Cmp(want.Mod(want, prime())) != 0 {
				t.Fatalf("%X times %X: %X", x, y, n)
			}
		}
	}
}

func TestNumberOf(t *testing.T) { // P4.1: each bit of each byte at its place, the 17th byte's too
	for bit := range 8*16 + 2 {
		b := make([]byte, 17)
		b[bit/8] = 1 << (bit % 8)
		want := new(big.Int).Lsh(big.NewInt(1), uint(bit))
		if n := numberOf(b); !small(n) || value(n).Cmp(want) != 0 {
			t.Errorf("bit %d: %X", bit, n)
		}
	}
	b := []byte{255, 255, 255, 255, 255, 255, 255, 255, 255, 255, 255, 255, 255, 255, 255, 255, 3}
	if n := numberOf(b); !small(n) || value(n).Cmp(prime().Add(prime(), big.NewInt(4))) != 0 {
		t.Errorf("ones: %X", n)
	}
	if n := numberOf(nil); n != (number{}) {
		t.Errorf("nothing: %X", n)
	}
}

func TestBytesOf(t *testing.T) { // P4.1: modulo 2^128, limbs that hold more than 26 bits included
	for bit := range 131 {
		var n number
		n[min(bit/26, limbs-1)] = 1 << (bit - 26*min(bit/26, limbs-1))
		var want api.Tag
		if bit < 128 {
			want[bit/8] = 1 << (bit % 8)
		}
		if got := bytesOf(n); got != want {
			t.Errorf("bit %d: %x, want %x", bit, got, want)
		}
	}
	for _, n := range extremes(1 << 27) {
		v, got := value(n), bytesOf(n)
		for i, x := range got {
			if want := byte(new(big.Int).Rsh(v, uint(8*i)).Uint64()); x != want {
				t.Fatalf("%X: byte %d is %02X, want %02X", n, i, x, want)
			}
		}
	}
}

func TestCleared(t *testing.T) { // P4.1, P4.4
	var ones api.Key
	for i := range ones {
		ones[i] = 0xff
	}
	want, _ := new(big.Int).SetString("0ffffffc0ffffffc0ffffffc0fffffff", 16)
	if r := cleared(ones); value(r).Cmp(want) != 0 {
		t.Errorf("of ones: %X", value(r))
	}
	if r := cleared(api.Key{16: 0xff, 31: 0xff}); r != (number{}) {
		t.Errorf("s has a part in r: %X", value(r))
	}
}
