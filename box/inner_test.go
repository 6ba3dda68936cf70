package box

import (
	"bytes"
	"encoding/binary"
	"math"
	"testing"
)

// A test of calls alone could not seal often enough for the higher bytes of a number.
func TestNumbers(t *testing.T) { // P6.2
	numbers := []uint64{0, 1, 0x0807060504030201, 0xf8f7f6f5f4f3f2f1, math.MaxInt64, math.MaxUint64}
	for bit := range 64 {
		numbers = append(numbers, 1<<bit-1, 1<<bit, 1<<bit+1)
	}
	for _, number := range numbers {
		want := binary.LittleEndian.AppendUint64(nil, number)
		got := bytes.Repeat([]byte{0xa5}, numberSize)
		putNumber(got, number)
		if !bytes.Equal(got, want) {
			t.Errorf("%x: %x, want %x", number, got, want)
		}
		if back := numberOf(want); back != number {
			t.Errorf("%x: %x, want %x", want, back, number)
		}
	}
}
