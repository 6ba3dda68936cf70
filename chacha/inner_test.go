package chacha

import (
	"math"
	"testing"

	"sealery/api"
)

func TestQuarterExample(t *testing.T) { // P3.1
	a, b, c, d := quarter(0x11111111, 0x01020304, 0x9b8d6f43, 0x01234567)
	if a != 0xea2a92f4 || b != 0xcb1cf8ce || c != 0x4581472e || d != 0x5881c4bb {
		t.Errorf("%08X, %08X, %08X, %08X", a, b, c, d)
	}
	if a, b, c, d = quarter(0, 0, 0, 0); a|b|c|d != 0 {
		t.Errorf("of zeros: %08X, %08X, %08X, %08X", a, b, c, d)
	}
}

func TestMatrix(t *testing.T) { // P3.1: the words of the text, the key, the counter and the nonce, in this order
	var key api.Key
	for i := range key {
		key[i] = byte(i)
	}
	want := [16]uint32{
		0x61707865, 0x3320646e, 0x79622d32, 0x6b206574,
		0x03020100, 0x07060504, 0x0b0a0908, 0x0f0e0d0c,
		0x13121110, 0x17161514, 0x1b1a1918, 0x1f1e1d1c,
		0x00000001, 0x09000000, 0x4a000000, 0x00000000,
	}
	if got := matrix(key, 1, api.Nonce{3: 9, 7: 0x4a}); got != want {
		t.Errorf("%08X, want %08X", got, want)
	}
}

func TestEachQuarterRoundTakesFourWords(t *testing.T) { // P3.1: columns take each word once, and so do diagonals
	for half := range 2 {
		var taken [16]int
		for _, q := range quarters[4*half : 4*half+4] {
			for row, i := range q {
				taken[i]++
				if i/4 != row {
					t.Errorf("word %d as word %d of a quarter round", i, row)
				}
			}
		}
		for i, n := range taken {
			if n != 1 {
				t.Errorf("half %d: word %d is taken %d times", half, i, n)
			}
		}
	}
}

func TestKeystreamLeftEarly(t *testing.T) { // P3.2: who walks it may stop at any byte, and walk it again from its start
	stream := keystream(api.Key{}, math.MaxUint32, api.Nonce{}, 150)
	var whole []byte
	for i, k := range stream {
		if i != len(whole) {
			t.Fatalf("index %d behind %d bytes", i, len(whole))
		}
		whole = append(whole, k)
	}
	if len(whole) != 150 {
		t.Fatalf("%d bytes, want 150", len(whole))
	}
	for stop := range whole {
		for i, k := range stream {
			if k != whole[i] {
				t.Errorf("stopped at %d: byte %d is %02X, want %02X", stop, i, k, whole[i])
			}
			if i == stop {
				break
			}
		}
	}
}

func TestKeystreamOfNothing(t *testing.T) { // P3.2
	for i, k := range keystream(api.Key{}, 0, api.Nonce{}, 0) {
		t.Errorf("byte %d is %02X", i, k)
	}
}
