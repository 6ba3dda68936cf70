package draws_test

import (
	"crypto/hmac"
	"crypto/sha256"
	"encoding/binary"
	"math/rand/v2"
	"strings"
	"testing"

	"sealery/api"
)

// wordKey is the chapter's words, written a second time, with the library's codes and numbers instead of the layers below.
func wordKey(d drawn) api.Key {
	h := hmac.New(sha256.New, d.seed)
	number := func(n int) { h.Write(binary.BigEndian.AppendUint64(nil, uint64(n))) }
	number(len(d.tenant))
	h.Write([]byte(d.tenant))
	number(len(d.subject))
	h.Write([]byte(d.subject))
	number(d.n)
	return api.Key(h.Sum(nil))
}

// draw makes random seeds, names and numbers.
type draw struct{ *rand.Rand }

func (d draw) bytes(most int) []byte {
	b := make([]byte, d.IntN(most+1))
	for i := range b {
		b[i] = byte(d.Uint32())
	}
	return b
}

func (d draw) seed() []byte {
	if d.IntN(4) == 0 {
		return d.bytes(300)
	}
	return d.bytes(70)
}

func (d draw) name() string {
	switch d.IntN(8) {
	case 0:
		return string(d.bytes(400))
	case 1:
		return string(d.bytes(30))
	case 2:
		return strings.Repeat("\x00", d.IntN(20))
	}
	const letters = "abcxyz0189-."
	s := make([]byte, d.IntN(26))
	for i := range s {
		s[i] = letters[d.IntN(len(letters))]
	}
	return string(s)
}

func (d draw) number() int {
	n := int(d.Uint64() >> d.IntN(64))
	if d.IntN(4) == 0 {
		return -n
	}
	return n
}

func TestWords(t *testing.T) { // P15.1: random calls
	for stream := range uint64(8) {
		d := draw{rand.New(rand.NewPCG(stream, 15))}
		for range 4000 {
			wantWords(t, drawn{d.seed(), d.name(), d.name(), d.number()})
		}
	}
}

func TestWordsInTurn(t *testing.T) { // P15.2: random calls, asked again in another order
	d := draw{rand.New(rand.NewPCG(8, 15))}
	var l []drawn
	for range 500 {
		l = append(l, drawn{d.seed(), d.name(), d.name(), d.number()})
	}
	for range 10 {
		d.Shuffle(len(l), func(i, j int) { l[i], l[j] = l[j], l[i] })
		for _, x := range l {
			wantWords(t, x)
		}
	}
}
