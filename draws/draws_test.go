package draws_test

import (
	"bytes"
	"encoding/binary"
	"encoding/hex"
	"fmt"
	"math"
	"strings"
	"testing"

	"sealery/api"
	"sealery/draws"
	"sealery/mac"
	"sealery/pack"
)

// exampleBytes are what the chapter's example gives to the code.
const exampleBytes = "\x00\x00\x00\x00\x00\x00\x00\x03ann\x00\x00\x00\x00\x00\x00\x00\x03bob\x00\x00\x00\x00\x00\x00\x00\x07"

// exampleKey is its key, reckoned outside of this program.
const exampleKey = "b157121ea558984e026db6b5a8d407d3bc33bc346f51d50bd5e6c9c11411b6bd"

// seeds are of lengths about those of a code's block and of a digest.
func seeds() [][]byte {
	l := [][]byte{nil, {}}
	for _, n := range []int{1, 31, 32, 33, 63, 64, 65, 200} {
		l = append(l, noise(n))
	}
	return l
}

// noise is bytes without a pattern, none of them 00.
func noise(n int) []byte {
	b, x := make([]byte, n), uint32(n)
	for i := range b {
		x = x*1664525 + 1013904223
		b[i] = byte(x>>24) | 1
	}
	return b
}

// names are of no bytes, one, as many as a name may have and one more, such as are no name and no UTF-8, and long ones.
func names() []string {
	return []string{"", "a", "b", "\x00", "\xff", "ann", "bob", "Ann ", "\xc3\x28\xed\xa0\x80", "a\x00b", strings.Repeat("n", 24), strings.Repeat("n", 25), strings.Repeat("long", 300), strings.Repeat("\xfe", 5000)}
}

func numbers() []int {
	return []int{0, 1, -1, 2, 64, 255, 256, 1 << 31, 1 << 32, 1 << 40, -1 << 32, math.MaxInt, math.MinInt, math.MaxInt - 1, math.MinInt + 1}
}

// drawn is what Key is asked, to be told where it answers wrong.
type drawn struct {
	seed            []byte
	tenant, subject string
	n               int
}

func (d drawn) String() string {
	return fmt.Sprintf("Key(%x, %.99q, %.99q, %d)", d.seed, d.tenant, d.subject, d.n)
}

func (d drawn) key() api.Key { return draws.Key(d.seed, d.tenant, d.subject, d.n) }

// wantWords holds a key against the promise's words.
func wantWords(t *testing.T, d drawn) {
	t.Helper()
	if got, want := d.key(), wordKey(d); got != want {
		t.Fatalf("%v: %x, want %x", d, got, want)
	}
}

// wantNoTwo holds that no two keys are the same.
func wantNoTwo(t *testing.T, l []drawn) {
	t.Helper()
	seen := map[api.Key]drawn{}
	for _, d := range l {
		k := d.key()
		if other, ok := seen[k]; ok {
			t.Fatalf("%v and %v: both are %x", d, other, k)
		}
		seen[k] = d
	}
}

func TestExample(t *testing.T) { // P15.1: that of the chapter
	got := draws.Key(nil, "ann", "bob", 7)
	if text := hex.EncodeToString(got[:]); text != exampleKey {
		t.Errorf("%s, want %s", text, exampleKey)
	}
	if want := api.Key(mac.Of(nil, []byte(exampleBytes))); got != want {
		t.Errorf("%x, want the code %x", got, want)
	}
}

func TestExampleByteByByte(t *testing.T) { // P15.1: with a byte altered, left out or put between, the code is another key
	got := draws.Key(nil, "ann", "bob", 7)
	for i := range len(exampleBytes) {
		ahead, behind := exampleBytes[:i], exampleBytes[i+1:]
		others := []string{ahead + behind, ahead + "\x00" + exampleBytes[i:], exampleBytes + strings.Repeat("\x00", i+1)}
		for by := 1; by < 256; by++ {
			others = append(others, ahead+string([]byte{exampleBytes[i] ^ byte(by)})+behind)
		}
		for _, other := range others {
			if got == api.Key(mac.Of(nil, []byte(other))) {
				t.Errorf("byte %d: the key is the code of %x", i, other)
			}
		}
	}
}

func TestAsWritten(t *testing.T) { // P15.1: with the code and the encodings of the layers below
	for _, seed := range seeds() {
		for _, tenant := range names() {
			for _, subject := range names() {
				d := drawn{seed, tenant, subject, len(tenant) - len(subject)}
				want := mac.Of(seed, pack.Int(pack.Text(pack.Text(nil, tenant), subject), d.n))
				if got := d.key(); got != api.Key(want) {
					t.Errorf("%v: %x, want %x", d, got, want)
				}
			}
		}
	}
}

func TestSeeds(t *testing.T) { // P15.1
	for _, seed := range seeds() {
		for _, n := range numbers() {
			wantWords(t, drawn{seed, "ann", "bob", n})
			wantWords(t, drawn{seed, "", "", n})
		}
	}
	var l []drawn
	for _, seed := range seeds()[1:] { // none at all and an empty one are alike
		l = append(l, drawn{seed, "ann", "bob", 7})
	}
	wantNoTwo(t, l)
}

func TestEachByteOfASeed(t *testing.T) { // P15.1: each has a part in the key, the last ones of a long seed too
	for _, seed := range seeds() {
		l := []drawn{{seed, "ann", "bob", 7}}
		for i := range seed {
			other := bytes.Clone(seed)
			other[i] ^= 0x80
			d := drawn{other, "ann", "bob", 7}
			wantWords(t, d)
			l = append(l, d)
		}
		wantNoTwo(t, l)
	}
}

func TestSeedsThatAreOneBlock(t *testing.T) { // P15.1: the seed is the code's key (2): zeros behind a short one make no difference, and a long one is its digest
	short := noise(31)
	if a, b := draws.Key(short, "ann", "bob", 7), draws.Key(append(bytes.Clone(short), 0, 0), "ann", "bob", 7); a != b {
		t.Errorf("zeros behind: %x, not %x", b, a)
	}
	if a, b := draws.Key(nil, "ann", "bob", 7), draws.Key(make([]byte, 64), "ann", "bob", 7); a != b {
		t.Errorf("64 zeros: %x, not %x", b, a)
	}
	if a, b := draws.Key(nil, "ann", "bob", 7), draws.Key(make([]byte, 65), "ann", "bob", 7); a == b {
		t.Errorf("65 zeros: %x, as of none", b)
	}
}

func TestNames(t *testing.T) { // P15.1: the tenant and the subject, in this order
	var l []drawn
	for _, tenant := range names() {
		for _, subject := range names() {
			for _, n := range []int{0, 7, -1} {
				d := drawn{[]byte("seed"), tenant, subject, n}
				wantWords(t, d)
				l = append(l, d)
			}
		}
	}
	wantNoTwo(t, l)
}

func TestEachByteOfAName(t *testing.T) { // P15.1: each has a part in the key, whatever it is
	for _, n := range []int{1, 24, 25, 130} {
		name := noise(n)
		var l []drawn
		for i := range name {
			for _, by := range []byte{0x01, 0x20, 0x80} {
				other := bytes.Clone(name)
				other[i] ^= by
				l = append(l, drawn{nil, string(other), "s", 1}, drawn{nil, "t", string(other), 1})
			}
		}
		for _, d := range l {
			wantWords(t, d)
		}
		wantNoTwo(t, l)
	}
}

func TestNumbers(t *testing.T) { // P15.1: each of the eight bytes has a part in the key
	l := []drawn{}
	for bit := range 64 {
		l = append(l, drawn{nil, "ann", "bob", 1 << bit})
	}
	for _, n := range numbers() {
		wantWords(t, drawn{nil, "ann", "bob", n})
	}
	for _, d := range l {
		wantWords(t, d)
	}
	wantNoTwo(t, append(l, drawn{nil, "ann", "bob", 0}, drawn{nil, "ann", "bob", -1}))
}

func TestSameKeyAgain(t *testing.T) { // P15.2: whatever was derived in between
	var l []drawn
	for _, seed := range seeds() {
		for _, name := range names() {
			l = append(l, drawn{seed, name, "bob", len(l)}, drawn{seed, "ann", name, -len(l)})
		}
	}
	first := make([]api.Key, len(l))
	for i, d := range l {
		first[i] = d.key()
	}
	for i := range l {
		d := l[len(l)-1-i]
		if again, want := d.key(), first[len(l)-1-i]; again != want {
			t.Fatalf("%v, again: %x, was %x", d, again, want)
		}
	}
	for i, d := range l {
		for j := range 3 {
			l[(i+7*j)%len(l)].key()
			if again := d.key(); again != first[i] {
				t.Fatalf("%v, behind others: %x, was %x", d, again, first[i])
			}
		}
	}
}

func TestSameKeyOfCopies(t *testing.T) { // P15.2, R4: of the same bytes elsewhere in memory, with other room behind them
	for _, seed := range seeds() {
		for _, name := range names() {
			d := drawn{seed, name, name, 3}
			room := append(make([]byte, 0, len(seed)+100), seed...)
			other := drawn{room, strings.Clone(name), (name + "x")[:len(name)], 3}
			if a, b := d.key(), other.key(); a != b {
				t.Errorf("%v: %x, and of copies %x", d, a, b)
			}
		}
	}
}

func TestSeedIsLeft(t *testing.T) { // R3: neither changed, nor what lies behind its end, nor kept
	for _, n := range []int{0, 1, 31, 32, 33, 63, 64, 65, 200} {
		for _, spare := range []int{0, 1, 8, 64, 500} {
			all := noise(n + spare)
			was := bytes.Clone(all)
			first := draws.Key(all[:n], "ann", "bob", 7)
			draws.Key(all[:n], strings.Repeat("t", 400), "", math.MinInt)
			if !bytes.Equal(all, was) {
				t.Fatalf("a seed of %d bytes with room for %d: %x, was %x", n, spare, all, was)
			}
			clear(all)
			if again := draws.Key(was[:n:n], "ann", "bob", 7); again != first {
				t.Fatalf("a seed of %d bytes: %x, was %x", n, again, first)
			}
		}
	}
}

func TestSeedChangedBetween(t *testing.T) { // P15.2, R3: the seed counts as it is at the call
	seed := []byte("seed")
	first := draws.Key(seed, "ann", "bob", 7)
	seed[0] = 'f'
	wantWords(t, drawn{seed, "ann", "bob", 7})
	if draws.Key(seed, "ann", "bob", 7) == first {
		t.Error("the key of another seed is the same")
	}
	seed[0] = 's'
	if again := draws.Key(seed, "ann", "bob", 7); again != first {
		t.Errorf("%x, was %x", again, first)
	}
}

func TestPartedElsewhere(t *testing.T) { // P15.3: the same bytes behind one another, but another place where the tenant ends
	for _, whole := range []string{"ab", "annbob", "aaaaaaaa", "\x00\x00\x00\x00", "a-b.c", "\xff\xff\xff", strings.Repeat("x", 49), strings.Repeat("long", 60)} {
		for _, seed := range [][]byte{nil, []byte("seed"), noise(65)} {
			var l []drawn
			for cut := range len(whole) + 1 {
				d := drawn{seed, whole[:cut], whole[cut:], 7}
				wantWords(t, d)
				l = append(l, d)
			}
			wantNoTwo(t, l)
		}
	}
}

func TestChangedForEachOther(t *testing.T) { // P15.3: whose name is which
	for _, a := range names() {
		for _, b := range names() {
			if a != b {
				wantNoTwo(t, []drawn{{nil, a, b, 7}, {nil, b, a, 7}})
			}
		}
	}
}

func TestNamesThatLookLikeMore(t *testing.T) { // P15.3: names with the bytes of lengths, numbers and ends in them
	text := func(s string) string { return string(binary.BigEndian.AppendUint64(nil, uint64(len(s)))) + s }
	seven := string(binary.BigEndian.AppendUint64(nil, 7))
	wantNoTwo(t, []drawn{
		{nil, "ann", "bob", 7},
		{nil, "ann" + text("bob"), "", 7},
		{nil, "", "ann" + text("bob"), 7},
		{nil, text("ann"), text("bob"), 7},
		{nil, text("ann") + text("bob"), "", 7},
		{nil, "ann", "bob" + seven, 7},
		{nil, "ann", "bob" + seven, 0},
		{nil, exampleBytes, "", 7},
		{nil, "", exampleBytes, 7},
		{nil, "", exampleBytes, 0},
		{nil, "ann\x00", "bob", 7},
		{nil, "ann", "\x00bob", 7},
		{nil, "ann", "bob\x00", 7},
		{nil, "ann\x00bob", "", 7},
		{nil, "", "ann\x00bob", 7},
		{nil, "ann", "", 7},
		{nil, "", "ann", 7},
		{nil, "", "", 7},
	})
}

func TestSmall(t *testing.T) { // P15.3: all small tenants, subjects and numbers
	for _, letters := range []string{"ab", "\x00\x01"} {
		small := []string{""}
		for from := 0; len(small) < 31; from++ {
			small = append(small, small[from]+letters[:1], small[from]+letters[1:])
		}
		var l []drawn
		for _, tenant := range small {
			for _, subject := range small {
				for n := -3; n <= 8; n++ {
					l = append(l, drawn{[]byte("seed"), tenant, subject, n})
				}
			}
		}
		wantNoTwo(t, l)
	}
}
