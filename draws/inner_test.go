package draws

import (
	"encoding/hex"
	"math"
	"strings"
	"testing"

	"sealery/pack"
)

// What is given to the code shows in no answer, so these tests look at it.

func TestGivenOfTheExample(t *testing.T) { // P15.1
	want, err := hex.DecodeString(strings.ReplaceAll("00000000 00000003 616E6E 00000000 00000003 626F62 00000000 00000007", " ", ""))
	if err != nil {
		t.Fatal(err)
	}
	got := given(7, "ann", "bob")
	if len(got) != len(want) {
		t.Fatalf("%x: %d bytes, want %d", got, len(got), len(want))
	}
	for i := range want {
		if got[i] != want[i] {
			t.Errorf("byte %d: %02x, want %02x", i, got[i], want[i])
		}
	}
}

func TestGivenReadBack(t *testing.T) { // P15.3: the bytes tell the names and the number, and nothing is left
	names := []string{"", "a", "ann", "\x00", "\xff\xfe", strings.Repeat("n", 24), strings.Repeat("n", 25), strings.Repeat("long", 500), string(given(7, "ann", "bob"))}
	for _, tenant := range names {
		for _, subject := range names {
			for _, n := range []int{0, 1, -1, 3, math.MaxInt, math.MinInt} {
				r := pack.Read(given(n, tenant, subject))
				if x, y, m := r.Text(math.MaxInt), r.Text(math.MaxInt), r.Int(); x != tenant || y != subject || m != n || r.End() != 0 {
					t.Fatalf("%.99q, %.99q, %d: they are read back as %.99q, %.99q, %d; then %d", tenant, subject, n, x, y, m, r.End())
				}
			}
		}
	}
}

func TestGivenOnce(t *testing.T) { // P15.3: no two of all small names and numbers give the same bytes
	seen := map[string]bool{}
	for _, tenant := range small() {
		for _, subject := range small() {
			for n := -2; n <= 2; n++ {
				b := string(given(n, tenant, subject))
				if seen[b] {
					t.Errorf("%q, %q, %d: %x is given a second time", tenant, subject, n, b)
				}
				seen[b] = true
			}
		}
	}
	if len(seen) != 40*40*5 {
		t.Errorf("%d were given, want %d", len(seen), 40*40*5)
	}
}

// small are all names of up to three bytes, of the bytes 00, 01 and 'a'.
func small() []string {
	all := []string{""}
	for from := 0; len(all) < 40; from++ {
		for _, c := range []string{"\x00", "\x01", "a"} {
			all = append(all, all[from]+c)
		}
	}
	return all
}
