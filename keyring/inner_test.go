package keyring

import (
	"strings"
	"testing"
	"unsafe"

	"sealery/api"
)

// A string that a call is given is not kept, nor a longer one that it was cut from; no call shows that.
func TestNoStringIsKept(t *testing.T) { // R3
	all := strings.Repeat("tenant, subject; ", 100)
	r := New()
	for i, err := range []api.Errno{
		r.Make(all[0:6], all[8:15], 1),
		r.Use(all[17:23], all[25:32], 2),
		r.Shred(all[34:40], all[42:49]),
	} {
		if err != api.OK {
			t.Fatalf("call %d: %d", i, err)
		}
		for own := range r.holds {
			for _, s := range []string{own.tenant, own.subject} {
				if within(s, all) {
					t.Errorf("call %d: %q is the argument's", i, s)
				}
			}
		}
	}
}

// within tells whether a string's bytes are another one's.
func within(s, all string) bool {
	for i := range len(all) {
		if unsafe.StringData(s) == unsafe.StringData(all[i:]) {
			return true
		}
	}
	return false
}
