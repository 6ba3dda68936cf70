package vault

import (
	"bytes"
	"testing"

	"sealery/api"
	"sealery/disk"
)

// keeps tells whether a key is anywhere among a vault's slots, those behind the last one too.
func keeps(v *Vault, key api.Key) bool {
	for _, s := range v.slots {
		if bytes.Contains(s[:], key[:]) {
			return true
		}
	}
	return false
}

// A key that was erased, or that Put did not lay down, is not in memory; no call shows that.
func TestNoKeyIsLeft(t *testing.T) { // P11.2, P11.4
	d := disk.New(100)
	v, _ := Open(d)
	keys := []api.Key{{1, 2, 3}, {4, 5, 6}, {7, 8, 9}}
	for i, want := range []api.Errno{api.OK, api.OK, api.ErrFull} {
		if _, err := v.Put(keys[i]); err != want || keeps(v, keys[i]) != (want == api.OK) {
			t.Errorf("Put: %d, want %d; kept: %v", err, want, keeps(v, keys[i]))
		}
	}
	for i := range 2 {
		if err := v.Zero(i + 1); err != api.OK || keeps(v, keys[i]) {
			t.Errorf("Zero: %d, kept: %v", err, keeps(v, keys[i]))
		}
		v, _ = Open(d)
	}
}
