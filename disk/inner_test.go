package disk

import "testing"

// What a file has no more is in memory no more either; no call shows that.
func TestCutBytesAreCleared(t *testing.T) { // P8.3, P8.6
	for name, drop := range map[string]func(d *Disk){
		"Cut":   func(d *Disk) { d.Cut(0, 2) },
		"Crash": func(d *Disk) { d.Crash([]int{2}) },
	} {
		d := New(100)
		d.Write(0, []byte("abcdefgh"))
		drop(d)
		all := d.files[0].all
		for i, b := range all[:cap(all)] {
			if i >= 2 && b != 0 {
				t.Errorf("%s: %q stands behind the end", name, b)
			}
		}
	}
}
