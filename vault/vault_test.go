package vault_test

import (
	"bytes"
	"encoding/binary"
	"fmt"
	"hash/crc32"
	"math"
	"math/rand/v2"
	"slices"
	"testing"

	"sealery/api"
	"sealery/disk"
	"sealery/vault"
)

const (
	files    = api.MaxSegs + 1
	slotSize = 40
)

// held is what a slot has: a key, or nothing any more.
type held struct {
	key    api.Key
	erased bool
}

// gone is an erased slot.
var gone = held{erased: true}

// keyOf is a key without a pattern, the same for the same seed.
func keyOf(seed int) api.Key {
	r := rand.New(rand.NewPCG(uint64(seed), 11))
	var k api.Key
	for i := range k {
		k[i] = byte(r.Uint32())
	}
	return k
}

// has is a slot with the key of a seed.
func has(seed int) held { return held{key: keyOf(seed)} }

// many is so many slots with keys.
func many(n int) []held {
	hs := make([]held, n)
	for i := range hs {
		hs[i] = has(i + 1)
	}
	return hs
}

// slotOf is a slot's bytes, of any number, without layer 9.
func slotOf(number int, h held) []byte {
	if h.erased {
		return make([]byte, slotSize)
	}
	b := binary.BigEndian.AppendUint32(h.key[:], uint32(number))
	return binary.BigEndian.AppendUint32(b, crc32.ChecksumIEEE(b))
}

// slotsOf is the bytes of consecutive slots.
func slotsOf(hs ...held) []byte {
	var b []byte
	for i, h := range hs {
		b = append(b, slotOf(i+1, h)...)
	}
	return b
}

func joined(parts ...[]byte) []byte { return slices.Concat(parts...) }

// noise is bytes without a pattern, the same for the same seed.
func noise(seed, n int) []byte {
	r := rand.New(rand.NewPCG(uint64(seed), 12))
	b := make([]byte, n)
	for i := range b {
		b[i] = byte(r.Uint32())
	}
	return b
}

func wantErr(t *testing.T, what string, got, want api.Errno) {
	t.Helper()
	if got != want {
		t.Fatalf("%s: %d, want %d", what, got, want)
	}
}

// wantGet holds one answer of Get.
func wantGet(t *testing.T, what string, v *vault.Vault, number int, key api.Key, err api.Errno) {
	t.Helper()
	if k, e := v.Get(number); k != key || e != err {
		t.Fatalf("%s: Get %d: %x, %d, want %x, %d", what, number, k, e, key, err)
	}
}

// outside are numbers of which a vault of so many slots has none.
func outside(n int) []int {
	return []int{0, -1, -n, -n - 1, n + 1, n + 2, 65, 1000, 256 + n, 1<<32 + n, 1<<63 - 1, math.MinInt, math.MinInt + n, math.MinInt + 1}
}

// wantSlots holds all that Get and Len answer.
func wantSlots(t *testing.T, what string, v *vault.Vault, hs []held) {
	t.Helper()
	if v.Len() != len(hs) {
		t.Fatalf("%s: %d slots, want %d", what, v.Len(), len(hs))
	}
	for i, h := range hs {
		if h.erased {
			wantGet(t, what, v, i+1, api.Key{}, api.ErrShred)
		} else {
			wantGet(t, what, v, i+1, h.key, api.OK)
		}
	}
	for _, n := range outside(len(hs)) {
		if n < 1 || n > len(hs) {
			wantGet(t, what, v, n, api.Key{}, api.ErrNone)
		}
	}
}

// view is what a disk tells without being turned.
type view struct {
	files             [files]string
	used, room, count int
	down              bool
}

// String leaves out what the bytes are.
func (v view) String() string {
	s := fmt.Sprintf("%d of %d used, %d operations, down: %v", v.used, v.room, v.count, v.down)
	for f, b := range v.files {
		if b != "" {
			s += fmt.Sprintf(", %d: %d bytes %08X", f, len(b), crc32.ChecksumIEEE([]byte(b)))
		}
	}
	return s
}

func see(d *disk.Disk) view {
	v := view{used: d.Used(), room: d.Room(), count: d.Count(), down: d.Down()}
	for f := range files {
		v.files[f] = string(d.Read(f))
	}
	return v
}

func wantView(t *testing.T, what string, d *disk.Disk, want view) {
	t.Helper()
	if got := see(d); got != want {
		t.Fatalf("%s: %v, want %v", what, got, want)
	}
}

// after is a view behind so many operations, with other bytes in the vault's file.
func (v view) after(operations int, b []byte) view {
	v.used += len(b) - len(v.files[0])
	v.files[0] = string(b)
	v.count += operations
	return v
}

// without is a view of a disk whose power has failed since.
func (v view) without() view {
	v.down = true
	return v
}

// contents are a disk's files: what is durable, and what is volatile behind it.
type contents [files]struct{ durable, volatile []byte }

// disk is a disk that holds them.
func (c contents) disk(t *testing.T, room int) *disk.Disk {
	t.Helper()
	d := disk.New(room)
	for f, x := range c {
		wantErr(t, "the test's Write", d.Write(f, x.durable), api.OK)
		wantErr(t, "the test's Sync", d.Sync(f), api.OK)
		wantErr(t, "the test's Write", d.Write(f, x.volatile), api.OK)
	}
	return d
}

// hold lets a file have bytes, of which so many are durable.
func (c *contents) hold(f int, b []byte, durable int) {
	durable = min(durable, len(b))
	c[f].durable, c[f].volatile = b[:durable], b[durable:]
}

func open(t *testing.T, what string, d *disk.Disk) *vault.Vault {
	t.Helper()
	v, err := vault.Open(d)
	if err != api.OK || v == nil {
		t.Fatalf("%s: a vault: %v, %d, want one, OK", what, v != nil, err)
	}
	return v
}

// filled is a vault on a new disk, with these slots.
func filled(t *testing.T, room int, hs ...held) (*disk.Disk, *vault.Vault) {
	t.Helper()
	d := disk.New(room)
	v := open(t, "a new disk", d)
	for i, h := range hs {
		put(t, "filled", v, h.key, i+1)
		if h.erased {
			wantErr(t, "filled: Zero", v.Zero(i+1), api.OK)
		}
	}
	return d, v
}

// put lays a key into the slot of this number.
func put(t *testing.T, what string, v *vault.Vault, key api.Key, number int) {
	t.Helper()
	if n, err := v.Put(key); n != number || err != api.OK {
		t.Fatalf("%s: Put: %d, %d, want %d, OK", what, n, err, number)
	}
}

// noPut holds that Put answers an error, and no number.
func noPut(t *testing.T, what string, v *vault.Vault, key api.Key, want api.Errno) {
	t.Helper()
	if n, err := v.Put(key); n != 0 || err != want {
		t.Fatalf("%s: Put: %d, %d, want 0, %d", what, n, err, want)
	}
}

// wantDead holds that a vault is dead: Put and Zero answer ErrDown, whatever they are given, and Get and Len go on.
func wantDead(t *testing.T, what string, d *disk.Disk, v *vault.Vault, hs []held) {
	t.Helper()
	before := see(d)
	for range 2 {
		noPut(t, what+", dead", v, api.Key{}, api.ErrDown)
		noPut(t, what+", dead", v, keyOf(99), api.ErrDown)
		for n := range len(hs) + 2 {
			wantErr(t, what+", dead: Zero", v.Zero(n), api.ErrDown)
		}
		for _, n := range outside(len(hs)) {
			wantErr(t, what+", dead: Zero", v.Zero(n), api.ErrDown)
		}
		wantSlots(t, what+", dead", v, hs)
	}
	wantView(t, what+", dead", d, before)
}

func TestExamples(t *testing.T) { // the chapter's examples, in sequence
	k, l, m := keyOf(1), keyOf(2), keyOf(3)
	d := disk.New(api.MaxRoom)
	v := open(t, "Open", d)
	wantSlots(t, "Open", v, nil)
	put(t, "Put K", v, k, 1)
	put(t, "Put L", v, l, 2)
	wantGet(t, "K", v, 1, k, api.OK)
	wantGet(t, "none", v, 3, api.Key{}, api.ErrNone)
	wantSlots(t, "K and L", v, []held{{key: k}, {key: l}})
	wantErr(t, "Zero 1", v.Zero(1), api.OK)
	wantGet(t, "Zero 1", v, 1, api.Key{}, api.ErrShred)
	wantErr(t, "Zero 1", v.Zero(1), api.OK)
	wantErr(t, "Zero 9", v.Zero(9), api.ErrNone)
	put(t, "Put K", v, k, 3)
	d.Arm(1)
	noPut(t, "Put M", v, m, api.ErrDown)
	wantGet(t, "L", v, 2, l, api.OK)
	noPut(t, "Put M", v, m, api.ErrDown)
	d.Crash([]int{39})
	v = open(t, "behind a crash", d)
	wantSlots(t, "behind a crash", v, []held{gone, {key: l}, {key: k}})
	if n := len(d.Read(0)); n != 120 {
		t.Errorf("the file has %d bytes", n)
	}
}

func TestOpenNew(t *testing.T) { // P11.1: a file without bytes is left alone
	for _, room := range []int{0, 1, 39, 40, 1000, api.MaxRoom} {
		d := disk.New(room)
		d.Arm(0)
		before := see(d)
		for range 2 {
			wantSlots(t, "a new disk", open(t, "a new disk", d), nil)
		}
		wantView(t, "a new disk", d, before)
		wantErr(t, "what was armed is armed still", d.Sync(0), api.ErrDown)
	}
}

func TestOpenWithoutPower(t *testing.T) { // P11.1
	var none, whole, torn, other contents
	whole.hold(0, slotsOf(has(1), gone, has(3)), 50)
	torn.hold(0, joined(slotsOf(has(1)), []byte("torn")), 7)
	other.hold(7, []byte("something"), 3)
	for i, c := range []contents{none, whole, torn, other} {
		d := c.disk(t, 1000)
		d.Arm(0)
		wantErr(t, "the test's Sync", d.Sync(0), api.ErrDown)
		before := see(d)
		for range 2 {
			if v, err := vault.Open(d); v != nil || err != api.ErrDown {
				t.Errorf("disk %d: a vault: %v, %d, want none, ErrDown", i, v != nil, err)
			}
		}
		wantView(t, "without power", d, before)
	}
}

// piece is what the vault's file may hold, and the slots in front of it.
type piece struct {
	name  string
	b     []byte
	slots []held
}

// behind are bytes that are not those of a slot with this number.
func behind(number int) map[string][]byte {
	turned := slotOf(number, has(number))
	turned[slotSize-1] ^= 1
	key := keyOf(number)
	little := binary.LittleEndian.AppendUint32(key[:], uint32(number))
	sum := crc32.ChecksumIEEE(slotOf(number, has(number))[:36])
	first := binary.BigEndian.AppendUint32(nil, uint32(number))
	all := map[string][]byte{
		"noise":                     noise(number, slotSize),
		"the next number":           slotOf(number+1, has(number)),
		"the number ahead":          slotOf(number-1, has(number)),
		"the number below 0":        slotOf(-number, has(number)),
		"256 above":                 slotOf(number+256, has(number)),
		"2^31 above":                slotOf(number+1<<31, has(number)),
		"a sum that is turned":      turned,
		"no sum":                    joined(turned[:36], make([]byte, 4)),
		"a sum of the other end":    binary.LittleEndian.AppendUint32(bytes.Clone(turned[:36]), sum),
		"a number of the other end": binary.BigEndian.AppendUint32(little, crc32.ChecksumIEEE(little)),
		"the number ahead of all":   binary.BigEndian.AppendUint32(joined(first, key[:]), crc32.ChecksumIEEE(joined(first, key[:]))),
		"the sum of the key":        binary.BigEndian.AppendUint32(bytes.Clone(turned[:36]), crc32.ChecksumIEEE(key[:])),
		"all ones":                  bytes.Repeat([]byte{0xFF}, slotSize),
		"0, number and no sum":      joined(make([]byte, 32), first, make([]byte, 4)),
		"0, and a sum of it":        binary.BigEndian.AppendUint32(make([]byte, 36), crc32.ChecksumIEEE(make([]byte, 36))),
	}
	for i := range slotSize { // nearly erased
		b := make([]byte, slotSize)
		b[i] = 1 << (i % 8)
		all[fmt.Sprint("0 but for byte ", i)] = b
	}
	for i := range slotSize { // too few bytes
		all[fmt.Sprint(i, " bytes of a slot")] = slotOf(number, has(number))[:i]
		all[fmt.Sprint(i, " bytes of 0")] = make([]byte, i)
		all[fmt.Sprint(i, " bytes of noise")] = noise(number, i)
	}
	return all
}

// pieces are what the vault's file may hold.
func pieces() []piece {
	var ps []piece
	for _, hs := range [][]held{nil, {has(1)}, {gone}, {has(1), has(2)}, {gone, has(2), gone, gone, has(5)}, {{}, has(1), {}}, many(63)} {
		n := len(hs)
		for name, b := range behind(n + 1) {
			ps = append(ps, piece{fmt.Sprintf("%d slots, and %s", n, name), joined(slotsOf(hs...), b), hs})
			whole := joined(slotsOf(hs...), b, slotOf(n+1, has(9)), slotOf(n+2, has(9)))
			if len(b) == slotSize { // what is behind does not count any more
				ps = append(ps, piece{fmt.Sprintf("%d slots, %s, and more", n, name), whole, hs})
			}
		}
		ps = append(ps, piece{fmt.Sprint(n, " slots"), slotsOf(hs...), hs})
	}
	full, none := many(64), make([]held, 64)
	for i := range none {
		none[i] = gone
	}
	for _, hs := range [][]held{full, none} {
		ps = append(ps, piece{"64 slots", slotsOf(hs...), hs},
			piece{"64 slots and a byte", joined(slotsOf(hs...), []byte{7}), hs},
			piece{"64 slots and 39 bytes", joined(slotsOf(hs...), slotOf(65, has(65))[:39]), hs},
			piece{"65 slots", slotsOf(append(slices.Clone(hs), has(65))...), hs},
			piece{"64 slots and an erased one", slotsOf(append(slices.Clone(hs), gone)...), hs},
			piece{"99 slots", slotsOf(append(slices.Clone(hs), many(35)...)...), hs})
	}
	return ps
}

// others are what other files hold: nothing, or much of the log's.
func others() []contents {
	var none, some contents
	for f := 1; f < files; f++ {
		some.hold(f, noise(f, 3*f), f)
	}
	return []contents{none, some}
}

// wantOpened holds what Open does with what a disk has: how the file is, that it lasts, and that other files are as they were.
func wantOpened(t *testing.T, x piece, c contents, durable int) {
	t.Helper()
	what := fmt.Sprintf("%s, %d durable", x.name, durable)
	c.hold(0, x.b, durable)
	d := c.disk(t, api.MaxRoom)
	before := see(d)
	operations := min(len(x.b), 1)
	d.Arm(operations)
	v := open(t, what, d)
	wantSlots(t, what, v, x.slots)
	kept := slotsOf(x.slots...)
	wantView(t, what, d, before.after(operations, kept))
	wantErr(t, what+": what is armed counts one operation, or none", d.Sync(32), api.ErrDown)
	d.Crash(nil)
	if got := d.Read(0); !bytes.Equal(got, kept) {
		t.Fatalf("%s: a crash leaves %d bytes, want %d", what, len(got), len(kept))
	}
	for f := 1; f < files; f++ { // nothing else was synced
		if got := d.Read(f); !bytes.Equal(got, c[f].durable) {
			t.Fatalf("%s: a crash leaves %d bytes of file %d, want %d", what, len(got), f, len(c[f].durable))
		}
	}
	wantAgain(t, what, d, x.slots)
}

// wantAgain holds that opening again gives the same slots, and changes no file: P11.8.
func wantAgain(t *testing.T, what string, d *disk.Disk, hs []held) {
	t.Helper()
	before := see(d).files
	for range 2 {
		wantSlots(t, what+", again", open(t, what+", again", d), hs)
		if got := see(d); got.files != before {
			t.Fatalf("%s: opening again changed the files: %v", what, got)
		}
		d.Crash(nil)
	}
}

func TestOpen(t *testing.T) { // P11.1, P11.8: whatever bytes file 0 has
	for _, x := range pieces() {
		for i, c := range others() {
			for _, durable := range []int{0, 1, 40, len(x.b) / 2, len(x.b) - 1, len(x.b)} {
				if i == 0 || durable == 40 {
					wantOpened(t, x, c, max(durable, 0))
				}
			}
		}
	}
}

func TestOpenTurned(t *testing.T) { // P11.1: each bit, in slots with keys and erased ones
	hs := []held{has(1), gone, has(3), {}, gone, has(6)}
	whole := slotsOf(hs...)
	for i := range whole {
		for bit := range 8 {
			b := bytes.Clone(whole)
			b[i] ^= 1 << bit
			wantOpened(t, piece{fmt.Sprintf("bit %d of byte %d turned", bit, i), b, hs[:i/slotSize]}, contents{}, len(b)/2)
		}
	}
}

func TestOpenCut(t *testing.T) { // P11.1: any number of bytes of some slots
	hs := []held{has(1), gone, {}, has(4), gone}
	whole := slotsOf(hs...)
	for n := range len(whole) + 1 {
		wantOpened(t, piece{fmt.Sprint(n, " bytes"), whole[:n], hs[:n/slotSize]}, contents{}, n/3)
	}
}

func TestOpenedGoesOn(t *testing.T) { // P11.1 to P11.4: the next slot has the next number, and a slot that was found is erased
	for _, x := range pieces() {
		var c contents
		c.hold(0, x.b, 0) // all of it volatile
		d := c.disk(t, api.MaxRoom)
		v := open(t, x.name, d)
		hs := slices.Clone(x.slots)
		if len(hs) == api.MaxSlots {
			noPut(t, x.name, v, keyOf(500), api.ErrMany)
		} else {
			put(t, x.name, v, keyOf(500), len(hs)+1)
			hs = append(hs, has(500))
		}
		for _, n := range []int{1, len(hs)} {
			wantErr(t, x.name+": Zero", v.Zero(n), api.OK)
			hs[n-1] = gone
		}
		wantSlots(t, x.name, v, hs)
		d.Crash(nil)
		if !bytes.Equal(d.Read(0), slotsOf(hs...)) {
			t.Fatalf("%s: the slots' bytes are others", x.name)
		}
		wantAgain(t, x.name, d, hs)
	}
}

func TestPut(t *testing.T) { // P11.2, P11.5: up to 64 slots, and the one behind
	var hs []held
	d := disk.New(api.MaxRoom)
	wantErr(t, "the test's Write", d.Write(1, []byte("the log's")), api.OK)
	v := open(t, "Open", d)
	for i := range api.MaxSlots {
		k := keyOf(i)
		switch i % 5 {
		case 1:
			k = api.Key{}
		case 2:
			k = hs[0].key // a key that a slot has already
		case 3:
			k = api.Key(bytes.Repeat([]byte{0xFF}, 32))
		}
		before := see(d)
		put(t, "Put", v, k, i+1)
		hs = append(hs, held{key: k})
		wantSlots(t, "Put", v, hs)
		wantView(t, "Put", d, before.after(2, slotsOf(hs...)))
	}
	before := see(d)
	for range 3 {
		d.Arm(0)
		noPut(t, "the one behind", v, keyOf(65), api.ErrMany)
		noPut(t, "the one behind", v, api.Key{}, api.ErrMany)
		wantView(t, "the one behind", d, before)
		d.Arm(-1)
		wantSlots(t, "the one behind", v, hs)
	}
	wantErr(t, "Zero 64", v.Zero(64), api.OK) // an erased slot isn't used again
	hs[63] = gone
	noPut(t, "the last one was erased", v, keyOf(65), api.ErrMany)
	wantSlots(t, "the last one was erased", v, hs)
	d.Crash(nil)
	wantSlots(t, "behind a crash", open(t, "behind a crash", d), hs)
	noPut(t, "behind a crash", open(t, "behind a crash", d), keyOf(65), api.ErrMany)
}

func TestBytes(t *testing.T) { // the definition of a slot's bytes, written out
	d, v := filled(t, 1000)
	var k api.Key
	for i := range k {
		k[i] = byte(i + 1)
	}
	put(t, "Put", v, k, 1)
	put(t, "Put", v, api.Key{}, 2)
	want := []byte{1, 2, 3, 4, 5, 6, 7, 8, 9, 10, 11, 12, 13, 14, 15, 16, 17, 18, 19, 20, 21, 22, 23, 24, 25, 26, 27, 28, 29, 30, 31, 32, 0, 0, 0, 1}
	want = binary.BigEndian.AppendUint32(want, crc32.ChecksumIEEE(want))
	zero := append(make([]byte, 35), 2)
	want = append(want, binary.BigEndian.AppendUint32(zero, crc32.ChecksumIEEE(zero))...)
	if got := d.Read(0); !bytes.Equal(got, want) {
		t.Errorf("%x, want %x", got, want)
	}
}

func TestPutSyncs(t *testing.T) { // P11.2, P11.6: Put's Write, then its Sync; other files stay as they are
	c := others()[1]
	d := c.disk(t, api.MaxRoom)
	v := open(t, "Open", d)
	put(t, "Put", v, keyOf(1), 1)
	put(t, "Put", v, keyOf(2), 2)
	wantErr(t, "Zero", v.Zero(1), api.OK)
	for f := 1; f < files; f++ {
		if got := d.Read(f); !bytes.Equal(got, joined(c[f].durable, c[f].volatile)) {
			t.Fatalf("file %d was changed", f)
		}
	}
	d.Crash(nil)
	for f := 1; f < files; f++ {
		if got := d.Read(f); !bytes.Equal(got, c[f].durable) {
			t.Fatalf("file %d was synced", f)
		}
	}
	wantSlots(t, "a crash", open(t, "a crash", d), []held{gone, has(2)})
}

func TestPutWithoutSpace(t *testing.T) { // P11.2: nothing has changed, and the vault is not dead
	for room := range 170 {
		var hs []held
		d, v := filled(t, room)
		for room-slotSize*len(hs) >= slotSize {
			put(t, "space", v, keyOf(len(hs)+1), len(hs)+1)
			hs = append(hs, has(len(hs)+1))
		}
		before := see(d)
		d.Arm(0)
		for range 2 {
			noPut(t, "without space", v, keyOf(9), api.ErrFull)
			wantSlots(t, "without space", v, hs)
		}
		wantView(t, "without space", d, before)
		d.Arm(-1)
		wantErr(t, "without space: Zero of none", v.Zero(9), api.ErrNone)
		for i := range hs {
			wantErr(t, "without space: Zero", v.Zero(i+1), api.OK)
			hs[i] = gone
			noPut(t, "without space", v, keyOf(9), api.ErrFull) // an erased slot keeps its space
		}
		wantSlots(t, "without space", v, hs)
		wantAgain(t, "without space", d, hs)
	}
}

func TestPutWithSpaceAgain(t *testing.T) { // P11.2: others' bytes take space, and give it back
	d, v := filled(t, 130, has(1), has(2))
	wantErr(t, "the test's Write", d.Write(5, make([]byte, 11)), api.OK) // leaves 39
	noPut(t, "39 bytes left", v, keyOf(3), api.ErrFull)
	wantErr(t, "the test's Cut", d.Cut(5, 10), api.OK)
	put(t, "40 bytes left", v, keyOf(4), 3)
	noPut(t, "none left", v, keyOf(5), api.ErrFull)
	hs := []held{has(1), has(2), has(4)}
	wantSlots(t, "again", v, hs)
	if !bytes.Equal(d.Read(0), slotsOf(hs...)) {
		t.Error("the slots' bytes are others")
	}
}

func TestErrorsInOrder(t *testing.T) { // P11.2 to P11.4: where several apply
	full := many(64)
	d, v := filled(t, 64*slotSize, full...)
	noPut(t, "64 slots, no space", v, keyOf(1), api.ErrMany)
	wantErr(t, "Zero 5", v.Zero(5), api.OK)
	full[4] = gone
	d.Arm(0)
	wantErr(t, "the test's Sync", d.Sync(1), api.ErrDown)
	before := see(d)
	noPut(t, "64 slots, no power", v, keyOf(1), api.ErrMany) // no call of its own has returned ErrDown yet
	for _, n := range outside(64) {
		wantErr(t, "no slot, no power", v.Zero(n), api.ErrNone)
		wantGet(t, "no slot, no power", v, n, api.Key{}, api.ErrNone)
	}
	wantErr(t, "an erased slot, no power", v.Zero(5), api.OK)
	wantSlots(t, "no power", v, full)
	wantView(t, "no power", d, before)
	wantErr(t, "a slot, no power", v.Zero(6), api.ErrDown)
	wantDead(t, "64 slots, no power", d, v, full)

	d, v = filled(t, 80, has(1), has(2))
	d.Arm(0)
	noPut(t, "no space, armed", v, keyOf(3), api.ErrFull)
	wantErr(t, "the test's Sync", d.Sync(1), api.ErrDown)
	noPut(t, "no space, no power", v, keyOf(3), api.ErrDown)
	wantDead(t, "no space, no power", d, v, []held{has(1), has(2)})
}

func TestPowerFailsElsewhere(t *testing.T) { // the vault dies of a call that it made, not of another's
	for _, die := range []struct {
		name string
		call func(v *vault.Vault) api.Errno
	}{
		{"Put", func(v *vault.Vault) api.Errno { _, err := v.Put(keyOf(9)); return err }},
		{"Zero", func(v *vault.Vault) api.Errno { return v.Zero(1) }},
	} {
		d, v := filled(t, 1000, has(1), gone)
		d.Arm(0)
		wantErr(t, "the test's Write", d.Write(1, []byte("a row")), api.ErrDown)
		before := see(d)
		wantErr(t, "an erased slot", v.Zero(2), api.OK)
		wantErr(t, "no slot", v.Zero(3), api.ErrNone)
		wantErr(t, die.name, die.call(v), api.ErrDown)
		wantView(t, die.name, d, before)
		wantDead(t, die.name, d, v, []held{has(1), gone})
	}
}

func TestZero(t *testing.T) { // P11.4, P11.3: 40 bytes 0, and they last; nothing else changes
	for n := 1; n <= 5; n++ {
		hs := many(5)
		hs[2].key = api.Key{} // not erased, though it is all 0
		d, v := filled(t, 5*slotSize, hs...)
		before := see(d)
		wantErr(t, "Zero", v.Zero(n), api.OK)
		hs[n-1] = gone
		wantSlots(t, "Zero", v, hs)
		wantView(t, "Zero", d, before.after(1, slotsOf(hs...)))
		before = see(d)
		d.Arm(0)
		for range 2 {
			wantErr(t, "Zero again", v.Zero(n), api.OK)
			for _, m := range outside(5) {
				wantErr(t, "Zero of none", v.Zero(m), api.ErrNone)
			}
		}
		wantView(t, "no operation is done", d, before)
		wantSlots(t, "Zero again", v, hs)
		wantErr(t, "it is armed still", d.Sync(1), api.ErrDown)
		d.Crash(nil)
		wantAgain(t, "Zero", d, hs)
		if !bytes.Equal(d.Read(0), slotsOf(hs...)) {
			t.Error("the slots' bytes are others behind a crash")
		}
	}
}

func TestZeroAll(t *testing.T) { // P11.4, P11.5: in any sequence; erased ones count
	hs := many(64)
	d, v := filled(t, api.MaxRoom, hs...)
	for i, n := range rand.New(rand.NewPCG(1, 1)).Perm(64) {
		wantErr(t, "Zero", v.Zero(n+1), api.OK)
		hs[n] = gone
		wantSlots(t, "Zero", v, hs)
		if i%9 == 0 {
			wantAgain(t, "Zero", d, hs)
			v = open(t, "Zero", d)
		}
	}
	if got := d.Read(0); !bytes.Equal(got, make([]byte, 64*slotSize)) {
		t.Errorf("%x", got)
	}
	wantErr(t, "Zero 65", v.Zero(65), api.ErrNone)
}

func TestNoSlots(t *testing.T) { // P11.3, P11.4: of an empty vault
	d, v := filled(t, 1000)
	d.Arm(0)
	wantSlots(t, "no slots", v, nil)
	for _, n := range outside(0) {
		wantErr(t, "no slots: Zero", v.Zero(n), api.ErrNone)
	}
	wantErr(t, "it is armed still", d.Sync(1), api.ErrDown)
}

func TestAnswersAreNew(t *testing.T) { // R3: keys and the disk's bytes are nobody else's
	d, v := filled(t, 1000)
	k := keyOf(1)
	put(t, "Put", v, k, 1)
	if k != keyOf(1) {
		t.Error("the argument was changed")
	}
	clear(k[:])
	got, _ := v.Get(1)
	clear(got[:])
	wantSlots(t, "Get", v, []held{has(1)})
	clear(d.Read(0))
	wantSlots(t, "Read", open(t, "Read", d), []held{has(1)})
	if !bytes.Equal(d.Read(0), slotsOf(has(1))) {
		t.Error("the slot's bytes are others")
	}
}

func TestTwoVaults(t *testing.T) { // each has its own disk, its own slots, and its own death
	d, v := filled(t, 1000, has(1), has(2))
	e, w := filled(t, 1000, has(3))
	wantErr(t, "Zero", v.Zero(1), api.OK)
	d.Arm(0)
	noPut(t, "the one", v, keyOf(4), api.ErrDown)
	put(t, "the other one", w, keyOf(5), 2)
	wantErr(t, "the other one's Zero", w.Zero(2), api.OK)
	wantDead(t, "the one", d, v, []held{gone, has(2)})
	wantSlots(t, "the other one", w, []held{has(3), gone})
	wantAgain(t, "the other one", e, []held{has(3), gone})
}
