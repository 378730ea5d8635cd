package slot

import (
	"bytes"
	"crypto/aes"
	"encoding/binary"
	"encoding/hex"
	"math"
	"math/big"
	"math/rand"
	"slices"
	"testing"

	"nepenthe/api"
)

// The chapters' sizes, told once more.
const (
	kekBytes     = 32
	keyBytes     = 96
	wrappedBytes = 104
	slotBytes    = 128
	mostSectors  = 65535
)

// plainRight tells whether a slot may be.
func plainRight(s Slot) bool {
	if s.Used {
		return s.Size > 0 && s.Size < mostSectors+1 && len(s.Wrapped) == wrappedBytes
	}
	return s.Size == 0 && s.Epoch == 0 && s.Counter == 0 && len(s.Wrapped) == 0
}

// plainBytes lays a slot out as the chapter says.
func plainBytes(s Slot) ([]byte, api.Errno) {
	if !plainRight(s) {
		return nil, api.ErrShape
	}
	if !s.Used {
		return make([]byte, slotBytes), api.OK
	}
	b := []byte{1, 0, 0, 0}
	b = binary.BigEndian.AppendUint32(b, uint32(s.Size))
	b = binary.BigEndian.AppendUint64(b, s.Epoch)
	b = binary.BigEndian.AppendUint64(b, s.Counter)
	return append(b, s.Wrapped...), api.OK
}

// plainRead takes bytes apart, and looks at each part.
func plainRead(b []byte) (Slot, api.Errno) {
	if len(b) != slotBytes {
		return Slot{}, api.ErrShape
	}
	if bytes.Count(b, []byte{0}) == slotBytes {
		return Slot{}, api.OK
	}
	size := binary.BigEndian.Uint32(b[4:8])
	if b[0] != 1 || b[1] != 0 || b[2] != 0 || b[3] != 0 || size == 0 || size > mostSectors {
		return Slot{}, api.ErrForm
	}
	return Slot{
		Used:    true,
		Size:    int(size),
		Epoch:   binary.BigEndian.Uint64(b[8:16]),
		Counter: binary.BigEndian.Uint64(b[16:24]),
		Wrapped: b[24:128],
	}, api.OK
}

// plainWrapped is RFC 3394's wrapping of keys, on the library's AES.
func plainWrapped(kek, keys []byte) []byte {
	c, err := aes.NewCipher(kek)
	if err != nil {
		panic(err)
	}
	n := len(keys) / 8
	row := append(bytes.Repeat([]byte{0xa6}, 8), keys...)
	for j := range 6 {
		for i := 1; i <= n; i++ {
			block := append(slices.Clone(row[:8]), row[8*i:8*i+8]...)
			c.Encrypt(block, block)
			binary.BigEndian.PutUint64(row, binary.BigEndian.Uint64(block)^uint64(n*j+i))
			copy(row[8*i:], block[8:])
		}
	}
	return row
}

// plainUnwrapped undoes plainWrapped, and tells whether it fits.
func plainUnwrapped(kek, wrapped []byte) ([]byte, bool) {
	c, err := aes.NewCipher(kek)
	if err != nil {
		panic(err)
	}
	n := len(wrapped)/8 - 1
	row := slices.Clone(wrapped)
	for j := 5; j >= 0; j-- {
		for i := n; i >= 1; i-- {
			block := binary.BigEndian.AppendUint64(nil, binary.BigEndian.Uint64(row)^uint64(n*j+i))
			block = append(block, row[8*i:8*i+8]...)
			c.Decrypt(block, block)
			copy(row, block[:8])
			copy(row[8*i:], block[8:])
		}
	}
	return row[8:], bytes.Equal(row[:8], bytes.Repeat([]byte{0xa6}, 8))
}

// plainMake is a used slot, as the chapter says.
func plainMake(kek []byte, size int, floor api.Head, keys []byte) (Slot, api.Errno) {
	if size < 1 || size > mostSectors || len(keys) != keyBytes || len(kek) != kekBytes {
		return Slot{}, api.ErrShape
	}
	return Slot{Used: true, Size: size, Epoch: floor.Epoch, Counter: floor.Counter, Wrapped: plainWrapped(kek, keys)}, api.OK
}

// plainKeys are a slot's keys, as the chapter says.
func plainKeys(kek []byte, s Slot) ([]byte, api.Errno) {
	switch {
	case !plainRight(s):
		return nil, api.ErrShape
	case len(kek) != kekBytes:
		return nil, api.ErrShape
	case !s.Used:
		return nil, api.ErrNone
	}
	keys, fits := plainUnwrapped(kek, s.Wrapped)
	if !fits {
		return nil, api.ErrIntegrity
	}
	return keys, api.OK
}

// plainPlace puts an Epoch and a Counter into two halves of a number.
func plainPlace(epoch, counter uint64) *big.Int {
	n := new(big.Int).SetUint64(epoch)
	n.Lsh(n, 64)
	return n.Add(n, new(big.Int).SetUint64(counter))
}

// plainDead tells whether a head is at most the floor, both taken as one number.
func plainDead(s Slot, h api.Head) bool {
	return !s.Used || plainPlace(h.Epoch, h.Counter).Cmp(plainPlace(s.Epoch, s.Counter)) <= 0
}

// same tells whether two slots are the same; it's all one whether no bytes are nil or empty.
func same(a, b Slot) bool {
	return a.Used == b.Used && a.Size == b.Size && a.Epoch == b.Epoch && a.Counter == b.Counter && bytes.Equal(a.Wrapped, b.Wrapped)
}

// checkRight holds what is told of a slot against the chapter's words, and so its bytes.
func checkRight(t *testing.T, s Slot) {
	t.Helper()
	if got, want := Right(s), plainRight(s); got != want {
		t.Fatalf("Right(%+v) = %v, want %v", s, got, want)
	}
	got, err := Bytes(s)
	want, wantErr := plainBytes(s)
	if err != wantErr || !bytes.Equal(got, want) {
		t.Fatalf("Bytes(%+v) = %x, %v, want %x, %v", s, got, err, want, wantErr)
	}
	if got := Copy(s); !same(got, s) {
		t.Fatalf("Copy(%+v) = %+v", s, got)
	}
}

// checkRead holds the slot of some bytes against the chapter's words.
func checkRead(t *testing.T, b []byte) {
	t.Helper()
	got, err := Read(b)
	want, wantErr := plainRead(b)
	if err != wantErr || !same(got, want) {
		t.Fatalf("Read(%x) = %+v, %v, want %+v, %v", b, got, err, want, wantErr)
	}
}

// checkReadErr asks for that error of Read, with nothing beside it.
func checkReadErr(t *testing.T, name string, b []byte, want api.Errno) {
	t.Helper()
	if s, err := Read(b); err != want || !same(s, Slot{}) {
		t.Fatalf("%s: Read(%x) = %+v, %v, want %v", name, b, s, err, want)
	}
}

// checkMake holds a slot that is made against the chapter's words.
func checkMake(t *testing.T, kek []byte, size int, floor api.Head, keys []byte) {
	t.Helper()
	got, err := Make(kek, size, floor, keys)
	want, wantErr := plainMake(kek, size, floor, keys)
	if err != wantErr || !same(got, want) {
		t.Fatalf("Make(%x, %d, %+v, %x) = %+v, %v, want %+v, %v", kek, size, floor, keys, got, err, want, wantErr)
	}
}

// checkMakeErr asks for ErrShape of Make, with nothing beside it.
func checkMakeErr(t *testing.T, name string, kek []byte, size int, keys []byte) {
	t.Helper()
	if s, err := Make(kek, size, theFloor, keys); err != api.ErrShape || !same(s, Slot{}) {
		t.Fatalf("%s: Make(%x, %d, .., %x) = %+v, %v, want ErrShape", name, kek, size, keys, s, err)
	}
}

// checkKeys holds a slot's keys against the chapter's words.
func checkKeys(t *testing.T, kek []byte, s Slot) {
	t.Helper()
	got, err := Keys(kek, s)
	want, wantErr := plainKeys(kek, s)
	if err != wantErr || !bytes.Equal(got, want) {
		t.Fatalf("Keys(%x, %+v) = %x, %v, want %x, %v", kek, s, got, err, want, wantErr)
	}
}

// checkKeysErr asks for that error of Keys, with nothing beside it.
func checkKeysErr(t *testing.T, name string, kek []byte, s Slot, want api.Errno) {
	t.Helper()
	if keys, err := Keys(kek, s); err != want || len(keys) != 0 {
		t.Fatalf("%s: Keys(%x, %+v) = %x, %v, want %v", name, kek, s, keys, err, want)
	}
}

// checkDead holds what is told of a head against the chapter's words.
func checkDead(t *testing.T, s Slot, h api.Head) {
	t.Helper()
	if got, want := Dead(s, h), plainDead(s, h); got != want {
		t.Fatalf("Dead(%+v, %+v) = %v, want %v", s, h, got, want)
	}
}

// theFloor has unlike numbers.
var theFloor = api.Head{Kind: 1, Ns: 2, Count: 1, Lba: 3, Epoch: 4, Counter: 5}

func theKek() []byte {
	return counted(0, kekBytes)
}

func theKeys() []byte {
	return counted(0, keyBytes)
}

// made is a slot of Make's.
func made(t *testing.T, kek []byte, size int, floor api.Head, keys []byte) Slot {
	t.Helper()
	s, err := Make(kek, size, floor, keys)
	if err != api.OK || !s.Used {
		t.Fatalf("Make(%x, %d, %+v, %x) = %+v, %v", kek, size, floor, keys, s, err)
	}
	return s
}

// theSlot is a used one, with the wrapped keys of theKeys.
func theSlot(t *testing.T) Slot {
	t.Helper()
	return made(t, theKek(), 9, theFloor, theKeys())
}

// used is a used slot of which all is at hand; its bytes are all unlike, and no wrapped keys.
func used() Slot {
	return Slot{Used: true, Size: 0x0708, Epoch: 0x1112131415161718, Counter: 0x2122232425262728, Wrapped: counted(0x30, wrappedBytes)}
}

// but is a slot with a change.
func but(s Slot, change func(*Slot)) Slot {
	s.Wrapped = bytes.Clone(s.Wrapped)
	change(&s)
	return s
}

// bytesOf is a right slot's bytes.
func bytesOf(t *testing.T, s Slot) []byte {
	t.Helper()
	b, err := Bytes(s)
	if err != api.OK || len(b) != slotBytes {
		t.Fatalf("Bytes(%+v) = %x, %v", s, b, err)
	}
	return b
}

func unhex(t *testing.T, s string) []byte {
	t.Helper()
	b, err := hex.DecodeString(s)
	if err != nil {
		t.Fatal(err)
	}
	return b
}

func all(x byte, n int) []byte {
	return bytes.Repeat([]byte{x}, n)
}

// counted is the bytes from first on, each one more than the one ahead.
func counted(first byte, n int) []byte {
	b := make([]byte, n)
	for i := range b {
		b[i] = first + byte(i)
	}
	return b
}

// changed is b with one byte xored.
func changed(b []byte, at int, x byte) []byte {
	out := slices.Clone(b)
	out[at] ^= x
	return out
}

func randomBytes(source *rand.Rand, n int) []byte {
	b := make([]byte, n)
	source.Read(b)
	return b
}

// edges are numbers of 64 bits of which one byte, or the sign, or the carry, is at an edge.
func edges() []uint64 {
	list := []uint64{0, 1, 2, 255, 256, 65535, 65536, math.MaxInt32, 1 << 31, math.MaxUint32, 1 << 32, math.MaxInt64, 1 << 63, math.MaxUint64 - 1, math.MaxUint64}
	for i := range 8 {
		list = append(list, 0x12<<(8*i))
	}
	return append(list, 0x0102030405060708)
}

// rightSizes are sizes that may be, the least and the greatest among them.
func rightSizes() []int {
	return []int{1, 2, 9, 127, 128, 255, 256, 257, 4096, 32767, 32768, 65279, 65280, 65534, 65535}
}

// wrongSizes are sizes that no used slot has; the low bytes of some would do.
func wrongSizes() []int {
	return []int{0, -1, -2, -65535, -65536, 65536, 65537, 1 << 24, 1<<24 + 1, math.MaxInt32, math.MinInt32, 1<<32 - 1, 1 << 32, 1<<32 + 1, 1<<40 + 9,
		-1 << 32, 1 - 1<<32, math.MaxInt, math.MaxInt - 1, math.MinInt, math.MinInt + 1}
}

// wrongLists are lists of other lengths than n: nil, without bytes, one too short, one too long, and some others.
func wrongLists(n int) map[string][]byte {
	return map[string][]byte{
		"nil":                      nil,
		"empty":                    {},
		"empty, with room behind":  make([]byte, 0, n),
		"one byte":                 {7},
		"half of it":               counted(0, n/2),
		"eight too short":          counted(0, n-8),
		"one too short":            counted(0, n-1),
		"one too short, with room": counted(0, n)[:n-1],
		"one too long":             counted(0, n+1),
		"eight too long":           counted(0, n+8),
		"twice as long":            counted(0, 2*n),
		"far too long":             counted(0, 70000),
	}
}

// manyHeads are such that may be, and such that may not.
func manyHeads() []api.Head {
	return []api.Head{
		{}, {Kind: 1}, {Kind: 4, Ns: 255, Count: 255, Lba: math.MaxUint32}, {Kind: 5}, {Kind: -1}, {Kind: 1, Ns: 256}, {Kind: 1, Count: -1},
		{Kind: math.MinInt, Ns: math.MinInt, Count: math.MinInt}, {Kind: math.MaxInt, Ns: math.MaxInt, Count: math.MaxInt, Lba: math.MaxUint32},
	}
}

// placed is a head with another Epoch and Counter.
func placed(h api.Head, epoch, counter uint64) api.Head {
	h.Epoch, h.Counter = epoch, counter
	return h
}

// randomNumber is one of which the first bytes may be nought, or which is at an edge.
func randomNumber(source *rand.Rand) uint64 {
	if source.Intn(6) == 0 {
		return edges()[source.Intn(len(edges()))]
	}
	return source.Uint64() >> (8 * source.Intn(8))
}

// randomHead is any, whether it may be or not.
func randomHead(source *rand.Rand) api.Head {
	return api.Head{
		Kind:    source.Intn(8) - 2,
		Ns:      source.Intn(300) - 20,
		Count:   source.Intn(300) - 20,
		Lba:     source.Uint32(),
		Epoch:   randomNumber(source),
		Counter: randomNumber(source),
	}
}

// randomSize is one that may be mostly; at times it is another.
func randomSize(source *rand.Rand) int {
	switch source.Intn(8) {
	case 0:
		return wrongSizes()[source.Intn(len(wrongSizes()))]
	case 1:
		return rightSizes()[source.Intn(len(rightSizes()))]
	}
	return 1 + source.Intn(mostSectors)
}

// randomList is of n bytes mostly; at times it's longer or shorter.
func randomList(source *rand.Rand, n int) []byte {
	switch source.Intn(16) {
	case 0:
		return nil
	case 1:
		return randomBytes(source, n-1+2*source.Intn(2))
	case 2:
		return randomBytes(source, source.Intn(2*n))
	}
	return randomBytes(source, n)
}

// randomRight is a right slot, used mostly.
func randomRight(source *rand.Rand) Slot {
	if source.Intn(8) == 0 {
		return Slot{}
	}
	return Slot{Used: true, Size: 1 + source.Intn(mostSectors), Epoch: randomNumber(source), Counter: randomNumber(source), Wrapped: randomBytes(source, wrappedBytes)}
}

// randomSlot is one of which at times a part, or two, is put elsewhere.
func randomSlot(source *rand.Rand) Slot {
	s := randomRight(source)
	for range source.Intn(3) {
		switch source.Intn(5) {
		case 0:
			s.Used = !s.Used
		case 1:
			s.Size = randomSize(source)
		case 2:
			s.Epoch = randomNumber(source)
		case 3:
			s.Counter = randomNumber(source)
		case 4:
			s.Wrapped = randomList(source, wrappedBytes)
		}
	}
	return s
}
