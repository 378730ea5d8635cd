package record

import (
	"bytes"
	"crypto/hmac"
	"crypto/pbkdf2"
	"crypto/sha256"
	"encoding/binary"
	"encoding/hex"
	"math"
	"math/rand"
	"slices"
	"testing"

	"nepenthe/api"
	"nepenthe/slot"
)

// The chapters' sizes, told once more.
const (
	recordBytes  = 624
	taggedBytes  = 592
	saltBytes    = 16
	checkBytes   = 32
	keyBytes     = 32
	slotBytes    = 128
	wrappedBytes = 104
	slotCount    = 4
	mostSectors  = 65535
	mostPass     = 64
	mostRounds   = 1000
)

// plainSlotRight tells whether a slot may be.
func plainSlotRight(s slot.Slot) bool {
	if s.Used {
		return s.Size > 0 && s.Size < mostSectors+1 && len(s.Wrapped) == wrappedBytes
	}
	return s.Size == 0 && s.Epoch == 0 && s.Counter == 0 && len(s.Wrapped) == 0
}

// plainSlotBytes lays a right slot out.
func plainSlotBytes(s slot.Slot) []byte {
	if !s.Used {
		return make([]byte, slotBytes)
	}
	b := []byte{1, 0, 0, 0}
	b = binary.BigEndian.AppendUint32(b, uint32(s.Size))
	b = binary.BigEndian.AppendUint64(b, s.Epoch)
	b = binary.BigEndian.AppendUint64(b, s.Counter)
	return append(b, s.Wrapped...)
}

// plainSlotRead takes a slot's bytes apart, and tells whether they are one's.
func plainSlotRead(b []byte) (slot.Slot, bool) {
	if bytes.Count(b, []byte{0}) == slotBytes {
		return slot.Slot{}, true
	}
	size := binary.BigEndian.Uint32(b[4:8])
	if b[0] != 1 || b[1] != 0 || b[2] != 0 || b[3] != 0 || size == 0 || size > mostSectors {
		return slot.Slot{}, false
	}
	return slot.Slot{
		Used:    true,
		Size:    int(size),
		Epoch:   binary.BigEndian.Uint64(b[8:16]),
		Counter: binary.BigEndian.Uint64(b[16:24]),
		Wrapped: b[24:128],
	}, true
}

// plainRight tells whether a record may be.
func plainRight(r Record) bool {
	return len(r.Salt) == saltBytes && len(r.Check) == checkBytes &&
		plainSlotRight(r.Slots[0]) && plainSlotRight(r.Slots[1]) && plainSlotRight(r.Slots[2]) && plainSlotRight(r.Slots[3])
}

// plainTag is a tag, on the library's HMAC.
func plainTag(key, text []byte) []byte {
	m := hmac.New(sha256.New, key)
	m.Write(text)
	return m.Sum(nil)
}

// plainText lays a right record out as the chapter says, but for its tag.
func plainText(r Record) []byte {
	b := binary.BigEndian.AppendUint64(nil, r.Gen)
	b = binary.BigEndian.AppendUint64(b, r.Epoch)
	b = append(b, r.Salt...)
	b = binary.BigEndian.AppendUint64(b, r.Bad)
	b = append(b, 0, 0, 0, 0, 0, 0, 0, 0)
	b = append(b, r.Check...)
	for i := 0; i < slotCount; i++ {
		b = append(b, plainSlotBytes(r.Slots[i])...)
	}
	return b
}

// plainBytes are a record's bytes.
func plainBytes(r Record, key []byte) ([]byte, api.Errno) {
	if !plainRight(r) || len(key) != keyBytes {
		return nil, api.ErrShape
	}
	text := plainText(r)
	return append(text, plainTag(key, text)...), api.OK
}

// plainRead takes bytes apart by their places, and looks at each part.
func plainRead(b []byte) (Record, api.Errno) {
	if len(b) != recordBytes {
		return Record{}, api.ErrShape
	}
	r := Record{
		Gen:   binary.BigEndian.Uint64(b[0:8]),
		Epoch: binary.BigEndian.Uint64(b[8:16]),
		Salt:  b[16:32],
		Bad:   binary.BigEndian.Uint64(b[32:40]),
		Check: b[48:80],
	}
	right := bytes.Equal(b[40:48], make([]byte, 8))
	for i := 0; i < slotCount; i++ {
		s, isOne := plainSlotRead(b[80+128*i : 208+128*i])
		r.Slots[i] = s
		right = right && isOne
	}
	if !right {
		return Record{}, api.ErrForm
	}
	return r, api.OK
}

// plainFits holds the last 32 bytes against the tag of the others.
func plainFits(b, key []byte) bool {
	return len(b) == recordBytes && len(key) == keyBytes && bytes.Equal(plainTag(key, b[:taggedBytes]), b[taggedBytes:])
}

// plainKeys are a passphrase's three keys, on the library's PBKDF2.
func plainKeys(pass, salt []byte, rounds int) (wraps, tags, tells []byte, err api.Errno) {
	if len(pass) > mostPass || rounds < 1 || rounds > mostRounds {
		return nil, nil, nil, api.ErrShape
	}
	b, e := pbkdf2.Key(sha256.New, string(pass), salt, rounds, 96)
	if e != nil {
		panic(e)
	}
	return b[:32], b[32:64], b[64:], api.OK
}

// plainOpen opens a record, as the chapter says.
func plainOpen(b, pass []byte, rounds int) (Record, []byte, []byte, api.Errno) {
	r, err := plainRead(b)
	if err != api.OK {
		return Record{}, nil, nil, err
	}
	wraps, tags, tells, err := plainKeys(pass, r.Salt, rounds)
	if err != api.OK {
		return Record{}, nil, nil, err
	}
	if !bytes.Equal(tells, r.Check) {
		return Record{}, nil, nil, api.ErrPass
	}
	if !plainFits(b, tags) {
		return Record{}, nil, nil, api.ErrIntegrity
	}
	return r, wraps, tags, api.OK
}

// plainFirst is a first record, as the chapter says.
func plainFirst(pass, salt []byte, rounds int) (Record, []byte, api.Errno) {
	_, tags, tells, err := plainKeys(pass, salt, rounds)
	if err != api.OK || len(salt) != saltBytes {
		return Record{}, nil, api.ErrShape
	}
	return Record{Gen: 1, Epoch: 0, Salt: salt, Bad: 0, Check: tells}, tags, api.OK
}

// plainSizes are the sizes of the used slots.
func plainSizes(r Record) []int {
	sizes := []int{}
	for i := 0; i < slotCount; i++ {
		if r.Slots[i].Used {
			sizes = append(sizes, r.Slots[i].Size)
		}
	}
	return sizes
}

// sameSlot tells whether two slots are the same; it's all one whether no bytes are nil or empty.
func sameSlot(a, b slot.Slot) bool {
	return a.Used == b.Used && a.Size == b.Size && a.Epoch == b.Epoch && a.Counter == b.Counter && bytes.Equal(a.Wrapped, b.Wrapped)
}

// same tells whether two records are the same, likewise.
func same(a, b Record) bool {
	return a.Gen == b.Gen && a.Epoch == b.Epoch && bytes.Equal(a.Salt, b.Salt) && a.Bad == b.Bad && bytes.Equal(a.Check, b.Check) &&
		slices.EqualFunc(a.Slots[:], b.Slots[:], sameSlot)
}

// checkRight holds what is told of a record against the chapter's words: whether it may be, its sizes and its copy.
func checkRight(t *testing.T, r Record) {
	t.Helper()
	if got, want := Right(r), plainRight(r); got != want {
		t.Fatalf("Right(%+v) = %v, want %v", r, got, want)
	}
	if got, want := Sizes(r), plainSizes(r); !slices.Equal(got, want) {
		t.Fatalf("Sizes(%+v) = %v, want %v", r, got, want)
	}
	if got := Copy(r); !same(got, r) {
		t.Fatalf("Copy(%+v) = %+v", r, got)
	}
}

// checkBytesOf holds a record's bytes against the chapter's words.
func checkBytesOf(t *testing.T, r Record, key []byte) {
	t.Helper()
	got, err := Bytes(r, key)
	want, wantErr := plainBytes(r, key)
	if err != wantErr || !bytes.Equal(got, want) {
		t.Fatalf("Bytes(%+v, %x) = %x, %v, want %x, %v", r, key, got, err, want, wantErr)
	}
}

// checkBytesErr asks for ErrShape of Bytes, with nothing beside it.
func checkBytesErr(t *testing.T, name string, r Record, key []byte) {
	t.Helper()
	if b, err := Bytes(r, key); err != api.ErrShape || len(b) != 0 {
		t.Fatalf("%s: Bytes(%+v, %x) = %x, %v, want ErrShape", name, r, key, b, err)
	}
}

// checkRead holds the record of some bytes against the chapter's words.
func checkRead(t *testing.T, b []byte) {
	t.Helper()
	got, err := Read(b)
	want, wantErr := plainRead(b)
	if err != wantErr || !same(got, want) {
		t.Fatalf("Read(%x) = %+v, %v, want %+v, %v", b, got, err, want, wantErr)
	}
}

// checkReadErr asks for that error of Read, and of Open, with nothing beside it.
func checkReadErr(t *testing.T, name string, b []byte, want api.Errno) {
	t.Helper()
	if r, err := Read(b); err != want || !same(r, Record{}) {
		t.Fatalf("%s: Read(%x) = %+v, %v, want %v", name, b, r, err, want)
	}
	checkOpenErr(t, name, b, thePass(), theRounds, want)
}

// checkFits holds what is told of a tag against the chapter's words.
func checkFits(t *testing.T, b, key []byte) {
	t.Helper()
	if got, want := Fits(b, key), plainFits(b, key); got != want {
		t.Fatalf("Fits(%x, %x) = %v, want %v", b, key, got, want)
	}
}

// checkOpen holds what is opened against the chapter's words.
func checkOpen(t *testing.T, b, pass []byte, rounds int) {
	t.Helper()
	r, wraps, tags, err := Open(b, pass, rounds)
	wantR, wantWraps, wantTags, wantErr := plainOpen(b, pass, rounds)
	if err != wantErr || !same(r, wantR) || !bytes.Equal(wraps, wantWraps) || !bytes.Equal(tags, wantTags) {
		t.Fatalf("Open(%x, %x, %d) = %+v, %x, %x, %v, want %+v, %x, %x, %v", b, pass, rounds, r, wraps, tags, err, wantR, wantWraps, wantTags, wantErr)
	}
}

// checkOpenErr asks for that error of Open, with nothing beside it.
func checkOpenErr(t *testing.T, name string, b, pass []byte, rounds int, want api.Errno) {
	t.Helper()
	if r, wraps, tags, err := Open(b, pass, rounds); err != want || !same(r, Record{}) || len(wraps) != 0 || len(tags) != 0 {
		t.Fatalf("%s: Open(%x, %x, %d) = %+v, %x, %x, %v, want %v", name, b, pass, rounds, r, wraps, tags, err, want)
	}
}

// checkFirst holds a first record against the chapter's words.
func checkFirst(t *testing.T, pass, salt []byte, rounds int) {
	t.Helper()
	r, tags, err := First(pass, salt, rounds)
	wantR, wantTags, wantErr := plainFirst(pass, salt, rounds)
	if err != wantErr || !same(r, wantR) || !bytes.Equal(tags, wantTags) {
		t.Fatalf("First(%x, %x, %d) = %+v, %x, %v, want %+v, %x, %v", pass, salt, rounds, r, tags, err, wantR, wantTags, wantErr)
	}
}

// checkFirstErr asks for ErrShape of First, with nothing beside it.
func checkFirstErr(t *testing.T, name string, pass, salt []byte, rounds int) {
	t.Helper()
	if r, tags, err := First(pass, salt, rounds); err != api.ErrShape || !same(r, Record{}) || len(tags) != 0 {
		t.Fatalf("%s: First(%x, %x, %d) = %+v, %x, %v, want ErrShape", name, pass, salt, rounds, r, tags, err)
	}
}

// theRounds are few, so that much can be tried.
const theRounds = 2

func thePass() []byte {
	return []byte("open")
}

func theSalt() []byte {
	return counted(0x90, saltBytes)
}

func theKey() []byte {
	return counted(0x40, keyBytes)
}

// usedSlot is a used slot; its bytes are all unlike, and unlike those of another number.
func usedSlot(i int) slot.Slot {
	n := uint64(i + 1)
	return slot.Slot{Used: true, Size: 0x0708 + i, Epoch: n * 0x1112131415161718, Counter: n * 0x0122232425262728, Wrapped: counted(byte(0x30+40*i), wrappedBytes)}
}

// someRecord is a right record that has the used slots of these places, and unlike numbers.
func someRecord(places ...int) Record {
	r := Record{Gen: 0x0102030405060708, Epoch: 0x1112131415161718, Salt: counted(0xa0, saltBytes), Bad: 0x2122232425262728, Check: counted(0xc0, checkBytes)}
	for _, i := range places {
		r.Slots[i] = usedSlot(i)
	}
	return r
}

// fullRecord has all slots used.
func fullRecord() Record {
	return someRecord(0, 1, 2, 3)
}

// everyUse is a right record for each way in which slots may be used.
func everyUse() []Record {
	var list []Record
	for bits := range 1 << slotCount {
		var places []int
		for i := range slotCount {
			if bits>>i&1 == 1 {
				places = append(places, i)
			}
		}
		list = append(list, someRecord(places...))
	}
	return list
}

// opened is a record with a slot or two that thePass opens, its key for tags, and its bytes.
func opened(t *testing.T, places ...int) (Record, []byte, []byte) {
	t.Helper()
	r, key, err := First(thePass(), theSalt(), theRounds)
	if err != api.OK {
		t.Fatal(err)
	}
	r.Gen, r.Epoch, r.Bad = 9, 8, 7
	for _, i := range places {
		r.Slots[i] = usedSlot(i)
	}
	return r, key, bytesOf(t, r, key)
}

// but is a record with a change, in memory of its own.
func but(r Record, change func(*Record)) Record {
	r.Salt, r.Check = bytes.Clone(r.Salt), bytes.Clone(r.Check)
	for i := range r.Slots {
		r.Slots[i].Wrapped = bytes.Clone(r.Slots[i].Wrapped)
	}
	change(&r)
	return r
}

// bytesOf is a right record's bytes.
func bytesOf(t *testing.T, r Record, key []byte) []byte {
	t.Helper()
	b, err := Bytes(r, key)
	if err != api.OK || len(b) != recordBytes {
		t.Fatalf("Bytes(%+v, %x) = %x, %v", r, key, b, err)
	}
	return b
}

// tagged is bytes whose tag is put right under the key.
func tagged(b, key []byte) []byte {
	return append(slices.Clone(b[:taggedBytes]), plainTag(key, b[:taggedBytes])...)
}

func unhex(t *testing.T, s string) []byte {
	t.Helper()
	b, err := hex.DecodeString(s)
	if err != nil {
		t.Fatal(err)
	}
	return b
}

func all(x byte, n int) []byte {
	return bytes.Repeat([]byte{x}, n)
}

// counted is the bytes from first on, each one more than the one ahead.
func counted(first byte, n int) []byte {
	b := make([]byte, n)
	for i := range b {
		b[i] = first + byte(i)
	}
	return b
}

// changed is b with one byte xored.
func changed(b []byte, at int, x byte) []byte {
	out := slices.Clone(b)
	out[at] ^= x
	return out
}

func randomBytes(source *rand.Rand, n int) []byte {
	b := make([]byte, n)
	source.Read(b)
	return b
}

// edges are numbers of 64 bits of which one byte, or the sign, or the carry, is at an edge.
func edges() []uint64 {
	list := []uint64{0, 1, 2, 255, 256, 65535, 65536, math.MaxInt32, 1 << 31, math.MaxUint32, 1 << 32, math.MaxInt64, 1 << 63, math.MaxUint64 - 1, math.MaxUint64}
	for i := range 8 {
		list = append(list, 0x12<<(8*i))
	}
	return append(list, 0x0102030405060708)
}

// wrongLists are lists of other lengths than n: nil, without bytes, one too short, one too long, and some others.
func wrongLists(n int) map[string][]byte {
	return map[string][]byte{
		"nil":                      nil,
		"empty":                    {},
		"empty, with room behind":  make([]byte, 0, n),
		"one byte":                 {7},
		"half of it":               counted(0, n/2),
		"eight too short":          counted(0, n-8),
		"one too short":            counted(0, n-1),
		"one too short, with room": counted(0, n)[:n-1],
		"one too long":             counted(0, n+1),
		"eight too long":           counted(0, n+8),
		"twice as long":            counted(0, 2*n),
		"far too long":             counted(0, 70000),
	}
}

// wrongSlots are slots that may not be.
func wrongSlots() map[string]slot.Slot {
	not := usedSlot(1)
	not.Used = false
	long := usedSlot(1)
	long.Wrapped = counted(0, wrappedBytes+1)
	short := usedSlot(1)
	short.Wrapped = counted(0, wrappedBytes-1)
	great := usedSlot(1)
	great.Size = mostSectors + 1
	none := usedSlot(1)
	none.Size = 0
	return map[string]slot.Slot{
		"a Wrapped that is too long":        long,
		"a Wrapped that is too short":       short,
		"too great a size":                  great,
		"a size of nought":                  none,
		"a size below nought":               {Used: true, Size: -1, Wrapped: all(1, wrappedBytes)},
		"the least size":                    {Used: true, Size: math.MinInt, Wrapped: all(1, wrappedBytes)},
		"the most size":                     {Used: true, Size: math.MaxInt, Wrapped: all(1, wrappedBytes)},
		"used, and nothing else":            {Used: true},
		"not used, and all else":            not,
		"not used, with a size":             {Size: 1},
		"not used, with an epoch":           {Epoch: 1},
		"not used, with a counter":          {Counter: 1},
		"not used, with a byte of nought":   {Wrapped: []byte{0}},
		"not used, with a Wrapped, noughts": {Wrapped: all(0, wrappedBytes)},
	}
}

// wrongRounds are none that a passphrase has.
func wrongRounds() []int {
	return []int{0, -1, -2, -1000, mostRounds + 1, mostRounds + 2, 65536, math.MaxInt32, math.MinInt32, 1 << 32, 1<<32 + 1, -1 << 32, 1 - 1<<32, math.MaxInt, math.MinInt, math.MinInt + 1}
}

// randomNumber is one of which the first bytes may be nought, or which is at an edge.
func randomNumber(source *rand.Rand) uint64 {
	if source.Intn(6) == 0 {
		return edges()[source.Intn(len(edges()))]
	}
	return source.Uint64() >> (8 * source.Intn(8))
}

// randomList is of n bytes mostly; at times it's longer or shorter.
func randomList(source *rand.Rand, n int) []byte {
	switch source.Intn(16) {
	case 0:
		return nil
	case 1:
		return randomBytes(source, n-1+2*source.Intn(2))
	case 2:
		return randomBytes(source, source.Intn(2*n))
	}
	return randomBytes(source, n)
}

// randomPass is a passphrase that may be; some are as long as may be.
func randomPass(source *rand.Rand) []byte {
	if source.Intn(5) == 0 {
		return randomBytes(source, mostPass-source.Intn(2))
	}
	return randomBytes(source, source.Intn(mostPass+1))
}

// randomSlot is a right slot.
func randomSlot(source *rand.Rand) slot.Slot {
	if source.Intn(2) == 0 {
		return slot.Slot{}
	}
	return slot.Slot{Used: true, Size: 1 + source.Intn(mostSectors), Epoch: randomNumber(source), Counter: randomNumber(source), Wrapped: randomBytes(source, wrappedBytes)}
}

// randomRight is a right record.
func randomRight(source *rand.Rand) Record {
	r := Record{Gen: randomNumber(source), Epoch: randomNumber(source), Salt: randomBytes(source, saltBytes), Bad: randomNumber(source), Check: randomBytes(source, checkBytes)}
	for i := range r.Slots {
		r.Slots[i] = randomSlot(source)
	}
	return r
}

// randomRecord is one of which at times a part, or two, may not be.
func randomRecord(source *rand.Rand) Record {
	r := randomRight(source)
	for range source.Intn(3) {
		s := &r.Slots[source.Intn(slotCount)]
		switch source.Intn(6) {
		case 0:
			r.Salt = randomList(source, saltBytes)
		case 1:
			r.Check = randomList(source, checkBytes)
		case 2:
			s.Used = !s.Used
		case 3:
			s.Size = source.Intn(3*mostSectors) - mostSectors
		case 4:
			s.Counter = randomNumber(source)
		case 5:
			s.Wrapped = randomList(source, wrappedBytes)
		}
	}
	return r
}
