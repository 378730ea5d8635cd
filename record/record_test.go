package record

import (
	"bytes"
	"encoding/hex"
	"fmt"
	"math"
	"math/rand"
	"slices"
	"testing"

	"nepenthe/api"
	"nepenthe/derive"
	"nepenthe/slot"
)

// vectors are passphrases, what is derived of them, and the tags of their first records, worked out with OpenSSL (PBKDF2 and HMAC, with SHA-256).
var vectors = []struct {
	pass, salt               []byte
	rounds                   int
	wraps, tags, tells, last string
}{
	{[]byte("password"), counted(0, 16), 1,
		"e1b08f92be8174d9f442d95d89aa4ccdc311231a4d70d0b854d1548de8fabdfd", "59c9de8df27785e717f953fb2cd02f1fca510cdb038d6af14f75e21d5251b731",
		"696c9dd6e9fccf3db67a2160accc0c5ce0a8d6ae8f1694a9a55fa5f984b7e82c", "c18b176799c737b48178d6e2918d552ca02d9817517c2a6a4274169acd04c3b2"},
	{[]byte("open"), all(4, 16), 2,
		"4469bb81d61cef8e650d52bf2d00c60ccc7d1d874df17de3655cebe535f8ef81", "664578cf74cec68c11483760a9e64c3d542293b29d2f0601086e1c6fe54491f0",
		"24bb17c9d655ed88f657779a3e561bfb3f7d11a1f2fea3818738bbb4311e3e0f", "1a1af11c648341a1c42fa8d93f5a1a642bc30b368212db42d4800844130ce3b5"},
	{counted(0, 64), counted(200, 16), 1000,
		"a16019c8b419758e24f9b714fe01b3b3aeb0d1a0d30db03788c7cd56751cebbe", "20617900d566927f3932ba893bbd8f8f4a15c7c8e24b750d8165ff799d020487",
		"95b1acc5032d2e0b6c61092086e1f2fb61746d6b427d486e06d9d69ce80da63b", "7431a6d558d513f89c9e955a35c54a13782532695f9163286d5c6f87b47b3e66"},
	{[]byte{0}, all(0, 16), 3,
		"9231d948ab38c1eecf8334f77e7fbe9256e49eeb130764b9f77db3584eb3ad41", "d9ea6b438287bf49c03b1e0d7eb2fdf0094f09dab7a7d51cdb9a6b40c6d60de1",
		"c93f3fd5ef2893a72aa5a5c3b5c8bb9db28fb375182c9e408ea40f2443be88f9", "73692127dea0221f6e1dced0a9adb439ac6cdaa65d230e13c1178fd407baad6d"},
	{all(255, 63), all(255, 16), 999,
		"1f63895beef11a95b422e9b2a4e4f6c56a35553f3ac917c69a7b2f8843ef952c", "c2a8d03132d4a88c041d917edc291b02ae69464fd0fc667aa1054c36f0d5ee10",
		"582fc8c1a66112f6df203d69b04377216d9fae9abad6cbc35de0df6517e558c1", "0cf6887fa240e676b16ce515c604934efbd5a19beefbd544916b0dce21a207ca"},
}

// P18.1

// Its last bytes were worked out with OpenSSL.
func TestEachPartHasBytesOfItsOwn(t *testing.T) {
	r := someRecord()
	r.Slots[0] = slot.Slot{Used: true, Size: 0x0708, Epoch: 0x3132333435363738, Counter: 0x4142434445464748, Wrapped: counted(0x50, 104)}
	r.Slots[2] = slot.Slot{Used: true, Size: 1, Wrapped: all(0, 104)}
	r.Slots[3] = slot.Slot{Used: true, Size: 65535, Epoch: math.MaxUint64, Counter: math.MaxUint64, Wrapped: all(255, 104)}
	want := "0102030405060708" + "1112131415161718" + "a0a1a2a3a4a5a6a7a8a9aaabacadaeaf" + "2122232425262728" + "0000000000000000" +
		hex.EncodeToString(counted(0xc0, 32)) +
		"01000000" + "00000708" + "3132333435363738" + "4142434445464748" + hex.EncodeToString(counted(0x50, 104)) +
		hex.EncodeToString(all(0, 128)) +
		"01000000" + "00000001" + "0000000000000000" + "0000000000000000" + hex.EncodeToString(all(0, 104)) +
		"01000000" + "0000ffff" + "ffffffffffffffff" + "ffffffffffffffff" + hex.EncodeToString(all(255, 104)) +
		"a0b8f6e68f5a84d66dc2c6479aa3fde80b177dc0855244b5d8eb672b2211d5fc"
	b, err := Bytes(r, theKey())
	if err != api.OK || hex.EncodeToString(b) != want {
		t.Errorf("Bytes = %x, %v, want %s", b, err, want)
	}
	if got, err := Read(unhex(t, want)); err != api.OK || !same(got, r) {
		t.Errorf("Read = %+v, %v, want %+v", got, err, r)
	}
	if !Fits(unhex(t, want), theKey()) {
		t.Error("its tag does not fit")
	}
	if sizes := Sizes(r); !slices.Equal(sizes, []int{0x0708, 1, 65535}) {
		t.Errorf("Sizes = %v", sizes)
	}
}

func TestTheExample(t *testing.T) {
	r, key, err := First(thePass(), theSalt(), theRounds)
	if err != api.OK {
		t.Fatal(err)
	}
	if b, err := Bytes(r, key); err != api.OK || len(b) != 624 || hex.EncodeToString(b[:8]) != "0000000000000001" {
		t.Errorf("Bytes = %x, %v", b, err)
	}
}

// Slots that are used in no place, in each one, in several, and in all.
func TestEachUseOfSlots(t *testing.T) {
	for i, r := range everyUse() {
		if !Right(r) {
			t.Errorf("use %04b is not right", i)
		}
		checkRight(t, r)
		checkBytesOf(t, r, theKey())
		b := bytesOf(t, r, theKey())
		checkRead(t, b)
		for place := range slotCount {
			isUsed := i>>place&1 == 1
			if b[80+128*place] == 1 != isUsed {
				t.Errorf("use %04b: slot %d begins with %d", i, place, b[80+128*place])
			}
			got, err := Read(b)
			if err != api.OK || got.Slots[place].Used != isUsed {
				t.Errorf("use %04b: slot %d is read as %+v, %v", i, place, got.Slots[place], err)
			}
		}
	}
}

// It's all one whether the keys of a slot that is not used are nil or empty.
func TestOneWithoutUsedSlots(t *testing.T) {
	r := someRecord()
	for i := range slotCount {
		other := but(r, func(r *Record) { r.Slots[i].Wrapped = counted(9, 104)[:0] })
		if !Right(other) || !bytes.Equal(bytesOf(t, other, theKey()), bytesOf(t, r, theKey())) {
			t.Errorf("slot %d, its keys empty: %v", i, Right(other))
		}
	}
	if sizes := Sizes(r); len(sizes) != 0 {
		t.Errorf("Sizes = %v", sizes)
	}
	if b := bytesOf(t, r, theKey()); !bytes.Equal(b[80:592], all(0, 512)) {
		t.Errorf("its slots stand as %x", b[80:592])
	}
}

func TestSizes(t *testing.T) {
	cases := []struct {
		slots [slotCount]slot.Slot
		want  []int
	}{
		{[slotCount]slot.Slot{}, nil},
		{[slotCount]slot.Slot{{Used: true, Size: 5}}, []int{5}},
		{[slotCount]slot.Slot{1: {Used: true, Size: 6}}, []int{6}},
		{[slotCount]slot.Slot{2: {Used: true, Size: 7}}, []int{7}},
		{[slotCount]slot.Slot{3: {Used: true, Size: 8}}, []int{8}},
		{[slotCount]slot.Slot{{Used: true, Size: 9}, {}, {}, {Used: true, Size: 2}}, []int{9, 2}},
		{[slotCount]slot.Slot{{Used: true, Size: 4}, {Used: true, Size: 3}, {Used: true, Size: 2}, {Used: true, Size: 1}}, []int{4, 3, 2, 1}},
		{[slotCount]slot.Slot{{Used: true, Size: 7}, {Used: true, Size: 7}, {}, {Used: true, Size: 7}}, []int{7, 7, 7}},
		// Of records that may not be: Used tells, and nothing else.
		{[slotCount]slot.Slot{{Size: 4}, {Size: 3}, {Size: 2}, {Size: 1}}, nil},
		{[slotCount]slot.Slot{{Used: true}, {Used: true, Size: -1}, {Used: true, Size: math.MinInt}, {Used: true, Size: math.MaxInt}}, []int{0, -1, math.MinInt, math.MaxInt}},
	}
	for _, c := range cases {
		if got := Sizes(Record{Slots: c.slots}); !slices.Equal(got, c.want) {
			t.Errorf("Sizes(%+v) = %v, want %v", c.slots, got, c.want)
		}
	}
}

func TestSaltsOfOtherLengths(t *testing.T) {
	for name, salt := range wrongLists(saltBytes) {
		for _, r := range []Record{someRecord(), fullRecord()} {
			other := but(r, func(r *Record) { r.Salt = salt })
			if Right(other) {
				t.Errorf("a salt, %s: right", name)
			}
			checkBytesErr(t, "a salt, "+name, other, theKey())
		}
	}
	for n := range 100 {
		r := but(fullRecord(), func(r *Record) { r.Salt = counted(3, n) })
		checkRight(t, r)
		checkBytesOf(t, r, theKey())
	}
}

func TestChecksOfOtherLengths(t *testing.T) {
	for name, check := range wrongLists(checkBytes) {
		for _, r := range []Record{someRecord(), fullRecord()} {
			other := but(r, func(r *Record) { r.Check = check })
			if Right(other) {
				t.Errorf("a check, %s: right", name)
			}
			checkBytesErr(t, "a check, "+name, other, theKey())
		}
	}
	for n := range 100 {
		r := but(fullRecord(), func(r *Record) { r.Check = counted(3, n) })
		checkRight(t, r)
		checkBytesOf(t, r, theKey())
	}
}

// A salt that is shorter by as much as the check is longer makes no record.
func TestSaltAndCheckOfOtherLengths(t *testing.T) {
	for n := range 49 {
		r := but(fullRecord(), func(r *Record) { r.Salt, r.Check = counted(1, n), counted(2, 48-n) })
		if got, want := Right(r), n == saltBytes; got != want {
			t.Errorf("a salt of %d, a check of %d: %v", n, 48-n, got)
		}
		checkBytesOf(t, r, theKey())
	}
}

// Each byte of the salt and of the check may be any.
func TestSaltsAndChecksAreAllOne(t *testing.T) {
	for _, x := range []byte{0, 1, 127, 128, 255} {
		r := but(fullRecord(), func(r *Record) { r.Salt, r.Check = all(x, saltBytes), all(^x, checkBytes) })
		checkRight(t, r)
		checkBytesOf(t, r, theKey())
		checkRead(t, bytesOf(t, r, theKey()))
	}
}

func TestSlotsThatMayNotBe(t *testing.T) {
	for name, s := range wrongSlots() {
		for place := range slotCount {
			for _, r := range everyUse() {
				r.Slots[place] = s
				if Right(r) {
					t.Errorf("slot %d, %s: right", place, name)
				}
				checkRight(t, r)
				checkBytesErr(t, fmt.Sprintf("slot %d, %s", place, name), r, theKey())
			}
		}
	}
}

// Gen, Epoch and Bad at their least and their greatest, each alone and all together.
func TestNumbersAtTheirEdges(t *testing.T) {
	for _, n := range edges() {
		for _, change := range []func(*Record){
			func(r *Record) { r.Gen = n },
			func(r *Record) { r.Epoch = n },
			func(r *Record) { r.Bad = n },
			func(r *Record) { r.Gen, r.Epoch, r.Bad = n, ^n, n/3 },
			func(r *Record) { r.Gen, r.Epoch, r.Bad = n, n, n },
		} {
			for _, r := range []Record{someRecord(), someRecord(1), fullRecord(), but(someRecord(), func(r *Record) { r.Gen, r.Epoch, r.Bad = 0, 0, 0 })} {
				change(&r)
				if !Right(r) {
					t.Errorf("%+v is not right", r)
				}
				checkBytesOf(t, r, theKey())
				b := bytesOf(t, r, theKey())
				checkRead(t, b)
				if got, err := Read(b); err != api.OK || got.Gen != r.Gen || got.Epoch != r.Epoch || got.Bad != r.Bad {
					t.Errorf("%d %d %d is read as %+v, %v", r.Gen, r.Epoch, r.Bad, got, err)
				}
			}
		}
	}
}

func TestKeysOfOtherLengths(t *testing.T) {
	r := fullRecord()
	for name, key := range wrongLists(keyBytes) {
		checkBytesErr(t, "a key, "+name, r, key)
		checkBytesErr(t, "no record, and a key, "+name, Record{}, key)
		// A tag that would fit under such a key does not.
		b := plainText(r)
		b = append(b, plainTag(key, b)...)
		if Fits(b, key) {
			t.Errorf("a tag fits under a key, %s", name)
		}
	}
	for n := range 100 {
		key := counted(0x40, n)
		checkBytesOf(t, r, key)
		b := plainText(r)
		b = append(b, plainTag(key, b)...)
		if got, want := Fits(b, key), n == keyBytes; got != want {
			t.Errorf("a tag under a key of %d bytes: Fits = %v", n, got)
		}
	}
	// A nought behind a key leaves its tags as they are, but it is no key.
	b := bytesOf(t, r, theKey())
	if Fits(b, append(theKey(), 0)) || Fits(tagged(b, append(counted(1, 31), 0)), counted(1, 31)) {
		t.Error("a key of another length fits")
	}
}

func TestKeysThatDifferInOneBit(t *testing.T) {
	b := bytesOf(t, fullRecord(), theKey())
	for bit := range 8 * keyBytes {
		other := changed(theKey(), bit/8, 1<<(bit%8))
		if Fits(b, other) {
			t.Errorf("bit %d of the key: the tag fits", bit)
		}
		checkBytesOf(t, fullRecord(), other)
		if got := bytesOf(t, fullRecord(), other); !bytes.Equal(got[:taggedBytes], b[:taggedBytes]) || bytes.Equal(got[taggedBytes:], b[taggedBytes:]) {
			t.Errorf("bit %d of the key: %x", bit, got)
		}
	}
	for _, key := range [][]byte{all(0, keyBytes), all(255, keyBytes), theKey()} {
		checkBytesOf(t, fullRecord(), key)
		if !Fits(bytesOf(t, fullRecord(), key), key) {
			t.Errorf("the tag under %x does not fit", key)
		}
	}
}

func TestBytesOfOtherLengths(t *testing.T) {
	_, key, b := opened(t, 1)
	long := slices.Concat(b, all(0, 300))
	for n := range len(long) {
		if n == recordBytes {
			continue
		}
		name := fmt.Sprintf("%d bytes", n)
		for _, b := range [][]byte{long[:n:n], long[:n], all(0, n), all(255, n)} {
			checkReadErr(t, name, b, api.ErrShape)
			if Fits(b, key) {
				t.Errorf("%s: fits", name)
			}
		}
	}
	for name, b := range wrongLists(recordBytes) {
		checkReadErr(t, name, b, api.ErrShape)
		if Fits(b, key) {
			t.Errorf("%s: fits", name)
		}
	}
	// The last bytes are the tag of those ahead, but there are too few or too many.
	for _, n := range []int{0, 1, taggedBytes - 128, taggedBytes - 1, taggedBytes + 1, taggedBytes + 128} {
		text := counted(0, n)
		if Fits(append(text, plainTag(key, text)...), key) {
			t.Errorf("%d bytes and their tag: fits", n)
		}
	}
	for _, b := range [][]byte{long[:recordBytes], long[:recordBytes:recordBytes]} {
		if r, err := Read(b); err != api.OK || r.Gen != 9 || !Fits(b, key) {
			t.Errorf("Read(%x) = %+v, %v", b, r, err)
		}
	}
}

// Each byte in turn is each other one: of a record without used slots, and of ones with some.
func TestOneByteIsAnother(t *testing.T) {
	for _, r := range []Record{someRecord(), fullRecord(), someRecord(0, 2), someRecord(1, 3)} {
		right := bytesOf(t, r, theKey())
		for at := range recordBytes {
			for x := 1; x < 256; x++ {
				b := changed(right, at, byte(x))
				checkRead(t, b)
				got, err := Read(b)
				if err != api.OK && !same(got, Record{}) {
					t.Fatalf("byte %d xored with %#x: %+v beside %v", at, x, got, err)
				}
				if at >= 40 && at < 48 && err != api.ErrForm {
					t.Fatalf("a nought, byte %d xored with %#x: %v", at, x, err)
				}
				if (at < 40 || at >= 48 && at < 80) && (err != api.OK || same(got, r)) {
					t.Fatalf("byte %d xored with %#x: %+v, %v", at, x, got, err)
				}
				if at >= 80 && at < taggedBytes && err == api.OK && same(got, r) {
					t.Fatalf("a slot's byte %d xored with %#x: the record is the same", at, x)
				}
				if at >= taggedBytes && (err != api.OK || !same(got, r)) {
					t.Fatalf("the tag's byte %d xored with %#x: %+v, %v", at, x, got, err)
				}
			}
			for _, x := range []byte{1, 0x80, 0xff} {
				b := changed(right, at, x)
				checkFits(t, b, theKey())
				if Fits(b, theKey()) {
					t.Fatalf("byte %d xored with %#x: the tag fits", at, x)
				}
			}
		}
	}
}

// Each of the eight noughts, of a record whose tag fits all the same.
func TestNoughtsThatAreNone(t *testing.T) {
	_, key, right := opened(t, 2)
	for at := 40; at < 48; at++ {
		for bit := range 8 {
			b := changed(right, at, 1<<bit)
			checkReadErr(t, fmt.Sprintf("byte %d, bit %d", at, bit), b, api.ErrForm)
			checkReadErr(t, fmt.Sprintf("byte %d, bit %d, its tag right", at, bit), tagged(b, key), api.ErrForm)
			if !Fits(tagged(b, key), key) {
				t.Errorf("byte %d, bit %d: the tag is right, but does not fit", at, bit)
			}
		}
	}
	b := slices.Clone(right)
	copy(b[40:], all(255, 8))
	checkReadErr(t, "all of them", b, api.ErrForm)
	copy(b[40:], []byte{1, 0, 0, 0, 0, 0, 0, 255})
	checkReadErr(t, "the first and the last", b, api.ErrForm)
}

// A slot that is none, in each place, of a record whose tag fits all the same.
func TestSlotsThatAreNone(t *testing.T) {
	for _, places := range [][]int{nil, {0}, {1}, {2}, {3}, {0, 1, 2, 3}} {
		_, key, right := opened(t, places...)
		for place := range slotCount {
			for name, bad := range map[string][]byte{
				"0xff":                    all(255, slotBytes),
				"a flag of 2":             slices.Concat([]byte{2, 0, 0, 0, 0, 0, 0, 1}, all(0, slotBytes-8)),
				"a nought that is none":   slices.Concat([]byte{1, 0, 0, 1, 0, 0, 0, 1}, all(0, slotBytes-8)),
				"a size of nought":        slices.Concat([]byte{1, 0, 0, 0, 0, 0, 0, 0}, all(7, slotBytes-8)),
				"too great a size":        slices.Concat([]byte{1, 0, 0, 0, 0, 1, 0, 0}, all(7, slotBytes-8)),
				"not used, and its last":  slices.Concat(all(0, slotBytes-1), []byte{1}),
				"not used, and its fifth": slices.Concat(all(0, 4), []byte{1}, all(0, slotBytes-5)),
			} {
				b := slices.Clone(right)
				copy(b[80+slotBytes*place:], bad)
				checkReadErr(t, fmt.Sprintf("slot %d, %s", place, name), b, api.ErrForm)
				checkReadErr(t, fmt.Sprintf("slot %d, %s, its tag right", place, name), tagged(b, key), api.ErrForm)
				checkRead(t, b)
			}
		}
	}
}

// Wrong for several reasons: the length is told ahead of the form.
func TestBytesThatAreWrongForSeveralReasons(t *testing.T) {
	_, _, right := opened(t, 2)
	for _, nought := range []byte{0, 1, 255} {
		for _, flag := range []byte{0, 1, 2} {
			for place := range slotCount {
				b := slices.Clone(right)
				b[44] = nought
				b[80+slotBytes*place] = flag
				checkRead(t, b)
				checkOpen(t, b, thePass(), theRounds)
				checkReadErr(t, "one too long", append(slices.Clone(b), 0), api.ErrShape)
				checkReadErr(t, "one too short", b[:recordBytes-1], api.ErrShape)
			}
		}
	}
	checkReadErr(t, "0xff all over", all(255, recordBytes), api.ErrForm)
	if r, err := Read(all(0, recordBytes)); err != api.OK || !same(r, Record{Salt: all(0, saltBytes), Check: all(0, checkBytes)}) {
		t.Errorf("noughts all over are read as %+v, %v", r, err)
	}
}

func TestRecordsThatAreWrongForSeveralReasons(t *testing.T) {
	for _, salt := range [][]byte{nil, {}, counted(0, 15), counted(0, 16), counted(0, 17)} {
		for _, check := range [][]byte{nil, {}, counted(0, 31), counted(0, 32), counted(0, 33)} {
			for _, key := range [][]byte{nil, {}, counted(0, 31), counted(0, 32), counted(0, 33)} {
				for place := range slotCount {
					for _, s := range []slot.Slot{{}, usedSlot(place), {Used: true}, {Size: 1}} {
						r := but(someRecord(), func(r *Record) { r.Salt, r.Check, r.Slots[place] = salt, check, s })
						checkRight(t, r)
						checkBytesOf(t, r, key)
					}
				}
			}
		}
	}
	if Right(Record{}) {
		t.Error("an empty record is right")
	}
	checkBytesErr(t, "an empty record", Record{}, theKey())
}

// Whether bytes are a record's is nothing to their tag.
func TestTagsOfBytesThatAreNoRecords(t *testing.T) {
	source := rand.New(rand.NewSource(1801))
	for range 50 {
		b, key := randomBytes(source, recordBytes), randomBytes(source, keyBytes)
		if Fits(b, key) || !Fits(tagged(b, key), key) {
			t.Fatalf("%x under %x", b, key)
		}
		checkReadErr(t, "random bytes", tagged(b, key), api.ErrForm)
	}
}

func TestRandomRecords(t *testing.T) {
	source := rand.New(rand.NewSource(1802))
	for range 3000 {
		r, key := randomRecord(source), randomList(source, keyBytes)
		checkRight(t, r)
		checkBytesOf(t, r, key)
		b, _ := Bytes(r, key)
		checkRead(t, b)
		checkFits(t, b, key)
		checkFits(t, b, randomList(source, keyBytes))
	}
}

func TestRandomBytes(t *testing.T) {
	source := rand.New(rand.NewSource(1803))
	for range 5000 {
		key := randomBytes(source, keyBytes)
		b, _ := plainBytes(randomRight(source), key)
		for range source.Intn(3) {
			b[source.Intn(recordBytes)] ^= 1 << source.Intn(8)
		}
		if source.Intn(4) == 0 {
			b[80+slotBytes*source.Intn(slotCount)+source.Intn(8)] ^= 1 << source.Intn(8)
		}
		if source.Intn(8) == 0 {
			b = b[:recordBytes-source.Intn(3)]
		}
		checkRead(t, b)
		checkFits(t, b, key)
		checkRead(t, randomList(source, recordBytes))
	}
}

// Copy answers all of a record, one that may not be too, as it was.
func TestCopies(t *testing.T) {
	records := append(everyUse(), Record{}, Record{Gen: 1}, Record{Epoch: 2}, Record{Bad: 3}, Record{Salt: []byte{}, Check: []byte{}}, Record{Salt: all(1, 5)}, Record{Check: all(1, 70000)})
	for _, s := range wrongSlots() {
		for place := range slotCount {
			records = append(records, but(someRecord(), func(r *Record) { r.Slots[place] = s }))
		}
	}
	for _, r := range records {
		r = but(r, func(*Record) {})
		was := but(r, func(*Record) {})
		got := Copy(r)
		if !same(got, was) || (got.Salt == nil) != (r.Salt == nil) || (got.Check == nil) != (r.Check == nil) {
			t.Errorf("Copy(%+v) = %+v", r, got)
		}
		spoilRecord(&got)
		if !same(r, was) {
			t.Errorf("%+v changes with its copy", was)
		}
		got = Copy(r)
		spoilRecord(&r)
		if !same(got, was) {
			t.Errorf("the copy of %+v changes with it", was)
		}
	}
}

func TestCopiesShareNoRoom(t *testing.T) {
	room := counted(0, 250)
	r := Record{Salt: room[10:26], Check: room[30:62]}
	for i := range slotCount {
		r.Slots[i] = slot.Slot{Used: true, Size: 1, Wrapped: room[70+i : 174+i]}
	}
	got := Copy(r)
	spoilRecord(&got)
	if !bytes.Equal(room, counted(0, 250)) {
		t.Error("what lies beside a record's lists changes with its copy")
	}
	got = Copy(Record{Salt: room[:0], Check: room[:0]})
	if len(append(got.Salt, 99)) != 1 || len(append(got.Check, 99)) != 1 || room[0] != 0 {
		t.Error("a copy without bytes has the room of what it was copied from")
	}
}

// P18.2

func TestVectors(t *testing.T) {
	for _, v := range vectors {
		r, key, err := First(v.pass, v.salt, v.rounds)
		if err != api.OK || hex.EncodeToString(key) != v.tags || hex.EncodeToString(r.Check) != v.tells {
			t.Errorf("First(%x, %x, %d) = %+v, %x, %v", v.pass, v.salt, v.rounds, r, key, err)
		}
		want := "0000000000000001" + "0000000000000000" + hex.EncodeToString(v.salt) + "0000000000000000" + "0000000000000000" + v.tells + hex.EncodeToString(all(0, 512)) + v.last
		if b := bytesOf(t, r, key); hex.EncodeToString(b) != want {
			t.Errorf("its bytes: %x, want %s", b, want)
		}
		r, wraps, tags, err := Open(unhex(t, want), v.pass, v.rounds)
		if err != api.OK || r.Gen != 1 || hex.EncodeToString(wraps) != v.wraps || hex.EncodeToString(tags) != v.tags {
			t.Errorf("Open(%s, %x, %d) = %+v, %x, %x, %v", want, v.pass, v.rounds, r, wraps, tags, err)
		}
	}
}

// The keys are those of the layer below, each of them in its place.
func TestKeysAreThoseOfTheLayerBelow(t *testing.T) {
	_, _, b := opened(t, 0)
	wraps, tags, tells, err := derive.Keys(thePass(), theSalt(), theRounds)
	if err != api.OK {
		t.Fatal(err)
	}
	r, kek, key, err := Open(b, thePass(), theRounds)
	if err != api.OK || !bytes.Equal(kek, wraps) || !bytes.Equal(key, tags) || !bytes.Equal(r.Check, tells) {
		t.Errorf("Open = %+v, %x, %x, %v", r, kek, key, err)
	}
	r, key, err = First(thePass(), theSalt(), theRounds)
	if err != api.OK || !bytes.Equal(key, tags) || !bytes.Equal(r.Check, tells) {
		t.Errorf("First = %+v, %x, %v", r, key, err)
	}
}

// Keys that are wrapped under the key that wraps are told by it, once the record is opened.
func TestASlotInARecord(t *testing.T) {
	r, key, _ := opened(t)
	wraps, _, _, _ := derive.Keys(thePass(), theSalt(), theRounds)
	keys := counted(0, api.KeySize)
	s, err := slot.Make(wraps, 45, api.Head{Epoch: 2, Counter: 5}, keys)
	if err != api.OK {
		t.Fatal(err)
	}
	for place := range slotCount {
		r := but(r, func(r *Record) { r.Slots[place] = s })
		got, kek, _, err := Open(bytesOf(t, r, key), thePass(), theRounds)
		if err != api.OK || !same(got, r) {
			t.Fatalf("slot %d: %+v, %v", place, got, err)
		}
		if told, err := slot.Keys(kek, got.Slots[place]); err != api.OK || !bytes.Equal(told, keys) {
			t.Errorf("slot %d: its keys are %x, %v", place, told, err)
		}
		if sizes := Sizes(got); !slices.Equal(sizes, []int{45}) {
			t.Errorf("slot %d: Sizes = %v", place, sizes)
		}
	}
}

func TestPassphrasesAtTheirEdges(t *testing.T) {
	for _, n := range []int{0, 1, 2, 31, 32, 33, 55, 56, 63, 64} {
		for _, pass := range [][]byte{counted(1, n), all(0, n), all(255, n)} {
			checkFirst(t, pass, theSalt(), theRounds)
			r, key, err := First(pass, theSalt(), theRounds)
			if err != api.OK {
				t.Fatalf("a passphrase of %d bytes: %v", n, err)
			}
			b := bytesOf(t, r, key)
			checkOpen(t, b, pass, theRounds)
			if _, _, _, err := Open(b, pass, theRounds); err != api.OK {
				t.Errorf("a passphrase of %d bytes: %v", n, err)
			}
		}
	}
	_, _, b := opened(t, 1)
	for _, n := range []int{65, 66, 96, 128, 129, 1000, 70000} {
		name := fmt.Sprintf("a passphrase of %d bytes", n)
		checkFirstErr(t, name, counted(1, n), theSalt(), theRounds)
		checkOpenErr(t, name, b, counted(1, n), theRounds, api.ErrShape)
		checkOpenErr(t, name+", noughts behind", b, append(thePass(), all(0, n-4)...), theRounds, api.ErrShape)
	}
	// No passphrase is that of no bytes, nil or empty.
	none, key, err := First(nil, theSalt(), theRounds)
	if err != api.OK {
		t.Fatal(err)
	}
	for _, pass := range [][]byte{nil, {}, counted(1, 9)[:0]} {
		if r, _, _, err := Open(bytesOf(t, none, key), pass, theRounds); err != api.OK || !same(r, none) {
			t.Errorf("no passphrase: %+v, %v", r, err)
		}
		checkFirst(t, pass, theSalt(), theRounds)
		checkOpenErr(t, "no passphrase", b, pass, theRounds, api.ErrPass)
	}
}

func TestSaltsAtTheirEdges(t *testing.T) {
	for name, salt := range wrongLists(saltBytes) {
		checkFirstErr(t, "a salt, "+name, thePass(), salt, theRounds)
	}
	for n := range 70 {
		checkFirst(t, thePass(), counted(0, n), theRounds)
		if _, _, err := First(thePass(), counted(0, n), theRounds); (err == api.OK) != (n == 16) {
			t.Errorf("a salt of %d bytes: %v", n, err)
		}
	}
	for _, x := range []byte{0, 1, 255} {
		checkFirst(t, thePass(), all(x, saltBytes), theRounds)
	}
}

func TestRoundsAtTheirEdges(t *testing.T) {
	for _, rounds := range []int{1, 2, 3, 999, 1000} {
		checkFirst(t, thePass(), theSalt(), rounds)
		r, key, err := First(thePass(), theSalt(), rounds)
		if err != api.OK {
			t.Fatalf("%d rounds: %v", rounds, err)
		}
		b := bytesOf(t, r, key)
		for _, other := range []int{1, 2, 3, 998, 999, 1000} {
			want := api.ErrPass
			if other == rounds {
				want = api.OK
			}
			if _, _, _, err := Open(b, thePass(), other); err != want {
				t.Errorf("%d rounds, opened with %d: %v", rounds, other, err)
			}
			checkOpen(t, b, thePass(), other)
		}
		for _, wrong := range wrongRounds() {
			checkOpenErr(t, fmt.Sprintf("%d rounds", wrong), b, thePass(), wrong, api.ErrShape)
		}
	}
	for _, rounds := range wrongRounds() {
		checkFirstErr(t, fmt.Sprintf("%d rounds", rounds), thePass(), theSalt(), rounds)
	}
}

func TestFirstWrongForSeveralReasons(t *testing.T) {
	for _, n := range []int{0, 4, 64, 65, 70000} {
		for _, salt := range [][]byte{nil, {}, counted(0, 15), counted(0, 16), counted(0, 17)} {
			for _, rounds := range []int{math.MinInt, -1, 0, 1, 1000, 1001, math.MaxInt} {
				pass := counted(5, n)
				wrong := n > 64 || len(salt) != 16 || rounds < 1 || rounds > 1000
				if wrong {
					checkFirstErr(t, "wrong", pass, salt, rounds)
				}
				checkFirst(t, pass, salt, rounds)
			}
		}
	}
}

// Each reason is told ahead of those behind it.
func TestErrorsOfOpenInOrder(t *testing.T) {
	_, key, right := opened(t, 1)
	form := changed(right, 44, 1)
	badSlot := changed(right, 80+3*slotBytes, 2)
	check := changed(right, 48, 1)
	salt := changed(right, 16, 1)
	tag := changed(right, recordBytes-1, 1)
	other := []byte("other")
	long := counted(0, 65)
	cases := []struct {
		name   string
		b      []byte
		pass   []byte
		rounds int
		want   api.Errno
	}{
		{"right", right, thePass(), theRounds, api.OK},
		{"too short", right[:623], thePass(), theRounds, api.ErrShape},
		{"too short, a long passphrase", right[:623], long, theRounds, api.ErrShape},
		{"nil, no rounds", nil, thePass(), 0, api.ErrShape},
		{"a nought that is none", form, thePass(), theRounds, api.ErrForm},
		{"a nought that is none, a long passphrase", form, long, theRounds, api.ErrForm},
		{"a nought that is none, no rounds", form, thePass(), 0, api.ErrForm},
		{"a nought that is none, another passphrase", form, other, theRounds, api.ErrForm},
		{"a nought that is none, its tag right", tagged(form, key), thePass(), theRounds, api.ErrForm},
		{"a slot that is none", badSlot, thePass(), theRounds, api.ErrForm},
		{"a slot that is none, a long passphrase, too many rounds", badSlot, long, 1001, api.ErrForm},
		{"a slot that is none, its tag right, another passphrase", tagged(badSlot, key), other, theRounds, api.ErrForm},
		{"a long passphrase", right, long, theRounds, api.ErrShape},
		{"no rounds", right, thePass(), 0, api.ErrShape},
		{"too many rounds, another passphrase", right, other, 1001, api.ErrShape},
		{"a long passphrase, another check, another tag", changed(check, 600, 1), long, theRounds, api.ErrShape},
		{"rounds below nought, another tag", tag, thePass(), -1, api.ErrShape},
		{"another passphrase", right, other, theRounds, api.ErrPass},
		{"another passphrase, another tag", tag, other, theRounds, api.ErrPass},
		{"other rounds", right, thePass(), theRounds + 1, api.ErrPass},
		{"another check", check, thePass(), theRounds, api.ErrPass},
		{"another check, its tag right", tagged(check, key), thePass(), theRounds, api.ErrPass},
		{"another salt", salt, thePass(), theRounds, api.ErrPass},
		{"another salt, its tag right", tagged(salt, key), thePass(), theRounds, api.ErrPass},
		{"another tag", tag, thePass(), theRounds, api.ErrIntegrity},
		{"another generation", changed(right, 7, 1), thePass(), theRounds, api.ErrIntegrity},
		{"another epoch", changed(right, 15, 1), thePass(), theRounds, api.ErrIntegrity},
		{"other bad blocks", changed(right, 39, 1), thePass(), theRounds, api.ErrIntegrity},
		{"another slot", changed(right, 80+slotBytes+20, 1), thePass(), theRounds, api.ErrIntegrity},
		{"a tag under another key", tagged(right, changed(key, 0, 1)), thePass(), theRounds, api.ErrIntegrity},
	}
	for _, c := range cases {
		if c.want != api.OK {
			checkOpenErr(t, c.name, c.b, c.pass, c.rounds, c.want)
		}
		if _, _, _, err := Open(c.b, c.pass, c.rounds); err != c.want {
			t.Errorf("%s: %v, want %v", c.name, err, c.want)
		}
		checkOpen(t, c.b, c.pass, c.rounds)
	}
}

// The tag must fit under the key for tags, and the check must be the key that tells: another of the three keys does not do.
func TestAnotherOfTheThreeKeys(t *testing.T) {
	r, tags, right := opened(t, 1)
	wraps, _, tells, _ := derive.Keys(thePass(), theSalt(), theRounds)
	checkOpenErr(t, "tagged under the key that wraps", tagged(right, wraps), thePass(), theRounds, api.ErrIntegrity)
	checkOpenErr(t, "tagged under the key that tells", tagged(right, tells), thePass(), theRounds, api.ErrIntegrity)
	for name, check := range map[string][]byte{"the key that wraps": wraps, "the key for tags": tags} {
		b := bytesOf(t, but(r, func(r *Record) { r.Check = check }), tags)
		checkOpenErr(t, "a check that is "+name, b, thePass(), theRounds, api.ErrPass)
	}
}

func TestAPassphraseThatDiffersInOneBit(t *testing.T) {
	for _, pass := range [][]byte{{7}, thePass(), counted(1, 64)} {
		r, key, err := First(pass, theSalt(), 1)
		if err != api.OK {
			t.Fatal(err)
		}
		b := bytesOf(t, r, key)
		for bit := range 8 * len(pass) {
			other := changed(pass, bit/8, 1<<(bit%8))
			checkOpenErr(t, fmt.Sprintf("bit %d of %x", bit, pass), b, other, 1, api.ErrPass)
			checkFirst(t, other, theSalt(), 1)
		}
		for n := range len(pass) {
			checkOpenErr(t, fmt.Sprintf("%d bytes of %x", n, pass), b, pass[:n], 1, api.ErrPass)
		}
		if len(pass) < 64 {
			checkOpenErr(t, "one byte more", b, append(slices.Clone(pass), 1), 1, api.ErrPass)
		}
	}
}

func TestASaltThatDiffersInOneBit(t *testing.T) {
	_, key, right := opened(t, 3)
	for bit := range 8 * saltBytes {
		b := changed(right, 16+bit/8, 1<<(bit%8))
		checkOpenErr(t, fmt.Sprintf("bit %d of the salt", bit), b, thePass(), theRounds, api.ErrPass)
		checkOpenErr(t, fmt.Sprintf("bit %d of the salt, the tag right", bit), tagged(b, key), thePass(), theRounds, api.ErrPass)
		checkFirst(t, thePass(), changed(theSalt(), bit/8, 1<<(bit%8)), theRounds)
	}
}

func TestACheckThatDiffersInOneBit(t *testing.T) {
	_, key, right := opened(t, 3)
	for bit := range 8 * checkBytes {
		b := changed(right, 48+bit/8, 1<<(bit%8))
		checkOpenErr(t, fmt.Sprintf("bit %d of the check", bit), b, thePass(), theRounds, api.ErrPass)
		checkOpenErr(t, fmt.Sprintf("bit %d of the check, the tag right", bit), tagged(b, key), thePass(), theRounds, api.ErrPass)
	}
}

func TestATagThatDiffersInOneBit(t *testing.T) {
	_, key, right := opened(t, 3)
	for bit := range 8 * api.TagSize {
		b := changed(right, taggedBytes+bit/8, 1<<(bit%8))
		checkOpenErr(t, fmt.Sprintf("bit %d of the tag", bit), b, thePass(), theRounds, api.ErrIntegrity)
		if Fits(b, key) {
			t.Errorf("bit %d of the tag: it fits", bit)
		}
	}
	for _, x := range []byte{0, 255} {
		b := slices.Concat(right[:taggedBytes], all(x, api.TagSize))
		checkOpenErr(t, "a tag of like bytes", b, thePass(), theRounds, api.ErrIntegrity)
	}
}

// Each bit of a record that thePass opens is another: what is answered is as the chapter says.
func TestEachBitOfARecordThatIsOpened(t *testing.T) {
	_, _, right := opened(t, 0, 3)
	for bit := range 8 * recordBytes {
		b := changed(right, bit/8, 1<<(bit%8))
		checkOpen(t, b, thePass(), theRounds)
		if _, _, _, err := Open(b, thePass(), theRounds); err == api.OK {
			t.Errorf("bit %d: opened", bit)
		}
	}
}

// A record that was changed and tagged anew is opened as it is now.
func TestARecordThatWasChanged(t *testing.T) {
	r, key, _ := opened(t)
	for i, change := range []func(*Record){
		func(r *Record) { r.Gen = math.MaxUint64 },
		func(r *Record) { r.Gen = 0 },
		func(r *Record) { r.Epoch = math.MaxUint64 },
		func(r *Record) { r.Bad = math.MaxUint64 },
		func(r *Record) { r.Bad = 1 << 63 },
		func(r *Record) { r.Slots[0] = usedSlot(2) },
		func(r *Record) { r.Slots = fullRecord().Slots },
		func(r *Record) { r.Slots[3] = usedSlot(0) },
		func(r *Record) { r.Slots = [slotCount]slot.Slot{} },
	} {
		change(&r)
		b := bytesOf(t, r, key)
		if got, _, tags, err := Open(b, thePass(), theRounds); err != api.OK || !same(got, r) || !bytes.Equal(tags, key) {
			t.Errorf("change %d: %+v, %v", i, got, err)
		}
		checkOpen(t, b, thePass(), theRounds)
	}
}

func TestRandomPassphrases(t *testing.T) {
	source := rand.New(rand.NewSource(1811))
	for range 300 {
		pass, salt, rounds := randomPass(source), randomList(source, saltBytes), source.Intn(12)
		if source.Intn(10) == 0 {
			pass = randomBytes(source, mostPass+source.Intn(3))
		}
		checkFirst(t, pass, salt, rounds)
		r, key, err := First(pass, salt, rounds)
		if err != api.OK {
			continue
		}
		r.Gen, r.Epoch, r.Bad, r.Slots = randomNumber(source), randomNumber(source), randomNumber(source), randomRight(source).Slots
		b := bytesOf(t, r, key)
		checkOpen(t, b, pass, rounds)
		checkOpen(t, b, randomPass(source), rounds)
		checkOpen(t, b, pass, source.Intn(12))
		b[source.Intn(recordBytes)] ^= byte(source.Intn(256))
		checkOpen(t, b, pass, rounds)
		checkOpen(t, randomList(source, recordBytes), pass, rounds)
	}
}

// P18.3

func TestRecordsThereAndBack(t *testing.T) {
	source := rand.New(rand.NewSource(1831))
	records := everyUse()
	for range 1500 {
		records = append(records, randomRight(source))
	}
	for _, r := range records {
		key := randomBytes(source, keyBytes)
		b := bytesOf(t, r, key)
		if got, err := Read(b); err != api.OK || !same(got, r) || !Right(got) || !Fits(b, key) {
			t.Fatalf("Read(Bytes(%+v)) = %+v, %v", r, got, err)
		}
	}
}

// Of bytes whose tag does not fit, all but the tag comes back.
func TestBytesThereAndBack(t *testing.T) {
	source := rand.New(rand.NewSource(1832))
	read := 0
	for range 3000 {
		key := randomBytes(source, keyBytes)
		b := randomBytes(source, recordBytes)
		copy(b[40:], all(0, 8))
		for place := range slotCount {
			copy(b[80+slotBytes*place:], []byte{1, 0, 0, 0, 0, 0})
			if source.Intn(2) == 0 {
				copy(b[80+slotBytes*place:], all(0, slotBytes))
			}
		}
		if source.Intn(4) == 0 {
			b[40+source.Intn(48)] ^= 1 << source.Intn(8)
		}
		r, err := Read(b)
		if err != api.OK {
			continue
		}
		read++
		if got := bytesOf(t, r, key); !bytes.Equal(got, tagged(b, key)) || !Right(r) {
			t.Fatalf("Bytes(Read(%x)) = %x", b, got)
		}
		again := tagged(b, key)
		if r, err := Read(again); err != api.OK || !bytes.Equal(bytesOf(t, r, key), again) {
			t.Fatalf("%x does not come back", again)
		}
	}
	if read < 1500 {
		t.Errorf("only %d were a record's", read)
	}
}

func TestUnlikeRecordsHaveUnlikeBytes(t *testing.T) {
	seen := map[string]Record{}
	see := func(r Record) {
		b := string(bytesOf(t, r, theKey())[:taggedBytes])
		if other, there := seen[b]; there && !same(r, other) {
			t.Fatalf("%+v and %+v have the same bytes", r, other)
		}
		seen[b] = r
	}
	for _, r := range everyUse() {
		see(r)
	}
	for _, n := range edges() {
		see(but(fullRecord(), func(r *Record) { r.Gen = n }))
		see(but(fullRecord(), func(r *Record) { r.Epoch = n }))
		see(but(fullRecord(), func(r *Record) { r.Bad = n }))
	}
	for bit := range 8 * saltBytes {
		see(but(fullRecord(), func(r *Record) { r.Salt[bit/8] ^= 1 << (bit % 8) }))
	}
	for bit := range 8 * checkBytes {
		see(but(fullRecord(), func(r *Record) { r.Check[bit/8] ^= 1 << (bit % 8) }))
	}
	for place := range slotCount {
		for other := range slotCount {
			see(but(fullRecord(), func(r *Record) { r.Slots[place], r.Slots[other] = r.Slots[other], r.Slots[place] }))
		}
	}
}

// P18.4

func TestThePassphraseOfAFirstRecordOpensIt(t *testing.T) {
	source := rand.New(rand.NewSource(1841))
	for i := range 150 {
		pass, salt, rounds := randomPass(source), randomBytes(source, saltBytes), 1+source.Intn(20)
		if i%50 == 0 {
			rounds = mostRounds - i/50
		}
		if i < len(vectors) {
			pass, salt, rounds = vectors[i].pass, vectors[i].salt, vectors[i].rounds
		}
		r, key, err := First(pass, salt, rounds)
		if err != api.OK || !Right(r) || r.Gen != 1 || r.Epoch != 0 || r.Bad != 0 || len(Sizes(r)) != 0 || !bytes.Equal(r.Salt, salt) {
			t.Fatalf("First(%x, %x, %d) = %+v, %v", pass, salt, rounds, r, err)
		}
		b := bytesOf(t, r, key)
		if !Fits(b, key) {
			t.Fatalf("the tag of a first record does not fit: %x", b)
		}
		got, wraps, tags, err := Open(b, pass, rounds)
		if err != api.OK || !same(got, r) || !bytes.Equal(tags, key) || len(wraps) != keyBytes {
			t.Fatalf("Open(%x, %x, %d) = %+v, %x, %x, %v", b, pass, rounds, got, wraps, tags, err)
		}
		if !bytes.Equal(bytesOf(t, got, tags), b) {
			t.Fatalf("what was opened has other bytes than %x", b)
		}
	}
}

// Another passphrase under the same salt: each opens its own record alone.
func TestEachPassphraseOpensItsOwn(t *testing.T) {
	passes := [][]byte{nil, {1}, []byte("open"), []byte("opem"), []byte("open "), []byte("Open"), counted(1, 63), counted(1, 64)}
	for i, pass := range passes {
		r, key, err := First(pass, theSalt(), theRounds)
		if err != api.OK {
			t.Fatal(err)
		}
		b := bytesOf(t, r, key)
		for j, other := range passes {
			want := api.ErrPass
			if i == j {
				want = api.OK
			}
			if _, _, _, err := Open(b, other, theRounds); err != want {
				t.Errorf("the record of %q, opened with %q: %v", pass, other, err)
			}
		}
	}
}

// Beside the promises: what is handed in, and what is answered.

// within is a list in the midst of a greater one, and the greater one.
func within(b []byte) ([]byte, []byte) {
	room := slices.Concat(all(0x77, 40), b, all(0x77, 800))
	return room[40 : 40+len(b)], room
}

// spoil changes all of a list's memory, the room behind it too.
func spoil(b []byte) {
	b = b[:cap(b)]
	for i := range b {
		b[i] ^= 0x99
	}
}

// spoilRecord changes all of a record, and of its lists' memory.
func spoilRecord(r *Record) {
	r.Gen, r.Epoch, r.Bad = ^r.Gen, ^r.Epoch, ^r.Bad
	spoil(r.Salt)
	spoil(r.Check)
	for i := range r.Slots {
		spoil(r.Slots[i].Wrapped)
		r.Slots[i].Size++
	}
}

// lists are all of a record's.
func lists(r Record) [][]byte {
	list := [][]byte{r.Salt, r.Check}
	for _, s := range r.Slots {
		list = append(list, s.Wrapped)
	}
	return list
}

func TestNothingHandedInIsChanged(t *testing.T) {
	_, key, right := opened(t, 0, 1, 2, 3)
	for _, n := range []int{0, 15, 16, 17, 31, 32, 33, 64, 65, 103, 104, 105, 623, 624, 625} {
		for _, source := range [][]byte{counted(0, n), all(0, n), append(slices.Clone(right), 0)[:n]} {
			b, room := within(source)
			k, keyRoom := within(key)
			pass, passRoom := within(thePass())
			salt, saltRoom := within(theSalt())
			rooms := [][]byte{room, keyRoom, passRoom, saltRoom}
			var were [][]byte
			for _, room := range rooms {
				were = append(were, slices.Clone(room))
			}
			Read(b)
			Fits(b, k)
			Fits(b, b)
			Open(b, pass, theRounds)
			Open(b, b, theRounds)
			First(pass, salt, theRounds)
			First(b, b, theRounds)
			First(b, salt, theRounds)
			for _, r := range []Record{
				{Salt: b, Check: b},
				{Salt: salt, Check: k},
				{Salt: salt, Check: k, Slots: [slotCount]slot.Slot{{Used: true, Size: 1, Wrapped: b}, {}, {}, {Used: true, Size: 1, Wrapped: b}}},
			} {
				Right(r)
				Bytes(r, k)
				Bytes(r, b)
				Copy(r)
				Sizes(r)
			}
			for i, room := range rooms {
				if !bytes.Equal(room, were[i]) {
					t.Fatalf("%d bytes: what was handed in, or what is beside it, was changed", n)
				}
			}
		}
	}
}

func TestWhatLiesBehindAListIsAllOne(t *testing.T) {
	r, key, want := opened(t, 0, 2)
	r = but(r, func(r *Record) {
		r.Salt, _ = within(r.Salt)
		r.Check, _ = within(r.Check)
		r.Slots[0].Wrapped, _ = within(r.Slots[0].Wrapped)
	})
	key, _ = within(key)
	if b := bytesOf(t, r, key); !bytes.Equal(b, want) {
		t.Errorf("Bytes of lists in the midst of others = %x", b)
	}
	b, _ := within(want)
	pass, _ := within(thePass())
	salt, _ := within(theSalt())
	checkRead(t, b)
	checkOpen(t, b, pass, theRounds)
	checkFirst(t, pass, salt, theRounds)
	if !Fits(b, key) {
		t.Error("a tag in the midst of a list does not fit")
	}
}

func TestWhatIsHandedInIsNotKept(t *testing.T) {
	pass, salt := thePass(), theSalt()
	first, key, err := First(pass, salt, theRounds)
	spoil(pass)
	spoil(salt)
	if want, wantKey, _ := plainFirst(thePass(), theSalt(), theRounds); err != api.OK || !same(first, want) || !bytes.Equal(key, wantKey) {
		t.Error("a first record changes with what it was made of")
	}
	r, key, right := opened(t, 0, 1, 2, 3)
	was := but(r, func(*Record) {})
	b := bytesOf(t, r, key)
	spoilRecord(&r)
	spoil(key)
	if !bytes.Equal(b, right) {
		t.Error("bytes change with their record, or their key")
	}
	pass = thePass()
	read, _ := Read(b)
	got, wraps, tags, err := Open(b, pass, theRounds)
	spoil(b)
	spoil(pass)
	_, wantWraps, wantTags, _ := plainOpen(right, thePass(), theRounds)
	if err != api.OK || !same(read, was) || !same(got, was) || !bytes.Equal(wraps, wantWraps) || !bytes.Equal(tags, wantTags) {
		t.Error("a record, or its keys, change with the bytes of which it was read")
	}
}

// No two lists of one answer share memory, nor do those of two answers.
func TestAnswersAreNewMemory(t *testing.T) {
	r, key, b := opened(t, 0, 1, 2, 3)
	pass, salt := thePass(), theSalt()
	calls := map[string]func() [][]byte{
		"Bytes": func() [][]byte { b, _ := Bytes(r, key); return [][]byte{b} },
		"Read":  func() [][]byte { r, _ := Read(b); return lists(r) },
		"Copy":  func() [][]byte { return lists(Copy(r)) },
		"Open":  func() [][]byte { r, wraps, tags, _ := Open(b, pass, theRounds); return append(lists(r), wraps, tags) },
		"First": func() [][]byte { r, tags, _ := First(pass, salt, theRounds); return [][]byte{r.Salt, r.Check, tags} },
	}
	was := but(r, func(*Record) {})
	handed := [][]byte{key, b, pass, salt}
	var were [][]byte
	for _, list := range handed {
		were = append(were, slices.Clone(list))
	}
	for name, call := range calls {
		first, second := call(), call()
		var want [][]byte
		for _, list := range second {
			want = append(want, slices.Clone(list))
		}
		for i, list := range first {
			if len(list) == 0 {
				t.Fatalf("%s: list %d is empty", name, i)
			}
			spoil(list)
			for j, other := range first {
				if is := bytes.Equal(other, want[j]); is != (j > i) {
					t.Errorf("%s: list %d is spoilt, and list %d is as it was: %v", name, i, j, is)
				}
			}
		}
		if again := call(); !slices.EqualFunc(second, want, bytes.Equal) || !slices.EqualFunc(again, want, bytes.Equal) {
			t.Errorf("%s: an answer changes with another one", name)
		}
		if !same(r, was) || !slices.EqualFunc(handed, were, bytes.Equal) {
			t.Fatalf("%s: what was handed in changes with what was answered", name)
		}
	}
	sizes := Sizes(r)
	sizes[0] = -7
	if !slices.Equal(Sizes(r), plainSizes(was)) || !same(r, was) {
		t.Error("Sizes: an answer changes with another one")
	}
}

// One list as salt, as check, as key and as the slots' keys.
func TestOneListForAll(t *testing.T) {
	room := counted(0, 200)
	r := Record{Salt: room[:16], Check: room[:32]}
	for i := range slotCount {
		r.Slots[i] = slot.Slot{Used: true, Size: 1, Wrapped: room[:104]}
	}
	checkBytesOf(t, r, room[:32])
	checkRight(t, r)
	checkFirst(t, room[:16], room[:16], theRounds)
	if !bytes.Equal(room, counted(0, 200)) {
		t.Error("the list was changed")
	}
	row := bytesOf(t, r, room[:32])
	checkFits(t, row, row[48:80])
	if !Fits(row, row[48:80]) {
		t.Error("a key in the midst of the bytes does not fit")
	}
	checkOpen(t, row, row[:64], theRounds)
}

func TestAskedAgain(t *testing.T) {
	source := rand.New(rand.NewSource(1861))
	_, key, right := opened(t, 1)
	for range 200 {
		a, b := randomRecord(source), randomRecord(source)
		k, pass := randomList(source, keyBytes), randomPass(source)
		checkRight(t, a)
		checkBytesOf(t, b, k)
		checkOpen(t, right, thePass(), theRounds)
		checkRead(t, randomList(source, recordBytes))
		checkFirst(t, pass, randomList(source, saltBytes), 1+source.Intn(3))
		checkBytesOf(t, a, k)
		checkOpen(t, right, pass, theRounds)
		checkFits(t, right, key)
		checkRight(t, b)
	}
}
