package slot

import (
	"bytes"
	"encoding/hex"
	"fmt"
	"math"
	"math/rand"
	"slices"
	"testing"

	"nepenthe/api"
	"nepenthe/head"
	"nepenthe/wrap"
)

// vectors are keys and what they are wrapped to, worked out with OpenSSL (id-aes256-wrap).
var vectors = []struct {
	kek, keys []byte
	wrapped   string
}{
	{counted(0, 32), counted(0, 96), "b5204cd03fec46b5d1b6e62d15354e1bc2e05f4e05962c724a1a2e5f3af6d1d67dd2b1c9918d1cf4725843972e46ba46c082b10c859509727d14ea13056a0ee895f5fb3f0b88b9f60bb63020320d4dd8b69059abb25b48c5c36ec3d026201232a163c58971641476"},
	{all(1, 32), all(2, 96), "c9e29738887b21550111b12df261982617b32d77211c985645d83a5fa1ecbff98f046b8c40325abe38bdde4ff390ce5cb275046686a18fe76768eb7044ca2a70ba9adc6902c75e69ce82015d18132652b5caa744ae293ffdb39abc0e5be9e9e361c9e060bacafe3d"},
	{all(0, 32), all(0, 96), "9c86d9ef08debc349881cdeac8945883d2d254bcdeaa1da41f336519ce690d3f6e542bfe44698be74b549a4e52e8962809afe84f1eeecb88f4e4709bc0d7fc7b1fea50bc80ba08b479edd34833346d3fc928eec30d7e530e0453349997db6fa0c76235bdbbbbba11"},
	{all(255, 32), all(255, 96), "0036c532c2fcb1efedd34f2e09f762b805b29828b1e6717b01ac734c04d151b6b68b0bb2887ce789c096738b7176281265231d67dd211aaad3b788a7126708387c196a7de9c6d6e7d2ec90a86f770fdc53d78f5525ade20b1fb13b417470c17737b0ec2ff1714576"},
	{counted(200, 32), counted(100, 96), "e8de7a60d55e534cd52ee3ed0c0fbd311271b153f8cd841ac0343ddfe871a5d719792557abbc2060f2c801568b4214736c42e316c7362001134b2614b14fef285335ccb98aa2010915c94a9525fc5313b2e6acb81841b62e89b4b9427b8de1c147e9bbe8be2bd29f"},
}

// P17.1

func TestEachNumberHasBytesOfItsOwn(t *testing.T) {
	want := "01000000" + "00000708" + "1112131415161718" + "2122232425262728" + hex.EncodeToString(counted(0x30, 104))
	b, err := Bytes(used())
	if err != api.OK || hex.EncodeToString(b) != want {
		t.Errorf("Bytes = %x, %v, want %s", b, err, want)
	}
	if s, err := Read(unhex(t, want)); err != api.OK || !same(s, used()) {
		t.Errorf("Read = %+v, %v, want %+v", s, err, used())
	}
}

func TestOneThatIsNotUsedIsNoughts(t *testing.T) {
	for name, wrapped := range map[string][]byte{"nil": nil, "empty": {}, "empty, with room behind": counted(9, 104)[:0]} {
		s := Slot{Wrapped: wrapped}
		if !Right(s) {
			t.Errorf("%s: not right", name)
		}
		if b, err := Bytes(s); err != api.OK || !bytes.Equal(b, all(0, api.SlotSize)) {
			t.Errorf("%s: Bytes = %x, %v", name, b, err)
		}
	}
	if s, err := Read(all(0, slotBytes)); err != api.OK || !same(s, Slot{}) {
		t.Errorf("Read of noughts = %+v, %v", s, err)
	}
}

func TestSizesThatMayBe(t *testing.T) {
	for size := 1; size <= api.MaxSize; size++ {
		s := Slot{Used: true, Size: size, Wrapped: all(7, wrappedBytes)}
		if !Right(s) {
			t.Fatalf("size %d is not right", size)
		}
		checkRight(t, s)
		if got, err := Read(bytesOf(t, s)); err != api.OK || got.Size != size {
			t.Fatalf("size %d is read as %d, %v", size, got.Size, err)
		}
	}
}

func TestSizesThatMayNotBe(t *testing.T) {
	for _, size := range wrongSizes() {
		s := but(used(), func(s *Slot) { s.Size = size })
		if b, err := Bytes(s); Right(s) || err != api.ErrShape || len(b) != 0 {
			t.Errorf("size %d: %v, %x, %v, want ErrShape", size, Right(s), b, err)
		}
		checkRight(t, s)
		checkKeysErr(t, fmt.Sprintf("size %d", size), theKek(), s, api.ErrShape)
	}
}

func TestFloorsAtTheirEdges(t *testing.T) {
	for _, epoch := range edges() {
		for _, counter := range edges() {
			for _, size := range []int{0, 1, mostSectors, mostSectors + 1} {
				s := Slot{Used: true, Size: size, Epoch: epoch, Counter: counter, Wrapped: counted(1, wrappedBytes)}
				checkRight(t, s)
				b, _ := plainBytes(s)
				checkRead(t, b)
			}
			checkRight(t, Slot{Epoch: epoch, Counter: counter})
		}
	}
}

func TestWrappedOfOtherLengths(t *testing.T) {
	for name, wrapped := range wrongLists(wrappedBytes) {
		s := but(used(), func(s *Slot) { s.Wrapped = wrapped })
		if b, err := Bytes(s); Right(s) || err != api.ErrShape || len(b) != 0 {
			t.Errorf("%s: %v, %x, %v, want ErrShape", name, Right(s), b, err)
		}
		checkRight(t, s)
	}
	for n := range 300 {
		checkRight(t, but(used(), func(s *Slot) { s.Wrapped = counted(5, n) }))
		checkRight(t, Slot{Wrapped: all(0, n)})
	}
}

// Each byte of Wrapped may be any, in its place.
func TestWrappedIsAllOne(t *testing.T) {
	for _, wrapped := range [][]byte{all(0, wrappedBytes), all(255, wrappedBytes), counted(0, wrappedBytes), counted(200, wrappedBytes)} {
		s := but(used(), func(s *Slot) { s.Wrapped = wrapped })
		checkRight(t, s)
		if b := bytesOf(t, s); !bytes.Equal(b[24:], wrapped) {
			t.Errorf("Wrapped %x stands as %x", wrapped, b[24:])
		}
		checkRead(t, bytesOf(t, s))
	}
}

func TestOneThatIsNotUsedWithAPartThatIsNotNought(t *testing.T) {
	changes := map[string]func(*Slot){
		"Size 1":              func(s *Slot) { s.Size = 1 },
		"Size -1":             func(s *Slot) { s.Size = -1 },
		"the greatest Size":   func(s *Slot) { s.Size = mostSectors },
		"Size 2^32":           func(s *Slot) { s.Size = 1 << 32 },
		"the most Size":       func(s *Slot) { s.Size = math.MaxInt },
		"the least Size":      func(s *Slot) { s.Size = math.MinInt },
		"Epoch 1":             func(s *Slot) { s.Epoch = 1 },
		"Epoch 2^63":          func(s *Slot) { s.Epoch = 1 << 63 },
		"the most Epoch":      func(s *Slot) { s.Epoch = math.MaxUint64 },
		"Counter 1":           func(s *Slot) { s.Counter = 1 },
		"Counter 2^63":        func(s *Slot) { s.Counter = 1 << 63 },
		"the most Counter":    func(s *Slot) { s.Counter = math.MaxUint64 },
		"one byte":            func(s *Slot) { s.Wrapped = []byte{0} },
		"a Wrapped of nought": func(s *Slot) { s.Wrapped = all(0, wrappedBytes) },
		"a Wrapped":           func(s *Slot) { s.Wrapped = counted(0, wrappedBytes) },
		"all but the flag":    func(s *Slot) { *s = used(); s.Used = false },
	}
	for name, change := range changes {
		s := but(Slot{}, change)
		if b, err := Bytes(s); Right(s) || err != api.ErrShape || len(b) != 0 {
			t.Errorf("%s: %v, %x, %v, want ErrShape", name, Right(s), b, err)
		}
		checkRight(t, s)
		checkKeysErr(t, name, theKek(), s, api.ErrShape)
	}
}

func TestAnEmptyOneThatIsUsed(t *testing.T) {
	s := Slot{Used: true}
	if b, err := Bytes(s); Right(s) || err != api.ErrShape || len(b) != 0 {
		t.Errorf("%v, %x, %v, want ErrShape", Right(s), b, err)
	}
}

func TestBytesOfOtherLengths(t *testing.T) {
	right := slices.Concat(bytesOf(t, used()), all(0, 300))
	for n := range len(right) {
		if n == slotBytes {
			continue
		}
		name := fmt.Sprintf("%d bytes", n)
		checkReadErr(t, name, right[:n:n], api.ErrShape)
		checkReadErr(t, name+", with room behind", right[:n], api.ErrShape)
		checkReadErr(t, name+", all nought", all(0, n), api.ErrShape)
		checkReadErr(t, name+", all 0xff", all(255, n), api.ErrShape)
	}
	for name, b := range wrongLists(slotBytes) {
		checkReadErr(t, name, b, api.ErrShape)
	}
	for _, b := range [][]byte{right[:slotBytes], right[:slotBytes:slotBytes]} {
		if s, err := Read(b); err != api.OK || !same(s, used()) {
			t.Errorf("Read(%x) = %+v, %v", b, s, err)
		}
	}
}

// Each byte in turn is each other one: of a used slot, of the least and the greatest of them, and of one that is not used.
func TestOneByteIsAnother(t *testing.T) {
	slots := []Slot{used(), {},
		{Used: true, Size: 1, Wrapped: all(0, wrappedBytes)},
		{Used: true, Size: mostSectors, Epoch: math.MaxUint64, Counter: math.MaxUint64, Wrapped: all(255, wrappedBytes)}}
	for _, s := range slots {
		right := bytesOf(t, s)
		for at := range slotBytes {
			for x := range 256 {
				b := slices.Clone(right)
				b[at] = byte(x)
				checkRead(t, b)
				got, err := Read(b)
				if err != api.OK && !same(got, Slot{}) {
					t.Fatalf("byte %d is %#x: %+v beside %v", at, x, got, err)
				}
				if b[at] != right[at] && err == api.OK && same(got, s) {
					t.Fatalf("byte %d is %#x, and the slot is the same", at, x)
				}
				if !s.Used && b[at] != 0 && err != api.ErrForm {
					t.Fatalf("not used, byte %d is %#x: %v", at, x, err)
				}
				if at < 6 && b[at] != right[at] && err != api.ErrForm {
					t.Fatalf("byte %d is %#x: %v", at, x, err)
				}
				if s.Used && at >= 8 && err != api.OK {
					t.Fatalf("byte %d is %#x: %v", at, x, err)
				}
			}
		}
	}
}

func TestAFlagThatIsNeither(t *testing.T) {
	for flag := 2; flag < 256; flag++ {
		for _, s := range []Slot{used(), {}} {
			b := bytesOf(t, s)
			b[0] = byte(flag)
			checkReadErr(t, fmt.Sprintf("a flag of %d", flag), b, api.ErrForm)
		}
	}
	b := bytesOf(t, used())
	b[0] = 0
	checkReadErr(t, "a used slot with a flag of 0", b, api.ErrForm)
	b = all(0, slotBytes)
	b[0] = 1
	checkReadErr(t, "noughts with a flag of 1", b, api.ErrForm)
}

func TestNoughtsThatAreNone(t *testing.T) {
	for at := 1; at < 4; at++ {
		for bit := range 8 {
			checkReadErr(t, fmt.Sprintf("byte %d", at), changed(bytesOf(t, used()), at, 1<<bit), api.ErrForm)
			checkReadErr(t, fmt.Sprintf("byte %d, not used", at), changed(all(0, slotBytes), at, 1<<bit), api.ErrForm)
		}
	}
	b := bytesOf(t, used())
	copy(b[1:], []byte{1, 2, 3})
	checkReadErr(t, "all three", b, api.ErrForm)
}

func TestSizesThatAreRead(t *testing.T) {
	sizes := map[string]api.Errno{
		"00000000": api.ErrForm, "00000001": api.OK, "000000ff": api.OK, "00000100": api.OK, "0000ffff": api.OK, "0000fffe": api.OK,
		"00010000": api.ErrForm, "00010001": api.ErrForm, "01000000": api.ErrForm, "01000001": api.ErrForm, "7fffffff": api.ErrForm,
		"80000000": api.ErrForm, "80000001": api.ErrForm, "ffff0001": api.ErrForm, "fffffffe": api.ErrForm, "ffffffff": api.ErrForm,
	}
	for size, want := range sizes {
		b := bytesOf(t, used())
		copy(b[4:], unhex(t, size))
		checkRead(t, b)
		if s, err := Read(b); err != want || fmt.Sprintf("%08x", s.Size) != size && want == api.OK {
			t.Errorf("a size of %s is read as %+v, %v, want %v", size, s, err, want)
		}
		// With a flag of 0 each of them is wrong, but of noughts all over.
		b[0] = 0
		checkReadErr(t, "not used, of size "+size, b, api.ErrForm)
	}
}

// Wrong for several reasons: the flag, the noughts, the size and what stands behind.
func TestBytesThatAreWrongForSeveralReasons(t *testing.T) {
	for _, flag := range []byte{0, 1, 2, 255} {
		for _, nought := range []byte{0, 1, 128} {
			for _, size := range []string{"00000000", "00000001", "0000ffff", "00010000", "ffffffff"} {
				for _, rest := range []byte{0, 1, 255} {
					b := slices.Concat([]byte{flag, 0, nought, 0}, unhex(t, size), all(rest, slotBytes-8))
					checkRead(t, b)
					checkReadErr(t, "one too long", append(b, 0), api.ErrShape)
					checkReadErr(t, "one too short", b[:slotBytes-1], api.ErrShape)
				}
			}
		}
	}
}

func TestSlotsThatAreWrongForSeveralReasons(t *testing.T) {
	for _, isUsed := range []bool{true, false} {
		for _, size := range append(wrongSizes(), 1, 9, mostSectors) {
			for _, n := range []uint64{0, 1, math.MaxUint64} {
				for _, length := range []int{0, 1, wrappedBytes - 1, wrappedBytes, wrappedBytes + 1} {
					s := Slot{Used: isUsed, Size: size, Epoch: n, Counter: n / 2, Wrapped: all(7, length)}
					checkRight(t, s)
					for _, kek := range [][]byte{nil, all(0, kekBytes-1), theKek(), all(0, kekBytes+1)} {
						checkKeys(t, kek, s)
					}
				}
			}
		}
	}
}

func TestRandomSlots(t *testing.T) {
	source := rand.New(rand.NewSource(1701))
	for range 20000 {
		s := randomSlot(source)
		checkRight(t, s)
		b, _ := Bytes(s)
		checkRead(t, b)
	}
}

func TestRandomBytes(t *testing.T) {
	source := rand.New(rand.NewSource(1702))
	for range 20000 {
		b, _ := plainBytes(randomRight(source))
		for range source.Intn(3) {
			b[source.Intn(8)] ^= 1 << source.Intn(8)
		}
		if source.Intn(4) == 0 {
			b[source.Intn(slotBytes)] ^= byte(source.Intn(256))
		}
		checkRead(t, b)
		checkRead(t, randomBytes(source, slotBytes))
		checkRead(t, randomList(source, slotBytes))
	}
}

// Copy answers all of a slot, one that may not be too, as it was.
func TestCopies(t *testing.T) {
	slots := []Slot{{}, used(), theSlot(t), {Used: true}, {Wrapped: []byte{}}, {Size: -1, Wrapped: all(3, 5)}, {Epoch: 1}, {Counter: 2}, {Used: true, Size: math.MinInt, Wrapped: all(4, 70000)}}
	for _, s := range slots {
		was := but(s, func(*Slot) {})
		got := Copy(s)
		if !same(got, was) || (got.Wrapped == nil) != (s.Wrapped == nil) {
			t.Errorf("Copy(%+v) = %+v", s, got)
		}
		spoil(got.Wrapped)
		if !same(s, was) {
			t.Errorf("%+v changes with its copy", was)
		}
		got = Copy(s)
		spoil(s.Wrapped)
		if !same(got, was) {
			t.Errorf("the copy of %+v changes with it", was)
		}
	}
}

func TestCopiesShareNoRoom(t *testing.T) {
	room := counted(0, 300)
	s := Slot{Used: true, Size: 1, Wrapped: room[20:124]}
	got := Copy(s)
	spoil(got.Wrapped)
	if !bytes.Equal(room, counted(0, 300)) {
		t.Errorf("what lies beside a slot's bytes changes with its copy")
	}
	if got := append(Copy(Slot{Wrapped: room[:0]}).Wrapped, 99); len(got) != 1 || room[0] != 0 {
		t.Errorf("a copy without bytes has the room of what it was copied from")
	}
}

// P17.2

func TestVectors(t *testing.T) {
	for _, v := range vectors {
		s := made(t, v.kek, 9, theFloor, v.keys)
		if hex.EncodeToString(s.Wrapped) != v.wrapped {
			t.Errorf("Make(%x, .., %x).Wrapped = %x, want %s", v.kek, v.keys, s.Wrapped, v.wrapped)
		}
		s.Wrapped = unhex(t, v.wrapped)
		if keys, err := Keys(v.kek, s); err != api.OK || !bytes.Equal(keys, v.keys) {
			t.Errorf("Keys(%x, %s) = %x, %v, want %x", v.kek, v.wrapped, keys, err, v.keys)
		}
	}
}

// What is made is what the chapter's words say, to the byte.
func TestBytesOfOneThatWasMade(t *testing.T) {
	s := made(t, counted(0, 32), 0x1234, api.Head{Epoch: 2, Counter: 5}, counted(0, 96))
	want := "01000000" + "00001234" + "0000000000000002" + "0000000000000005" + vectors[0].wrapped
	if b, err := Bytes(s); err != api.OK || hex.EncodeToString(b) != want {
		t.Errorf("Bytes = %x, %v, want %s", b, err, want)
	}
}

// Wrapped are the keys as layer 10 wraps them.
func TestWrappedIsThatOfTheLayerBelow(t *testing.T) {
	for _, v := range vectors {
		want, err := wrap.Wrap(v.kek, v.keys)
		s := made(t, v.kek, 1, api.Head{}, v.keys)
		if err != api.OK || !bytes.Equal(s.Wrapped, want) {
			t.Errorf("Wrapped = %x, want %x, %v", s.Wrapped, want, err)
		}
	}
}

func TestMakeOfEachSize(t *testing.T) {
	for _, size := range rightSizes() {
		s := made(t, theKek(), size, theFloor, theKeys())
		if s.Size != size || !Right(s) {
			t.Errorf("size %d is made as %+v", size, s)
		}
		checkMake(t, theKek(), size, theFloor, theKeys())
	}
	for size := -1000; size <= 1000; size++ {
		checkMake(t, theKek(), size, theFloor, theKeys())
	}
	for size := mostSectors - 300; size <= mostSectors+300; size++ {
		checkMake(t, theKek(), size, theFloor, theKeys())
	}
	for _, size := range wrongSizes() {
		checkMakeErr(t, fmt.Sprintf("size %d", size), theKek(), size, theKeys())
	}
}

// Of the floor its Epoch and Counter count alone, whatever the rest of it is.
func TestMakeOfManyFloors(t *testing.T) {
	for _, h := range manyHeads() {
		for _, epoch := range edges() {
			floor := placed(h, epoch, ^epoch)
			s := made(t, theKek(), 7, floor, theKeys())
			if s.Epoch != epoch || s.Counter != ^epoch || !Right(s) {
				t.Errorf("the floor %+v is made to %+v", floor, s)
			}
			if !Dead(s, floor) {
				t.Errorf("the floor %+v is not dead", floor)
			}
			if other := made(t, theKek(), 7, api.Head{Epoch: epoch, Counter: ^epoch}, theKeys()); !same(s, other) {
				t.Errorf("the floor %+v: %+v and %+v", floor, s, other)
			}
		}
	}
	for _, epoch := range edges() {
		for _, counter := range edges() {
			checkMake(t, theKek(), 1, api.Head{Epoch: epoch, Counter: counter}, theKeys())
		}
	}
}

func TestKeysOfOtherLengths(t *testing.T) {
	for name, keys := range wrongLists(keyBytes) {
		checkMakeErr(t, "keys: "+name, theKek(), 9, keys)
	}
	for n := range 300 {
		checkMake(t, theKek(), 9, theFloor, counted(0, n))
	}
}

func TestKeksOfOtherLengths(t *testing.T) {
	s := theSlot(t)
	for name, kek := range wrongLists(kekBytes) {
		checkMakeErr(t, "kek: "+name, kek, 9, theKeys())
		checkKeysErr(t, "kek: "+name, kek, s, api.ErrShape)
		checkKeysErr(t, "not used, kek: "+name, kek, Slot{}, api.ErrShape)
	}
	for n := range 100 {
		checkMake(t, counted(0, n), 9, theFloor, theKeys())
		checkKeys(t, counted(0, n), s)
		checkKeys(t, counted(0, n), Slot{})
	}
}

// Each is wrong for one, two or three reasons, or none.
func TestMakeWrongForSeveralReasons(t *testing.T) {
	for _, kek := range [][]byte{nil, {}, counted(0, 31), counted(0, 32), counted(0, 33)} {
		for _, keys := range [][]byte{nil, {}, counted(0, 88), counted(0, 95), counted(0, 96), counted(0, 97), counted(0, 104)} {
			for _, size := range []int{math.MinInt, -1, 0, 1, mostSectors, mostSectors + 1, math.MaxInt} {
				checkMake(t, kek, size, theFloor, keys)
				wrong := len(kek) != 32 || len(keys) != 96 || size < 1 || size > 65535
				if _, err := Make(kek, size, theFloor, keys); (err == api.ErrShape) != wrong || (err == api.OK) == wrong {
					t.Errorf("Make(%x, %d, .., %x): %v", kek, size, keys, err)
				}
			}
		}
	}
}

func TestOneThatIsNotUsedHasNoKeys(t *testing.T) {
	for _, wrapped := range [][]byte{nil, {}, counted(0, wrappedBytes)[:0]} {
		for _, kek := range [][]byte{theKek(), all(0, 32), all(255, 32)} {
			checkKeysErr(t, "not used", kek, Slot{Wrapped: wrapped}, api.ErrNone)
		}
	}
}

// What may not be is told ahead of all else: keys that fit don't help, nor that it is not used.
func TestErrorsOfKeysInOrder(t *testing.T) {
	right := theSlot(t)
	cases := []struct {
		name string
		kek  []byte
		slot Slot
		want api.Errno
	}{
		{"right", theKek(), right, api.OK},
		{"a size of 0, keys that fit", theKek(), but(right, func(s *Slot) { s.Size = 0 }), api.ErrShape},
		{"a size too great, keys that fit", theKek(), but(right, func(s *Slot) { s.Size = mostSectors + 1 }), api.ErrShape},
		{"not used, keys that fit", theKek(), but(right, func(s *Slot) { s.Used = false }), api.ErrShape},
		{"not used, a size", theKek(), Slot{Size: 1}, api.ErrShape},
		{"not used, a floor", theKek(), Slot{Epoch: 1}, api.ErrShape},
		{"not used, a counter", theKek(), Slot{Counter: 1}, api.ErrShape},
		{"not used, keys", theKek(), Slot{Wrapped: right.Wrapped}, api.ErrShape},
		{"not used, a short kek", counted(0, 31), Slot{}, api.ErrShape},
		{"not used, a nil kek", nil, Slot{}, api.ErrShape},
		{"not used", theKek(), Slot{}, api.ErrNone},
		{"a long kek, keys that do not fit", counted(0, 33), used(), api.ErrShape},
		{"a wrong slot, a wrong kek", counted(0, 33), Slot{Used: true}, api.ErrShape},
		{"a short Wrapped", theKek(), but(right, func(s *Slot) { s.Wrapped = s.Wrapped[:96] }), api.ErrShape},
		{"a Wrapped that layer 10 would take", theKek(), but(right, func(s *Slot) { s.Wrapped, _ = wrap.Wrap(theKek(), all(1, 88)) }), api.ErrShape},
		{"a long Wrapped that layer 10 would take", theKek(), but(right, func(s *Slot) { s.Wrapped, _ = wrap.Wrap(theKek(), all(1, 104)) }), api.ErrShape},
		{"keys that do not fit", theKek(), used(), api.ErrIntegrity},
	}
	for _, c := range cases {
		if keys, err := Keys(c.kek, c.slot); err != c.want || (len(keys) == keyBytes) != (c.want == api.OK) || c.want != api.OK && len(keys) != 0 {
			t.Errorf("%s: Keys = %x, %v, want %v", c.name, keys, err, c.want)
		}
		checkKeys(t, c.kek, c.slot)
	}
}

func TestAKekThatDiffersInOneBit(t *testing.T) {
	s := theSlot(t)
	for bit := range 8 * kekBytes {
		other := changed(theKek(), bit/8, 1<<(bit%8))
		checkKeysErr(t, fmt.Sprintf("bit %d of the kek", bit), other, s, api.ErrIntegrity)
		if wrapped := made(t, other, 9, theFloor, theKeys()).Wrapped; bytes.Equal(wrapped, s.Wrapped) {
			t.Errorf("bit %d of the kek: wrapped to the same", bit)
		}
	}
}

func TestWrappedThatDiffersInOneBit(t *testing.T) {
	s := theSlot(t)
	for bit := range 8 * wrappedBytes {
		other := but(s, func(s *Slot) { s.Wrapped = changed(s.Wrapped, bit/8, 1<<(bit%8)) })
		checkKeysErr(t, fmt.Sprintf("bit %d of Wrapped", bit), theKek(), other, api.ErrIntegrity)
	}
	for name, wrapped := range map[string][]byte{"noughts": all(0, wrappedBytes), "0xff": all(255, wrappedBytes), "the keys themselves": slices.Concat(all(0xa6, 8), theKeys())} {
		checkKeysErr(t, name, theKek(), but(s, func(s *Slot) { s.Wrapped = wrapped }), api.ErrIntegrity)
	}
}

func TestKeysThatDifferInOneBit(t *testing.T) {
	seen := map[string]int{string(theSlot(t).Wrapped): -1}
	for bit := range 8 * keyBytes {
		keys := changed(theKeys(), bit/8, 1<<(bit%8))
		s := made(t, theKek(), 9, theFloor, keys)
		if other, there := seen[string(s.Wrapped)]; there {
			t.Fatalf("bits %d and %d: wrapped to the same", bit, other)
		}
		seen[string(s.Wrapped)] = bit
		if got, err := Keys(theKek(), s); err != api.OK || !bytes.Equal(got, keys) {
			t.Fatalf("bit %d: %x, %v", bit, got, err)
		}
	}
}

// Keys hang on Wrapped and kek alone: not on the size, nor on the floor.
func TestKeysOfASlotWithAnotherSizeOrFloor(t *testing.T) {
	for _, size := range rightSizes() {
		for _, n := range edges() {
			s := but(theSlot(t), func(s *Slot) { s.Size, s.Epoch, s.Counter = size, n, ^n })
			if keys, err := Keys(theKek(), s); err != api.OK || !bytes.Equal(keys, theKeys()) {
				t.Errorf("%+v: %x, %v", s, keys, err)
			}
		}
	}
}

func TestRandomKeysAndKeks(t *testing.T) {
	source := rand.New(rand.NewSource(1711))
	for range 400 {
		kek, keys := randomList(source, kekBytes), randomList(source, keyBytes)
		size, floor := randomSize(source), randomHead(source)
		checkMake(t, kek, size, floor, keys)
		s, _ := Make(kek, size, floor, keys)
		checkKeys(t, kek, s)
		checkKeys(t, randomList(source, kekBytes), s)
		checkKeys(t, kek, randomSlot(source))
		if len(s.Wrapped) > 0 {
			at := source.Intn(len(s.Wrapped))
			s.Wrapped[at] ^= byte(source.Intn(256))
			checkKeys(t, kek, s)
		}
	}
}

func TestDeadOfTheExample(t *testing.T) {
	s := made(t, theKek(), 9, api.Head{Epoch: 2, Counter: 5}, theKeys())
	for h, want := range map[api.Head]bool{{Epoch: 2, Counter: 5}: true, {Epoch: 1, Counter: 9}: true, {Epoch: 2, Counter: 6}: false} {
		if got := Dead(s, h); got != want {
			t.Errorf("Dead(2 5, %+v) = %v", h, got)
		}
	}
}

// Below, at and above the floor: of the Epoch alone, of the Counter alone, and of both.
func TestHeadsAboutTheFloor(t *testing.T) {
	for _, epoch := range []uint64{1, 7, 255, 256, math.MaxUint32, 1 << 32, 1 << 63, math.MaxUint64 - 1} {
		for _, counter := range []uint64{1, 7, 255, 256, math.MaxUint32, 1 << 32, 1 << 63, math.MaxUint64 - 1} {
			s := but(used(), func(s *Slot) { s.Epoch, s.Counter = epoch, counter })
			cases := []struct {
				epoch, counter uint64
				dead           bool
			}{
				{epoch - 1, counter - 1, true}, {epoch - 1, counter, true}, {epoch - 1, counter + 1, true},
				{epoch, counter - 1, true}, {epoch, counter, true}, {epoch, counter + 1, false},
				{epoch + 1, counter - 1, false}, {epoch + 1, counter, false}, {epoch + 1, counter + 1, false},
				{0, 0, true}, {epoch - 1, math.MaxUint64, true}, {0, math.MaxUint64, true},
				{epoch, 0, true}, {epoch, math.MaxUint64, false}, {epoch + 1, 0, false},
				{math.MaxUint64, 0, false}, {math.MaxUint64, math.MaxUint64, false},
			}
			for _, c := range cases {
				if got := Dead(s, api.Head{Epoch: c.epoch, Counter: c.counter}); got != c.dead {
					t.Errorf("floor %d %d: Dead(%d %d) = %v", epoch, counter, c.epoch, c.counter, got)
				}
			}
		}
	}
}

func TestFloorsAtTheLeastAndTheGreatest(t *testing.T) {
	least := Slot{Used: true, Size: 1, Wrapped: all(0, wrappedBytes)}
	greatest := Slot{Used: true, Size: 1, Epoch: math.MaxUint64, Counter: math.MaxUint64, Wrapped: all(0, wrappedBytes)}
	for _, epoch := range edges() {
		for _, counter := range edges() {
			h := api.Head{Epoch: epoch, Counter: counter}
			if got, want := Dead(least, h), epoch == 0 && counter == 0; got != want {
				t.Errorf("floor 0 0: Dead(%+v) = %v", h, got)
			}
			if !Dead(greatest, h) {
				t.Errorf("the greatest floor: Dead(%+v) = false", h)
			}
		}
	}
}

func TestHeadsAtTheirEdges(t *testing.T) {
	for _, epoch := range edges() {
		for _, counter := range edges() {
			s := but(used(), func(s *Slot) { s.Epoch, s.Counter = epoch, counter })
			for _, e := range edges() {
				for _, c := range edges() {
					checkDead(t, s, api.Head{Epoch: e, Counter: c})
				}
			}
		}
	}
}

// Whatever the rest of a head is, and whether a page may have it: its Epoch and its Counter count alone.
func TestHeadsThatMayNotBe(t *testing.T) {
	s := made(t, theKek(), 9, api.Head{Epoch: 2, Counter: 5}, theKeys())
	for _, h := range manyHeads() {
		for _, c := range []struct {
			epoch, counter uint64
			dead           bool
		}{{2, 5, true}, {2, 4, true}, {1, 9, true}, {2, 6, false}, {3, 0, false}} {
			if got := Dead(s, placed(h, c.epoch, c.counter)); got != c.dead {
				t.Errorf("Dead(%+v) = %v", placed(h, c.epoch, c.counter), got)
			}
		}
	}
}

func TestAllIsDeadBeneathOneThatIsNotUsed(t *testing.T) {
	for _, s := range []Slot{{}, {Wrapped: []byte{}}, {Size: 3}, {Epoch: 2, Counter: 5}, but(used(), func(s *Slot) { s.Used = false })} {
		for _, h := range manyHeads() {
			for _, n := range edges() {
				if !Dead(s, placed(h, n, ^n)) || !Dead(s, placed(h, n, n)) || !Dead(s, placed(h, math.MaxUint64, math.MaxUint64)) {
					t.Errorf("not dead beneath %+v: %+v, at %d", s, h, n)
				}
			}
		}
	}
}

// A used slot that may not be has a floor all the same.
func TestDeadBeneathAUsedOneThatMayNotBe(t *testing.T) {
	for _, s := range []Slot{{Used: true, Epoch: 2, Counter: 5}, {Used: true, Size: -1, Epoch: 2, Counter: 5}, {Used: true, Size: 9, Epoch: 2, Counter: 5, Wrapped: all(0, 103)}} {
		if !Dead(s, api.Head{Epoch: 2, Counter: 5}) || !Dead(s, api.Head{Epoch: 1, Counter: 9}) || Dead(s, api.Head{Epoch: 2, Counter: 6}) || Dead(s, api.Head{Epoch: 3}) {
			t.Errorf("beneath %+v", s)
		}
	}
}

func TestRandomHeads(t *testing.T) {
	source := rand.New(rand.NewSource(1712))
	for range 50000 {
		s, h := randomSlot(source), randomHead(source)
		checkDead(t, s, h)
		// Near the floor, each alone and both.
		checkDead(t, s, placed(h, s.Epoch, h.Counter))
		checkDead(t, s, placed(h, h.Epoch, s.Counter))
		checkDead(t, s, placed(h, s.Epoch+uint64(source.Intn(3))-1, s.Counter+uint64(source.Intn(3))-1))
	}
}

// P17.3

func TestSlotsThereAndBack(t *testing.T) {
	source := rand.New(rand.NewSource(1731))
	slots := []Slot{{}, used(), theSlot(t), {Used: true, Size: 1, Wrapped: all(0, wrappedBytes)},
		{Used: true, Size: mostSectors, Epoch: math.MaxUint64, Counter: math.MaxUint64, Wrapped: all(255, wrappedBytes)}}
	for range 5000 {
		slots = append(slots, randomRight(source))
	}
	for _, s := range slots {
		if got, err := Read(bytesOf(t, s)); err != api.OK || !same(got, s) || !Right(got) {
			t.Fatalf("Read(Bytes(%+v)) = %+v, %v", s, got, err)
		}
	}
}

func TestBytesThereAndBack(t *testing.T) {
	source := rand.New(rand.NewSource(1732))
	read := 0
	for range 20000 {
		b := randomBytes(source, slotBytes)
		copy(b, []byte{1, 0, 0, 0, 0, 0})
		b[source.Intn(8)] = byte(source.Intn(3))
		s, err := Read(b)
		if err != api.OK {
			continue
		}
		read++
		if got := bytesOf(t, s); !bytes.Equal(got, b) || !Right(s) {
			t.Fatalf("Bytes(Read(%x)) = %x", b, got)
		}
	}
	if read < 5000 {
		t.Errorf("only %d were a slot's", read)
	}
	if s, err := Read(all(0, slotBytes)); err != api.OK || !bytes.Equal(bytesOf(t, s), all(0, slotBytes)) {
		t.Errorf("noughts: %+v, %v", s, err)
	}
}

func TestUnlikeSlotsHaveUnlikeBytes(t *testing.T) {
	seen := map[string]Slot{}
	see := func(s Slot) {
		b := string(bytesOf(t, s))
		if other, there := seen[b]; there && !same(s, other) {
			t.Fatalf("%+v and %+v have the same bytes", s, other)
		}
		seen[b] = s
	}
	see(Slot{})
	for _, size := range rightSizes() {
		see(but(used(), func(s *Slot) { s.Size = size }))
	}
	for _, n := range edges() {
		see(but(used(), func(s *Slot) { s.Epoch = n }))
		see(but(used(), func(s *Slot) { s.Counter = n }))
	}
	for bit := range 8 * wrappedBytes {
		see(but(used(), func(s *Slot) { s.Wrapped[bit/8] ^= 1 << (bit % 8) }))
	}
}

// P17.4

func TestASlotThatWasMadeTellsItsKeys(t *testing.T) {
	source := rand.New(rand.NewSource(1741))
	for i := range 250 {
		kek, keys := randomBytes(source, kekBytes), randomBytes(source, keyBytes)
		if i < len(vectors) {
			kek, keys = vectors[i].kek, vectors[i].keys
		}
		s := made(t, kek, 1+source.Intn(mostSectors), randomHead(source), keys)
		read, err := Read(bytesOf(t, s))
		if err != api.OK {
			t.Fatal(err)
		}
		for _, s := range []Slot{s, Copy(s), read} {
			if got, err := Keys(kek, s); err != api.OK || !bytes.Equal(got, keys) {
				t.Fatalf("Keys(%x, %+v) = %x, %v, want %x", kek, s, got, err, keys)
			}
		}
	}
}

// Wrapped anew under another key, and the same size and floor: only the new key tells them.
func TestKeysWrappedAnew(t *testing.T) {
	was := theSlot(t)
	keys, _ := Keys(theKek(), was)
	kek := counted(90, kekBytes)
	s := made(t, kek, was.Size, api.Head{Epoch: was.Epoch, Counter: was.Counter}, keys)
	if got, err := Keys(kek, s); err != api.OK || !bytes.Equal(got, theKeys()) {
		t.Errorf("%x, %v", got, err)
	}
	checkKeysErr(t, "the old key", theKek(), s, api.ErrIntegrity)
	checkKeysErr(t, "the new key, the old slot", kek, was, api.ErrIntegrity)
}

// P17.5

func TestWhatIsAheadOfADeadHeadIsDead(t *testing.T) {
	source := rand.New(rand.NewSource(1751))
	var heads []api.Head
	for _, epoch := range []uint64{0, 1, 2, 3, 1 << 32, math.MaxUint64 - 1, math.MaxUint64} {
		for _, counter := range []uint64{0, 1, 4, 5, 6, 1 << 63, math.MaxUint64} {
			heads = append(heads, api.Head{Epoch: epoch, Counter: counter})
		}
	}
	for range 40 {
		heads = append(heads, randomHead(source))
	}
	var slots []Slot
	for _, h := range heads {
		slots = append(slots, made(t, theKek(), 1, h, theKeys()))
	}
	for _, s := range append(slots, Slot{}) {
		for _, b := range heads {
			if !Dead(s, b) {
				continue
			}
			for _, a := range heads {
				if head.Less(a, b) && !Dead(s, a) {
					t.Fatalf("beneath %d %d %+v is dead, and %+v, ahead of it, is not", s.Epoch, s.Counter, b, a)
				}
			}
		}
	}
}

// The floor of a slot is dead, and the next head behind it is not.
func TestTheFloorIsTheLastThatIsDead(t *testing.T) {
	source := rand.New(rand.NewSource(1752))
	for range 3000 {
		s := randomRight(source)
		if !s.Used {
			continue
		}
		floor := api.Head{Epoch: s.Epoch, Counter: s.Counter}
		next := api.Head{Epoch: s.Epoch, Counter: s.Counter + 1}
		if s.Counter == math.MaxUint64 {
			next = api.Head{Epoch: s.Epoch + 1}
		}
		if !Dead(s, floor) {
			t.Fatalf("the floor %+v is not dead", floor)
		}
		if head.Less(floor, next) && Dead(s, next) {
			t.Fatalf("%+v is dead beneath %d %d", next, s.Epoch, s.Counter)
		}
	}
}

// Beside the promises: what is handed in, and what is answered.

// within is a list in the midst of a greater one, and the greater one.
func within(b []byte) ([]byte, []byte) {
	room := slices.Concat(all(0x77, 40), b, all(0x77, 200))
	return room[40 : 40+len(b)], room
}

// spoil changes all of a list's memory, the room behind it too.
func spoil(b []byte) {
	b = b[:cap(b)]
	for i := range b {
		b[i] ^= 0x99
	}
}

func TestNothingHandedInIsChanged(t *testing.T) {
	for _, n := range []int{0, 31, 32, 33, 95, 96, 97, 103, 104, 105, 127, 128, 129} {
		for _, source := range [][]byte{counted(0, n), all(0, n), slices.Concat([]byte{1, 0, 0, 0, 0, 0, 1, 1}, all(5, 200))[:n]} {
			for _, m := range []int{0, 31, 32, 33} {
				b, room := within(source)
				kek, kekRoom := within(counted(0, m))
				was, kekWas := slices.Clone(room), slices.Clone(kekRoom)
				Read(b)
				Make(kek, 9, theFloor, b)
				for _, s := range []Slot{{Used: true, Size: 9, Wrapped: b}, {Wrapped: b}, {Used: true, Wrapped: b}} {
					Right(s)
					Bytes(s)
					Copy(s)
					Keys(kek, s)
					Dead(s, theFloor)
				}
				if !bytes.Equal(room, was) || !bytes.Equal(kekRoom, kekWas) {
					t.Fatalf("%d bytes, or a kek, or what is beside them, were changed", n)
				}
			}
		}
	}
	wrapped, room := within(theSlot(t).Wrapped)
	was := slices.Clone(room)
	s := but(theSlot(t), func(s *Slot) { s.Wrapped = wrapped })
	if keys, err := Keys(theKek(), s); err != api.OK || !bytes.Equal(keys, theKeys()) || !bytes.Equal(room, was) {
		t.Errorf("Keys of a slot in the midst of a list: %x, %v", keys, err)
	}
}

func TestWhatLiesBehindAListIsAllOne(t *testing.T) {
	kek, _ := within(theKek())
	keys, _ := within(theKeys())
	s := made(t, kek, 9, theFloor, keys)
	if !same(s, theSlot(t)) {
		t.Errorf("made in the midst of lists: %+v", s)
	}
	s.Wrapped, _ = within(s.Wrapped)
	checkRight(t, s)
	checkKeys(t, kek, s)
	b, _ := within(bytesOf(t, s))
	if got, err := Read(b); err != api.OK || !same(got, s) {
		t.Errorf("Read = %+v, %v", got, err)
	}
}

func TestWhatIsHandedInIsNotKept(t *testing.T) {
	kek, keys := theKek(), theKeys()
	s := made(t, kek, 9, theFloor, keys)
	spoil(kek)
	spoil(keys)
	if want, _ := plainMake(theKek(), 9, theFloor, theKeys()); !same(s, want) {
		t.Error("a slot changes with what it was made of")
	}
	b := bytesOf(t, s)
	told, _ := Keys(theKek(), s)
	want := slices.Clone(b)
	spoil(s.Wrapped)
	if !bytes.Equal(b, want) || !bytes.Equal(told, theKeys()) {
		t.Error("bytes, or keys, change with their slot")
	}
	read, err := Read(b)
	spoil(b)
	if err != api.OK || !same(read, theSlot(t)) {
		t.Error("a slot changes with the bytes of which it was read")
	}
}

func TestAnswersAreNewMemory(t *testing.T) {
	s := theSlot(t)
	b := bytesOf(t, s)
	kek, keys := theKek(), theKeys()
	none := Slot{}
	calls := map[string]func() []byte{
		"Bytes":             func() []byte { b, _ := Bytes(s); return b },
		"Bytes of not used": func() []byte { b, _ := Bytes(none); return b },
		"Read":              func() []byte { s, _ := Read(b); return s.Wrapped },
		"Make":              func() []byte { s, _ := Make(kek, 9, theFloor, keys); return s.Wrapped },
		"Keys":              func() []byte { k, _ := Keys(kek, s); return k },
		"Copy":              func() []byte { return Copy(s).Wrapped },
	}
	was, bytesWere := but(s, func(*Slot) {}), slices.Clone(b)
	for name, call := range calls {
		first, second := call(), call()
		want := slices.Clone(second)
		if len(first) == 0 {
			t.Fatalf("%s answers nothing", name)
		}
		spoil(first)
		if !bytes.Equal(second, want) || !bytes.Equal(call(), want) {
			t.Errorf("%s: an answer changes with another one", name)
		}
		if !same(s, was) || !bytes.Equal(b, bytesWere) || !bytes.Equal(kek, theKek()) || !bytes.Equal(keys, theKeys()) {
			t.Fatalf("%s: what was handed in changes with what was answered", name)
		}
	}
}

// One list as kek, as keys and as Wrapped.
func TestOneListForAll(t *testing.T) {
	room := counted(0, 200)
	s := made(t, room[:32], 9, theFloor, room[:96])
	if !same(s, theSlot(t)) {
		t.Errorf("made of one list: %+v", s)
	}
	checkKeys(t, room[:32], Slot{Used: true, Size: 1, Wrapped: room[:104]})
	row := slices.Concat(s.Wrapped, theKek())
	keys, err := Keys(row[104:], Slot{Used: true, Size: 1, Wrapped: row[:104]})
	if err != api.OK || !bytes.Equal(keys, theKeys()) || !bytes.Equal(row, slices.Concat(s.Wrapped, theKek())) {
		t.Errorf("Keys of one list: %x, %v", keys, err)
	}
}

func TestAskedAgain(t *testing.T) {
	source := rand.New(rand.NewSource(1761))
	for range 300 {
		a, b := randomSlot(source), randomSlot(source)
		kek := randomList(source, kekBytes)
		checkRight(t, a)
		checkKeys(t, kek, b)
		checkRight(t, theSlot(t))
		checkKeys(t, theKek(), theSlot(t))
		checkRead(t, randomList(source, slotBytes))
		checkRight(t, a)
		checkMake(t, kek, randomSize(source), randomHead(source), randomList(source, keyBytes))
		checkDead(t, b, randomHead(source))
		checkDead(t, a, randomHead(source))
	}
}
