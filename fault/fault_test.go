package fault

import (
	"bytes"
	"fmt"
	"math"
	"math/big"
	"math/rand"
	"reflect"
	"slices"
	"testing"

	"nepenthe/api"
)

// blockBytes is how many bytes the greatest block of an array has: 32 pages of 4096 + 88.
const blockBytes = 32 * 4184

func randomBytes(source *rand.Rand, n int) []byte {
	b := make([]byte, n)
	source.Read(b)
	return b
}

// counted is the bytes from first on, each one more than the one ahead.
func counted(first byte, n int) []byte {
	b := make([]byte, n)
	for i := range b {
		b[i] = first + byte(i)
	}
	return b
}

func all(x byte, n int) []byte {
	return bytes.Repeat([]byte{x}, n)
}

// bitAt is n bytes of which one bit alone is set.
func bitAt(bit, n int) []byte {
	b := make([]byte, n)
	b[bit/8] = 1 << (bit % 8)
	return b
}

func inverted(b []byte) []byte {
	out := slices.Clone(b)
	for i := range out {
		out[i] = ^out[i]
	}
	return out
}

// bools are a list's bits, one by one: those of the first byte first, of each byte the least first.
func bools(b []byte) []bool {
	row := make([]bool, 0, 8*len(b))
	for _, x := range b {
		for range 8 {
			row = append(row, x%2 == 1)
			x /= 2
		}
	}
	return row
}

// packed is the list of which bools are the bits.
func packed(row []bool) []byte {
	b := make([]byte, len(row)/8)
	for i, one := range row {
		if one {
			b[i/8] += [8]byte{1, 2, 4, 8, 16, 32, 64, 128}[i%8]
		}
	}
	return b
}

// again is the mask's bits again and again, n of them; all are done, if it is empty.
func again(mask []byte, n int) []bool {
	row := bools(mask)
	if len(row) == 0 {
		row = []bool{true}
	}
	var out []bool
	for len(out) < n {
		out = append(out, row...)
	}
	return out[:n]
}

// plainTorn clears bit by bit, as the chapter says.
func plainTorn(was, to, mask []byte) []byte {
	out, next, done := bools(was), bools(to), again(mask, 8*len(was))
	for i := range out {
		if out[i] && !next[i] && done[i] {
			out[i] = false
		}
	}
	return packed(out)
}

// plainFailed lists the bits that are to be cleared, and leaves the last of the list out.
func plainFailed(was, to, mask []byte) []byte {
	out, next, done := bools(was), bools(to), again(mask, 8*len(was))
	var due []int
	for i := range out {
		if out[i] && !next[i] {
			due = append(due, i)
		}
	}
	for n, i := range due {
		if n+1 < len(due) && done[i] {
			out[i] = false
		}
	}
	return packed(out)
}

// plainErased sets bit by bit.
func plainErased(was, mask []byte) []byte {
	out, done := bools(was), again(mask, 8*len(was))
	for i := range out {
		if !out[i] && done[i] {
			out[i] = true
		}
	}
	return packed(out)
}

// plainBit works out which bit of the mask is meant with numbers of any size.
func plainBit(mask []byte, i int) bool {
	if i < 0 {
		return false
	}
	if len(mask) == 0 {
		return true
	}
	place, bit := new(big.Int).DivMod(big.NewInt(int64(i)), big.NewInt(8), new(big.Int))
	place.Mod(place, big.NewInt(int64(len(mask))))
	return bools(mask[place.Int64():][:1])[bit.Int64()]
}

// short tells bytes, of a long list those at its ends alone.
func short(b []byte) string {
	if len(b) <= 40 {
		return fmt.Sprintf("%x", b)
	}
	return fmt.Sprintf("%x..%x (%d bytes)", b[:10], b[len(b)-10:], len(b))
}

func checkBytes(t *testing.T, name string, got []byte, err api.Errno, want []byte) {
	t.Helper()
	if err != api.OK || !bytes.Equal(got, want) {
		t.Fatalf("%s = %s, %v, want %s", name, short(got), err, short(want))
	}
}

// checkShape asks for ErrShape, with nothing beside it.
func checkShape(t *testing.T, name string, got []byte, err api.Errno) {
	t.Helper()
	if err != api.ErrShape || len(got) != 0 {
		t.Fatalf("%s = %s, %v, want ErrShape", name, short(got), err)
	}
}

// checkProgram holds both ways in which a program is not done whole against the chapter's words.
func checkProgram(t *testing.T, was, to, mask []byte) {
	t.Helper()
	of := func(call string) string {
		return fmt.Sprintf("%s(%s, %s, %s)", call, short(was), short(to), short(mask))
	}
	torn, err := Clear(was, to, mask)
	if want := plainTorn(was, to, mask); err != api.OK || !bytes.Equal(torn, want) {
		t.Fatalf("%s = %s, %v, want %s", of("Clear"), short(torn), err, short(want))
	}
	failed, err := Fail(was, to, mask)
	if want := plainFailed(was, to, mask); err != api.OK || !bytes.Equal(failed, want) {
		t.Fatalf("%s = %s, %v, want %s", of("Fail"), short(failed), err, short(want))
	}
}

func checkErase(t *testing.T, was, mask []byte) {
	t.Helper()
	if got, want := Set(was, mask), plainErased(was, mask); !bytes.Equal(got, want) {
		t.Fatalf("Set(%s, %s) = %s, want %s", short(was), short(mask), short(got), short(want))
	}
}

func checkBit(t *testing.T, mask []byte, i int) {
	t.Helper()
	if got, want := Bit(mask, i), plainBit(mask, i); got != want {
		t.Fatalf("Bit(%s, %d) = %v, want %v", short(mask), i, got, want)
	}
}

// manyMasks are nil, empty, of one byte, of several, of lengths that divide hardly any list's, and long ones.
func manyMasks() [][]byte {
	source := rand.New(rand.NewSource(1201))
	masks := [][]byte{nil, {}, {0}, {0xff}, {1}, {0x80}, {0x7f}, {0xfe}, {0x30}, {0xf0}, {0x0f}, {0x55}, {0xaa},
		{0, 0xff}, {0xff, 0}, {1, 0x80}, {0xff, 0xff}, {0, 0, 1}, {0x80, 0, 0}, {0, 0, 0, 0}}
	for _, n := range []int{1, 2, 3, 4, 5, 7, 8, 9, 16, 31, 32, 33, 63, 64, 65, 200} {
		masks = append(masks, randomBytes(source, n))
	}
	return masks
}

// manyLists are lists of so many bytes: of one byte all over, counted ones, such with one bit set or unset, and random ones.
func manyLists(n int) [][]byte {
	source := rand.New(rand.NewSource(int64(1202 + n)))
	lists := [][]byte{all(0, n), all(0xff, n), all(0x0f, n), all(0xf0, n), all(0x55, n), counted(0, n), counted(0xf8, n), randomBytes(source, n), randomBytes(source, n)}
	if n > 0 {
		for _, bit := range []int{0, 7, 8*n - 8, 8*n - 1, 8 * (n / 2)} {
			lists = append(lists, bitAt(bit, n), inverted(bitAt(bit, n)))
		}
	}
	return lists
}

// manyNumbers are numbers of bits, or of operations, at which something might be told wrong.
func manyNumbers() []int {
	return []int{math.MinInt, math.MinInt + 1, math.MinInt + 7, math.MinInt + 8, -65, -64, -9, -8, -7, -2, -1, 0, 1, 6, 7, 8, 9, 15, 16, 63, 64,
		math.MaxInt32, math.MaxInt32 + 1, math.MaxInt - 8, math.MaxInt - 7, math.MaxInt - 1, math.MaxInt}
}

// P12.1

func TestExample(t *testing.T) {
	was, to := []byte{0xff}, []byte{0x0f}
	got, err := Clear(was, to, []byte{0x30})
	checkBytes(t, "ff to 0f with mask 30, torn", got, err, []byte{0xcf})
	got, err = Fail(was, to, []byte{0x30})
	checkBytes(t, "ff to 0f with mask 30, failing", got, err, []byte{0xcf})
	got, err = Clear(was, to, []byte{0xf0})
	checkBytes(t, "ff to 0f with mask f0, torn", got, err, []byte{0x0f})
	got, err = Fail(was, to, []byte{0xf0})
	checkBytes(t, "ff to 0f with mask f0, failing", got, err, []byte{0x8f})
}

func TestAnswersWrittenOut(t *testing.T) {
	for _, c := range []struct {
		was, to, mask, torn, failed []byte
	}{
		{[]byte{0xff, 0xff}, []byte{0x0f, 0xf0}, nil, []byte{0x0f, 0xf0}, []byte{0x0f, 0xf8}},
		{[]byte{0xff, 0xff}, []byte{0x0f, 0xff}, nil, []byte{0x0f, 0xff}, []byte{0x8f, 0xff}},
		{[]byte{0xff, 0xff, 0xff}, []byte{0, 0, 0}, []byte{0x0f, 0xf0}, []byte{0xf0, 0x0f, 0xf0}, []byte{0xf0, 0x0f, 0xf0}},
		{[]byte{0xff, 0xff, 0xff}, []byte{0, 0, 0}, []byte{0x81, 0xf0}, []byte{0x7e, 0x0f, 0x7e}, []byte{0x7e, 0x0f, 0xfe}},
		{[]byte{0x01, 0x00}, []byte{0x00, 0xff}, []byte{0xff}, []byte{0x00, 0x00}, []byte{0x01, 0x00}},
		{[]byte{0x03, 0x10}, []byte{0xf0, 0x0f}, []byte{0xff}, []byte{0x00, 0x00}, []byte{0x00, 0x10}},
		{[]byte{0x03, 0x10}, []byte{0xf0, 0x1f}, []byte{0xff}, []byte{0x00, 0x10}, []byte{0x02, 0x10}},
		{[]byte{0x55}, []byte{0xaa}, []byte{0x0f, 0xf0}, []byte{0x50}, []byte{0x50}},
		{[]byte{0xa5, 0x5a}, []byte{0xff, 0xff}, nil, []byte{0xa5, 0x5a}, []byte{0xa5, 0x5a}},
		{nil, nil, nil, nil, nil},
		{[]byte{}, nil, []byte{0xff}, nil, nil},
	} {
		name := fmt.Sprintf("%x to %x with %x", c.was, c.to, c.mask)
		got, err := Clear(c.was, c.to, c.mask)
		checkBytes(t, name+", torn", got, err, c.torn)
		got, err = Fail(c.was, c.to, c.mask)
		checkBytes(t, name+", failing", got, err, c.failed)
	}
	for _, c := range [][3][]byte{
		{{0x0f, 0}, {0x30, 0xff}, {0x3f, 0xff}},
		{{0x0f, 0, 0x80}, {0x30, 0x01}, {0x3f, 0x01, 0xb0}},
		{{0xff}, {0}, {0xff}},
		{{0}, {0}, {0}},
		{{0}, {0x81, 0x42}, {0x81}},
		{{0x12, 0x34}, nil, {0xff, 0xff}},
		{nil, {0xff}, nil},
	} {
		if got := Set(c[0], c[1]); !bytes.Equal(got, c[2]) {
			t.Errorf("Set(%x, %x) = %x, want %x", c[0], c[1], got, c[2])
		}
	}
}

func TestBitsOfOneByte(t *testing.T) {
	for x := range 256 {
		row := bools([]byte{byte(x)})
		for i := range 40 {
			if got := Bit([]byte{byte(x)}, i); got != row[i%8] {
				t.Fatalf("Bit(%02x, %d) = %v", x, i, got)
			}
		}
	}
}

func TestBitsOfMasks(t *testing.T) {
	for _, mask := range manyMasks() {
		row := again(mask, 3000)
		for i, want := range row {
			if got := Bit(mask, i); got != want {
				t.Fatalf("Bit(%s, %d) = %v, want %v", short(mask), i, got, want)
			}
		}
		last := 8*len(mask) - 1
		for _, i := range append(manyNumbers(), last-1, last, last+1, last+2, 2*last+1, 2*last+2) {
			checkBit(t, mask, i)
		}
	}
}

func TestBitsAtTheEndsOfNumbers(t *testing.T) {
	for _, mask := range manyMasks() {
		for i := -200; i < 0; i++ {
			if least := math.MinInt + (-1 - i); Bit(mask, i) || Bit(mask, least) {
				t.Fatalf("mask %s: a bit below 0 is done (%d, %d)", short(mask), i, least)
			}
			checkBit(t, mask, math.MaxInt+(1+i))
		}
	}
	for _, i := range []int{0, 1, 7, 8, math.MaxInt} {
		if !Bit(nil, i) || !Bit([]byte{}, i) {
			t.Errorf("of an empty mask bit %d is not done", i)
		}
	}
	if Bit([]byte{0xff, 0x7f}, math.MaxInt) || !Bit([]byte{0, 0x80}, math.MaxInt) {
		t.Error("the greatest number's bit is not the last of two bytes")
	}
}

func TestRandomBits(t *testing.T) {
	source := rand.New(rand.NewSource(1203))
	for range 20000 {
		mask := randomBytes(source, source.Intn(70))
		checkBit(t, mask, source.Intn(2000)-100)
		checkBit(t, mask, int(source.Uint64()))
	}
}

// TestMasksSayWhatBitTells holds the other calls against Bit itself, bit by bit.
func TestMasksSayWhatBitTells(t *testing.T) {
	for _, mask := range manyMasks() {
		const n = 150
		torn, err := Clear(all(0xff, n), all(0, n), mask)
		if err != api.OK {
			t.Fatal(err)
		}
		erased, left := bools(Set(all(0, n), mask)), bools(torn)
		for i := range 8 * n {
			if left[i] == Bit(mask, i) || erased[i] != Bit(mask, i) {
				t.Fatalf("mask %s: bit %d is told otherwise by Bit", short(mask), i)
			}
		}
	}
}

func TestProgramsOfOneByte(t *testing.T) {
	masks := [][]byte{nil, {0}, {0xff}, {0x30}, {0xf0}, {0x55, 0xff}, {0x80}, {1}}
	for was := range 256 {
		for to := range 256 {
			for _, mask := range masks {
				checkProgram(t, []byte{byte(was)}, []byte{byte(to)}, mask)
			}
		}
	}
}

func TestErasesOfOneByte(t *testing.T) {
	for was := range 256 {
		for mask := range 256 {
			checkErase(t, []byte{byte(was)}, []byte{byte(mask)})
		}
		checkErase(t, []byte{byte(was)}, nil)
		checkErase(t, []byte{byte(was)}, []byte{})
	}
}

func TestEachMaskOfOneByte(t *testing.T) {
	lists := manyLists(2)
	for mask := range 256 {
		for _, was := range lists {
			for _, to := range lists {
				checkProgram(t, was, to, []byte{byte(mask)})
			}
			checkErase(t, was, []byte{byte(mask)})
		}
	}
}

func TestListsOfManyLengths(t *testing.T) {
	for _, n := range []int{0, 1, 2, 3, 8, 17, 64, 120} {
		lists := manyLists(n)
		for _, mask := range manyMasks() {
			for _, was := range lists {
				for _, to := range lists {
					checkProgram(t, was, to, mask)
				}
				checkErase(t, was, mask)
			}
		}
	}
}

func TestAWholeBlock(t *testing.T) {
	source := rand.New(rand.NewSource(1204))
	for _, mask := range [][]byte{nil, {0x30}, {0xff, 0, 0x0f}, randomBytes(source, 64)} {
		was, to := randomBytes(source, blockBytes), randomBytes(source, blockBytes)
		checkProgram(t, was, to, mask)
		checkProgram(t, was, all(0, blockBytes), mask)
		checkErase(t, was, mask)
	}
}

func TestRandomOperations(t *testing.T) {
	source := rand.New(rand.NewSource(1205))
	for range 20000 {
		n := source.Intn(40)
		was, to, mask := randomBytes(source, n), randomBytes(source, n), randomBytes(source, source.Intn(50))
		checkProgram(t, was, to, mask)
		checkErase(t, was, mask)
	}
}

// TestTheLastBitToClear has programs that are to clear some bits, the last of which is put at each place of a list in turn.
func TestTheLastBitToClear(t *testing.T) {
	source := rand.New(rand.NewSource(1206))
	for _, n := range []int{1, 2, 3, 9} {
		for last := range 8 * n {
			name := fmt.Sprintf("%d bytes, bit %d", n, last)
			alone := inverted(bitAt(last, n))
			got, err := Fail(all(0xff, n), alone, nil)
			checkBytes(t, name+" alone", got, err, all(0xff, n))

			// All up to it are to be cleared, and none behind: once as they are one afterwards too, once as they are nought already.
			upTo := make([]bool, 8*n)
			for i := range last + 1 {
				upTo[i] = true
			}
			first := packed(upTo)
			got, err = Fail(all(0xff, n), inverted(first), nil)
			checkBytes(t, name+", those behind stay one", got, err, inverted(plainTorn(first, alone, nil)))
			got, err = Fail(first, all(0, n), nil)
			checkBytes(t, name+", those behind are nought", got, err, bitAt(last, n))
			got, err = Fail(first, inverted(first), nil)
			checkBytes(t, name+", those behind are to be set", got, err, bitAt(last, n))

			for _, mask := range [][]byte{bitAt(last, n), alone, randomBytes(source, n)} {
				checkProgram(t, all(0xff, n), inverted(first), mask)
				checkProgram(t, first, all(0, n), mask)
				checkProgram(t, first, inverted(first), mask)
			}
		}
	}
}

// TestMasksOfTheLastBit: a mask that names just that bit clears nothing, where the program fails; one of all but it makes no difference between a torn and a failing one.
func TestMasksOfTheLastBit(t *testing.T) {
	for _, n := range []int{1, 2, 5} {
		for last := range 8 * n {
			was := slices.Concat(all(0xff, n), all(0, 2))
			to := slices.Concat(inverted(bitAt(last, n)), all(0xff, 2))
			to[0] &= 0xfe
			just := bitAt(last, n+2)
			got, err := Fail(was, to, just)
			checkBytes(t, fmt.Sprintf("bit %d of %d bytes, and that one alone", last, n), got, err, was)
			torn, err := Clear(was, to, just)
			checkBytes(t, fmt.Sprintf("bit %d of %d bytes, torn", last, n), torn, err, slices.Concat(inverted(bitAt(last, n)), all(0, 2)))
			butIt := inverted(just)
			torn, _ = Clear(was, to, butIt)
			got, err = Fail(was, to, butIt)
			checkBytes(t, fmt.Sprintf("bit %d of %d bytes, and all but it", last, n), got, err, torn)
		}
	}
}

// TestFailingIsTornButForOneBit: whatever the mask says, the last bit to be cleared stays, and nothing else differs.
func TestFailingIsTornButForOneBit(t *testing.T) {
	source := rand.New(rand.NewSource(1207))
	for range 5000 {
		n := 1 + source.Intn(20)
		was, to, mask := randomBytes(source, n), randomBytes(source, n), randomBytes(source, source.Intn(25))
		torn, _ := Clear(was, to, mask)
		failed, err := Fail(was, to, mask)
		if err != api.OK || len(failed) != n {
			t.Fatalf("Fail = %x, %v", failed, err)
		}
		before, next := bools(was), bools(to)
		last := -1
		for i := range before {
			if before[i] && !next[i] {
				last = i
			}
		}
		tornBits, failedBits := bools(torn), bools(failed)
		for i := range tornBits {
			if want := tornBits[i] || i == last; failedBits[i] != want {
				t.Fatalf("Fail(%x, %x, %x) = %x: bit %d (the last to clear is %d)", was, to, mask, failed, i, last)
			}
		}
	}
}

func TestNothingToClear(t *testing.T) {
	for _, n := range []int{0, 1, 2, 3, 40} {
		for _, was := range manyLists(n) {
			for _, to := range [][]byte{was, all(0xff, n)} {
				for _, mask := range manyMasks() {
					got, err := Clear(was, to, mask)
					checkBytes(t, "Clear", got, err, was)
					got, err = Fail(was, to, mask)
					checkBytes(t, "Fail", got, err, was)
				}
			}
		}
	}
}

func TestListsOfUnlikeLengths(t *testing.T) {
	lengths := []int{0, 1, 2, 3, 7, 8, 9, 64, 65, 4184, 4185}
	for _, n := range lengths {
		for _, m := range lengths {
			if n == m {
				continue
			}
			for _, mask := range [][]byte{nil, {}, {0}, {0xff}, counted(0, n), counted(0, m)} {
				name := fmt.Sprintf("%d bytes to %d with a mask of %d", n, m, len(mask))
				got, err := Clear(all(0xff, n), all(0, m), mask)
				checkShape(t, "Clear: "+name, got, err)
				got, err = Fail(all(0xff, n), all(0, m), mask)
				checkShape(t, "Fail: "+name, got, err)
			}
		}
	}
	for _, c := range [][2][]byte{{nil, {0}}, {{0}, nil}, {{}, {0xff}}, {{0xff}, {}}} {
		got, err := Clear(c[0], c[1], nil)
		checkShape(t, "Clear", got, err)
		got, err = Fail(c[0], c[1], nil)
		checkShape(t, "Fail", got, err)
	}
}

// TestListsOfNothing: nil and an empty list are as long.
func TestListsOfNothing(t *testing.T) {
	for _, was := range [][]byte{nil, {}} {
		for _, mask := range [][]byte{nil, {}, {0}, {0xff}, all(0xff, 64)} {
			for _, to := range [][]byte{nil, {}} {
				got, err := Clear(was, to, mask)
				checkBytes(t, "Clear", got, err, nil)
				got, err = Fail(was, to, mask)
				checkBytes(t, "Fail", got, err, nil)
			}
			if got := Set(was, mask); len(got) != 0 {
				t.Errorf("Set of nothing = %x", got)
			}
		}
	}
}

// P12.2

// faults are n of them, of the numbers from first on, each with a mask of its own.
func faults(first, n int) []api.Fault {
	l := make([]api.Fault, n)
	for i := range l {
		l[i] = api.Fault{At: first + i, Crash: i%2 == 0, Mask: counted(byte(i), i%65)}
	}
	return l
}

// deep is the faults once more, with nothing shared.
func deep(l []api.Fault) []api.Fault {
	var out []api.Fault
	for _, f := range l {
		out = append(out, api.Fault{At: f.At, Crash: f.Crash, Mask: append([]byte(nil), f.Mask...)})
	}
	return out
}

func sameFault(a, b api.Fault) bool {
	return a.At == b.At && a.Crash == b.Crash && bytes.Equal(a.Mask, b.Mask)
}

func checkCheck(t *testing.T, name string, l []api.Fault, want api.Errno) {
	t.Helper()
	if got := Check(l); got != want {
		t.Errorf("Check of %s = %v, want %v", name, got, want)
	}
}

// checkAt holds what is answered against the fault at that place of the list; there is none, if it is below 0.
func checkAt(t *testing.T, l []api.Fault, n, place int) {
	t.Helper()
	got, ok := At(l, n)
	if place < 0 {
		if ok || got.At != 0 || got.Crash || len(got.Mask) != 0 {
			t.Fatalf("At %d of %d faults = %+v, %v, want none", n, len(l), got, ok)
		}
		return
	}
	if !ok || !sameFault(got, l[place]) {
		t.Fatalf("At %d of %d faults = %+v, %v, want %+v", n, len(l), got, ok, l[place])
	}
}

func checkCopy(t *testing.T, l []api.Fault) {
	t.Helper()
	if got := Copy(l); !slices.EqualFunc(got, l, sameFault) {
		t.Fatalf("Copy of %+v = %+v", l, got)
	}
}

func TestPlansOfManyLengths(t *testing.T) {
	for n := range 102 {
		want := api.OK
		if n > 64 {
			want = api.ErrShape
		}
		checkCheck(t, fmt.Sprintf("%d faults", n), faults(0, n), want)
		checkCheck(t, fmt.Sprintf("%d faults of number 0", n), make([]api.Fault, n), want)
	}
	checkCheck(t, "nil", nil, api.OK)
	checkCheck(t, "no faults", []api.Fault{}, api.OK)
}

func TestNumbersOfAPlan(t *testing.T) {
	for _, at := range manyNumbers() {
		want := api.OK
		if at < 0 {
			want = api.ErrShape
		}
		checkCheck(t, fmt.Sprintf("a fault at %d", at), []api.Fault{{At: at}}, want)
		for _, n := range []int{1, 2, 3, 63, 64} {
			for place := range n {
				l := faults(3, n)
				l[place].At = at
				checkCheck(t, fmt.Sprintf("%d faults, the one at place %d of number %d", n, place, at), l, want)
			}
		}
	}
}

func TestMasksOfAPlan(t *testing.T) {
	for _, size := range []int{0, 1, 2, 63, 64, 65, 66, 128, 4096} {
		want := api.OK
		if size > 64 {
			want = api.ErrShape
		}
		for _, crash := range []bool{false, true} {
			checkCheck(t, fmt.Sprintf("a mask of %d bytes", size), []api.Fault{{At: 7, Crash: crash, Mask: all(0, size)}}, want)
		}
		for _, n := range []int{2, 3, 64} {
			for place := range n {
				l := faults(3, n)
				l[place].Mask = counted(1, size)
				checkCheck(t, fmt.Sprintf("%d faults, the one at place %d with a mask of %d bytes", n, place, size), l, want)
			}
		}
	}
	roomy := make([]byte, 64, 200)
	checkCheck(t, "a mask of 64 bytes with room behind", []api.Fault{{Mask: roomy}}, api.OK)
	checkCheck(t, "a mask that is nil", []api.Fault{{Mask: nil}}, api.OK)
}

// TestFaultsBehindTheEnd: what lies in the room behind a plan's end is none of its faults.
func TestFaultsBehindTheEnd(t *testing.T) {
	row := append(faults(0, 64), api.Fault{At: -1}, api.Fault{At: 200, Mask: make([]byte, 65)})
	for n := range 65 {
		checkCheck(t, fmt.Sprintf("the first %d", n), row[:n], api.OK)
		checkAt(t, row[:n], n, -1)
		checkAt(t, row[:n], -1, -1)
		checkAt(t, row[:n], 200, -1)
		checkCopy(t, row[:n])
	}
}

func TestAtOfEachNumber(t *testing.T) {
	for _, n := range []int{0, 1, 2, 63, 64, 65, 100} {
		l := faults(5, n)
		for place := range n {
			checkAt(t, l, 5+place, place)
		}
		for _, number := range append(manyNumbers(), 4, 5+n, 6+n) {
			if number < 5 || number >= 5+n {
				checkAt(t, l, number, -1)
			}
		}
	}
	for _, number := range manyNumbers() {
		checkAt(t, nil, number, -1)
		checkAt(t, []api.Fault{}, number, -1)
	}
}

// TestAtOfNumbersThatNoPlanHas: a list of faults is asked as it is, a plan or not.
func TestAtOfNumbersThatNoPlanHas(t *testing.T) {
	for _, number := range manyNumbers() {
		l := []api.Fault{{At: 77, Mask: []byte{1}}, {At: number, Crash: true, Mask: []byte{2, 3}}, {At: number, Mask: []byte{4}}}
		checkAt(t, l, number, 1)
		checkAt(t, l[2:], number, 0)
		checkAt(t, l[:1], number, -1)
	}
	long := []api.Fault{{At: 3, Crash: true, Mask: counted(0, 65)}, {At: 4, Mask: counted(9, 5000)}}
	checkAt(t, long, 3, 0)
	checkAt(t, long, 4, 1)
}

func TestAtTellsTheFirst(t *testing.T) {
	l := []api.Fault{{At: 3}, {At: 4, Crash: true}, {At: 4}, {At: 3, Crash: true, Mask: []byte{7}}, {At: 9, Mask: []byte{1}}, {At: 9, Mask: []byte{2}}, {At: 0, Mask: []byte{5}}}
	for n, place := range map[int]int{3: 0, 4: 1, 9: 4, 0: 6, 1: -1, 2: -1, 5: -1, 10: -1, -3: -1, -4: -1} {
		checkAt(t, l, n, place)
	}
	same := make([]api.Fault, 64)
	for i := range same {
		same[i] = api.Fault{At: 11, Crash: i%3 == 1, Mask: []byte{byte(i)}}
	}
	for i := range same {
		if f, ok := At(same[i:], 11); !ok || !bytes.Equal(f.Mask, []byte{byte(i)}) {
			t.Errorf("from place %d on: %+v, %v", i, f, ok)
		}
	}
}

// TestOrderOfAPlan: numbers need not rise.
func TestOrderOfAPlan(t *testing.T) {
	l := faults(0, 64)
	slices.Reverse(l)
	checkCheck(t, "a plan in falling order", l, api.OK)
	for place, f := range l {
		checkAt(t, l, f.At, place)
	}
}

func TestCopies(t *testing.T) {
	for _, n := range []int{0, 1, 2, 63, 64, 65, 100} {
		checkCopy(t, faults(0, n))
		checkCopy(t, faults(-50, n))
	}
	for _, number := range manyNumbers() {
		checkCopy(t, []api.Fault{{At: number, Crash: true, Mask: counted(1, 65)}, {At: number}, {At: number, Mask: []byte{}}})
	}
	if got := Copy(nil); len(got) != 0 {
		t.Errorf("Copy of nil = %+v", got)
	}
}

// randomFaults are up to 80, of few numbers, so that some are the same; a few are of no plan.
func randomFaults(source *rand.Rand) []api.Fault {
	l := make([]api.Fault, source.Intn(80))
	wrong := source.Intn(3) == 0
	for i := range l {
		l[i] = api.Fault{At: source.Intn(60), Crash: source.Intn(2) == 0, Mask: randomBytes(source, source.Intn(65))}
		if wrong && source.Intn(40) == 0 {
			l[i].At = int(source.Uint64())
		}
		if wrong && source.Intn(40) == 0 {
			l[i].Mask = randomBytes(source, source.Intn(130))
		}
	}
	return l
}

func plainCheck(l []api.Fault) api.Errno {
	wrong := len(l) >= 65
	for _, f := range l {
		wrong = wrong || f.At <= -1 || len(f.Mask) >= 65
	}
	if wrong {
		return api.ErrShape
	}
	return api.OK
}

func TestRandomPlans(t *testing.T) {
	source := rand.New(rand.NewSource(1208))
	right, wrong := 0, 0
	for range 2000 {
		l := randomFaults(source)
		want := plainCheck(l)
		if want == api.OK {
			right++
		} else {
			wrong++
		}
		checkCheck(t, "random faults", l, want)
		checkCopy(t, l)
		for n := -5; n < 65; n++ {
			checkAt(t, l, n, slices.IndexFunc(l, func(f api.Fault) bool { return f.At == n }))
		}
	}
	if right < 300 || wrong < 300 {
		t.Errorf("%d plans, %d that are none: too few to tell", right, wrong)
	}
}

// P12.3

func TestAnEmptyMaskIsWhole(t *testing.T) {
	source := rand.New(rand.NewSource(1209))
	for range 3000 {
		n := source.Intn(50)
		was, to := randomBytes(source, n), randomBytes(source, n)
		whole := make([]byte, n)
		for i := range whole {
			whole[i] = was[i] & to[i]
		}
		for _, mask := range [][]byte{nil, {}, make([]byte, 0, 8), {0xff}, {0xff, 0xff, 0xff}} {
			got, err := Clear(was, to, mask)
			checkBytes(t, "a torn program", got, err, whole)
			checkBytes(t, "a torn erase", Set(was, mask), api.OK, all(0xff, n))
		}
	}
	for _, mask := range [][]byte{nil, {}} {
		got, err := Clear(counted(0, 256), all(0, 256), mask)
		checkBytes(t, "a scrub", got, err, all(0, 256))
		checkBytes(t, "an erase of nought", Set(all(0, blockBytes), mask), api.OK, all(0xff, blockBytes))
	}
}

// TestAMaskOfNoughtDoesNothing is the other end: as empty as it looks, it is not.
func TestAMaskOfNoughtDoesNothing(t *testing.T) {
	for _, size := range []int{1, 2, 64, 65} {
		for _, was := range manyLists(40) {
			got, err := Clear(was, all(0, 40), all(0, size))
			checkBytes(t, "a torn program", got, err, was)
			got, err = Fail(was, all(0, 40), all(0, size))
			checkBytes(t, "a failing program", got, err, was)
			checkBytes(t, "a torn erase", Set(was, all(0, size)), api.OK, was)
		}
	}
}

// TestTheRestMakesItWhole: what a mask left is done with its complement.
func TestTheRestMakesItWhole(t *testing.T) {
	source := rand.New(rand.NewSource(1210))
	for range 2000 {
		n := 1 + source.Intn(40)
		was, to, mask := randomBytes(source, n), randomBytes(source, n), randomBytes(source, 1+source.Intn(50))
		whole, _ := Clear(was, to, nil)
		torn, _ := Clear(was, to, mask)
		got, err := Clear(torn, to, inverted(mask))
		checkBytes(t, "the rest of a program", got, err, whole)
		failed, _ := Fail(was, to, mask)
		got, err = Clear(failed, to, nil)
		checkBytes(t, "a program once more", got, err, whole)
		checkBytes(t, "the rest of an erase", Set(Set(was, mask), inverted(mask)), api.OK, all(0xff, n))
	}
}

// P12.4

// below tells whether each bit that is one in a is one in b.
func below(a, b []byte) bool {
	if len(a) != len(b) {
		return false
	}
	for i := range a {
		if a[i]&^b[i] != 0 {
			return false
		}
	}
	return true
}

// checkOneWay asks that no program sets a bit, nor one that was not to be cleared is, and that no erase clears one.
func checkOneWay(t *testing.T, was, to, mask []byte) {
	t.Helper()
	stays := make([]byte, len(was))
	for i := range stays {
		stays[i] = was[i] & to[i]
	}
	torn, _ := Clear(was, to, mask)
	failed, _ := Fail(was, to, mask)
	if !below(torn, was) || !below(failed, was) {
		t.Fatalf("%s to %s with %s: a program sets a bit (%s, %s)", short(was), short(to), short(mask), short(torn), short(failed))
	}
	if !below(stays, torn) || !below(torn, failed) {
		t.Fatalf("%s to %s with %s: a program clears a bit that it was not to (%s, %s)", short(was), short(to), short(mask), short(torn), short(failed))
	}
	if erased := Set(was, mask); !below(was, erased) {
		t.Fatalf("%s with %s: an erase clears a bit (%s)", short(was), short(mask), short(erased))
	}
}

func TestProgramsOnlyClearAndErasesOnlySet(t *testing.T) {
	for _, n := range []int{0, 1, 2, 17} {
		lists := manyLists(n)
		for _, mask := range manyMasks() {
			for _, was := range lists {
				for _, to := range lists {
					checkOneWay(t, was, to, mask)
				}
			}
		}
	}
	source := rand.New(rand.NewSource(1211))
	for range 10000 {
		n := source.Intn(30)
		checkOneWay(t, randomBytes(source, n), randomBytes(source, n), randomBytes(source, source.Intn(40)))
	}
}

// TestBitsThatAreNoughtStaySo has bits that are nought in what was there, and one in what is to come.
func TestBitsThatAreNoughtStaySo(t *testing.T) {
	for _, mask := range manyMasks() {
		for _, n := range []int{1, 3, 70} {
			got, err := Clear(all(0, n), all(0xff, n), mask)
			checkBytes(t, "Clear", got, err, all(0, n))
			got, err = Fail(all(0, n), all(0xff, n), mask)
			checkBytes(t, "Fail", got, err, all(0, n))
			checkBytes(t, "Set", Set(all(0xff, n), mask), api.OK, all(0xff, n))
		}
	}
}

// P12.5

// checkNotWhole asks that a program that fails leaves something of what it was to do.
func checkNotWhole(t *testing.T, was, to, mask []byte) {
	t.Helper()
	whole, due := make([]byte, len(was)), false
	for i := range whole {
		whole[i] = was[i] & to[i]
		due = due || whole[i] != was[i]
	}
	got, err := Fail(was, to, mask)
	if err != api.OK || bytes.Equal(got, whole) == due {
		t.Fatalf("Fail(%s, %s, %s) = %s, %v", short(was), short(to), short(mask), short(got), err)
	}
}

func TestWhatFailsIsNotDoneWhole(t *testing.T) {
	for was := range 256 {
		for to := range 256 {
			for _, mask := range [][]byte{nil, {0xff}, {0}, {0x5a}} {
				checkNotWhole(t, []byte{byte(was)}, []byte{byte(to)}, mask)
			}
		}
	}
	for _, n := range []int{1, 2, 17} {
		for bit := range 8 * n {
			for _, mask := range manyMasks() {
				checkNotWhole(t, all(0xff, n), inverted(bitAt(bit, n)), mask)
				checkNotWhole(t, bitAt(bit, n), all(0, n), mask)
				checkNotWhole(t, all(0xff, n), bitAt(bit, n), mask)
			}
		}
	}
	source := rand.New(rand.NewSource(1212))
	for range 10000 {
		n := source.Intn(30)
		checkNotWhole(t, randomBytes(source, n), randomBytes(source, n), randomBytes(source, source.Intn(40)))
	}
}

// TestFailingOverAndOver: a bit that fails each time it is tried stays, and the others are done by the first try.
func TestFailingOverAndOver(t *testing.T) {
	source := rand.New(rand.NewSource(1213))
	for range 500 {
		n := 1 + source.Intn(20)
		was, to := randomBytes(source, n), randomBytes(source, n)
		first, _ := Fail(was, to, nil)
		second, err := Fail(first, to, nil)
		checkBytes(t, "a second try", second, err, first)
		checkNotWhole(t, was, to, nil)
	}
}

// Beside the promises: what is handed in, and what is answered.

// spoil writes over all that a list has, what lies behind its end too.
func spoil(b []byte) {
	b = b[:cap(b)]
	for i := range b {
		b[i] = ^b[i]
	}
}

// amid answers a row of counted bytes with b in its midst, and the piece of it that is b, with room behind its end.
func amid(b []byte) (row, piece []byte) {
	row = slices.Concat(counted(201, 40), b, counted(101, 40))
	return row, row[40 : 40+len(b)]
}

// operations are the calls that answer bytes, alike in what they are given.
func operations() map[string]func(was, to, mask []byte) []byte {
	return map[string]func(was, to, mask []byte) []byte{
		"Clear": func(was, to, mask []byte) []byte { b, _ := Clear(was, to, mask); return b },
		"Fail":  func(was, to, mask []byte) []byte { b, _ := Fail(was, to, mask); return b },
		"Set":   func(was, _, mask []byte) []byte { return Set(was, mask) },
	}
}

func TestNoBytesHandedInAreChanged(t *testing.T) {
	for name, call := range operations() {
		for _, sizes := range [][3]int{{0, 0, 0}, {1, 1, 0}, {1, 1, 1}, {20, 20, 3}, {20, 20, 20}, {20, 20, 64}, {20, 19, 3}, {0, 1, 2}, {1, 0, 0}} {
			wasRow, was := amid(all(0xff, sizes[0]))
			toRow, to := amid(all(0x0f, sizes[1]))
			maskRow, mask := amid(counted(1, sizes[2]))
			kept := [3][]byte{slices.Clone(wasRow), slices.Clone(toRow), slices.Clone(maskRow)}
			call(was, to, mask)
			Bit(mask, 9)
			if !bytes.Equal(wasRow, kept[0]) || !bytes.Equal(toRow, kept[1]) || !bytes.Equal(maskRow, kept[2]) {
				t.Fatalf("%s of %v bytes: what was handed in, or what lies beside it, was changed", name, sizes)
			}
		}
	}
}

// TestBytesBehindTheEnd: what lies in the room behind a list's end is none of its bytes.
func TestBytesBehindTheEnd(t *testing.T) {
	for _, behind := range []byte{0, 0x55, 0xff} {
		roomy := func(b []byte) []byte {
			return append(slices.Clone(b), all(behind, 40)...)[:len(b)]
		}
		was, to := roomy(all(0xff, 3)), roomy(counted(0x0f, 3))
		for _, mask := range [][]byte{{}, {0x30}, {0xff, 0}, {1, 2, 3, 4}} {
			checkProgram(t, was, to, roomy(mask))
			checkErase(t, to, roomy(mask))
			for i := range 100 {
				checkBit(t, roomy(mask), i)
			}
		}
		got, err := Clear(was[:2], to, nil)
		checkShape(t, "Clear of a list with room behind", got, err)
		got, err = Fail(was, to[:2], nil)
		checkShape(t, "Fail of a list with room behind", got, err)
	}
}

func TestOneListForAll(t *testing.T) {
	room := counted(7, 64)
	checkProgram(t, room, room, room)
	checkProgram(t, room[:32], room[32:], room[16:48])
	checkProgram(t, room[1:33], room[:32], room[:5])
	checkErase(t, room, room)
	checkErase(t, room[:40], room[8:48])
	if !bytes.Equal(room, counted(7, 64)) {
		t.Error("the list was changed")
	}
}

func TestAnsweredBytesAreNewMemory(t *testing.T) {
	for name, call := range operations() {
		for _, maskSize := range []int{0, 1, 7, 20, 64} {
			was, to, mask := counted(0x80, 20), counted(0x11, 20), counted(3, maskSize)
			first := call(was, to, mask)
			want := slices.Clone(first)
			second := call(was, to, mask)
			spoil(first)
			checkBytes(t, name+", another answer changed", second, api.OK, want)
			checkBytes(t, name+", asked again", call(was, to, mask), api.OK, want)
			if !bytes.Equal(was, counted(0x80, 20)) || !bytes.Equal(to, counted(0x11, 20)) || !bytes.Equal(mask, counted(3, maskSize)) {
				t.Errorf("what %s answers is what it was given", name)
			}
			spoil(was)
			spoil(to)
			spoil(mask)
			checkBytes(t, name+", its arguments changed", second, api.OK, want)
			checkBytes(t, name+", asked anew", call(counted(0x80, 20), counted(0x11, 20), counted(3, maskSize)), api.OK, want)
		}
	}
}

// TestAnswersOfWhatChangesNothingAreNewMemory: where the answer is as long, and the same, as what was there, it is another list all the same.
func TestAnswersOfWhatChangesNothingAreNewMemory(t *testing.T) {
	for name, call := range operations() {
		was, to := all(0xff, 20), all(0xff, 20)
		for _, mask := range [][]byte{nil, {0}, {0xff}, all(0xff, 20)} {
			spoil(call(was, to, mask))
			if !bytes.Equal(was, all(0xff, 20)) || !bytes.Equal(to, all(0xff, 20)) || len(mask) > 0 && mask[0] != 0 && mask[0] != 0xff {
				t.Fatalf("what %s answers is what it was given", name)
			}
		}
	}
	mask := all(0xff, 20)
	spoil(Set(all(0, 20), mask))
	if !bytes.Equal(mask, all(0xff, 20)) {
		t.Error("what Set answers is its mask")
	}
}

// roomyFaults are faults of which the list, and each mask, has room behind its end.
func roomyFaults() []api.Fault {
	row := faults(0, 70)
	for i := range row {
		row[i].Mask = append(row[i].Mask, counted(91, 30)...)[:len(row[i].Mask)]
	}
	return row[:40]
}

func TestNoPlanHandedInIsChanged(t *testing.T) {
	l := roomyFaults()
	row := l[:cap(l)]
	whole := func() []api.Fault {
		out := deep(row)
		for i, f := range row {
			out[i].Mask = slices.Clone(f.Mask[:cap(f.Mask)])
		}
		return out
	}
	was := whole()
	Check(l)
	Copy(l)
	for n := -1; n < 71; n++ {
		At(l, n)
	}
	if !reflect.DeepEqual(whole(), was) {
		t.Error("a plan that was handed in, or what lies behind its end, was changed")
	}
}

func TestAnsweredFaultsAreNewMemory(t *testing.T) {
	for n := range 40 {
		l := roomyFaults()
		was := deep(l)
		first, _ := At(l, n)
		second, _ := At(l, n)
		spoil(first.Mask)
		if !slices.EqualFunc(l, was, sameFault) || !sameFault(second, was[n]) {
			t.Fatalf("At %d: its mask is the plan's, or another answer's", n)
		}
		checkAt(t, l, n, n)
		spoil(l[n].Mask)
		l[n].At, l[n].Crash = 1000, !l[n].Crash
		if !sameFault(second, was[n]) {
			t.Fatalf("At %d: what it answered hangs on the plan", n)
		}
	}
}

func TestCopiesAreNewMemory(t *testing.T) {
	l := roomyFaults()
	was := deep(l)
	first, second := Copy(l), Copy(l)
	for i := range first {
		spoil(first[i].Mask)
		first[i] = api.Fault{At: -5}
	}
	for i, behind := 0, first[:cap(first)]; i < len(behind); i++ {
		behind[i] = api.Fault{At: -6}
	}
	if !slices.EqualFunc(l, was, sameFault) || !slices.EqualFunc(second, was, sameFault) {
		t.Fatal("a copy is the plan itself, or another copy")
	}
	checkCopy(t, l)
	for i := range l {
		spoil(l[i].Mask)
		l[i] = api.Fault{At: -7}
	}
	if !slices.EqualFunc(second, was, sameFault) {
		t.Error("a copy hangs on the plan")
	}
}

// TestCopiesOfOneMask: faults that had one list as their mask have none in common behind a copy.
func TestCopiesOfOneMask(t *testing.T) {
	mask := counted(1, 20)
	l := []api.Fault{{At: 1, Mask: mask}, {At: 2, Mask: mask}, {At: 3, Mask: mask[5:10]}}
	got := Copy(l)
	spoil(got[0].Mask)
	if !bytes.Equal(mask, counted(1, 20)) || !bytes.Equal(got[1].Mask, counted(1, 20)) || !bytes.Equal(got[2].Mask, counted(6, 5)) {
		t.Error("masks of a copy lie in one memory")
	}
	spoil(got[2].Mask)
	if !bytes.Equal(got[1].Mask, counted(1, 20)) {
		t.Error("masks of a copy lie in one memory")
	}
}

// TestAskedAgain: the same call answers alike, whatever was asked between.
func TestAskedAgain(t *testing.T) {
	source := rand.New(rand.NewSource(1214))
	was, to, mask, l := randomBytes(source, 30), randomBytes(source, 30), randomBytes(source, 7), roomyFaults()
	for range 50 {
		checkProgram(t, was, to, mask)
		checkErase(t, was, mask)
		checkBit(t, mask, 1000)
		checkCheck(t, "a plan", l, api.OK)
		checkAt(t, l, 17, 17)
		checkAt(t, l, 50, -1)
		checkCopy(t, l)
		other := randomBytes(source, 30)
		Clear(other, was, to)
		Fail(to, other, nil)
		Fail(to, nil, mask)
		Set(other, nil)
		Bit(nil, -1)
		At(randomFaults(source), 17)
		Check(make([]api.Fault, 100))
		Copy(randomFaults(source))
	}
}
