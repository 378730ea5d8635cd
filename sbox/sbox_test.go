package sbox

import (
	"bytes"
	"encoding/hex"
	"math"
	"math/bits"
	"math/rand"
	"testing"

	"nepenthe/field"
)

// edges are the bytes that the tests ask of by name: none, one, the example's, what is put for 0, the highest bit, and all bits.
var edges = []byte{0, 1, 0x53, 0x63, 0x80, 0xff}

// published is the table as FIPS 197 prints it, row by row.
const published = "637c777bf26b6fc53001672bfed7ab76" +
	"ca82c97dfa5947f0add4a2af9ca472c0" +
	"b7fd9326363ff7cc34a5e5f171d83115" +
	"04c723c31896059a071280e2eb27b275" +
	"09832c1a1b6e5aa0523bd6b329e32f84" +
	"53d100ed20fcb15b6acbbe394a4c58cf" +
	"d0efaafb434d338545f9027f503c9fa8" +
	"51a3408f929d38f5bcb6da2110fff3d2" +
	"cd0c13ec5f974417c4a77e3d645d1973" +
	"60814fdc222a908846eeb814de5e0bdb" +
	"e0323a0a4906245cc2d3ac629195e479" +
	"e7c8376d8dd54ea96c56f4ea657aae08" +
	"ba78252e1ca6b4c6e8dd741f4bbd8b8a" +
	"703eb5664803f60e613557b986c11d9e" +
	"e1f8981169d98e949b1e87e9ce5528df" +
	"8ca1890dbfe6426841992d0fb054bb16"

// plainInv looks for what gives 1 with a, so that the tables don't hang on how layer 5 finds it.
func plainInv(a byte) byte {
	for b := range 256 {
		if field.Mul(a, byte(b)) == 1 {
			return byte(b)
		}
	}
	return 0
}

// plainSub goes bit by bit along the document's words.
func plainSub(a byte) byte {
	inverse := plainInv(a)
	bit := func(of byte, i int) byte { return of >> (i % 8) & 1 }
	var out byte
	for i := range 8 {
		sum := bit(inverse, i) ^ bit(inverse, i+4) ^ bit(inverse, i+5) ^ bit(inverse, i+6) ^ bit(inverse, i+7) ^ bit(0x63, i)
		out |= sum << i
	}
	return out
}

// plainTables answers plainSub of all bytes, and the bytes of which it comes.
func plainTables() (sub, back [256]byte) {
	for a := range 256 {
		put := plainSub(byte(a))
		sub[a] = put
		back[put] = byte(a)
	}
	return sub, back
}

// everyByte is each byte once, in order.
func everyByte() []byte {
	b := make([]byte, 256)
	for i := range b {
		b[i] = byte(i)
	}
	return b
}

// manyLists are lists of all lengths up to 40, the edges, all bytes, and lists of some thousands, drawn by a fixed seed.
func manyLists() [][]byte {
	source := rand.New(rand.NewSource(6))
	lists := [][]byte{nil, {}, bytes.Clone(edges), everyByte()}
	for a := range 256 {
		lists = append(lists, []byte{byte(a)})
	}
	lengths := []int{255, 256, 257, 4096, 9999, 70000}
	for n := range 41 {
		lengths = append(lengths, n)
	}
	for _, n := range lengths {
		b := make([]byte, n)
		source.Read(b)
		lists = append(lists, b)
	}
	return lists
}

// manyWords are the edges, those with one byte that is not nought at each place, and random ones.
func manyWords() []uint32 {
	words := []uint32{0, 1, 0xffffffff, 0x80000000, 0x7fffffff, 0x00530053, 0x53005300, 0x01020304, 0x04030201, 0x63636363}
	for place := range 4 {
		for b := 1; b < 256; b++ {
			words = append(words, uint32(b)<<(8*place))
		}
	}
	source := rand.New(rand.NewSource(61))
	for range 20000 {
		words = append(words, source.Uint32())
	}
	return words
}

// P6.1

func TestSubAndBackOfTheExamples(t *testing.T) {
	for a, want := range map[byte]byte{0x53: 0xed, 0: 0x63, 1: 0x7c, 0x63: 0xfb, 0x80: 0xcd, 0xff: 0x16, 0x52: 0} {
		if got := Sub(a); got != want {
			t.Errorf("Sub(%#x) = %#x, want %#x", a, got, want)
		}
		if got := Back(want); got != a {
			t.Errorf("Back(%#x) = %#x, want %#x", want, got, a)
		}
	}
	for a, want := range map[byte]byte{0: 0x52, 1: 0x09, 0x53: 0x50, 0x63: 0, 0x80: 0x3a, 0xff: 0x7d} {
		if got := Back(a); got != want {
			t.Errorf("Back(%#x) = %#x, want %#x", a, got, want)
		}
	}
}

func TestSubAndBackOfAllBytesAreTheDocuments(t *testing.T) {
	sub, back := plainTables()
	for i := range 256 {
		a := byte(i)
		if got := Sub(a); got != sub[a] {
			t.Errorf("Sub(%#x) = %#x, want %#x", a, got, sub[a])
		}
		if got := Back(a); got != back[a] {
			t.Errorf("Back(%#x) = %#x, want %#x", a, got, back[a])
		}
	}
}

func TestSubIsTheInverseRotated(t *testing.T) {
	for i := range 256 {
		a := field.Inv(byte(i))
		want := a ^ 0x63
		for n := 1; n <= 4; n++ {
			want ^= bits.RotateLeft8(a, n)
		}
		if got := Sub(byte(i)); got != want {
			t.Errorf("Sub(%#x) = %#x, want %#x", i, got, want)
		}
	}
}

func TestSubsOfAllBytesIsThePublishedTable(t *testing.T) {
	if got := hex.EncodeToString(Subs(everyByte())); got != published {
		t.Errorf("Subs of all bytes = %s", got)
	}
	table, err := hex.DecodeString(published)
	if err != nil {
		t.Fatal(err)
	}
	if got := Backs(table); !bytes.Equal(got, everyByte()) {
		t.Errorf("Backs of the published table = %x", got)
	}
}

func TestSubsAndBacksAreOfEachByte(t *testing.T) {
	sub, back := plainTables()
	for _, b := range manyLists() {
		subs, backs := Subs(b), Backs(b)
		if len(subs) != len(b) || len(backs) != len(b) {
			t.Fatalf("of %d bytes: Subs %d, Backs %d", len(b), len(subs), len(backs))
		}
		for i, x := range b {
			if subs[i] != sub[x] || backs[i] != back[x] {
				t.Fatalf("byte %d of %d, %#x: Subs %#x, want %#x; Backs %#x, want %#x", i, len(b), x, subs[i], sub[x], backs[i], back[x])
			}
		}
	}
}

func TestSubsAndBacksOfNoBytes(t *testing.T) {
	for _, b := range [][]byte{nil, {}, make([]byte, 0, 8), everyByte()[5:5]} {
		if got := Subs(b); len(got) != 0 {
			t.Errorf("Subs of no bytes = %x", got)
		}
		if got := Backs(b); len(got) != 0 {
			t.Errorf("Backs of no bytes = %x", got)
		}
	}
}

func TestSubsAndBacksLeaveTheirListAndTheRoomBehindIt(t *testing.T) {
	for name, call := range map[string]func([]byte) []byte{"Subs": Subs, "Backs": Backs} {
		for n := range 257 {
			room := everyByte()
			call(room[:n])
			if !bytes.Equal(room, everyByte()) {
				t.Fatalf("%s of %d bytes changed what it was given, or what lies behind it", name, n)
			}
		}
	}
}

func TestSubsAndBacksAnswerNewMemory(t *testing.T) {
	for name, call := range map[string]func([]byte) []byte{"Subs": Subs, "Backs": Backs} {
		b := everyByte()
		first, second := call(b), call(b)
		want := bytes.Clone(second)
		clear(first[:cap(first)])
		if !bytes.Equal(b, everyByte()) || !bytes.Equal(second, want) || !bytes.Equal(call(b), want) {
			t.Errorf("what %s answers shares its memory", name)
		}
		clear(b)
		if !bytes.Equal(second, want) {
			t.Errorf("what %s answers hangs on the list it was given", name)
		}
	}
}

func TestWordOfTheEdges(t *testing.T) {
	for w, want := range map[uint32]uint32{
		0:              0x63636363,
		0xffffffff:     0x16161616,
		0x00530053:     0x63ed63ed,
		0x53000000:     0xed636363,
		0x00530000:     0x63ed6363,
		0x00005300:     0x6363ed63,
		0x00000053:     0x636363ed,
		1:              0x6363637c,
		0x80000000:     0xcd636363,
		0x52525252:     0,
		math.MaxInt32:  0xd2161616,
		0xcf4f3c09:     0x8a84eb01, // these two from the key that FIPS 197 expands
		0x6c76052a:     0x50386be5,
		0x01020304:     0x7c777bf2,
		math.MaxUint16: 0x63631616,
	} {
		if got := Word(w); got != want {
			t.Errorf("Word(%#08x) = %#08x, want %#08x", w, got, want)
		}
	}
}

func TestWordIsSubOfEachByteAtItsPlace(t *testing.T) {
	sub, _ := plainTables()
	for _, w := range manyWords() {
		got := Word(w)
		for place := range 4 {
			if x, want := byte(got>>(8*place)), sub[byte(w>>(8*place))]; x != want {
				t.Fatalf("Word(%#08x) = %#08x: byte %d is %#x, want %#x", w, got, place, x, want)
			}
		}
	}
}

// P6.2

func TestSubAndBackUndoEachOther(t *testing.T) {
	for i := range 256 {
		a := byte(i)
		if got := Back(Sub(a)); got != a {
			t.Errorf("Back(Sub(%#x)) = %#x", a, got)
		}
		if got := Sub(Back(a)); got != a {
			t.Errorf("Sub(Back(%#x)) = %#x", a, got)
		}
	}
}

func TestSubsAndBacksUndoEachOther(t *testing.T) {
	for _, b := range manyLists() {
		if !bytes.Equal(Backs(Subs(b)), b) || !bytes.Equal(Subs(Backs(b)), b) {
			t.Fatalf("of %d bytes Subs and Backs don't undo each other", len(b))
		}
	}
}

func TestEachByteIsPutOnce(t *testing.T) {
	var times, timesBack [256]int
	for i := range 256 {
		times[Sub(byte(i))]++
		timesBack[Back(byte(i))]++
	}
	for i := range 256 {
		if times[i] != 1 || timesBack[i] != 1 {
			t.Errorf("%#x is put %d times, and answered by Back %d times", i, times[i], timesBack[i])
		}
	}
}

func TestNoByteIsPutForItself(t *testing.T) {
	for i := range 256 {
		if a := byte(i); Sub(a) == a || Back(a) == a {
			t.Errorf("%#x is put for itself", a)
		}
	}
}
