package octet

import (
	"bytes"
	"encoding/binary"
	"encoding/hex"
	"go/ast"
	"go/parser"
	"go/token"
	"math"
	"math/rand"
	"slices"
	"strings"
	"testing"

	"nepenthe/api"
)

// numbers are those at which a byte more or less, or a sign, would show.
var numbers = []uint64{0, 1, 127, 128, 255, 256, 258, 65535, 65536, 1<<31 - 1, 1 << 31, 1<<32 - 1, 1 << 32, 0x0102030405060708, 0x8070605040302010, 1 << 63, math.MaxUint64}

// manyLists are lists of all lengths up to 40, and some long ones, of which the bytes are told by a fixed seed.
func manyLists() [][]byte {
	source := rand.New(rand.NewSource(1))
	lists := [][]byte{nil, {}}
	for n := range 41 {
		lists = append(lists, randomBytes(source, n))
	}
	for _, n := range []int{255, 256, 257, 4096, 70000} {
		lists = append(lists, randomBytes(source, n))
	}
	return lists
}

func randomBytes(source *rand.Rand, n int) []byte {
	b := make([]byte, n)
	source.Read(b)
	return b
}

// everyByte is each byte once, in order.
func everyByte() []byte {
	b := make([]byte, 256)
	for i := range b {
		b[i] = byte(i)
	}
	return b
}

// P1.1

func TestBigAndLittleGiveTheLowBytes(t *testing.T) {
	const n = 0x0102030405060708
	cases := []struct {
		k           int
		big, little []byte
	}{
		{math.MinInt, nil, nil},
		{-1, nil, nil},
		{0, nil, nil},
		{1, []byte{8}, []byte{8}},
		{2, []byte{7, 8}, []byte{8, 7}},
		{3, []byte{6, 7, 8}, []byte{8, 7, 6}},
		{4, []byte{5, 6, 7, 8}, []byte{8, 7, 6, 5}},
		{5, []byte{4, 5, 6, 7, 8}, []byte{8, 7, 6, 5, 4}},
		{6, []byte{3, 4, 5, 6, 7, 8}, []byte{8, 7, 6, 5, 4, 3}},
		{7, []byte{2, 3, 4, 5, 6, 7, 8}, []byte{8, 7, 6, 5, 4, 3, 2}},
		{8, []byte{1, 2, 3, 4, 5, 6, 7, 8}, []byte{8, 7, 6, 5, 4, 3, 2, 1}},
		{9, []byte{1, 2, 3, 4, 5, 6, 7, 8}, []byte{8, 7, 6, 5, 4, 3, 2, 1}},
		{math.MaxInt, []byte{1, 2, 3, 4, 5, 6, 7, 8}, []byte{8, 7, 6, 5, 4, 3, 2, 1}},
	}
	for _, c := range cases {
		if got := Big(n, c.k); !bytes.Equal(got, c.big) {
			t.Errorf("Big(%#x, %d) = %v, want %v", uint64(n), c.k, got, c.big)
		}
		if got := Little(n, c.k); !bytes.Equal(got, c.little) {
			t.Errorf("Little(%#x, %d) = %v, want %v", uint64(n), c.k, got, c.little)
		}
	}
}

func TestBigAndLittleOfTheDocument(t *testing.T) {
	if got := Big(258, 4); !bytes.Equal(got, []byte{0, 0, 1, 2}) {
		t.Errorf("Big(258, 4) = %v", got)
	}
	if got := Little(258, 4); !bytes.Equal(got, []byte{2, 1, 0, 0}) {
		t.Errorf("Little(258, 4) = %v", got)
	}
}

func TestBigAndLittleOfAllNumbersAgreeWithTheLibrary(t *testing.T) {
	for _, n := range numbers {
		big := binary.BigEndian.AppendUint64(nil, n)
		little := binary.LittleEndian.AppendUint64(nil, n)
		for k := range 9 {
			if got := Big(n, k); !bytes.Equal(got, big[8-k:]) {
				t.Errorf("Big(%#x, %d) = %v, want %v", n, k, got, big[8-k:])
			}
			if got := Little(n, k); !bytes.Equal(got, little[:k]) {
				t.Errorf("Little(%#x, %d) = %v, want %v", n, k, got, little[:k])
			}
		}
	}
}

func TestNumAndNumLittle(t *testing.T) {
	cases := []struct {
		b           []byte
		big, little uint64
	}{
		{nil, 0, 0},
		{[]byte{}, 0, 0},
		{[]byte{0}, 0, 0},
		{[]byte{255}, 255, 255},
		{[]byte{1, 2}, 258, 513},
		{[]byte{0, 0, 1, 2}, 258, 0x02010000},
		{[]byte{1, 2, 3, 4, 5, 6, 7}, 0x01020304050607, 0x07060504030201},
		{[]byte{1, 2, 3, 4, 5, 6, 7, 8}, 0x0102030405060708, 0x0807060504030201},
		{[]byte{1, 2, 3, 4, 5, 6, 7, 8, 9}, 0x0203040506070809, 0x0807060504030201},
		{[]byte{9, 9, 1, 2, 3, 4, 5, 6, 7, 8}, 0x0102030405060708, 0x0605040302010909},
		{[]byte{255, 0, 0, 0, 0, 0, 0, 0, 0}, 0, 255},
		{[]byte{0, 0, 0, 0, 0, 0, 0, 0, 255}, 255, 0},
		{bytes.Repeat([]byte{255}, 8), math.MaxUint64, math.MaxUint64},
		{bytes.Repeat([]byte{255}, 70000), math.MaxUint64, math.MaxUint64},
	}
	for _, c := range cases {
		if got := Num(c.b); got != c.big {
			t.Errorf("Num of %d bytes = %#x, want %#x", len(c.b), got, c.big)
		}
		if got := NumLittle(c.b); got != c.little {
			t.Errorf("NumLittle of %d bytes = %#x, want %#x", len(c.b), got, c.little)
		}
	}
}

// P1.2

func TestXor(t *testing.T) {
	cases := []struct {
		a, b, want []byte
	}{
		{nil, nil, nil},
		{nil, []byte{}, nil},
		{[]byte{}, nil, nil},
		{[]byte{1, 2}, []byte{3, 2}, []byte{2, 0}},
		{[]byte{0xff, 0x00, 0xf0}, []byte{0x0f, 0x00, 0xff}, []byte{0xf0, 0x00, 0x0f}},
	}
	for _, c := range cases {
		if got, err := Xor(c.a, c.b); err != api.OK || !bytes.Equal(got, c.want) {
			t.Errorf("Xor(%v, %v) = %v, %v, want %v", c.a, c.b, got, err, c.want)
		}
	}
}

func TestXorOfEachTwoBytes(t *testing.T) {
	all := everyByte()
	for _, x := range all {
		got, err := Xor(all, bytes.Repeat([]byte{x}, len(all)))
		if err != api.OK || len(got) != len(all) {
			t.Fatalf("Xor with %d: %d bytes, %v", x, len(got), err)
		}
		for i, y := range all {
			if got[i] != x^y {
				t.Errorf("%d xor %d = %d", x, y, got[i])
			}
		}
	}
}

func TestXorOfUnlikeLengths(t *testing.T) {
	cases := [][2][]byte{
		{{1}, nil},
		{nil, {1}},
		{{}, {0}},
		{{1, 2}, {1}},
		{{1}, {1, 2}},
		{make([]byte, 70000), make([]byte, 69999)},
	}
	for _, c := range cases {
		if got, err := Xor(c[0], c[1]); err != api.ErrShape || len(got) != 0 {
			t.Errorf("Xor of %d and %d bytes: %d bytes, %v, want none and ErrShape", len(c[0]), len(c[1]), len(got), err)
		}
	}
}

func TestInvert(t *testing.T) {
	for _, b := range manyLists() {
		got := Invert(b)
		if len(got) != len(b) {
			t.Fatalf("Invert of %d bytes has %d", len(b), len(got))
		}
		for i, x := range b {
			if got[i] != 255-x {
				t.Errorf("the complement of %d is %d", x, got[i])
			}
		}
	}
	if got := Invert([]byte{0x0f, 0x00, 0xff, 0x55}); !bytes.Equal(got, []byte{0xf0, 0xff, 0x00, 0xaa}) {
		t.Errorf("Invert = %x", got)
	}
}

func TestFill(t *testing.T) {
	cases := []struct{ n, want int }{
		{math.MinInt, 0},
		{-3, 0},
		{-1, 0},
		{0, 0},
		{1, 1},
		{88, 88},
		{65535, 65535},
		{65536, 65536},
		{65537, 65536},
		{math.MaxInt, 65536},
	}
	for _, c := range cases {
		for _, x := range []byte{0, 1, 7, 255} {
			if got := Fill(x, c.n); len(got) != c.want || bytes.Count(got, []byte{x}) != c.want {
				t.Errorf("Fill(%d, %d) has %d bytes, want %d, all of them %d", x, c.n, len(got), c.want, x)
			}
		}
	}
}

func TestSame(t *testing.T) {
	for _, b := range manyLists() {
		if !Same(b, slices.Clone(b)) || !Same(b, b) {
			t.Errorf("%d bytes are not the same as themselves", len(b))
		}
		longer := append(slices.Clone(b), 0)
		if Same(b, longer) || Same(longer, b) {
			t.Errorf("%d bytes are the same as with one more", len(b))
		}
	}
	if !Same(nil, nil) || !Same(nil, []byte{}) || !Same([]byte{}, nil) {
		t.Error("lists of nothing are not the same")
	}
	if Same(nil, []byte{0}) || Same([]byte{0}, nil) {
		t.Error("nothing is the same as a nought")
	}
}

func TestSameSeesEachBit(t *testing.T) {
	a := everyByte()[:40]
	for i := range a {
		for bit := range 8 {
			b := slices.Clone(a)
			b[i] ^= 1 << bit
			if Same(a, b) || Same(b, a) {
				t.Errorf("bit %d of byte %d is not seen", bit, i)
			}
		}
	}
}

func TestSameOfManyUnlikeBytes(t *testing.T) {
	// Unlike bytes that would cancel one another out, if they were xored or added up.
	if Same([]byte{1, 1}, []byte{0, 0}) || Same([]byte{1, 2}, []byte{2, 1}) || Same([]byte{128, 128}, []byte{0, 0}) {
		t.Error("unlike bytes cancel one another out")
	}
}

// No answer tells how many bytes Same has looked at, and time is too unsteady to: so its text is looked at. All it may do is go over the lists itself, by a loop that nothing ends early.
func TestSameLooksAtEachTwoBytes(t *testing.T) {
	file, err := parser.ParseFile(token.NewFileSet(), "octet.go", nil, 0)
	if err != nil {
		t.Fatal(err)
	}
	same, ok := file.Scope.Lookup("Same").Decl.(*ast.FuncDecl)
	if !ok {
		t.Fatal("Same is not in octet.go")
	}
	loops := 0
	ast.Inspect(same.Body, func(n ast.Node) bool {
		switch x := n.(type) {
		case *ast.RangeStmt:
			loops++
			refuseEarlyEnds(t, x.Body)
		case *ast.ForStmt:
			loops++
			refuseEarlyEnds(t, x.Body)
		}
		return true
	})
	if loops != 1 {
		t.Errorf("Same has %d loops, want one over all bytes", loops)
	}
}

func refuseEarlyEnds(t *testing.T, loop *ast.BlockStmt) {
	ast.Inspect(loop, func(n ast.Node) bool {
		switch n.(type) {
		case *ast.ReturnStmt, *ast.BranchStmt, *ast.IfStmt, *ast.SwitchStmt, *ast.CallExpr:
			t.Errorf("the loop of Same has a %T: what is found decides how far it looks", n)
		}
		return true
	})
}

// P1.3

func TestHex(t *testing.T) {
	cases := []struct {
		b    []byte
		want string
	}{
		{nil, ""},
		{[]byte{}, ""},
		{[]byte{0}, "00"},
		{[]byte{0x0a}, "0a"},
		{[]byte{0xa0}, "a0"},
		{[]byte{0, 0, 1, 2}, "00000102"},
		{[]byte{0x01, 0x23, 0x45, 0x67, 0x89, 0xab, 0xcd, 0xef}, "0123456789abcdef"},
		{[]byte{255}, "ff"},
	}
	for _, c := range cases {
		if got := Hex(c.b); got != c.want {
			t.Errorf("Hex(%v) = %q, want %q", c.b, got, c.want)
		}
	}
	for _, b := range append(manyLists(), everyByte()) {
		if got := Hex(b); got != hex.EncodeToString(b) {
			t.Errorf("Hex of %d bytes differs from the library's", len(b))
		}
	}
}

func TestUnhex(t *testing.T) {
	cases := []struct {
		s    string
		want []byte
	}{
		{"", nil},
		{"00", []byte{0}},
		{"0a", []byte{10}},
		{"a0", []byte{160}},
		{"00000102", []byte{0, 0, 1, 2}},
		{"0123456789abcdef", []byte{0x01, 0x23, 0x45, 0x67, 0x89, 0xab, 0xcd, 0xef}},
	}
	for _, c := range cases {
		if got, err := Unhex(c.s); err != api.OK || !bytes.Equal(got, c.want) {
			t.Errorf("Unhex(%q) = %v, %v, want %v", c.s, got, err, c.want)
		}
	}
}

func TestUnhexOfWrongTexts(t *testing.T) {
	texts := []string{
		"1", "000", "abc", "0G", "G",
		"1G", "G1", "AB", "aB", "Ab", "A0", "0F", "0x", "0X", "0x00",
		" 0", "0 ", " 00 ", "+1", "-1", "0_", "\n0", "\x000", "é", "0é", "€0",
		"\xff\xff", "00\x80\x80", "０", "00zz", "zz00",
		strings.Repeat("00", 1000) + "0",
		strings.Repeat("00", 1000) + "0g",
	}
	for _, s := range texts {
		if got, err := Unhex(s); err != api.ErrForm || len(got) != 0 {
			t.Errorf("Unhex(%q) = %v, %v, want none and ErrForm", s, got, err)
		}
	}
}

func TestUnhexOfEachSign(t *testing.T) {
	for sign := range 256 {
		value := strings.IndexByte("0123456789abcdef", byte(sign))
		for _, low := range []bool{false, true} {
			text, want := string([]byte{byte(sign), '0'}), byte(value<<4)
			if low {
				text, want = string([]byte{'0', byte(sign)}), byte(value)
			}
			got, err := Unhex(text)
			if value < 0 && (err != api.ErrForm || len(got) != 0) {
				t.Errorf("Unhex(%q) = %v, %v, want none and ErrForm", text, got, err)
			}
			if value >= 0 && (err != api.OK || !bytes.Equal(got, []byte{want})) {
				t.Errorf("Unhex(%q) = %v, %v, want %d", text, got, err, want)
			}
		}
	}
}

// P1.4

func TestNumbersThereAndBack(t *testing.T) {
	source := rand.New(rand.NewSource(2))
	all := slices.Clone(numbers)
	for range 1000 {
		all = append(all, source.Uint64()>>source.Intn(64))
	}
	for _, n := range all {
		for k := -1; k <= 9; k++ {
			want := n
			if k < 8 {
				want = n & (1<<(8*max(k, 0)) - 1)
			}
			if got := Num(Big(n, k)); got != want {
				t.Errorf("Num(Big(%#x, %d)) = %#x, want %#x", n, k, got, want)
			}
			if got := NumLittle(Little(n, k)); got != want {
				t.Errorf("NumLittle(Little(%#x, %d)) = %#x, want %#x", n, k, got, want)
			}
		}
	}
}

func TestBytesThereAndBack(t *testing.T) {
	for _, b := range manyLists() {
		k := min(len(b), 8)
		if got := Big(Num(b), k); !bytes.Equal(got, b[len(b)-k:]) {
			t.Errorf("Big(Num(%d bytes)) = %v, want %v", len(b), got, b[len(b)-k:])
		}
		if got := Little(NumLittle(b), k); !bytes.Equal(got, b[:k]) {
			t.Errorf("Little(NumLittle(%d bytes)) = %v, want %v", len(b), got, b[:k])
		}
	}
}

func TestHexThereAndBack(t *testing.T) {
	for _, b := range append(manyLists(), everyByte()) {
		text := Hex(b)
		got, err := Unhex(text)
		if err != api.OK || !bytes.Equal(got, b) {
			t.Errorf("Unhex(Hex) of %d bytes: %v", len(b), err)
		}
		if Hex(got) != text {
			t.Errorf("Hex(Unhex) of %d signs is another text", len(text))
		}
	}
}

// P1.5

func TestXoredTwiceIsAsItWas(t *testing.T) {
	source := rand.New(rand.NewSource(3))
	for _, a := range manyLists() {
		b := randomBytes(source, len(a))
		once, err := Xor(a, b)
		if err != api.OK {
			t.Fatalf("Xor of %d bytes: %v", len(a), err)
		}
		twice, err := Xor(once, b)
		if err != api.OK || !bytes.Equal(twice, a) {
			t.Errorf("%d bytes xored twice are not as they were: %v", len(a), err)
		}
		other, err := Xor(once, a)
		if err != api.OK || !bytes.Equal(other, b) {
			t.Errorf("%d bytes xored with the first are not the second: %v", len(a), err)
		}
		if nought, err := Xor(a, a); err != api.OK || bytes.Count(nought, []byte{0}) != len(a) {
			t.Errorf("%d bytes xored with themselves are not nought: %v", len(a), err)
		}
	}
}

// DOC.md, rule 3: what is handed in, and the room behind its end, stays as it is; what is answered is new memory.

func TestWhatIsHandedInStays(t *testing.T) {
	room := everyByte()[:64]
	before := slices.Clone(room)
	a, b := room[0:16], room[32:48]

	xored, _ := Xor(a, b)
	inverted := Invert(a)
	Num(a)
	NumLittle(a)
	Same(a, b)
	Hex(a)
	for _, answer := range [][]byte{xored, inverted} {
		if len(answer) != 16 {
			t.Fatalf("an answer of %d bytes", len(answer))
		}
		clear(answer)
		clear(answer[:cap(answer)])
	}
	if !bytes.Equal(room, before) {
		t.Error("what was handed in, or the room behind it, is changed")
	}
}

func TestAnswersAreNewMemory(t *testing.T) {
	calls := map[string]func() []byte{
		"Big":    func() []byte { return Big(0x0102030405060708, 8) },
		"Little": func() []byte { return Little(0x0102030405060708, 8) },
		"Fill":   func() []byte { return Fill(7, 8) },
		"Unhex":  func() []byte { b, _ := Unhex("0102030405060708"); return b },
	}
	for name, call := range calls {
		first := call()
		want := slices.Clone(first)
		clear(first)
		if got := call(); !bytes.Equal(got, want) || len(got) != 8 {
			t.Errorf("%s answers memory that it has answered ahead", name)
		}
	}
}
