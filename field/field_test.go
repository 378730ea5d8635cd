package field

import (
	"math"
	"math/rand"
	"testing"
)

// factors are the edges among the factors: none, one, x, the byte that Times reduces first, and all coefficients.
var factors = []byte{0, 1, 2, 0x80, 0xff}

// plainMul multiplies as on paper: the whole product of polynomials, then what is left of it behind division by x^8 + x^4 + x^3 + x + 1.
func plainMul(a, b byte) byte {
	product := 0
	for i := range 8 {
		if b>>i&1 == 1 {
			product ^= int(a) << i
		}
	}
	for i := 14; i >= 8; i-- {
		if product>>i&1 == 1 {
			product ^= 0x11b << (i - 8)
		}
	}
	return byte(product)
}

// plainPow goes word by word along the document: n times multiplied with 1, with its rules for n below 0 and above 255.
func plainPow(a byte, n int) byte {
	if n < 0 {
		n = 0
	}
	if n > 255 && a == 0 {
		return 0
	}
	if n > 255 {
		n %= 255
	}
	power := byte(1)
	for range n {
		power = plainMul(power, a)
	}
	return power
}

// plainInv looks for what gives 1 with a.
func plainInv(a byte) byte {
	for b := range 256 {
		if plainMul(a, byte(b)) == 1 {
			return byte(b)
		}
	}
	return 0
}

// plainMix and plainUnmix write each byte's sum out.
func plainMix(c [4]byte) [4]byte {
	return [4]byte{
		plainMul(2, c[0]) ^ plainMul(3, c[1]) ^ c[2] ^ c[3],
		plainMul(2, c[1]) ^ plainMul(3, c[2]) ^ c[3] ^ c[0],
		plainMul(2, c[2]) ^ plainMul(3, c[3]) ^ c[0] ^ c[1],
		plainMul(2, c[3]) ^ plainMul(3, c[0]) ^ c[1] ^ c[2],
	}
}

func plainUnmix(c [4]byte) [4]byte {
	return [4]byte{
		plainMul(14, c[0]) ^ plainMul(11, c[1]) ^ plainMul(13, c[2]) ^ plainMul(9, c[3]),
		plainMul(14, c[1]) ^ plainMul(11, c[2]) ^ plainMul(13, c[3]) ^ plainMul(9, c[0]),
		plainMul(14, c[2]) ^ plainMul(11, c[3]) ^ plainMul(13, c[0]) ^ plainMul(9, c[1]),
		plainMul(14, c[3]) ^ plainMul(11, c[0]) ^ plainMul(13, c[1]) ^ plainMul(9, c[2]),
	}
}

// edgeColumns are those of noughts, of 0xff, and those of each one byte that is not nought, at each place.
func edgeColumns() [][4]byte {
	columns := [][4]byte{{}, {0xff, 0xff, 0xff, 0xff}, {1, 1, 1, 1}, {0x80, 0x80, 0x80, 0x80}, {1, 2, 3, 4}, {4, 3, 2, 1}}
	for i := range 4 {
		for b := 1; b < 256; b++ {
			var c [4]byte
			c[i] = byte(b)
			columns = append(columns, c)
		}
	}
	return columns
}

func randomColumns(n int) [][4]byte {
	source := rand.New(rand.NewSource(5))
	columns := make([][4]byte, n)
	for i := range columns {
		source.Read(columns[i][:])
	}
	return columns
}

func allColumns() [][4]byte {
	return append(edgeColumns(), randomColumns(20000)...)
}

// P5.1

func TestTimesIsTheProductWithX(t *testing.T) {
	for a := range 256 {
		if got, want := Times(byte(a)), plainMul(byte(a), 2); got != want {
			t.Errorf("Times(%#x) = %#x, want %#x", a, got, want)
		}
	}
}

func TestTimesOfPublishedBytes(t *testing.T) {
	// The chain that FIPS 197 shows for 57, and the edges.
	for a, want := range map[byte]byte{0x57: 0xae, 0xae: 0x47, 0x47: 0x8e, 0x8e: 0x07, 0: 0, 1: 2, 2: 4, 0x40: 0x80, 0x7f: 0xfe, 0x80: 0x1b, 0xff: 0xe5} {
		if got := Times(a); got != want {
			t.Errorf("Times(%#x) = %#x, want %#x", a, got, want)
		}
	}
}

func TestMulOfTheExamples(t *testing.T) {
	for _, c := range [][3]byte{{0x57, 0x83, 0xc1}, {0x57, 0x13, 0xfe}, {0x53, 0xca, 1}, {0x80, 0x80, 0x9a}, {0xff, 0xff, 0x13}, {2, 0x80, 0x1b}} {
		if got := Mul(c[0], c[1]); got != c[2] {
			t.Errorf("Mul(%#x, %#x) = %#x, want %#x", c[0], c[1], got, c[2])
		}
	}
}

func TestMulOfAllPairs(t *testing.T) {
	for a := range 256 {
		for b := range 256 {
			if got, want := Mul(byte(a), byte(b)), plainMul(byte(a), byte(b)); got != want {
				t.Fatalf("Mul(%#x, %#x) = %#x, want %#x", a, b, got, want)
			}
		}
	}
}

func TestMulOfTheEdgesWithAllBytes(t *testing.T) {
	for _, f := range factors {
		for b := range 256 {
			want := plainMul(f, byte(b))
			if Mul(f, byte(b)) != want || Mul(byte(b), f) != want {
				t.Errorf("%#x times %#x is %#x and %#x, want %#x", f, b, Mul(f, byte(b)), Mul(byte(b), f), want)
			}
		}
	}
}

func TestPowOfAllBytesAndSmallNumbers(t *testing.T) {
	for a := range 256 {
		for n := -3; n <= 1030; n++ {
			if got, want := Pow(byte(a), n), plainPow(byte(a), n); got != want {
				t.Fatalf("Pow(%#x, %d) = %#x, want %#x", a, n, got, want)
			}
		}
	}
}

func TestPowBelowOneIsOne(t *testing.T) {
	for a := range 256 {
		for _, n := range []int{0, -1, -2, -254, -255, -256, math.MinInt32, math.MinInt + 1, math.MinInt} {
			if got := Pow(byte(a), n); got != 1 {
				t.Errorf("Pow(%#x, %d) = %#x, want 1", a, n, got)
			}
		}
	}
}

func TestPowOfGreatNumbers(t *testing.T) {
	for a := range 256 {
		for _, n := range []int{65535, 65536, math.MaxInt32, math.MaxInt32 + 1, 1<<32 + 1, 255 << 40, 255<<40 + 1, 1 << 62, math.MaxInt - 1, math.MaxInt} {
			if got, want := Pow(byte(a), n), plainPow(byte(a), n); got != want {
				t.Errorf("Pow(%#x, %d) = %#x, want %#x", a, n, got, want)
			}
		}
	}
}

func TestPowOfNoughtIsNoughtAboveNought(t *testing.T) {
	for _, n := range []int{1, 2, 254, 255, 256, 509, 510, 511, 65025, 255 << 40, math.MaxInt - 1, math.MaxInt} {
		if got := Pow(0, n); got != 0 {
			t.Errorf("Pow(0, %d) = %#x, want 0", n, got)
		}
	}
	if got := Pow(0, 0); got != 1 {
		t.Errorf("Pow(0, 0) = %#x, want 1", got)
	}
}

func TestPowGoesRoundAt255(t *testing.T) {
	for i := range 255 {
		a := byte(i + 1)
		if Pow(a, 1) != a || Pow(a, 255) != 1 || Pow(a, 256) != a || Pow(a, 510) != 1 || Pow(a, 511) != a {
			t.Errorf("Pow(%#x, ..) does not go round at 255", a)
		}
		if Pow(a, 254) != plainInv(a) || Pow(a, 509) != plainInv(a) {
			t.Errorf("Pow(%#x, 254) = %#x, want its Inv", a, Pow(a, 254))
		}
	}
}

func TestPowersOfThreeAreAllBytesButNought(t *testing.T) {
	var seen [256]bool
	for n := range 255 {
		seen[Pow(3, n)] = true
	}
	for b, is := range seen {
		if is != (b != 0) {
			t.Errorf("%#x is a power of 3: %v", b, is)
		}
	}
}

func TestPowOfRandomNumbers(t *testing.T) {
	source := rand.New(rand.NewSource(51))
	for range 20000 {
		a, n := byte(source.Intn(256)), int(source.Uint64())
		if got, want := Pow(a, n), plainPow(a, n); got != want {
			t.Fatalf("Pow(%#x, %d) = %#x, want %#x", a, n, got, want)
		}
	}
}

func TestInvOfAllBytes(t *testing.T) {
	for a := range 256 {
		if got, want := Inv(byte(a)), plainInv(byte(a)); got != want {
			t.Errorf("Inv(%#x) = %#x, want %#x", a, got, want)
		}
	}
}

func TestInvOfTheExamples(t *testing.T) {
	for a, want := range map[byte]byte{0x53: 0xca, 0xca: 0x53, 0: 0, 1: 1, 2: 0x8d, 0x80: 0x83, 0xff: 0x1c} {
		if got := Inv(a); got != want {
			t.Errorf("Inv(%#x) = %#x, want %#x", a, got, want)
		}
	}
}

// P5.2

func TestMixAndUnmixOfPublishedColumns(t *testing.T) {
	for from, to := range map[[4]byte][4]byte{
		{0xdb, 0x13, 0x53, 0x45}: {0x8e, 0x4d, 0xa1, 0xbc},
		{0xf2, 0x0a, 0x22, 0x5c}: {0x9f, 0xdc, 0x58, 0x9d},
		{0xd4, 0xbf, 0x5d, 0x30}: {0x04, 0x66, 0x81, 0xe5},
		{0xd4, 0xd4, 0xd4, 0xd5}: {0xd5, 0xd5, 0xd7, 0xd6},
		{0x2d, 0x26, 0x31, 0x4c}: {0x4d, 0x7e, 0xbd, 0xf8},
		{1, 0, 0, 0}:             {2, 1, 1, 3},
		{0, 1, 0, 0}:             {3, 2, 1, 1},
		{}:                       {},
		{1, 1, 1, 1}:             {1, 1, 1, 1},
		{0xff, 0xff, 0xff, 0xff}: {0xff, 0xff, 0xff, 0xff},
	} {
		if got := Mix(from); got != to {
			t.Errorf("Mix(%x) = %x, want %x", from, got, to)
		}
		if got := Unmix(to); got != from {
			t.Errorf("Unmix(%x) = %x, want %x", to, got, from)
		}
	}
}

func TestUnmixOfOneByteTellsItsWeights(t *testing.T) {
	for from, to := range map[[4]byte][4]byte{
		{1, 0, 0, 0}: {14, 9, 13, 11},
		{0, 1, 0, 0}: {11, 14, 9, 13},
		{0, 0, 1, 0}: {13, 11, 14, 9},
		{0, 0, 0, 1}: {9, 13, 11, 14},
	} {
		if got := Unmix(from); got != to {
			t.Errorf("Unmix(%x) = %x, want %x", from, got, to)
		}
	}
}

func TestMixAndUnmixAreTheSumsOfTheDocument(t *testing.T) {
	for _, c := range allColumns() {
		if got, want := Mix(c), plainMix(c); got != want {
			t.Fatalf("Mix(%x) = %x, want %x", c, got, want)
		}
		if got, want := Unmix(c), plainUnmix(c); got != want {
			t.Fatalf("Unmix(%x) = %x, want %x", c, got, want)
		}
	}
}

func TestMixAndUnmixLeaveTheirColumn(t *testing.T) {
	for _, c := range allColumns() {
		before := c
		Mix(c)
		Unmix(c)
		if c != before {
			t.Fatalf("%x was changed to %x", before, c)
		}
	}
}

// P5.3

func TestProductsAreCommutative(t *testing.T) {
	for a := range 256 {
		for b := range a {
			if Mul(byte(a), byte(b)) != Mul(byte(b), byte(a)) {
				t.Fatalf("%#x and %#x", a, b)
			}
		}
	}
}

func checkTriple(t *testing.T, a, b, c byte) {
	t.Helper()
	if Mul(Mul(a, b), c) != Mul(a, Mul(b, c)) {
		t.Fatalf("%#x, %#x, %#x: not associative", a, b, c)
	}
	if Mul(a, b^c) != Mul(a, b)^Mul(a, c) || Mul(b^c, a) != Mul(b, a)^Mul(c, a) {
		t.Fatalf("%#x, %#x, %#x: not distributive", a, b, c)
	}
}

func TestProductsAreAssociativeAndDistributive(t *testing.T) {
	for _, a := range factors {
		for b := range 256 {
			for c := range 256 {
				checkTriple(t, a, byte(b), byte(c))
			}
		}
	}
	source := rand.New(rand.NewSource(53))
	for range 100000 {
		n := source.Uint32()
		checkTriple(t, byte(n), byte(n>>8), byte(n>>16))
	}
}

func TestOneChangesNothingAndNoughtGivesNought(t *testing.T) {
	for a := range 256 {
		if Mul(byte(a), 1) != byte(a) || Mul(1, byte(a)) != byte(a) {
			t.Errorf("1 changes %#x", a)
		}
		if Mul(byte(a), 0) != 0 || Mul(0, byte(a)) != 0 {
			t.Errorf("0 with %#x is not 0", a)
		}
	}
}

func TestOnlyNoughtMakesAProductNought(t *testing.T) {
	for a := 1; a < 256; a++ {
		for b := 1; b < 256; b++ {
			if Mul(byte(a), byte(b)) == 0 {
				t.Fatalf("%#x times %#x is 0", a, b)
			}
		}
	}
}

// P5.4

func TestEachByteButNoughtGivesOneWithItsInv(t *testing.T) {
	for i := range 255 {
		a := byte(i + 1)
		if Mul(a, Inv(a)) != 1 || Mul(Inv(a), a) != 1 || Inv(Inv(a)) != a {
			t.Errorf("Inv(%#x) = %#x", a, Inv(a))
		}
	}
	if Inv(0) != 0 {
		t.Errorf("Inv(0) = %#x, want 0", Inv(0))
	}
}

// P5.5

func TestMixAndUnmixUndoEachOther(t *testing.T) {
	for _, c := range allColumns() {
		if got := Unmix(Mix(c)); got != c {
			t.Fatalf("Unmix(Mix(%x)) = %x", c, got)
		}
		if got := Mix(Unmix(c)); got != c {
			t.Fatalf("Mix(Unmix(%x)) = %x", c, got)
		}
	}
}
