package twice

import (
	"bytes"
	"crypto/aes"
	"crypto/cipher"
	"encoding/binary"
	"encoding/hex"
	"fmt"
	"math"
	"math/bits"
	"math/rand"
	"slices"
	"testing"

	"nepenthe/api"
)

// x is the polynomial x, one is 1, and none is 0.
var (
	x    = bitAt(1)
	one  = bitAt(0)
	none = make([]byte, 16)
)

func unhex(t *testing.T, s string) []byte {
	t.Helper()
	b, err := hex.DecodeString(s)
	if err != nil {
		t.Fatal(err)
	}
	return b
}

func reversed(b []byte) []byte {
	out := slices.Clone(b)
	slices.Reverse(out)
	return out
}

// bitAt is x to the n-th power, n below 128.
func bitAt(n int) []byte {
	b := make([]byte, 16)
	b[n/8] = 1 << (n % 8)
	return b
}

func randomBytes(source *rand.Rand, n int) []byte {
	b := make([]byte, n)
	source.Read(b)
	return b
}

// counted is the bytes from first on, each one more than the one ahead.
func counted(first byte, n int) []byte {
	b := make([]byte, n)
	for i := range b {
		b[i] = first + byte(i)
	}
	return b
}

// edges are of nought, of 0xff and of others all over, counted ones, and such whose ends alone are not nought.
func edges() [][]byte {
	var lists [][]byte
	for _, all := range []byte{0, 0xff, 1, 0x80, 0x7f, 0xfe, 0x87} {
		lists = append(lists, bytes.Repeat([]byte{all}, 16))
	}
	lists = append(lists, counted(0, 16), counted(0xf8, 16))
	for _, ends := range [][2]byte{{0x87, 0}, {0x87, 0x80}, {0, 0xff}, {1, 0x80}, {0, 0xc0}, {0, 0x7f}, {0xff, 0}} {
		b := make([]byte, 16)
		b[0], b[15] = ends[0], ends[1]
		lists = append(lists, b)
	}
	return lists
}

// manyLists are the edges, each list with one bit set and with one bit unset, and random ones.
func manyLists(seed int64, randoms int) [][]byte {
	source := rand.New(rand.NewSource(seed))
	lists := edges()
	for bit := range 128 {
		lists = append(lists, bitAt(bit), xored(bitAt(bit), bytes.Repeat([]byte{0xff}, 16)))
	}
	for range randoms {
		lists = append(lists, randomBytes(source, 16))
	}
	return lists
}

func xored(a, b []byte) []byte {
	out := slices.Clone(a)
	for i := range out {
		out[i] ^= b[i]
	}
	return out
}

// coefficient is that of x^n.
func coefficient(b []byte, n int) byte {
	return b[n/8] >> (n % 8) & 1
}

// plainMul multiplies coefficient by coefficient, and takes the powers from x^128 on out from the top, so that it shares no step with the program.
func plainMul(a, b []byte) []byte {
	var product [255]byte
	for i := range 128 {
		if coefficient(a, i) == 0 {
			continue
		}
		for j := range 128 {
			product[i+j] ^= coefficient(b, j)
		}
	}
	for n := 254; n >= 128; n-- {
		if product[n] == 1 {
			for _, power := range []int{128, 7, 2, 1, 0} {
				product[n-128+power] ^= 1
			}
		}
	}
	out := make([]byte, 16)
	for n := range 128 {
		out[n/8] |= product[n] << (n % 8)
	}
	return out
}

// plainDouble multiplies with x on two words of 64 bits.
func plainDouble(b []byte) []byte {
	low, high := binary.LittleEndian.Uint64(b), binary.LittleEndian.Uint64(b[8:])
	top := high >> 63
	high, low = high<<1|low>>63, low<<1
	if top == 1 {
		low ^= 1<<7 | 1<<2 | 1<<1 | 1
	}
	return binary.LittleEndian.AppendUint64(binary.LittleEndian.AppendUint64(nil, low), high)
}

// plainHalf answers what gives b when it is doubled.
func plainHalf(b []byte) []byte {
	low, high := binary.LittleEndian.Uint64(b), binary.LittleEndian.Uint64(b[8:])
	odd := low & 1
	low ^= odd * 0x87
	low, high = low>>1|high<<63, high>>1|odd<<63
	return binary.LittleEndian.AppendUint64(binary.LittleEndian.AppendUint64(nil, low), high)
}

// plainTimes answers b times the n-th power of x, which it finds by squaring.
func plainTimes(b []byte, n int) []byte {
	out, power := b, x
	for ; n > 0; n >>= 1 {
		if n&1 == 1 {
			out = plainMul(out, power)
		}
		power = plainMul(power, power)
	}
	return out
}

// checkBytes holds what a call answered against the bytes that are wanted.
func checkBytes(t *testing.T, name string, got []byte, err api.Errno, want []byte) {
	t.Helper()
	if err != api.OK || !bytes.Equal(got, want) {
		t.Fatalf("%s = %x, %v, want %x", name, got, err, want)
	}
}

// checkShape asks for ErrShape, with nothing beside it.
func checkShape(t *testing.T, name string, got []byte, err api.Errno) {
	t.Helper()
	if err != api.ErrShape || len(got) != 0 {
		t.Errorf("%s = %x, %v, want ErrShape", name, got, err)
	}
}

// checkListShape asks for ErrShape of a List, with nothing beside it.
func checkListShape(t *testing.T, name string, got [][]byte, err api.Errno) {
	t.Helper()
	if err != api.ErrShape || len(got) != 0 {
		t.Errorf("%s = %x, %v, want ErrShape", name, got, err)
	}
}

func doubled(t *testing.T, b []byte) []byte {
	t.Helper()
	out, err := Double(b)
	if err != api.OK || len(out) != 16 {
		t.Fatalf("Double(%x) = %x, %v", b, out, err)
	}
	return out
}

func product(t *testing.T, a, b []byte) []byte {
	t.Helper()
	out, err := Mul(a, b)
	if err != api.OK || len(out) != 16 {
		t.Fatalf("Mul(%x, %x) = %x, %v", a, b, out, err)
	}
	return out
}

// checkList holds what List answers against b, doubled again and again.
func checkList(t *testing.T, b []byte, n int) {
	t.Helper()
	got, err := List(b, n)
	if err != api.OK || len(got) != n {
		t.Fatalf("List(%x, %d) has %d, %v", b, n, len(got), err)
	}
	want := b
	for i := range got {
		if !bytes.Equal(got[i], want) {
			t.Fatalf("List(%x, %d)[%d] = %x, want %x", b, n, i, got[i], want)
		}
		want = plainDouble(want)
	}
}

// wrongLists are nil and lists of all lengths but 16, such with room for 16 bytes behind their end among them.
func wrongLists() [][]byte {
	lists := [][]byte{nil}
	for _, n := range []int{0, 1, 8, 15, 17, 24, 31, 32, 33, 64, 256, 65536} {
		lists = append(lists, make([]byte, n), make([]byte, n, n+16), counted(1, n))
	}
	lists = append(lists, counted(1, 16)[:0], counted(1, 16)[:15], counted(1, 17)[1:1], counted(1, 32)[:17])
	return lists
}

// P8.1

func TestDoubleOfTheExample(t *testing.T) {
	got, err := Double(unhex(t, "00000000000000000000000000000080"))
	checkBytes(t, "Double(00 .. 00 80)", got, err, unhex(t, "87000000000000000000000000000000"))
}

func TestDoubleOfTheEdges(t *testing.T) {
	for from, to := range map[string]string{
		"00000000000000000000000000000000": "00000000000000000000000000000000",
		"ffffffffffffffffffffffffffffffff": "79ffffffffffffffffffffffffffffff",
		"01000000000000000000000000000000": "02000000000000000000000000000000",
		"80000000000000000000000000000000": "00010000000000000000000000000000",
		"00000000000000800000000000000000": "00000000000000000100000000000000",
		"00000000000000000000000000000040": "00000000000000000000000000000080",
		"ffffffffffffffffffffffffffffff7f": "feffffffffffffffffffffffffffffff",
		"87000000000000000000000000000080": "89010000000000000000000000000000",
		"80808080808080808080808080808080": "87010101010101010101010101010101",
	} {
		got, err := Double(unhex(t, from))
		checkBytes(t, "Double("+from+")", got, err, unhex(t, to))
	}
}

func TestDoubleAndTimesOfPublishedSubkeys(t *testing.T) {
	// RFC 4493 doubles for its subkeys with the same modulus, but writes the bytes the other way round.
	l := reversed(unhex(t, "7df76b0c1ab899b33e42f047b91b546f"))
	first := reversed(unhex(t, "fbeed618357133667c85e08f7236a8de"))
	second := reversed(unhex(t, "f7ddac306ae266ccf90bc11ee46d513b"))
	got, err := Double(l)
	checkBytes(t, "Double(L)", got, err, first)
	got, err = Double(first)
	checkBytes(t, "Double(K1)", got, err, second)
	got, err = Times(l, 2)
	checkBytes(t, "Times(L, 2)", got, err, second)
	list, err := List(l, 3)
	if err != api.OK || len(list) != 3 || !bytes.Equal(list[0], l) || !bytes.Equal(list[1], first) || !bytes.Equal(list[2], second) {
		t.Errorf("List(L, 3) = %x, %v", list, err)
	}
}

func TestDoubleIsTheDocuments(t *testing.T) {
	for _, b := range manyLists(81, 20000) {
		got, err := Double(b)
		checkBytes(t, fmt.Sprintf("Double(%x)", b), got, err, plainDouble(b))
	}
}

func TestTimesOfOneGoesUpThePowers(t *testing.T) {
	for n := range 128 {
		got, err := Times(one, n)
		checkBytes(t, fmt.Sprintf("Times(1, %d)", n), got, err, bitAt(n))
	}
	got, err := Times(one, 128)
	checkBytes(t, "Times(1, 128)", got, err, unhex(t, "87000000000000000000000000000000"))
}

func TestTimesIsDoublingAgainAndAgain(t *testing.T) {
	for _, b := range manyLists(82, 20) {
		want := b
		for n := range 300 {
			got, err := Times(b, n)
			checkBytes(t, fmt.Sprintf("Times(%x, %d)", b, n), got, err, want)
			want = plainDouble(want)
		}
	}
}

func TestTimesOfGreatNumbers(t *testing.T) {
	source := rand.New(rand.NewSource(83))
	numbers := []int{128, 255, 256, 257, 1000, 32767, 32768, 65535, 65536}
	for range 10 {
		numbers = append(numbers, source.Intn(65537))
	}
	for _, b := range append(edges(), one, bitAt(127), randomBytes(source, 16)) {
		for _, n := range numbers {
			got, err := Times(b, n)
			checkBytes(t, fmt.Sprintf("Times(%x, %d)", b, n), got, err, plainTimes(b, n))
		}
	}
}

func TestTimesOfWrongNumbers(t *testing.T) {
	for _, b := range append(edges(), one, bitAt(127)) {
		for _, n := range []int{-1, -2, -128, -65536, 65537, 65538, 131072, 1 << 32, 1<<32 + 1, math.MinInt32, math.MaxInt32, math.MinInt, math.MinInt + 1, math.MaxInt - 1, math.MaxInt} {
			got, err := Times(b, n)
			checkShape(t, fmt.Sprintf("Times(%x, %d)", b, n), got, err)
		}
	}
}

func TestMulOfPowers(t *testing.T) {
	for i := range 128 {
		for j := range 128 {
			got, err := Mul(bitAt(i), bitAt(j))
			checkBytes(t, fmt.Sprintf("Mul(x^%d, x^%d)", i, j), got, err, plainMul(bitAt(i), bitAt(j)))
		}
	}
	got, err := Mul(bitAt(70), bitAt(58))
	checkBytes(t, "Mul(x^70, x^58)", got, err, unhex(t, "87000000000000000000000000000000"))
	// x^254 is x^126 times x^7 + x^2 + x + 1, whose x^133 and x^128 are reduced once more.
	got, err = Mul(bitAt(127), bitAt(127))
	checkBytes(t, "Mul(x^127, x^127)", got, err, unhex(t, "671000000000000000000000000000c0"))
}

func TestMulIsTheDocuments(t *testing.T) {
	some := append(edges(), bitAt(0), bitAt(1), bitAt(63), bitAt(64), bitAt(127))
	for _, a := range some {
		for _, b := range manyLists(84, 20) {
			got, err := Mul(a, b)
			checkBytes(t, fmt.Sprintf("Mul(%x, %x)", a, b), got, err, plainMul(a, b))
			got, err = Mul(b, a)
			checkBytes(t, fmt.Sprintf("Mul(%x, %x)", b, a), got, err, plainMul(a, b))
		}
	}
	source := rand.New(rand.NewSource(85))
	for range 3000 {
		a, b := randomBytes(source, 16), randomBytes(source, 16)
		got, err := Mul(a, b)
		checkBytes(t, fmt.Sprintf("Mul(%x, %x)", a, b), got, err, plainMul(a, b))
	}
}

// mirrored answers the bytes with their bits the other way round, as GCM numbers them.
func mirrored(b []byte) []byte {
	out := slices.Clone(b)
	for i := range out {
		out[i] = bits.Reverse8(out[i])
	}
	return out
}

func TestMulIsTheLibrarysGCMs(t *testing.T) {
	// GCM's tag of 16 bytes that are not encrypted is ((A * H) + L) * H + M: products in this field, of bits in mirrored bytes.
	source := rand.New(rand.NewSource(86))
	for range 500 {
		block, err := aes.NewCipher(randomBytes(source, 32))
		if err != nil {
			t.Fatal(err)
		}
		gcm, err := cipher.NewGCM(block)
		if err != nil {
			t.Fatal(err)
		}
		nonce, text := randomBytes(source, 12), randomBytes(source, 16)
		tag := gcm.Seal(nil, nonce, nil, text)
		h, mask, length := make([]byte, 16), make([]byte, 16), make([]byte, 16)
		block.Encrypt(h, none)
		block.Encrypt(mask, append(slices.Clone(nonce), 0, 0, 0, 1))
		length[7] = 128
		inner := xored(product(t, mirrored(text), mirrored(h)), mirrored(length))
		if got := xored(mirrored(product(t, inner, mirrored(h))), mask); !bytes.Equal(got, tag) {
			t.Fatalf("of %x under %x: %x, want %x", text, h, got, tag)
		}
	}
}

func TestListOfTheDocumentsNumbers(t *testing.T) {
	for _, b := range append(edges(), one, bitAt(127), counted(3, 16)) {
		for _, n := range []int{0, 1, 2, 127, 128, 129, 255, 256} {
			checkList(t, b, n)
		}
	}
}

func TestListOfManyLists(t *testing.T) {
	source := rand.New(rand.NewSource(87))
	for _, b := range manyLists(88, 300) {
		checkList(t, b, source.Intn(257))
		checkList(t, b, 256)
	}
}

func TestListIsWhatTimesTells(t *testing.T) {
	for _, b := range append(edges(), counted(3, 16)) {
		list, _ := List(b, 256)
		for i, p := range list {
			got, err := Times(b, i)
			checkBytes(t, fmt.Sprintf("Times(%x, %d)", b, i), got, err, p)
		}
	}
}

func TestListOfWrongNumbers(t *testing.T) {
	for _, b := range append(edges(), one, bitAt(127)) {
		for _, n := range []int{-1, -2, -256, 257, 258, 512, 65536, 65537, 1 << 32, 1<<32 + 1, math.MinInt32, math.MaxInt32, math.MinInt, math.MinInt + 1, math.MaxInt - 1, math.MaxInt} {
			got, err := List(b, n)
			checkListShape(t, fmt.Sprintf("List(%x, %d)", b, n), got, err)
		}
	}
}

func TestBytesThatAreNotSixteen(t *testing.T) {
	numbers := []int{math.MinInt, -1, 0, 1, 128, 255, 256, 257, 65536, 65537, math.MaxInt}
	for _, b := range wrongLists() {
		name := fmt.Sprintf("%d bytes", len(b))
		got, err := Double(b)
		checkShape(t, "Double of "+name, got, err)
		for _, n := range numbers {
			got, err = Times(b, n)
			checkShape(t, fmt.Sprintf("Times of %s, %d", name, n), got, err)
			list, err := List(b, n)
			checkListShape(t, fmt.Sprintf("List of %s, %d", name, n), list, err)
		}
	}
}

func TestMulOfBytesThatAreNotSixteen(t *testing.T) {
	for _, wrong := range wrongLists() {
		name := fmt.Sprintf("%d bytes", len(wrong))
		for _, b := range append(edges(), one) {
			got, err := Mul(wrong, b)
			checkShape(t, "Mul with first "+name, got, err)
			got, err = Mul(b, wrong)
			checkShape(t, "Mul with second "+name, got, err)
		}
		for _, other := range wrongLists() {
			got, err := Mul(wrong, other)
			checkShape(t, fmt.Sprintf("Mul of %s and %d", name, len(other)), got, err)
		}
	}
}

// P8.2

func TestDoublingIsAProductWithX(t *testing.T) {
	for _, b := range manyLists(89, 3000) {
		got, err := Double(b)
		checkBytes(t, fmt.Sprintf("Double(%x)", b), got, err, product(t, b, x))
		checkBytes(t, fmt.Sprintf("Double(%x)", b), got, err, product(t, x, b))
	}
}

func TestTimesIsAProductWithThePowerOfX(t *testing.T) {
	for _, b := range append(edges(), counted(3, 16)) {
		for _, n := range []int{0, 1, 127, 128, 129, 255, 256, 65536} {
			power, _ := Times(one, n)
			got, err := Times(b, n)
			checkBytes(t, fmt.Sprintf("Times(%x, %d)", b, n), got, err, product(t, b, power))
		}
	}
}

func TestTimesAddsUp(t *testing.T) {
	source := rand.New(rand.NewSource(90))
	for range 300 {
		b, m, n := randomBytes(source, 16), source.Intn(2000), source.Intn(2000)
		first, _ := Times(b, m)
		want, _ := Times(first, n)
		got, err := Times(b, m+n)
		checkBytes(t, fmt.Sprintf("Times(%x, %d + %d)", b, m, n), got, err, want)
	}
}

// checkThree asks for what products of three polynomials promise.
func checkThree(t *testing.T, a, b, c []byte) {
	t.Helper()
	ab, ac := product(t, a, b), product(t, a, c)
	if !bytes.Equal(ab, product(t, b, a)) {
		t.Fatalf("%x, %x: not commutative", a, b)
	}
	if !bytes.Equal(product(t, ab, c), product(t, a, product(t, b, c))) {
		t.Fatalf("%x, %x, %x: not associative", a, b, c)
	}
	if !bytes.Equal(product(t, a, xored(b, c)), xored(ab, ac)) || !bytes.Equal(product(t, xored(b, c), a), xored(ab, ac)) {
		t.Fatalf("%x, %x, %x: not distributive", a, b, c)
	}
}

func TestProductsAreCommutativeAssociativeAndDistributive(t *testing.T) {
	some := append(edges(), bitAt(0), bitAt(1), bitAt(64), bitAt(127))
	for _, a := range some {
		for _, b := range some {
			for _, c := range some {
				checkThree(t, a, b, c)
			}
		}
	}
	source := rand.New(rand.NewSource(91))
	for range 2000 {
		checkThree(t, randomBytes(source, 16), randomBytes(source, 16), randomBytes(source, 16))
	}
}

func TestOneChangesNothingAndNoughtGivesNought(t *testing.T) {
	for _, b := range manyLists(92, 500) {
		if !bytes.Equal(product(t, b, one), b) || !bytes.Equal(product(t, one, b), b) {
			t.Fatalf("1 changes %x", b)
		}
		if !bytes.Equal(product(t, b, none), none) || !bytes.Equal(product(t, none, b), none) {
			t.Fatalf("0 with %x is not 0", b)
		}
	}
}

func TestSquaredAsOftenAsThereAreBitsItIsAsItWas(t *testing.T) {
	for _, b := range manyLists(93, 50) {
		power := b
		for range 128 {
			power = product(t, power, power)
		}
		if !bytes.Equal(power, b) {
			t.Fatalf("%x comes back as %x", b, power)
		}
	}
}

// P8.3

func TestDoublingCanBeUndone(t *testing.T) {
	for _, b := range manyLists(94, 20000) {
		if got := plainHalf(doubled(t, b)); !bytes.Equal(got, b) {
			t.Fatalf("%x doubled and halved is %x", b, got)
		}
		if got := doubled(t, plainHalf(b)); !bytes.Equal(got, b) {
			t.Fatalf("%x halved and doubled is %x", b, got)
		}
	}
}

func TestUnlikeOnesStayUnlike(t *testing.T) {
	from := map[string]string{}
	for _, b := range manyLists(95, 2000) {
		for bit := range 129 {
			a := b
			if bit < 128 {
				a = xored(b, bitAt(bit))
			}
			to := string(doubled(t, a))
			if other, is := from[to]; is && other != string(a) {
				t.Fatalf("%x and %x, doubled, are both %x", a, other, to)
			}
			from[to] = string(a)
		}
	}
}

func TestOnlyNoughtDoublesToNought(t *testing.T) {
	if !bytes.Equal(doubled(t, none), none) {
		t.Error("0 doubled is not 0")
	}
	for _, b := range manyLists(96, 1000) {
		if !bytes.Equal(b, none) && bytes.Equal(doubled(t, b), none) {
			t.Errorf("%x doubled is 0", b)
		}
	}
}

func TestListsOfUnlikeOnesHaveNoneTwice(t *testing.T) {
	for _, b := range append(edges()[1:], one, bitAt(127)) {
		list, _ := List(b, 256)
		seen := map[string]int{}
		for i, p := range list {
			if before, is := seen[string(p)]; is {
				t.Fatalf("List(%x, 256) has %x at %d and at %d", b, p, before, i)
			}
			seen[string(p)] = i
		}
	}
}

// Beside the promises: what is handed in, and what is answered.

// calls are all calls, each told as one that takes two lists and answers lists: one that takes a single list leaves the second be.
func calls() map[string]func(a, b []byte) [][]byte {
	single := func(b []byte, _ api.Errno) [][]byte { return [][]byte{b} }
	list := func(l [][]byte, _ api.Errno) [][]byte { return l }
	return map[string]func(a, b []byte) [][]byte{
		"Double":       func(a, _ []byte) [][]byte { return single(Double(a)) },
		"Times 0":      func(a, _ []byte) [][]byte { return single(Times(a, 0)) },
		"Times 1":      func(a, _ []byte) [][]byte { return single(Times(a, 1)) },
		"Times 129":    func(a, _ []byte) [][]byte { return single(Times(a, 129)) },
		"Times -1":     func(a, _ []byte) [][]byte { return single(Times(a, -1)) },
		"Mul":          func(a, b []byte) [][]byte { return single(Mul(a, b)) },
		"Mul of one":   func(a, _ []byte) [][]byte { return single(Mul(a, a)) },
		"Mul with 1":   func(a, _ []byte) [][]byte { return single(Mul(a, one)) },
		"Mul, 1 first": func(a, _ []byte) [][]byte { return single(Mul(one, a)) },
		"List 0":       func(a, _ []byte) [][]byte { return list(List(a, 0)) },
		"List 1":       func(a, _ []byte) [][]byte { return list(List(a, 1)) },
		"List 256":     func(a, _ []byte) [][]byte { return list(List(a, 256)) },
		"List 257":     func(a, _ []byte) [][]byte { return list(List(a, 257)) },
	}
}

func cloned(lists [][]byte) [][]byte {
	out := make([][]byte, len(lists))
	for i, b := range lists {
		out[i] = slices.Clone(b)
	}
	return out
}

func same(a, b [][]byte) bool {
	return slices.EqualFunc(a, b, func(p, q []byte) bool { return bytes.Equal(p, q) })
}

// spoil writes over all that a list has, what lies behind its end too.
func spoil(b []byte) {
	b = b[:cap(b)]
	for i := range b {
		b[i] = ^b[i]
	}
}

func TestNothingHandedInIsChanged(t *testing.T) {
	for name, call := range calls() {
		for n := range 40 {
			first, second := counted(1, 100), counted(101, 100)
			call(first[20:20+n], second[30:30+n])
			call(first[20:20+n], second[30:46])
			call(first[20:36], second[30:30+n])
			if !bytes.Equal(first, counted(1, 100)) || !bytes.Equal(second, counted(101, 100)) {
				t.Fatalf("%s of %d bytes: what is handed in, or what lies beside it, was changed", name, n)
			}
		}
	}
}

func TestWhatLiesBehindAListIsAllOne(t *testing.T) {
	for name, call := range calls() {
		want := call(counted(0x78, 16), counted(0x91, 16))
		for _, behind := range []byte{0, 1, 0x80, 0xff} {
			first := append(counted(0x78, 16), bytes.Repeat([]byte{behind}, 40)...)[:16]
			second := append(counted(0x91, 16), bytes.Repeat([]byte{behind}, 40)...)[:16]
			if got := call(first, second); !same(got, want) {
				t.Errorf("%s = %x, want %x", name, got, want)
			}
		}
	}
}

func TestNothingHandedInIsKept(t *testing.T) {
	for name, call := range calls() {
		first, second := counted(0x78, 100), counted(0x91, 100)
		got := call(first[:16], second[:16])
		want := cloned(got)
		spoil(first)
		spoil(second)
		if !same(got, want) {
			t.Errorf("what %s answers hangs on what was handed in", name)
		}
		if again := call(counted(0x78, 16), counted(0x91, 16)); !same(again, want) {
			t.Errorf("%s answers otherwise, once what was handed in ahead is changed", name)
		}
	}
}

func TestAnswersAreNewMemory(t *testing.T) {
	for name, call := range calls() {
		first, second := counted(0x78, 16), counted(0x91, 16)
		got, other := call(first, second), call(first, second)
		want := cloned(other)
		for _, b := range got {
			spoil(b)
		}
		clear(got)
		if !same(other, want) || !same(call(first, second), want) {
			t.Errorf("what %s answers shares its memory with another answer", name)
		}
		if !bytes.Equal(first, counted(0x78, 16)) || !bytes.Equal(second, counted(0x91, 16)) || !bytes.Equal(one, bitAt(0)) {
			t.Errorf("what %s answers shares its memory with what is handed in", name)
		}
	}
}

func TestListsOfOneAnswerShareNoMemory(t *testing.T) {
	for _, n := range []int{1, 2, 3, 255, 256} {
		list, _ := List(counted(0x78, 16), n)
		want := cloned(list)
		for i, b := range list {
			spoil(b)
			want[i] = slices.Clone(b)
			if !same(list, want) {
				t.Fatalf("of %d lists: the one at %d shares its memory with another", n, i)
			}
		}
	}
}
