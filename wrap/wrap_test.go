package wrap

import (
	"bytes"
	library "crypto/aes"
	"encoding/binary"
	"encoding/hex"
	"fmt"
	"math/rand"
	"slices"
	"testing"

	"nepenthe/api"
)

// theExample is what the chapter's example comes to.
const theExample = "64e8c3f9ce0f5ba263e9777905818a2a93c8191e7d6e8ae7"

// published are RFC 3394's vectors under keys of 256 bits (4.3, 4.5 and 4.6; the key is 00 .. 1f): what is wrapped, and what comes of it. They were written from memory, and worked out again with OpenSSL.
var published = [][2]string{
	{"00112233445566778899aabbccddeeff", theExample},
	{"00112233445566778899aabbccddeeff0001020304050607", "a8f9bc1612c68b3ff6e6f4fbe30e71e4769c8b80a32cb8958cd5d17d6b254da1"},
	{"00112233445566778899aabbccddeeff000102030405060708090a0b0c0d0e0f", "28c9f404c4b810f4cbccb35cfb87f8263f5786e2d80ed326cbc7f0e71a99f43bfb988b9b7a02dd21"},
}

// workedOut are what OpenSSL came to, of the bytes counted from 03 on, as many as the number says, under the key 07 .. 26.
var workedOut = map[int]string{
	16:  "01969abf1941bdfb3968d1150d8da445878b3704e4770fef",
	24:  "db69926684149331a39c1aae0f5e740cecbae574a6a8379f5276573b4969836a",
	96:  "e7f1c1fd931a20c9f920b3bca3a2cb228149a2cc681543818d8c16290b86b136f7a6bb1f6bc71e9328aef221f163a0b720963bb621151033bd2476cf0e7c47f09e6da96184753f6730844342e4cd6f2ca9cfabc988ece0c4de36777fee8ae295bb86d0f05c6ee516",
	248: "f023a4c45cc040e7d6b035152190b8b5406724131f0d2e4ee08aba622e9b2d9444881600a88bbd5aedbde26377fec5955acbb0dd50084a9bab0d156a07e4b2149299ea8816ea7932c39521ef2bcd35a35c835a4da9158a01055c3563136f860787fb01c0ee69269cf1153b4f48a9dc1520bee517f1fee42ad4941d9ec42c12b116d2c588e3d882062d0ed3f98bb00e0a5bf4875ea498878f905ebdd0106d0829222bdde6a143b8828c8d563fcd9bc905ad99f90ef34df4d0584504298008146806b0cf9c8301505ae5f05a78326b1bfe15ca223ee4a4f9e03f9b7eb7c4d7df2919ec792201295dc0c60bedc6d6c52a4d39c2333e8e0b832faf0c56d19dc0e78c",
	256: "8d25081fc9812b8c31fe79c2a1228ce1ad31d5f9614e3565502eb453c160bd9f29296608deef9776e607e5749571725b6dca4093bcb023df1de88e70df3d1a2f7c758d83409fb863371a80066b1f05edd88381630387f13350b91e4bfce385af010ad9baa7bf6d4d29a5a10c1e0c0629059455b9f6dc0995ca3b79c3af7604a8a5c19817c0f51fa6edc42054b0979b6d5d21e2d14c1286da3b2871b1fcb5775db1c2a1bdce1a4e7300a28fe051553bc05b07721e2e7da76fa99b275b07344482f106a235fcd19676d0d9bd2d58892435462e95e005ebc705a9269043c6ffce20b7c385fd18bd75ecc7c2c8087970ca6b4941a1ac989f5146202e0b3522c788f2ccedde3f0374606d",
}

// wrapLengths are lengths that may be wrapped, the least and the most of them among these; 96 is that of a namespace's keys.
var wrapLengths = []int{16, 24, 32, 40, 96, 128, 240, 248, 256}

func unhex(t *testing.T, s string) []byte {
	t.Helper()
	b, err := hex.DecodeString(s)
	if err != nil {
		t.Fatal(err)
	}
	return b
}

func randomBytes(source *rand.Rand, n int) []byte {
	b := make([]byte, n)
	source.Read(b)
	return b
}

// counted is the bytes from first on, each one more than the one ahead.
func counted(first byte, n int) []byte {
	b := make([]byte, n)
	for i := range b {
		b[i] = first + byte(i)
	}
	return b
}

// manyLists are lists of one length: of nought, of 0xff and of others all over, counted ones, each with one bit set, and random ones.
func manyLists(n int, seed int64, randoms int) [][]byte {
	source := rand.New(rand.NewSource(seed))
	var lists [][]byte
	for _, all := range []byte{0, 0xff, 1, 0x80, 0xa6} {
		lists = append(lists, bytes.Repeat([]byte{all}, n))
	}
	lists = append(lists, counted(0, n), counted(0xf8, n))
	for bit := range 8 * n {
		set := make([]byte, n)
		set[bit/8] = 1 << (bit % 8)
		lists = append(lists, set)
	}
	for range randoms {
		lists = append(lists, randomBytes(source, n))
	}
	return lists
}

// wrongKeys are nil and lists that are no keys, such with more room behind their end among them.
func wrongKeys() [][]byte {
	keys := [][]byte{nil, make([]byte, 0, 64), counted(0, 32)[:31], counted(0, 33)[1:32], counted(0, 64)[:16]}
	for _, n := range []int{0, 1, 8, 16, 24, 31, 33, 40, 48, 64, 256} {
		keys = append(keys, counted(0, n), make([]byte, n, n+32))
	}
	return keys
}

// wrongBytes are nil and lists of lengths that may not be wrapped (or, with 8 bytes more, not be unwrapped).
func wrongBytes(more int) [][]byte {
	lists := [][]byte{nil, make([]byte, 0, 272), counted(0, 16+more)[:15+more], counted(0, 257+more)[:255+more]}
	for _, n := range []int{-8, -7, -1, 0, 1, 7, 8, 9, 15, 17, 23, 25, 31, 33, 247, 249, 255, 257, 263, 264, 272, 512, 4096, 65536, 1 << 20} {
		if n+more >= 0 {
			lists = append(lists, counted(1, n+more), make([]byte, n+more, n+more+300))
		}
	}
	return lists
}

// plainWrap wraps behind any first part. It goes by RFC 3394's other telling, where the parts move up at each step and the last one's place is filled, on the library's AES: so it hangs on no layer, nor on how the parts are counted.
func plainWrap(t *testing.T, key, first, b []byte) []byte {
	t.Helper()
	c, err := library.NewCipher(key)
	if err != nil {
		t.Fatal(err)
	}
	a, row := binary.BigEndian.Uint64(first), slices.Clone(b)
	for step := range uint64(6 * len(b) / 8) {
		block := append(binary.BigEndian.AppendUint64(nil, a), row[:8]...)
		c.Encrypt(block, block)
		a = binary.BigEndian.Uint64(block) ^ (step + 1)
		row = append(row[8:], block[8:]...)
	}
	return append(binary.BigEndian.AppendUint64(nil, a), row...)
}

// plainFirst is the first part of what fits.
func plainFirst() []byte {
	return []byte{0xa6, 0xa6, 0xa6, 0xa6, 0xa6, 0xa6, 0xa6, 0xa6}
}

// checkBytes holds what a call answered against the bytes that are wanted.
func checkBytes(t *testing.T, name string, got []byte, err api.Errno, want []byte) {
	t.Helper()
	if err != api.OK || !bytes.Equal(got, want) {
		t.Fatalf("%s = %x, %v, want %x", name, got, err, want)
	}
}

// checkErr asks for an error, with nothing beside it.
func checkErr(t *testing.T, name string, got []byte, err, want api.Errno) {
	t.Helper()
	if err != want || len(got) != 0 {
		t.Errorf("%s = %x, %v, want %v", name, got, err, want)
	}
}

// checkPlain holds both calls against the chapter's words, and so that what was wrapped comes back.
func checkPlain(t *testing.T, key, b []byte) {
	t.Helper()
	name := fmt.Sprintf("under %x, of %x", key, b)
	wrapped := plainWrap(t, key, plainFirst(), b)
	got, err := Wrap(key, b)
	checkBytes(t, "Wrap "+name, got, err, wrapped)
	got, err = Unwrap(key, wrapped)
	checkBytes(t, "Unwrap "+name, got, err, b)
}

// P10.1

func TestWrapAndUnwrapOfTheExample(t *testing.T) {
	key, b := counted(0, 32), unhex(t, "00112233445566778899aabbccddeeff")
	got, err := Wrap(key, b)
	checkBytes(t, "Wrap", got, err, unhex(t, theExample))
	got, err = Unwrap(key, unhex(t, theExample))
	checkBytes(t, "Unwrap", got, err, b)
}

func TestWrapAndUnwrapOfThePublishedVectors(t *testing.T) {
	for _, p := range published {
		got, err := Wrap(counted(0, 32), unhex(t, p[0]))
		checkBytes(t, "Wrap of "+p[0], got, err, unhex(t, p[1]))
		got, err = Unwrap(counted(0, 32), unhex(t, p[1]))
		checkBytes(t, "Unwrap of "+p[1], got, err, unhex(t, p[0]))
	}
}

func TestWrapAndUnwrapOfWhatAnotherProgramWorkedOut(t *testing.T) {
	for n, wrapped := range workedOut {
		got, err := Wrap(counted(7, 32), counted(3, n))
		checkBytes(t, fmt.Sprintf("Wrap of %d bytes", n), got, err, unhex(t, wrapped))
		got, err = Unwrap(counted(7, 32), unhex(t, wrapped))
		checkBytes(t, fmt.Sprintf("Unwrap of %d bytes", n), got, err, counted(3, n))
	}
}

func TestAllLengthsAreTheDocuments(t *testing.T) {
	source := rand.New(rand.NewSource(101))
	for n := 16; n <= 256; n += 8 {
		checkPlain(t, randomBytes(source, 32), make([]byte, n))
		checkPlain(t, randomBytes(source, 32), bytes.Repeat([]byte{0xff}, n))
		checkPlain(t, randomBytes(source, 32), bytes.Repeat([]byte{0xa6}, n))
		checkPlain(t, randomBytes(source, 32), randomBytes(source, n))
	}
}

func TestManyKeysAreTheDocuments(t *testing.T) {
	for _, key := range manyLists(32, 102, 50) {
		checkPlain(t, key, counted(0, 24))
	}
}

func TestManyBytesAreTheDocuments(t *testing.T) {
	for _, n := range []int{16, 24} {
		for _, b := range manyLists(n, 103, 50) {
			checkPlain(t, counted(0, 32), b)
		}
	}
}

func TestRandomBytesAreTheDocuments(t *testing.T) {
	source := rand.New(rand.NewSource(104))
	for range 200 {
		checkPlain(t, randomBytes(source, 32), randomBytes(source, 8*(2+source.Intn(31))))
	}
}

func TestAKeyMayBeWrappedUnderItself(t *testing.T) {
	for _, key := range manyLists(32, 105, 5)[:12] {
		checkPlain(t, key, key)
	}
}

func TestWrongKeys(t *testing.T) {
	for _, key := range wrongKeys() {
		for _, b := range append(wrongBytes(0), counted(0, 16), counted(0, 24), counted(0, 96), counted(0, 256)) {
			got, err := Wrap(key, b)
			checkErr(t, fmt.Sprintf("Wrap under %d bytes, of %d", len(key), len(b)), got, err, api.ErrShape)
		}
		for _, b := range append(wrongBytes(8), counted(0, 24), counted(0, 32), counted(0, 104), counted(0, 264), unhex(t, theExample)) {
			got, err := Unwrap(key, b)
			checkErr(t, fmt.Sprintf("Unwrap under %d bytes, of %d", len(key), len(b)), got, err, api.ErrShape)
		}
	}
}

func TestWrongBytes(t *testing.T) {
	for _, key := range [][]byte{counted(0, 32), make([]byte, 32)} {
		for _, b := range wrongBytes(0) {
			got, err := Wrap(key, b)
			checkErr(t, fmt.Sprintf("Wrap of %d bytes", len(b)), got, err, api.ErrShape)
		}
		for _, b := range wrongBytes(8) {
			got, err := Unwrap(key, b)
			checkErr(t, fmt.Sprintf("Unwrap of %d bytes", len(b)), got, err, api.ErrShape)
		}
	}
}

// TestNoOtherLengths goes over all lengths, of bytes that were never wrapped: what is of the right shape does not fit.
func TestNoOtherLengths(t *testing.T) {
	key, room := counted(0, 32), counted(0, 300)
	for n := range room {
		if n%8 != 0 || n < 16 || n > 256 {
			got, err := Wrap(key, room[:n])
			checkErr(t, fmt.Sprintf("Wrap of %d bytes", n), got, err, api.ErrShape)
		}
		want := api.ErrShape
		if n%8 == 0 && n >= 24 && n <= 264 {
			want = api.ErrIntegrity
		}
		got, err := Unwrap(key, room[:n])
		checkErr(t, fmt.Sprintf("Unwrap of %d bytes", n), got, err, want)
	}
}

// TestWhatIsWrappedOfAnotherLengthIsOfTheWrongShape has such bytes as would fit, were their length one that may be.
func TestWhatIsWrappedOfAnotherLengthIsOfTheWrongShape(t *testing.T) {
	key := counted(0, 32)
	for _, n := range []int{8, 264, 272, 512} {
		got, err := Unwrap(key, plainWrap(t, key, plainFirst(), counted(0, n)))
		checkErr(t, fmt.Sprintf("Unwrap of %d bytes", n+8), got, err, api.ErrShape)
	}
	got, err := Unwrap(key, plainFirst())
	checkErr(t, "Unwrap of the first part alone", got, err, api.ErrShape)
}

func TestEachBitChangedDoesNotFit(t *testing.T) {
	key := counted(0, 32)
	for _, n := range []int{16, 24, 96} {
		wrapped := plainWrap(t, key, plainFirst(), counted(3, n))
		for bit := range 8 * len(wrapped) {
			changed := slices.Clone(wrapped)
			changed[bit/8] ^= 1 << (bit % 8)
			got, err := Unwrap(key, changed)
			checkErr(t, fmt.Sprintf("Unwrap of %d bytes with bit %d changed", len(wrapped), bit), got, err, api.ErrIntegrity)
		}
	}
}

func TestRandomBitsChangedDoNotFit(t *testing.T) {
	source := rand.New(rand.NewSource(106))
	for range 100 {
		key := randomBytes(source, 32)
		wrapped := plainWrap(t, key, plainFirst(), randomBytes(source, 8*(2+source.Intn(31))))
		wrapped[source.Intn(len(wrapped))] ^= byte(1 + source.Intn(255))
		got, err := Unwrap(key, wrapped)
		checkErr(t, fmt.Sprintf("Unwrap of %d bytes, changed", len(wrapped)), got, err, api.ErrIntegrity)
	}
}

// TestAnotherFirstPartDoesNotFit has bytes that unwrap to a first part with one bit, or one byte, changed: each of its bits must be looked at.
func TestAnotherFirstPartDoesNotFit(t *testing.T) {
	key, b := counted(0, 32), counted(3, 24)
	for bit := range 64 {
		first := plainFirst()
		first[bit/8] ^= 1 << (bit % 8)
		got, err := Unwrap(key, plainWrap(t, key, first, b))
		checkErr(t, fmt.Sprintf("Unwrap behind %x", first), got, err, api.ErrIntegrity)
	}
	for _, first := range [][]byte{make([]byte, 8), bytes.Repeat([]byte{0xff}, 8), bytes.Repeat([]byte{0x6a}, 8), {0xa6, 0x59, 0x59, 0xa6, 0, 0, 0, 24}, {0xa6, 0xa6, 0xa6, 0xa6, 0, 0, 0, 0}} {
		got, err := Unwrap(key, plainWrap(t, key, first, b))
		checkErr(t, fmt.Sprintf("Unwrap behind %x", first), got, err, api.ErrIntegrity)
	}
}

// TestPartsInAnotherOrderDoNotFit swaps each two parts, and moves all of them.
func TestPartsInAnotherOrderDoNotFit(t *testing.T) {
	key := counted(0, 32)
	for _, n := range []int{16, 24, 96} {
		wrapped := plainWrap(t, key, plainFirst(), counted(3, n))
		for j := range len(wrapped) / 8 {
			for i := range j {
				other := slices.Clone(wrapped)
				copy(other[8*i:], wrapped[8*j:8*j+8])
				copy(other[8*j:], wrapped[8*i:8*i+8])
				got, err := Unwrap(key, other)
				checkErr(t, fmt.Sprintf("Unwrap of %d bytes, parts %d and %d swapped", len(wrapped), i, j), got, err, api.ErrIntegrity)
			}
			if j > 0 {
				got, err := Unwrap(key, slices.Concat(wrapped[8*j:], wrapped[:8*j]))
				checkErr(t, fmt.Sprintf("Unwrap of %d bytes from part %d on", len(wrapped), j), got, err, api.ErrIntegrity)
			}
		}
	}
}

func TestPartsLostOrDoubledDoNotFit(t *testing.T) {
	key := counted(0, 32)
	wrapped := plainWrap(t, key, plainFirst(), counted(3, 96))
	for i := range len(wrapped) / 8 {
		got, err := Unwrap(key, slices.Concat(wrapped[:8*i], wrapped[8*i+8:]))
		checkErr(t, fmt.Sprintf("Unwrap without part %d", i), got, err, api.ErrIntegrity)
		got, err = Unwrap(key, slices.Concat(wrapped[:8*i+8], wrapped[8*i:]))
		checkErr(t, fmt.Sprintf("Unwrap with part %d doubled", i), got, err, api.ErrIntegrity)
	}
}

func TestAnotherKeyDoesNotFit(t *testing.T) {
	key := counted(0, 32)
	wrapped := unhex(t, theExample)
	for bit := range 256 {
		other := slices.Clone(key)
		other[bit/8] ^= 1 << (bit % 8)
		got, err := Unwrap(other, wrapped)
		checkErr(t, fmt.Sprintf("Unwrap with bit %d of the key changed", bit), got, err, api.ErrIntegrity)
	}
	for _, other := range [][]byte{make([]byte, 32), bytes.Repeat([]byte{0xff}, 32), counted(1, 32)} {
		got, err := Unwrap(other, wrapped)
		checkErr(t, fmt.Sprintf("Unwrap under %x", other), got, err, api.ErrIntegrity)
	}
}

func TestBytesThatWereNeverWrappedDoNotFit(t *testing.T) {
	source := rand.New(rand.NewSource(107))
	for _, n := range wrapLengths {
		for _, b := range [][]byte{make([]byte, n+8), bytes.Repeat([]byte{0xff}, n+8), bytes.Repeat([]byte{0xa6}, n+8), randomBytes(source, n+8)} {
			got, err := Unwrap(counted(0, 32), b)
			checkErr(t, fmt.Sprintf("Unwrap of %x", b), got, err, api.ErrIntegrity)
		}
	}
}

func TestCallsAreAskedAgain(t *testing.T) {
	for range 3 {
		for first, n := range wrapLengths {
			checkPlain(t, counted(byte(first), 32), counted(7, n))
			Wrap(nil, counted(7, n))
			Wrap(counted(byte(first), 32), counted(7, n+1))
			Unwrap(counted(byte(first), 32), counted(7, n+8))
			Unwrap(counted(byte(first), 32), nil)
		}
	}
}

// P10.2

// checkUnwrapped asks that what was wrapped comes back.
func checkUnwrapped(t *testing.T, key, b []byte) {
	t.Helper()
	wrapped, err := Wrap(key, b)
	if err != api.OK || len(wrapped) != len(b)+8 {
		t.Fatalf("Wrap of %d bytes = %x, %v", len(b), wrapped, err)
	}
	got, err := Unwrap(key, wrapped)
	checkBytes(t, "Unwrap of Wrap", got, err, b)
}

func TestWhatWasWrappedComesBack(t *testing.T) {
	for _, key := range [][]byte{make([]byte, 32), bytes.Repeat([]byte{0xff}, 32), counted(0, 32)} {
		for _, n := range wrapLengths {
			for _, b := range [][]byte{make([]byte, n), bytes.Repeat([]byte{0xff}, n), bytes.Repeat([]byte{0xa6}, n), counted(7, n)} {
				checkUnwrapped(t, key, b)
			}
		}
	}
}

func TestRandomBytesComeBack(t *testing.T) {
	source := rand.New(rand.NewSource(108))
	for range 150 {
		checkUnwrapped(t, randomBytes(source, 32), randomBytes(source, 8*(2+source.Intn(31))))
	}
}

func TestWhatWasWrappedTwiceComesBack(t *testing.T) {
	keys := [][]byte{counted(0, 32), counted(1, 32)}
	for _, n := range []int{16, 24, 240, 248} {
		once, _ := Wrap(keys[0], counted(7, n))
		checkUnwrapped(t, keys[1], once)
		twice, _ := Wrap(keys[1], once)
		got, err := Unwrap(keys[0], twice)
		checkErr(t, "Unwrap under the other key", got, err, api.ErrIntegrity)
	}
}

// P10.3

// checkWrappedAgain asks that what fits is wrapped again to what it was.
func checkWrappedAgain(t *testing.T, key, wrapped []byte) {
	t.Helper()
	b, err := Unwrap(key, wrapped)
	if err != api.OK || len(b) != len(wrapped)-8 {
		t.Fatalf("Unwrap of %x = %x, %v", wrapped, b, err)
	}
	got, err := Wrap(key, b)
	checkBytes(t, "Wrap of Unwrap", got, err, wrapped)
}

func TestWhatWasUnwrappedIsWrappedAgain(t *testing.T) {
	for _, p := range published {
		checkWrappedAgain(t, counted(0, 32), unhex(t, p[1]))
	}
	for _, wrapped := range workedOut {
		checkWrappedAgain(t, counted(7, 32), unhex(t, wrapped))
	}
	for _, n := range wrapLengths {
		for _, b := range [][]byte{make([]byte, n), bytes.Repeat([]byte{0xff}, n), bytes.Repeat([]byte{0xa6}, n)} {
			checkWrappedAgain(t, counted(0, 32), plainWrap(t, counted(0, 32), plainFirst(), b))
		}
	}
}

func TestRandomBytesAreWrappedAgain(t *testing.T) {
	source := rand.New(rand.NewSource(109))
	for range 150 {
		key := randomBytes(source, 32)
		checkWrappedAgain(t, key, plainWrap(t, key, plainFirst(), randomBytes(source, 8*(2+source.Intn(31)))))
	}
}

// Beside the promises: what is handed in, and what is answered.

// calls are both calls, each with what it is given in these tests: bytes that may be wrapped, and bytes that fit.
func calls(t *testing.T) map[string]struct {
	call func(key, b []byte) ([]byte, api.Errno)
	b    []byte
} {
	t.Helper()
	return map[string]struct {
		call func(key, b []byte) ([]byte, api.Errno)
		b    []byte
	}{
		"Wrap":   {Wrap, counted(3, 96)},
		"Unwrap": {Unwrap, plainWrap(t, counted(0, 32), plainFirst(), counted(3, 96))},
	}
}

// spoil writes over all that a list has, what lies behind its end too.
func spoil(b []byte) {
	b = b[:cap(b)]
	for i := range b {
		b[i] = ^b[i]
	}
}

// amid answers a row of counted bytes with b in its midst, and the piece of it that is b, with room behind its end.
func amid(b []byte) (row, piece []byte) {
	row = slices.Concat(counted(201, 40), b, counted(101, 40))
	return row, row[40 : 40+len(b)]
}

func TestNothingHandedInIsChanged(t *testing.T) {
	for name, of := range calls(t) {
		for _, keySize := range []int{0, 16, 31, 32, 33} {
			for _, b := range [][]byte{of.b, of.b[:0], of.b[:7], of.b[:8], of.b[:15], of.b[:16], of.b[:24], of.b[1:], counted(1, 264), counted(1, 272)} {
				keyRow, key := amid(counted(0, keySize))
				row, piece := amid(b)
				keyWas, was := slices.Clone(keyRow), slices.Clone(row)
				of.call(key, piece)
				if !bytes.Equal(keyRow, keyWas) || !bytes.Equal(row, was) {
					t.Fatalf("%s under %d bytes, of %d: what was handed in, or what lies beside it, was changed", name, keySize, len(b))
				}
			}
		}
	}
}

func TestOneListForBoth(t *testing.T) {
	room := counted(0, 64)
	checkPlain(t, room[:32], room)
	checkPlain(t, room[:32], room[:32])
	checkPlain(t, room[16:48], room[:24])
	if !bytes.Equal(room, counted(0, 64)) {
		t.Error("the list was changed")
	}
}

func TestWhatLiesBehindAListIsAllOne(t *testing.T) {
	for _, behind := range []byte{0, 0xff, 0xa6} {
		roomy := func(b []byte) []byte {
			return append(slices.Clone(b), bytes.Repeat([]byte{behind}, 40)...)[:len(b)]
		}
		b := unhex(t, "00112233445566778899aabbccddeeff")
		got, err := Wrap(roomy(counted(0, 32)), roomy(b))
		checkBytes(t, "Wrap", got, err, unhex(t, theExample))
		got, err = Unwrap(roomy(counted(0, 32)), roomy(unhex(t, theExample)))
		checkBytes(t, "Unwrap", got, err, b)
	}
}

func TestWhatIsHandedInIsNotKept(t *testing.T) {
	for name, of := range calls(t) {
		key, b := counted(0, 32), slices.Clone(of.b)
		first, err := of.call(key, b)
		want := slices.Clone(first)
		spoil(key)
		spoil(b)
		checkBytes(t, name+", its arguments changed", first, err, want)
		again, err := of.call(counted(0, 32), of.b)
		checkBytes(t, name+", asked again", again, err, want)
	}
}

func TestAnswersAreNewMemory(t *testing.T) {
	for name, of := range calls(t) {
		key, b := counted(0, 32), slices.Clone(of.b)
		first, err := of.call(key, b)
		want := slices.Clone(first)
		second, _ := of.call(key, b)
		spoil(first)
		checkBytes(t, name+", another answer changed", second, err, want)
		third, err := of.call(key, b)
		checkBytes(t, name+", asked again", third, err, want)
		if !bytes.Equal(key, counted(0, 32)) || !bytes.Equal(b, of.b) {
			t.Errorf("what %s answers is what it was given", name)
		}
	}
}
