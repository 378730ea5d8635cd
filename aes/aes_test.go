package aes

import (
	"bytes"
	library "crypto/aes"
	"encoding/hex"
	"fmt"
	"math/rand"
	"slices"
	"testing"

	"nepenthe/api"
)

// lengths are those of neither a key nor a block, beside those of both.
var lengths = []int{0, 1, 4, 8, 15, 16, 17, 24, 31, 32, 33, 48, 64, 65, 1000, 65536}

// publishedKey is the key that FIPS 197 expands, and under which SP 800-38A encrypts.
const publishedKey = "603deb1015ca71be2b73aef0857d77811f352c073b6108d72d9810a30914dff4"

// publishedWords are its words as FIPS 197 prints them.
var publishedWords = []uint32{
	0x603deb10, 0x15ca71be, 0x2b73aef0, 0x857d7781, 0x1f352c07, 0x3b6108d7, 0x2d9810a3, 0x0914dff4,
	0x9ba35411, 0x8e6925af, 0xa51a8b5f, 0x2067fcde, 0xa8b09c1a, 0x93d194cd, 0xbe49846e, 0xb75d5b9a,
	0xd59aecb8, 0x5bf3c917, 0xfee94248, 0xde8ebe96, 0xb5a9328a, 0x2678a647, 0x98312229, 0x2f6c79b3,
	0x812c81ad, 0xdadf48ba, 0x24360af2, 0xfab8b464, 0x98c5bfc9, 0xbebd198e, 0x268c3ba7, 0x09e04214,
	0x68007bac, 0xb2df3316, 0x96e939e4, 0x6c518d80, 0xc814e204, 0x76a9fb8a, 0x5025c02d, 0x59c58239,
	0xde136967, 0x6ccc5a71, 0xfa256395, 0x9674ee15, 0x5886ca5d, 0x2e2f31d7, 0x7e0af1fa, 0x27cf73c3,
	0x749c47ab, 0x18501dda, 0xe2757e4f, 0x7401905a, 0xcafaaae3, 0xe4d59b34, 0x9adf6ace, 0xbd10190d,
	0xfe4890d1, 0xe6188d0b, 0x046df344, 0x706c631e,
}

// publishedBlocks are a key, a block and the block encrypted: the document's example, those of SP 800-38A, and those of noughts and of the edges of NIST's known answers.
var publishedBlocks = [][3]string{
	{"000102030405060708090a0b0c0d0e0f101112131415161718191a1b1c1d1e1f", "00112233445566778899aabbccddeeff", "8ea2b7ca516745bfeafc49904b496089"},
	{publishedKey, "6bc1bee22e409f96e93d7e117393172a", "f3eed1bdb5d2a03c064b5a7e3db181f8"},
	{publishedKey, "ae2d8a571e03ac9c9eb76fac45af8e51", "591ccb10d410ed26dc5ba74a31362870"},
	{publishedKey, "30c81c46a35ce411e5fbc1191a0a52ef", "b6ed21b99ca6f4f9f153e7b1beafed1d"},
	{publishedKey, "f69f2445df4f9b17ad2b417be66c3710", "23304b7a39f9f3ff067d8d8f9e24ecc7"},
	{"0000000000000000000000000000000000000000000000000000000000000000", "00000000000000000000000000000000", "dc95c078a2408989ad48a21492842087"},
	{"0000000000000000000000000000000000000000000000000000000000000000", "014730f80ac625fe84f026c60bfd547d", "5c9d844ed46f9885085e5d6a4f94c7d7"},
	{"c47b0294dbbbee0fec4757f22ffeee3587ca4730c3d33b691df38bab076bc558", "00000000000000000000000000000000", "46f2fb342d6f0ab477476fc501242c5f"},
}

func unhex(t *testing.T, s string) []byte {
	t.Helper()
	b, err := hex.DecodeString(s)
	if err != nil {
		t.Fatal(err)
	}
	return b
}

func randomBytes(source *rand.Rand, n int) []byte {
	b := make([]byte, n)
	source.Read(b)
	return b
}

// counted is the bytes from first on, each one more than the one ahead.
func counted(first byte, n int) []byte {
	b := make([]byte, n)
	for i := range b {
		b[i] = first + byte(i)
	}
	return b
}

// manyLists are lists of one length: of nought, of 0xff and of others all over, counted ones, each with one bit set and with one bit unset, and random ones.
func manyLists(n int, seed int64) [][]byte {
	source := rand.New(rand.NewSource(seed))
	var lists [][]byte
	for _, all := range []byte{0, 0xff, 1, 0x80, 0x52, 0x63} {
		lists = append(lists, bytes.Repeat([]byte{all}, n))
	}
	lists = append(lists, counted(0, n), counted(0xf8, n))
	for bit := range 8 * n {
		set, unset := make([]byte, n), bytes.Repeat([]byte{0xff}, n)
		set[bit/8] ^= 1 << (bit % 8)
		unset[bit/8] ^= 1 << (bit % 8)
		lists = append(lists, set, unset)
	}
	for range 100 {
		lists = append(lists, randomBytes(source, n))
	}
	return lists
}

// plainTimes multiplies a polynomial with x.
func plainTimes(a byte) byte {
	if a >= 0x80 {
		return a<<1 ^ 0x1b
	}
	return a << 1
}

// plainSubs answers what is put for each byte, worked out along the powers of 3, of which each byte but 0 is one, so that the tests don't hang on the layers below.
func plainSubs() [256]byte {
	var powers [255]byte
	power := byte(1)
	for i := range powers {
		powers[i] = power
		power ^= plainTimes(power)
	}
	put := func(inverse byte) byte {
		out := byte(0x63)
		for n := range 5 {
			out ^= inverse<<n | inverse>>(8-n)
		}
		return out
	}
	var subs [256]byte
	subs[0] = put(0)
	for i, p := range powers {
		subs[p] = put(powers[(255-i)%255])
	}
	return subs
}

// plainExpand goes byte by byte along FIPS 197.
func plainExpand(key []byte, subs [256]byte) []uint32 {
	words := make([][4]byte, 60)
	power := byte(1)
	for i := range words {
		if i < 8 {
			copy(words[i][:], key[4*i:])
			continue
		}
		w := words[i-1]
		if i%8 == 0 {
			w = [4]byte{subs[w[1]] ^ power, subs[w[2]], subs[w[3]], subs[w[0]]}
			power = plainTimes(power)
		}
		if i%8 == 4 {
			w = [4]byte{subs[w[0]], subs[w[1]], subs[w[2]], subs[w[3]]}
		}
		for j := range w {
			words[i][j] = w[j] ^ words[i-8][j]
		}
	}
	var out []uint32
	for _, w := range words {
		out = append(out, uint32(w[0])<<24|uint32(w[1])<<16|uint32(w[2])<<8|uint32(w[3]))
	}
	return out
}

func libraryEncrypt(t *testing.T, key, block []byte) []byte {
	t.Helper()
	c, err := library.NewCipher(key)
	if err != nil {
		t.Fatal(err)
	}
	out := make([]byte, 16)
	c.Encrypt(out, block)
	return out
}

func libraryDecrypt(t *testing.T, key, block []byte) []byte {
	t.Helper()
	c, err := library.NewCipher(key)
	if err != nil {
		t.Fatal(err)
	}
	out := make([]byte, 16)
	c.Decrypt(out, block)
	return out
}

func made(t *testing.T, key []byte) *Key {
	t.Helper()
	k, err := New(key)
	if err != api.OK || k == nil {
		t.Fatalf("New(%x) = %v, %v", key, k, err)
	}
	return k
}

// checkBlock holds what a call answered against the block that is wanted.
func checkBlock(t *testing.T, name string, got []byte, err api.Errno, want []byte) {
	t.Helper()
	if err != api.OK || !bytes.Equal(got, want) {
		t.Errorf("%s = %x, %v, want %x", name, got, err, want)
	}
}

// checkShape asks for ErrShape, with nothing beside it.
func checkShape(t *testing.T, name string, got []byte, err api.Errno) {
	t.Helper()
	if err != api.ErrShape || len(got) != 0 {
		t.Errorf("%s = %x, %v, want ErrShape", name, got, err)
	}
}

// checkLibrary holds the block, encrypted and decrypted by the key of these bytes, against what the library answers.
func checkLibrary(t *testing.T, k *Key, key, block []byte) {
	t.Helper()
	got, err := k.Encrypt(block)
	checkBlock(t, fmt.Sprintf("under %x Encrypt(%x)", key, block), got, err, libraryEncrypt(t, key, block))
	got, err = k.Decrypt(block)
	checkBlock(t, fmt.Sprintf("under %x Decrypt(%x)", key, block), got, err, libraryDecrypt(t, key, block))
}

// checkUndone asks that each of Encrypt and Decrypt gives back what the other one was given.
func checkUndone(t *testing.T, k *Key, block []byte) {
	t.Helper()
	encrypted, _ := k.Encrypt(block)
	got, err := k.Decrypt(encrypted)
	checkBlock(t, "Decrypt of Encrypt", got, err, block)
	decrypted, _ := k.Decrypt(block)
	got, err = k.Encrypt(decrypted)
	checkBlock(t, "Encrypt of Decrypt", got, err, block)
}

// wrongLists are nil and lists of all lengths but one, such with more room behind their end among them.
func wrongLists(right int) [][]byte {
	lists := [][]byte{nil}
	for _, n := range lengths {
		if n != right {
			lists = append(lists, make([]byte, n), make([]byte, n, 2*n+right))
		}
	}
	for n := range 3 * right {
		if n != right {
			lists = append(lists, counted(1, n))
		}
	}
	return lists
}

// P7.1

func TestExpandOfThePublishedKey(t *testing.T) {
	words, err := Expand(unhex(t, publishedKey))
	if err != api.OK || !slices.Equal(words, publishedWords) {
		t.Errorf("%08x, %v", words, err)
	}
}

func TestExpandOfNoughts(t *testing.T) {
	words, err := Expand(make([]byte, 32))
	if err != api.OK || len(words) != 60 {
		t.Fatalf("%08x, %v", words, err)
	}
	want := []uint32{0, 0, 0, 0, 0, 0, 0, 0, 0x62636363, 0x62636363, 0x62636363, 0x62636363, 0xaafbfbfb, 0xaafbfbfb, 0xaafbfbfb, 0xaafbfbfb}
	if !slices.Equal(words[:16], want) {
		t.Errorf("%08x, want %08x", words[:16], want)
	}
}

func TestExpandIsTheDocuments(t *testing.T) {
	subs := plainSubs()
	for _, key := range manyLists(32, 71) {
		words, err := Expand(key)
		if want := plainExpand(key, subs); err != api.OK || !slices.Equal(words, want) {
			t.Fatalf("Expand(%x) = %08x, %v, want %08x", key, words, err, want)
		}
	}
}

func TestExpandOfNoKey(t *testing.T) {
	for _, key := range wrongLists(32) {
		if words, err := Expand(key); err != api.ErrShape || len(words) != 0 {
			t.Errorf("Expand of %d bytes = %08x, %v, want ErrShape", len(key), words, err)
		}
	}
}

func TestShiftAndUnshiftOfCountedBytes(t *testing.T) {
	block := counted(0, 16)
	got, err := Shift(block)
	checkBlock(t, "Shift", got, err, []byte{0, 5, 10, 15, 4, 9, 14, 3, 8, 13, 2, 7, 12, 1, 6, 11})
	got, err = Unshift(block)
	checkBlock(t, "Unshift", got, err, []byte{0, 13, 10, 7, 4, 1, 14, 11, 8, 5, 2, 15, 12, 9, 6, 3})
}

func TestShiftOfPublishedBlocks(t *testing.T) {
	// Rounds 1 and 2 of the example, as FIPS 197 prints them.
	for from, to := range map[string]string{
		"63cab7040953d051cd60e0e7ba70e18c": "6353e08c0960e104cd70b751bacad0e7",
		"84fb386f1ae1ac97df5cfd237c49946b": "84e1fd6b1a5c946fdf4938977cfbac23",
	} {
		got, err := Shift(unhex(t, from))
		checkBlock(t, "Shift("+from+")", got, err, unhex(t, to))
		got, err = Unshift(unhex(t, to))
		checkBlock(t, "Unshift("+to+")", got, err, unhex(t, from))
	}
}

func TestShiftAndUnshiftAreTheDocuments(t *testing.T) {
	for _, block := range manyLists(16, 72) {
		shifted, back := make([]byte, 16), make([]byte, 16)
		for c := range 4 {
			for i := range 4 {
				shifted[4*c+i] = block[4*((c+i)%4)+i]
				back[4*((c+i)%4)+i] = block[4*c+i]
			}
		}
		got, err := Shift(block)
		checkBlock(t, fmt.Sprintf("Shift(%x)", block), got, err, shifted)
		got, err = Unshift(block)
		checkBlock(t, fmt.Sprintf("Unshift(%x)", block), got, err, back)
	}
}

func TestShiftAndUnshiftUndoEachOther(t *testing.T) {
	for _, block := range manyLists(16, 73) {
		shifted, _ := Shift(block)
		got, err := Unshift(shifted)
		checkBlock(t, "Unshift of Shift", got, err, block)
		back, _ := Unshift(block)
		got, err = Shift(back)
		checkBlock(t, "Shift of Unshift", got, err, block)
	}
}

func TestShiftAndUnshiftOfNoBlock(t *testing.T) {
	for _, block := range wrongLists(16) {
		got, err := Shift(block)
		checkShape(t, fmt.Sprintf("Shift of %d bytes", len(block)), got, err)
		got, err = Unshift(block)
		checkShape(t, fmt.Sprintf("Unshift of %d bytes", len(block)), got, err)
	}
}

// P7.2

func TestEncryptAndDecryptOfPublishedBlocks(t *testing.T) {
	for _, c := range publishedBlocks {
		k, block, want := made(t, unhex(t, c[0])), unhex(t, c[1]), unhex(t, c[2])
		got, err := k.Encrypt(block)
		checkBlock(t, "Encrypt", got, err, want)
		got, err = k.Decrypt(want)
		checkBlock(t, "Decrypt", got, err, block)
	}
}

func TestEncryptAndDecryptUnderManyKeysAreTheLibrarys(t *testing.T) {
	blocks := [][]byte{make([]byte, 16), bytes.Repeat([]byte{0xff}, 16), counted(0, 16)}
	for _, key := range manyLists(32, 74) {
		k := made(t, key)
		for _, block := range blocks {
			checkLibrary(t, k, key, block)
		}
	}
}

func TestEncryptAndDecryptOfManyBlocksAreTheLibrarys(t *testing.T) {
	keys := [][]byte{make([]byte, 32), bytes.Repeat([]byte{0xff}, 32), counted(0, 32), unhex(t, publishedKey)}
	for _, key := range keys {
		k := made(t, key)
		for _, block := range manyLists(16, 75) {
			checkLibrary(t, k, key, block)
		}
	}
}

func TestEncryptAndDecryptOfRandomOnesAreTheLibrarys(t *testing.T) {
	source := rand.New(rand.NewSource(76))
	for range 1000 {
		key, block := randomBytes(source, 32), randomBytes(source, 16)
		k := made(t, key)
		checkLibrary(t, k, key, block)
	}
}

func TestNewOfNoKey(t *testing.T) {
	for _, key := range wrongLists(32) {
		if k, err := New(key); err != api.ErrShape || k != nil {
			t.Errorf("New of %d bytes = %v, %v, want ErrShape", len(key), k, err)
		}
	}
}

func TestEncryptAndDecryptOfNoBlock(t *testing.T) {
	for _, key := range [][]byte{make([]byte, 32), counted(0, 32)} {
		k := made(t, key)
		for _, block := range wrongLists(16) {
			got, err := k.Encrypt(block)
			checkShape(t, fmt.Sprintf("Encrypt of %d bytes", len(block)), got, err)
			got, err = k.Decrypt(block)
			checkShape(t, fmt.Sprintf("Decrypt of %d bytes", len(block)), got, err)
		}
	}
}

func TestKeyThatNewDidNotMake(t *testing.T) {
	var none *Key
	refused, _ := New(nil)
	for name, k := range map[string]*Key{"nil": none, "not made": {}, "of new": new(Key), "refused": refused} {
		for _, block := range append(wrongLists(16), make([]byte, 16), counted(0, 16), bytes.Repeat([]byte{0xff}, 16)) {
			got, err := k.Encrypt(block)
			checkShape(t, fmt.Sprintf("%s: Encrypt of %d bytes", name, len(block)), got, err)
			got, err = k.Decrypt(block)
			checkShape(t, fmt.Sprintf("%s: Decrypt of %d bytes", name, len(block)), got, err)
		}
	}
}

func TestKeyAskedAgain(t *testing.T) {
	key, one, two := counted(0, 32), counted(7, 16), make([]byte, 16)
	k := made(t, key)
	for range 3 {
		for _, block := range [][]byte{one, two, one} {
			checkLibrary(t, k, key, block)
			k.Encrypt(nil)
			k.Decrypt(block[:15])
		}
	}
}

func TestKeysAreApart(t *testing.T) {
	first, second := counted(0, 32), counted(1, 32)
	a, b := made(t, first), made(t, second)
	block := counted(0, 16)
	for range 2 {
		got, err := a.Encrypt(block)
		checkBlock(t, "the first key's Encrypt", got, err, libraryEncrypt(t, first, block))
		got, err = b.Encrypt(block)
		checkBlock(t, "the second key's Encrypt", got, err, libraryEncrypt(t, second, block))
	}
}

// P7.3

func TestEncryptAndDecryptUndoEachOther(t *testing.T) {
	source := rand.New(rand.NewSource(77))
	keys := [][]byte{make([]byte, 32), bytes.Repeat([]byte{0xff}, 32), counted(0, 32), randomBytes(source, 32), randomBytes(source, 32)}
	for _, key := range keys {
		k := made(t, key)
		for _, block := range manyLists(16, 78) {
			checkUndone(t, k, block)
		}
	}
}

func TestEncryptAndDecryptUndoEachOtherUnderRandomKeys(t *testing.T) {
	source := rand.New(rand.NewSource(79))
	for range 500 {
		k, block := made(t, randomBytes(source, 32)), randomBytes(source, 16)
		checkUndone(t, k, block)
	}
}

// Beside the promises: what is handed in, and what is answered.

// blockCalls are the calls that take a block and answer one.
func blockCalls(k *Key) map[string]func([]byte) ([]byte, api.Errno) {
	return map[string]func([]byte) ([]byte, api.Errno){"Encrypt": k.Encrypt, "Decrypt": k.Decrypt, "Shift": Shift, "Unshift": Unshift}
}

func TestNothingHandedInIsChanged(t *testing.T) {
	k := made(t, counted(9, 32))
	for n := range 50 {
		room := counted(1, 100)
		Expand(room[20 : 20+n])
		New(room[20 : 20+n])
		if !bytes.Equal(room, counted(1, 100)) {
			t.Fatalf("of %d bytes: the key, or what lies beside it, was changed", n)
		}
		for name, call := range blockCalls(k) {
			call(room[20 : 20+n])
			if !bytes.Equal(room, counted(1, 100)) {
				t.Fatalf("%s of %d bytes: the block, or what lies beside it, was changed", name, n)
			}
		}
	}
}

func TestWhatLiesBehindAListIsAllOne(t *testing.T) {
	key, block := counted(0, 32), counted(0, 16)
	want := libraryEncrypt(t, key, block)
	for _, behind := range []byte{0, 0xff} {
		roomyKey := append(slices.Clone(key), bytes.Repeat([]byte{behind}, 40)...)[:32]
		roomyBlock := append(slices.Clone(block), bytes.Repeat([]byte{behind}, 40)...)[:16]
		got, err := made(t, roomyKey).Encrypt(roomyBlock)
		checkBlock(t, "Encrypt", got, err, want)
	}
}

func TestKeyHandedInIsNotKept(t *testing.T) {
	key, block := counted(0, 32), counted(0, 16)
	encrypted, decrypted := libraryEncrypt(t, key, block), libraryDecrypt(t, key, block)
	k := made(t, key)
	words, _ := Expand(key)
	want := slices.Clone(words)
	clear(key)
	if !slices.Equal(words, want) {
		t.Error("Expand's words hang on the key that was handed in")
	}
	for range 2 {
		got, err := k.Encrypt(block)
		checkBlock(t, "Encrypt", got, err, encrypted)
		got, err = k.Decrypt(block)
		checkBlock(t, "Decrypt", got, err, decrypted)
	}
}

func TestExpandAnswersNewMemory(t *testing.T) {
	key := counted(0, 32)
	k := made(t, key)
	block := counted(0, 16)
	first, _ := Expand(key)
	second, _ := Expand(key)
	want := slices.Clone(second)
	clear(first[:cap(first)])
	again, _ := Expand(key)
	if !slices.Equal(second, want) || !slices.Equal(again, want) || !bytes.Equal(key, counted(0, 32)) {
		t.Error("Expand's words share their memory")
	}
	got, err := k.Encrypt(block)
	checkBlock(t, "Encrypt", got, err, libraryEncrypt(t, key, block))
}

func TestBlocksAnswerNewMemory(t *testing.T) {
	k := made(t, counted(9, 32))
	for name, call := range blockCalls(k) {
		block := counted(1, 16)
		first, _ := call(block)
		second, _ := call(block)
		want := slices.Clone(second)
		clear(first[:cap(first)])
		third, err := call(block)
		checkBlock(t, name, third, err, want)
		if !bytes.Equal(block, counted(1, 16)) || !bytes.Equal(second, want) {
			t.Errorf("what %s answers shares its memory", name)
		}
		clear(block)
		if !bytes.Equal(second, want) || !bytes.Equal(third, want) {
			t.Errorf("what %s answers hangs on the block it was given", name)
		}
	}
}
