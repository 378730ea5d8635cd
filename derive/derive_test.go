package derive

import (
	"bytes"
	"crypto/hmac"
	"crypto/pbkdf2"
	"crypto/sha256"
	"encoding/binary"
	"math"
	"math/rand"
	"slices"
	"testing"

	"nepenthe/api"
	"nepenthe/octet"
)

// passLengths are those of no byte and of one, those around a sum, and the longest.
var passLengths = []int{0, 1, 8, 31, 32, 33, 63, api.MaxPass}

// saltLengths are those at which salt and number fill a hash's block, those beside them, the key store's, and much longer ones.
var saltLengths = []int{0, 1, 4, api.SaltSize, 50, 51, 52, 53, 59, 60, 61, 64, 65, 1000, 65536}

// goodRounds and goodBytes are the edges of what may be asked, and some between.
var (
	goodRounds = []int{1, 2, 3, 100, api.MaxRounds - 1, api.MaxRounds}
	goodBytes  = []int{0, 1, 2, 31, 32, 33, 63, 64, 65, 95, 96, 97, 991, 992, 993, 1023, 1024}
)

// wrongRounds, wrongBytes and wrongNumbers are just out of range, and as far out as numbers go, those among them whose low bits would be in range.
var (
	wrongRounds  = []int{0, -1, -2, api.MaxRounds + 1, api.MaxRounds + 2, 1<<32 + 1, -1<<32 + 1, math.MaxInt, math.MaxInt - 31, math.MinInt, math.MinInt + 1}
	wrongBytes   = []int{-1, -31, -32, -33, 1025, 1056, 2048, 1<<32 + 32, -1<<32 + 32, math.MaxInt, math.MaxInt - 30, math.MinInt, math.MinInt + 32}
	wrongNumbers = []int{0, -1, -32, 33, 34, 1<<32 + 1, -1<<32 + 1, math.MaxInt, math.MinInt, math.MinInt + 1}
)

// wrongPasses are longer than a passphrase may be.
func wrongPasses() [][]byte {
	return [][]byte{make([]byte, api.MaxPass+1), bytes.Repeat([]byte("p"), api.MaxPass+1), make([]byte, 128), make([]byte, 65536)}
}

func randomBytes(source *rand.Rand, n int) []byte {
	b := make([]byte, n)
	source.Read(b)
	return b
}

func libraryBytes(t *testing.T, pass, salt []byte, rounds, n int) []byte {
	t.Helper()
	b, err := pbkdf2.Key(sha256.New, string(pass), salt, rounds, max(n, 1))
	if err != nil {
		t.Fatal(err)
	}
	return b[:n]
}

// plainBlock goes word by word along the document, on the library's tags: all of u1 to uc are made, and xored then.
func plainBlock(pass, salt []byte, rounds, i int) []byte {
	tag := func(text []byte) []byte {
		h := hmac.New(sha256.New, pass)
		h.Write(text)
		return h.Sum(nil)
	}
	u := [][]byte{tag(binary.BigEndian.AppendUint32(slices.Clone(salt), uint32(i)))}
	for len(u) < rounds {
		u = append(u, tag(u[len(u)-1]))
	}
	block := make([]byte, 32)
	for j := range block {
		for _, one := range u {
			block[j] ^= one[j]
		}
	}
	return block
}

func checkBytes(t *testing.T, pass, salt []byte, rounds, n int, want []byte) {
	t.Helper()
	got, err := Bytes(pass, salt, rounds, n)
	if err != api.OK || len(got) != n || !bytes.Equal(got, want) {
		t.Errorf("Bytes of a passphrase of %d bytes, a salt of %d, %d rounds, %d bytes = %x, %v, want %x", len(pass), len(salt), rounds, n, got, err, want)
	}
}

func checkBlock(t *testing.T, pass, salt []byte, rounds, i int, want []byte) {
	t.Helper()
	got, err := Block(pass, salt, rounds, i)
	if err != api.OK || len(got) != 32 || !bytes.Equal(got, want) {
		t.Errorf("Block %d of a passphrase of %d bytes, a salt of %d, %d rounds = %x, %v, want %x", i, len(pass), len(salt), rounds, got, err, want)
	}
}

func checkKeys(t *testing.T, pass, salt []byte, rounds int, want []byte) {
	t.Helper()
	wraps, tags, tells, err := Keys(pass, salt, rounds)
	if err != api.OK || !bytes.Equal(wraps, want[:32]) || !bytes.Equal(tags, want[32:64]) || !bytes.Equal(tells, want[64:96]) {
		t.Errorf("Keys of a passphrase of %d bytes, a salt of %d, %d rounds = %x, %x, %x, %v, want %x", len(pass), len(salt), rounds, wraps, tags, tells, err, want)
	}
}

func refuseBytes(t *testing.T, pass, salt []byte, rounds, n int) {
	t.Helper()
	if got, err := Bytes(pass, salt, rounds, n); err != api.ErrShape || len(got) != 0 {
		t.Errorf("Bytes of a passphrase of %d bytes, %d rounds, %d bytes = %x, %v, want none and ErrShape", len(pass), rounds, n, got, err)
	}
}

func refuseBlock(t *testing.T, pass, salt []byte, rounds, i int) {
	t.Helper()
	if got, err := Block(pass, salt, rounds, i); err != api.ErrShape || len(got) != 0 {
		t.Errorf("Block %d of a passphrase of %d bytes, %d rounds = %x, %v, want none and ErrShape", i, len(pass), rounds, got, err)
	}
}

func refuseKeys(t *testing.T, pass, salt []byte, rounds int) {
	t.Helper()
	if a, b, c, err := Keys(pass, salt, rounds); err != api.ErrShape || len(a)+len(b)+len(c) != 0 {
		t.Errorf("Keys of a passphrase of %d bytes, %d rounds = %x, %x, %x, %v, want none and ErrShape", len(pass), rounds, a, b, c, err)
	}
}

// P4.1

func TestBytesOfKnownPassphrases(t *testing.T) {
	// The document's example; the same with more rounds; and what is published with RFC 7914 (its case of few rounds).
	cases := []struct {
		pass, salt string
		rounds     int
		want       string
	}{
		{"password", "salt", 1, "120fb6cffcf8b32c43e7225256c4f837a86548c92ccc35480805987cb70be17b"},
		{"password", "salt", 2, "ae4d0c95af6b46d32d0adff928f06dd02a303f8ef3c251dfd6e2d85a95474c43"},
		{"passwd", "salt", 1, "55ac046e56e3089fec1691c22544b605f94185216dde0465e68b9d57c20dacbc49ca9cccf179b645991664b39d77ef317c71b845b1e30bd509112041d3a19783"},
		{"password", "salt", 1000, "632c2812e46d4604102ba7618e9d6d7d2f8128f6266b4a03264d2a0460b7dcb388b3b1131f741bcb"},
	}
	for _, c := range cases {
		want, err := octet.Unhex(c.want)
		if err != api.OK {
			t.Fatal(err)
		}
		checkBytes(t, []byte(c.pass), []byte(c.salt), c.rounds, len(want), want)
		checkBlock(t, []byte(c.pass), []byte(c.salt), c.rounds, 1, want[:32])
	}
}

func TestBytesOfAllLengths(t *testing.T) {
	source := rand.New(rand.NewSource(41))
	pass, salt := randomBytes(source, 20), randomBytes(source, api.SaltSize)
	for n := range 1025 {
		checkBytes(t, pass, salt, 1, n, libraryBytes(t, pass, salt, 1, n))
	}
	for _, n := range goodBytes {
		checkBytes(t, pass, salt, 5, n, libraryBytes(t, pass, salt, 5, n))
	}
}

func TestBytesOfPassphrasesAndSaltsOfAllLengths(t *testing.T) {
	source := rand.New(rand.NewSource(42))
	for _, p := range passLengths {
		for _, s := range saltLengths {
			pass, salt := randomBytes(source, p), randomBytes(source, s)
			checkBytes(t, pass, salt, 3, 70, libraryBytes(t, pass, salt, 3, 70))
			checkBlock(t, pass, salt, 3, 2, plainBlock(pass, salt, 3, 2))
		}
	}
}

func TestEachRoundCounts(t *testing.T) {
	source := rand.New(rand.NewSource(43))
	pass, salt := randomBytes(source, 12), randomBytes(source, api.SaltSize)
	for _, rounds := range goodRounds {
		checkBytes(t, pass, salt, rounds, 64, libraryBytes(t, pass, salt, rounds, 64))
		checkBlock(t, pass, salt, rounds, 2, plainBlock(pass, salt, rounds, 2))
	}
	for rounds := 1; rounds <= 40; rounds++ {
		checkBytes(t, pass, salt, rounds, 33, libraryBytes(t, pass, salt, rounds, 33))
	}
}

func TestMostThatMayBeAsked(t *testing.T) {
	source := rand.New(rand.NewSource(44))
	pass, salt := randomBytes(source, api.MaxPass), randomBytes(source, 300)
	all := libraryBytes(t, pass, salt, api.MaxRounds, 1024)
	checkBytes(t, pass, salt, api.MaxRounds, 1024, all)
	checkBlock(t, pass, salt, api.MaxRounds, 32, all[992:])
}

func TestBlockOfEachNumber(t *testing.T) {
	source := rand.New(rand.NewSource(45))
	pass, salt := randomBytes(source, 20), randomBytes(source, api.SaltSize)
	for _, rounds := range []int{1, 4} {
		all := libraryBytes(t, pass, salt, rounds, 1024)
		for i := 1; i <= 32; i++ {
			want := plainBlock(pass, salt, rounds, i)
			if !bytes.Equal(want, all[32*(i-1):32*i]) {
				t.Fatalf("block %d: the document's words and the library's bytes are not the same", i)
			}
			checkBlock(t, pass, salt, rounds, i, want)
		}
	}
}

func TestNilIsAsEmpty(t *testing.T) {
	for _, c := range []struct{ pass, salt []byte }{{nil, nil}, {nil, []byte("salt")}, {[]byte("password"), nil}} {
		want := libraryBytes(t, c.pass, c.salt, 2, 96)
		for _, pass := range [][]byte{c.pass, append([]byte{}, c.pass...)} {
			for _, salt := range [][]byte{c.salt, append([]byte{}, c.salt...)} {
				checkBytes(t, pass, salt, 2, 96, want)
				checkBlock(t, pass, salt, 2, 1, want[:32])
				checkKeys(t, pass, salt, 2, want)
			}
		}
	}
	checkBytes(t, nil, nil, 1, 0, nil)
}

func TestBytesAndBlockOfWrongRounds(t *testing.T) {
	pass, salt := []byte("password"), []byte("salt")
	for _, rounds := range wrongRounds {
		for _, n := range []int{0, 1, 32, 1024} {
			refuseBytes(t, pass, salt, rounds, n)
			refuseBytes(t, nil, nil, rounds, n)
		}
		for _, i := range []int{1, 32} {
			refuseBlock(t, pass, salt, rounds, i)
			refuseBlock(t, nil, nil, rounds, i)
		}
	}
}

func TestBytesAndBlockOfWrongPassphrases(t *testing.T) {
	for _, pass := range wrongPasses() {
		for _, rounds := range []int{1, api.MaxRounds} {
			for _, n := range []int{0, 32, 1024} {
				refuseBytes(t, pass, []byte("salt"), rounds, n)
			}
			refuseBlock(t, pass, []byte("salt"), rounds, 1)
			refuseBlock(t, pass, nil, rounds, 32)
		}
	}
}

func TestBytesOfWrongLengths(t *testing.T) {
	for _, n := range wrongBytes {
		refuseBytes(t, []byte("password"), []byte("salt"), 1, n)
		refuseBytes(t, nil, nil, api.MaxRounds, n)
	}
}

func TestBlockOfWrongNumbers(t *testing.T) {
	for _, i := range wrongNumbers {
		refuseBlock(t, []byte("password"), []byte("salt"), 1, i)
		refuseBlock(t, nil, nil, api.MaxRounds, i)
	}
}

func TestManyWrongAtOnce(t *testing.T) {
	for _, pass := range append(wrongPasses(), nil) {
		for _, rounds := range wrongRounds {
			for _, n := range wrongBytes {
				refuseBytes(t, pass, nil, rounds, n)
			}
			for _, i := range wrongNumbers {
				refuseBlock(t, pass, nil, rounds, i)
			}
			refuseKeys(t, pass, nil, rounds)
		}
	}
}

// P4.2

func TestKeysAreWhatIsDerived(t *testing.T) {
	source := rand.New(rand.NewSource(46))
	for _, p := range passLengths {
		for _, s := range saltLengths {
			pass, salt := randomBytes(source, p), randomBytes(source, s)
			checkKeys(t, pass, salt, 2, libraryBytes(t, pass, salt, 2, 96))
		}
	}
	for _, rounds := range goodRounds {
		pass, salt := randomBytes(source, 10), randomBytes(source, api.SaltSize)
		checkKeys(t, pass, salt, rounds, libraryBytes(t, pass, salt, rounds, 96))
		own, err := Bytes(pass, salt, rounds, 96)
		if err != api.OK {
			t.Fatal(err)
		}
		checkKeys(t, pass, salt, rounds, own)
	}
}

func TestKeysOfWrongArguments(t *testing.T) {
	for _, rounds := range wrongRounds {
		refuseKeys(t, []byte("password"), []byte("salt"), rounds)
		refuseKeys(t, nil, nil, rounds)
	}
	for _, pass := range wrongPasses() {
		refuseKeys(t, pass, []byte("salt"), 1)
		refuseKeys(t, pass, nil, api.MaxRounds)
	}
}

// P4.3

func TestShorterBeginsLonger(t *testing.T) {
	source := rand.New(rand.NewSource(47))
	for _, rounds := range []int{1, 7} {
		pass, salt := randomBytes(source, 15), randomBytes(source, api.SaltSize)
		var derived [][]byte
		for _, n := range goodBytes {
			b, err := Bytes(pass, salt, rounds, n)
			if err != api.OK || len(b) != n {
				t.Fatalf("%d bytes: %d of them, %v", n, len(b), err)
			}
			derived = append(derived, b)
		}
		for i, longer := range derived {
			for _, shorter := range derived[:i] {
				if !bytes.HasPrefix(longer, shorter) {
					t.Errorf("%d rounds: the %d bytes don't begin the %d", rounds, len(shorter), len(longer))
				}
			}
		}
	}
}

func TestOtherArgumentsDeriveOtherBytes(t *testing.T) {
	// What begins the longer is that of the same passphrase, salt and rounds alone: were all answers alike, that would be no wonder.
	cases := []struct {
		pass, salt string
		rounds     int
	}{
		{"password", "salt", 1}, {"password", "salt", 2}, {"password", "salt", 3},
		{"passwore", "salt", 1}, {"passwor", "salt", 1}, {"password", "salu", 1}, {"password", "sal", 1}, {"password", "salt\x00", 1},
		{"salt", "password", 1}, {"", "salt", 1}, {"password", "", 1}, {"passwords", "alt", 1},
	}
	for i, c := range cases {
		one, _ := Bytes([]byte(c.pass), []byte(c.salt), c.rounds, 32)
		for _, d := range cases[:i] {
			if other, _ := Bytes([]byte(d.pass), []byte(d.salt), d.rounds, 64); bytes.HasPrefix(other, one) {
				t.Errorf("%v and %v derive the same", c, d)
			}
		}
	}
}

// Beside the promises: what is handed in, and what is answered.

func TestNothingHandedInIsChanged(t *testing.T) {
	for _, p := range []int{0, 8, 63, api.MaxPass, api.MaxPass + 1} {
		for _, s := range []int{0, api.SaltSize, 60, 64, 200} {
			passRoom, saltRoom := bytes.Repeat([]byte{7}, p+100), bytes.Repeat([]byte{9}, s+100)
			pass, salt := passRoom[:p], saltRoom[:s]
			for range 2 {
				Bytes(pass, salt, 3, 100)
				Block(pass, salt, 3, 2)
				Keys(pass, salt, 3)
				Bytes(pass, salt, 0, 100)
				Block(pass, salt, 3, 33)
			}
			if !bytes.Equal(passRoom, bytes.Repeat([]byte{7}, p+100)) {
				t.Errorf("the passphrase of %d bytes, or the room behind it, was written to", p)
			}
			if !bytes.Equal(saltRoom, bytes.Repeat([]byte{9}, s+100)) {
				t.Errorf("the salt of %d bytes, or the room behind it, was written to", s)
			}
		}
	}
}

func TestRoomBehindCountsForNothing(t *testing.T) {
	pass, salt := []byte("password and more"), []byte("salt and more")
	want := libraryBytes(t, []byte("password"), []byte("salt"), 2, 96)
	checkBytes(t, pass[:8], salt[:4], 2, 96, want)
	checkBlock(t, pass[:8], salt[:4], 2, 3, want[64:])
	checkKeys(t, pass[:8], salt[:4], 2, want)
}

func TestAnswersAreNewMemory(t *testing.T) {
	pass, salt := []byte("password"), []byte("salt")
	for _, rounds := range []int{1, 2} {
		want := libraryBytes(t, pass, salt, rounds, 96)
		for range 2 {
			b, _ := Bytes(pass, salt, rounds, 96)
			block, _ := Block(pass, salt, rounds, 1)
			if !bytes.Equal(b, want) || !bytes.Equal(block, want[:32]) {
				t.Errorf("%d rounds: an answer hangs on what was done to those ahead", rounds)
			}
			clear(b[:cap(b)])
			clear(block[:cap(block)])
		}
	}
	if string(pass) != "password" || string(salt) != "salt" {
		t.Error("an answer shares memory with what was handed in")
	}
}

func TestKeysShareNoMemory(t *testing.T) {
	pass, salt := []byte("password"), []byte("salt")
	want := libraryBytes(t, pass, salt, 1, 96)
	for one := range 3 {
		a, b, c, err := Keys(pass, salt, 1)
		if err != api.OK {
			t.Fatal(err)
		}
		keys := [][]byte{a, b, c}
		changed := keys[one]
		clear(changed[:cap(changed)])
		for i, key := range keys {
			if i != one && !bytes.Equal(key, want[32*i:32*i+32]) {
				t.Errorf("key %d shares memory with key %d, or with the room behind it", i, one)
			}
		}
	}
	checkKeys(t, pass, salt, 1, want)
}

func TestAskedInAnyOrder(t *testing.T) {
	one := libraryBytes(t, []byte("one"), []byte("salt"), 4, 96)
	two := libraryBytes(t, []byte("two"), []byte("other salt"), 3, 96)
	for range 2 {
		checkBytes(t, []byte("one"), []byte("salt"), 4, 96, one)
		checkKeys(t, []byte("two"), []byte("other salt"), 3, two)
		checkBlock(t, []byte("one"), []byte("salt"), 4, 3, one[64:])
		refuseBytes(t, []byte("one"), []byte("salt"), 0, 96)
		checkBlock(t, []byte("two"), []byte("other salt"), 3, 1, two[:32])
		checkKeys(t, []byte("one"), []byte("salt"), 4, one)
	}
}
