package sha

import (
	"bytes"
	"crypto/sha256"
	"encoding/binary"
	"math"
	"math/big"
	"math/rand"
	"slices"
	"strings"
	"testing"

	"nepenthe/api"
	"nepenthe/octet"
)

// lengths are those at which a padded text gets one block more, those beside them, and several blocks.
var lengths = []int{0, 1, 2, 3, 31, 32, 54, 55, 56, 57, 62, 63, 64, 65, 118, 119, 120, 121, 127, 128, 129, 183, 184, 191, 192, 193, 640, 1000, 4096, 65535, 65536, 65537}

func randomBytes(source *rand.Rand, n int) []byte {
	b := make([]byte, n)
	source.Read(b)
	return b
}

func librarySum(b []byte) []byte {
	sum := sha256.Sum256(b)
	return sum[:]
}

// root answers the first 32 bits of the fractional part of the n-th root (2 or 3) of p: those of the whole number below the root of p times 2^(32n).
func root(p int64, n uint) uint32 {
	target := new(big.Int).Lsh(big.NewInt(p), 32*n)
	low, high := big.NewInt(0), new(big.Int).Lsh(big.NewInt(1), 48)
	for {
		middle := new(big.Int).Add(low, high)
		middle.Rsh(middle, 1)
		if middle.Cmp(low) == 0 {
			return uint32(low.Uint64())
		}
		if new(big.Int).Exp(middle, big.NewInt(int64(n)), nil).Cmp(target) <= 0 {
			low = middle
		} else {
			high = middle
		}
	}
}

// roots answers the n-th roots' bits of the first count primes.
func roots(count int, n uint) []uint32 {
	var out []uint32
	for p := int64(2); len(out) < count; p++ {
		if big.NewInt(p).ProbablyPrime(10) {
			out = append(out, root(p, n))
		}
	}
	return out
}

// compressPlainly goes word by word along the document, with constants of its own, so that Compress can be held against it for states that no text leads to.
func compressPlainly(state []uint32, block []byte) []uint32 {
	rotr := func(x uint32, n uint) uint32 { return x>>n | x<<(32-n) }
	k := roots(64, 3)
	var w []uint32
	for t := range 64 {
		if t < 16 {
			w = append(w, binary.BigEndian.Uint32(block[4*t:]))
			continue
		}
		s0 := rotr(w[t-15], 7) ^ rotr(w[t-15], 18) ^ w[t-15]>>3
		s1 := rotr(w[t-2], 17) ^ rotr(w[t-2], 19) ^ w[t-2]>>10
		w = append(w, s1+w[t-7]+s0+w[t-16])
	}
	s := slices.Clone(state)
	for t := range 64 {
		a, b, c, e, f, g := s[0], s[1], s[2], s[4], s[5], s[6]
		t1 := s[7] + (rotr(e, 6) ^ rotr(e, 11) ^ rotr(e, 25)) + ((e & f) ^ (^e & g)) + k[t] + w[t]
		t2 := (rotr(a, 2) ^ rotr(a, 13) ^ rotr(a, 22)) + ((a & b) ^ (a & c) ^ (b & c))
		s = append([]uint32{t1 + t2}, s[:7]...)
		s[4] += t1
	}
	for i := range s {
		s[i] += state[i]
	}
	return s
}

// states are the first one, the edges of a word, and some of a fixed seed.
func states(source *rand.Rand) [][]uint32 {
	all := [][]uint32{roots(8, 2), make([]uint32, 8), slices.Repeat([]uint32{math.MaxUint32}, 8), {1, 2, 3, 4, 5, 6, 7, 8}}
	for range 20 {
		var state []uint32
		for range 8 {
			state = append(state, source.Uint32())
		}
		all = append(all, state)
	}
	return all
}

// P2.1

func TestSumOfKnownTexts(t *testing.T) {
	cases := []struct{ text, want string }{
		{"", "e3b0c44298fc1c149afbf4c8996fb92427ae41e4649b934ca495991b7852b855"},
		{"abc", "ba7816bf8f01cfea414140de5dae2223b00361a396177a9cb410ff61f20015ad"},
		{"abcdbcdecdefdefgefghfghighijhijkijkljklmklmnlmnomnopnopq", "248d6a61d20638b8e5c026930c3e6039a33ce45964ff2167f6ecedd419db06c1"},
		{"abcdefghbcdefghicdefghijdefghijkefghijklfghijklmghijklmnhijklmnoijklmnopjklmnopqklmnopqrlmnopqrsmnopqrstnopqrstu", "cf5b16a778af8380036ce59e7b0492370b249b11e8f07a51afac45037afee9d1"},
		{strings.Repeat("a", 1000000), "cdc76e5c9914fb9281a1c7e284d73e67f1809a48a497200e046d39ccc7112cd0"},
	}
	for _, c := range cases {
		if got := octet.Hex(Sum([]byte(c.text))); got != c.want {
			t.Errorf("Sum of %d bytes = %s, want %s", len(c.text), got, c.want)
		}
	}
	if got := octet.Hex(Sum(nil)); got != cases[0].want {
		t.Errorf("Sum(nil) = %s", got)
	}
}

func TestSumAgreesWithTheLibrary(t *testing.T) {
	source := rand.New(rand.NewSource(1))
	all := slices.Clone(lengths)
	for n := range 300 {
		all = append(all, n)
	}
	for _, n := range all {
		for _, b := range [][]byte{randomBytes(source, n), make([]byte, n), bytes.Repeat([]byte{255}, n)} {
			if got := Sum(b); !bytes.Equal(got, librarySum(b)) {
				t.Errorf("Sum of %d bytes differs from the library's", n)
			}
		}
	}
}

func TestSumIsTheStateCompressedWithAllBlocks(t *testing.T) {
	source := rand.New(rand.NewSource(2))
	for _, n := range []int{0, 3, 55, 56, 63, 64, 65, 119, 120, 640} {
		b := randomBytes(source, n)
		state, padded := roots(8, 2), Pad(b)
		for i := 0; i+64 <= len(padded); i += 64 {
			next, err := Compress(state, padded[i:i+64])
			if err != api.OK {
				t.Fatalf("Compress of block %d of %d bytes: %v", i/64, n, err)
			}
			state = next
		}
		var want []byte
		for _, word := range state {
			want = binary.BigEndian.AppendUint32(want, word)
		}
		if got := Sum(b); !bytes.Equal(got, want) {
			t.Errorf("Sum of %d bytes is not what its blocks are compressed to", n)
		}
	}
}

func TestCompress(t *testing.T) {
	source := rand.New(rand.NewSource(3))
	blocks := [][]byte{make([]byte, 64), bytes.Repeat([]byte{255}, 64), bytes.Repeat([]byte{128}, 64), randomBytes(source, 64), randomBytes(source, 64)}
	for _, state := range states(source) {
		for _, block := range blocks {
			got, err := Compress(state, block)
			if want := compressPlainly(state, block); err != api.OK || !slices.Equal(got, want) {
				t.Errorf("Compress(%x, %x) = %x, %v, want %x", state, block, got, err, want)
			}
		}
	}
}

func TestCompressSeesEachBit(t *testing.T) {
	state, block := roots(8, 2), make([]byte, 64)
	seen := [][]uint32{compressPlainly(state, block)}
	hold := func(what string, place int) {
		got, err := Compress(state, block)
		if err != api.OK {
			t.Fatalf("Compress: %v", err)
		}
		for _, other := range seen {
			if slices.Equal(got, other) {
				t.Errorf("bit %d of the %s makes no difference", place, what)
			}
		}
		seen = append(seen, got)
	}
	for i := range 512 {
		block[i/8] ^= 128 >> (i % 8)
		hold("block", i)
		block[i/8] ^= 128 >> (i % 8)
	}
	for i := range 256 {
		state[i/32] ^= 1 << (i % 32)
		hold("state", i)
		state[i/32] ^= 1 << (i % 32)
	}
}

func TestCompressOfWrongShapes(t *testing.T) {
	state, block := roots(8, 2), make([]byte, 64)
	cases := []struct {
		state []uint32
		block []byte
	}{
		{nil, nil},
		{nil, block},
		{state, nil},
		{[]uint32{}, block},
		{state, []byte{}},
		{state[:7], block},
		{append(slices.Clone(state), 0), block},
		{make([]uint32, 16), block},
		{state, block[:63]},
		{state, make([]byte, 65)},
		{state, make([]byte, 128)},
		{state, make([]byte, 8)},
		{make([]uint32, 64), make([]byte, 8)},
		{state[:7], block[:63]},
		{make([]uint32, 70000), make([]byte, 70000)},
	}
	for _, c := range cases {
		if got, err := Compress(c.state, c.block); err != api.ErrShape || len(got) != 0 {
			t.Errorf("Compress of %d words and %d bytes = %x, %v, want none and ErrShape", len(c.state), len(c.block), got, err)
		}
	}
}

func TestPad(t *testing.T) {
	source := rand.New(rand.NewSource(4))
	for _, n := range lengths {
		b := randomBytes(source, n)
		want := append(slices.Clone(b), 128)
		for len(want)%64 != 56 {
			want = append(want, 0)
		}
		want = binary.BigEndian.AppendUint64(want, uint64(n)*8)
		if got := Pad(b); !bytes.Equal(got, want) {
			t.Errorf("Pad of %d bytes: %d bytes that end with %x, want %d that end with %x", n, len(got), got[max(0, len(got)-9):], len(want), want[len(want)-9:])
		}
	}
	if !bytes.Equal(Pad(nil), Pad([]byte{})) {
		t.Error("Pad(nil) is not that of no bytes")
	}
}

func TestPadAtTheEdges(t *testing.T) {
	cases := []struct{ n, want int }{{0, 64}, {55, 64}, {56, 128}, {63, 128}, {64, 128}, {65, 128}, {119, 128}, {120, 192}}
	for _, c := range cases {
		if got := len(Pad(make([]byte, c.n))); got != c.want {
			t.Errorf("Pad of %d bytes has %d, want %d", c.n, got, c.want)
		}
	}
}

// P2.2

func TestHashHasWhatWasWritten(t *testing.T) {
	source := rand.New(rand.NewSource(5))
	for _, n := range lengths {
		b := randomBytes(source, n)
		h := New()
		if h.Len() != 0 {
			t.Fatalf("a new hash has %d bytes", h.Len())
		}
		h.Write(b)
		if h.Len() != n || !bytes.Equal(h.Sum(), librarySum(b)) {
			t.Errorf("a hash of %d bytes: Len %d, Sum %x, want %x", n, h.Len(), h.Sum(), librarySum(b))
		}
	}
}

func TestHashOfNoBytes(t *testing.T) {
	h := New()
	hold := func(when string) {
		if got := octet.Hex(h.Sum()); got != "e3b0c44298fc1c149afbf4c8996fb92427ae41e4649b934ca495991b7852b855" || h.Len() != 0 {
			t.Errorf("%s: Sum %s, Len %d", when, got, h.Len())
		}
	}
	hold("new")
	h.Write(nil)
	hold("nil written")
	h.Write([]byte{})
	hold("no bytes written")
	h = &Hash{}
	hold("not made by New")
	h = nil
	hold("nil")
	h.Write([]byte("abc"))
	hold("nil, written to")
}

func TestNothingWrittenInBetween(t *testing.T) {
	for _, n := range []int{1, 63, 64, 65, 128} {
		b := bytes.Repeat([]byte{7}, n)
		h := New()
		h.Write(nil)
		h.Write(b)
		h.Write([]byte{})
		h.Write(nil)
		if h.Len() != n || !bytes.Equal(h.Sum(), librarySum(b)) {
			t.Errorf("%d bytes, with nothing written around them, have another Sum, or Len %d", n, h.Len())
		}
	}
}

func TestSumLeavesTheHashAsItWas(t *testing.T) {
	source := rand.New(rand.NewSource(6))
	for _, n := range []int{0, 1, 55, 56, 63, 64, 65, 119, 120, 128, 640} {
		first, second := randomBytes(source, n), randomBytes(source, 70)
		h := New()
		h.Write(first)
		before := *h
		for range 2 {
			if got := h.Sum(); !bytes.Equal(got, librarySum(first)) || h.Len() != n {
				t.Errorf("%d bytes: Sum %x, Len %d, want %x", n, got, h.Len(), librarySum(first))
			}
		}
		if *h != before {
			t.Errorf("%d bytes: Sum changes the hash", n)
		}
		h.Write(second)
		if both := slices.Concat(first, second); !bytes.Equal(h.Sum(), librarySum(both)) || h.Len() != len(both) {
			t.Errorf("%d bytes, Sum, and 70 more: another Sum, or Len %d", n, h.Len())
		}
	}
}

func TestHashesGoTheirOwnWays(t *testing.T) {
	h, other := New(), New()
	h.Write([]byte("a"))
	other.Write([]byte("b"))
	taken := *h
	h.Write([]byte("c"))
	taken.Write([]byte("d"))
	for text, hash := range map[string]*Hash{"ac": h, "b": other, "ad": &taken} {
		if !bytes.Equal(hash.Sum(), librarySum([]byte(text))) || hash.Len() != len(text) {
			t.Errorf("the hash of %q has another Sum, or Len %d", text, hash.Len())
		}
	}
	if New() == New() {
		t.Error("New answers the same hash twice")
	}
}

func TestHashAsksForTheOrder(t *testing.T) {
	h, other := New(), New()
	h.Write([]byte("ab"))
	h.Write([]byte("c"))
	other.Write([]byte("c"))
	other.Write([]byte("ab"))
	if bytes.Equal(h.Sum(), other.Sum()) || !bytes.Equal(other.Sum(), Sum([]byte("cab"))) {
		t.Error("the order of what is written makes no difference")
	}
}

// P2.3

func TestPiecesOfOneLength(t *testing.T) {
	b := randomBytes(rand.New(rand.NewSource(7)), 1000)
	for _, n := range []int{0, 1, 55, 56, 63, 64, 65, 119, 120, 128, 192, 1000} {
		want := librarySum(b[:n])
		for _, piece := range []int{1, 2, 3, 7, 31, 32, 63, 64, 65, 127, 128, 129, 200} {
			h := New()
			for part := range slices.Chunk(b[:n], piece) {
				h.Write(part)
			}
			if h.Len() != n || !bytes.Equal(h.Sum(), want) {
				t.Errorf("%d bytes in pieces of %d: another Sum, or Len %d", n, piece, h.Len())
			}
		}
	}
}

func TestTwoPiecesCutAnywhere(t *testing.T) {
	b := randomBytes(rand.New(rand.NewSource(8)), 200)
	want := librarySum(b)
	for cut := range len(b) + 1 {
		h := New()
		h.Write(b[:cut])
		if !bytes.Equal(h.Sum(), librarySum(b[:cut])) || h.Len() != cut {
			t.Errorf("the first %d bytes: another Sum, or Len %d", cut, h.Len())
		}
		h.Write(b[cut:])
		if !bytes.Equal(h.Sum(), want) || h.Len() != len(b) {
			t.Errorf("cut at %d: another Sum, or Len %d", cut, h.Len())
		}
	}
}

func TestPiecesOfManyLengths(t *testing.T) {
	source := rand.New(rand.NewSource(9))
	for range 200 {
		h := New()
		var all []byte
		for range source.Intn(12) {
			part := randomBytes(source, source.Intn(150))
			all = append(all, part...)
			h.Write(part)
			if source.Intn(2) == 0 && !bytes.Equal(h.Sum(), librarySum(all)) {
				t.Errorf("in the midst, at %d bytes: another Sum", len(all))
			}
		}
		if !bytes.Equal(h.Sum(), Sum(all)) || !bytes.Equal(h.Sum(), librarySum(all)) || h.Len() != len(all) {
			t.Errorf("%d bytes in pieces: another Sum, or Len %d", len(all), h.Len())
		}
	}
}

// DOC.md, rule 3: what is handed in, and the room behind its end, stays as it is and is not kept; what is answered is new memory.

func TestWhatIsHandedInStays(t *testing.T) {
	room := randomBytes(rand.New(rand.NewSource(10)), 400)
	before := slices.Clone(room)
	words := slices.Repeat([]uint32{1, 2, 3}, 6)
	wordsBefore := slices.Clone(words)

	h := New()
	for _, n := range []int{0, 3, 55, 64, 100} {
		h.Write(room[:n])
		for _, answer := range [][]byte{Sum(room[:n]), Pad(room[:n]), h.Sum()} {
			clear(answer[:cap(answer)])
		}
	}
	compressed, err := Compress(words[:8], room[:64])
	if err != api.OK {
		t.Fatalf("Compress: %v", err)
	}
	clear(compressed[:cap(compressed)])
	if !bytes.Equal(room, before) || !slices.Equal(words, wordsBefore) {
		t.Error("what was handed in, or the room behind it, is changed")
	}
}

func TestWhatIsWrittenIsNotKept(t *testing.T) {
	for _, n := range []int{3, 64, 70, 130} {
		b := bytes.Repeat([]byte{5}, n)
		want := librarySum(b)
		h := New()
		h.Write(b)
		clear(b)
		if !bytes.Equal(h.Sum(), want) {
			t.Errorf("%d bytes, changed after they were written, change the Sum", n)
		}
	}
}

func TestAnswersAreNewMemory(t *testing.T) {
	h := New()
	h.Write([]byte("abc"))
	calls := map[string]func() []byte{
		"Sum":       func() []byte { return Sum([]byte("abc")) },
		"Hash.Sum":  h.Sum,
		"nil's Sum": (*Hash)(nil).Sum,
		"Pad":       func() []byte { return Pad([]byte("abc")) },
	}
	for name, call := range calls {
		first := call()
		want := slices.Clone(first)
		clear(first[:cap(first)])
		if got := call(); !bytes.Equal(got, want) || len(got) < 32 {
			t.Errorf("%s answers memory that it has answered ahead", name)
		}
	}
	first, _ := Compress(make([]uint32, 8), make([]byte, 64))
	want := slices.Clone(first)
	clear(first)
	if got, _ := Compress(make([]uint32, 8), make([]byte, 64)); !slices.Equal(got, want) || len(got) != 8 {
		t.Error("Compress answers memory that it has answered ahead")
	}
}
