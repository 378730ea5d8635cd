package head

import (
	"bytes"
	"encoding/binary"
	"fmt"
	"math"
	"math/rand"
	"slices"
	"testing"

	"nepenthe/api"
)

// theExample is the chapter's.
var theExample = api.Head{Kind: 1, Ns: 2, Count: 1, Lba: 3, Epoch: 4, Counter: 5}

// The chapter's sizes, told once more.
const (
	headBytes = 24
	bothBytes = 48
	tagBytes  = 32
	markBytes = 8
	endBytes  = 88
	mostBytes = 4096 + 88
)

// plainMayBe tells whether a head may be: each number held against all that it may be.
func plainMayBe(h api.Head) bool {
	kinds := []int{1, 2, 3, 4}
	var bytesOfOne []int
	for n := range 256 {
		bytesOfOne = append(bytesOfOne, n)
	}
	return slices.Contains(kinds, h.Kind) && slices.Contains(bytesOfOne, h.Ns) && slices.Contains(bytesOfOne, h.Count)
}

// plainBytes lays a head out as the chapter says, by the library's means.
func plainBytes(h api.Head) ([]byte, api.Errno) {
	if !plainMayBe(h) {
		return nil, api.ErrShape
	}
	b := []byte{byte(h.Kind), byte(h.Ns), byte(h.Count), 0}
	b = binary.BigEndian.AppendUint32(b, h.Lba)
	b = binary.BigEndian.AppendUint64(b, h.Epoch)
	return binary.BigEndian.AppendUint64(b, h.Counter), api.OK
}

// plainEnd puts the four parts of an end one behind the other.
func plainEnd(h api.Head, tag []byte) ([]byte, api.Errno) {
	end, err := plainBytes(h)
	if err != api.OK || len(tag) != 0 && len(tag) != tagBytes {
		return nil, api.ErrShape
	}
	for _, x := range end[:headBytes] {
		end = append(end, 255-x)
	}
	end = append(end, tag...)
	for len(end) < endBytes {
		end = append(end, 255)
	}
	return end, api.OK
}

// plainRead goes over an end byte by byte.
func plainRead(end []byte) (api.Head, []byte, api.Errno) {
	if len(end) != endBytes {
		return api.Head{}, nil, api.ErrShape
	}
	for i := range headBytes {
		if int(end[i])+int(end[headBytes+i]) != 255 {
			return api.Head{}, nil, api.ErrForm
		}
	}
	switch {
	case end[3] != 0, end[0] == 0, end[0] > 4:
		return api.Head{}, nil, api.ErrForm
	}
	h := api.Head{
		Kind:    int(end[0]),
		Ns:      int(end[1]),
		Count:   int(end[2]),
		Lba:     binary.BigEndian.Uint32(end[4:]),
		Epoch:   binary.BigEndian.Uint64(end[8:]),
		Counter: binary.BigEndian.Uint64(end[16:]),
	}
	return h, slices.Clone(end[48:80]), api.OK
}

// plainCommitted adds up what is not nought.
func plainCommitted(end []byte) bool {
	if len(end) != endBytes {
		return false
	}
	sum := 0
	for _, x := range end[80:] {
		sum += int(x)
	}
	return sum == 0
}

// plainMark tells byte by byte how far it is from the end.
func plainMark(n int) []byte {
	if n < 88 || n > 4184 {
		return nil
	}
	mark := make([]byte, n)
	for i := range mark {
		if n-i > 8 {
			mark[i] = 255
		}
	}
	return mark
}

// plainLess holds Epoch and Counter, as bytes one behind the other, against one another.
func plainLess(a, b api.Head) bool {
	order := func(h api.Head) []byte {
		return binary.BigEndian.AppendUint64(binary.BigEndian.AppendUint64(nil, h.Epoch), h.Counter)
	}
	return bytes.Compare(order(a), order(b)) < 0
}

func checkBytes(t *testing.T, h api.Head) {
	t.Helper()
	got, err := Bytes(h)
	want, wantErr := plainBytes(h)
	if err != wantErr || !bytes.Equal(got, want) {
		t.Fatalf("Bytes(%+v) = %x, %v, want %x, %v", h, got, err, want, wantErr)
	}
}

// checkEnd holds an end against the chapter's words; one that is told is not committed.
func checkEnd(t *testing.T, h api.Head, tag []byte) {
	t.Helper()
	got, err := End(h, tag)
	want, wantErr := plainEnd(h, tag)
	if err != wantErr || !bytes.Equal(got, want) {
		t.Fatalf("End(%+v, %x) = %x, %v, want %x, %v", h, tag, got, err, want, wantErr)
	}
	if Committed(got) {
		t.Fatalf("End(%+v, %x) is committed", h, tag)
	}
}

// checkRead holds what is told of an end against the chapter's words.
func checkRead(t *testing.T, end []byte) {
	t.Helper()
	h, tag, err := Read(end)
	wantHead, wantTag, wantErr := plainRead(end)
	if err != wantErr || h != wantHead || !bytes.Equal(tag, wantTag) {
		t.Fatalf("Read(%x) = %+v, %x, %v, want %+v, %x, %v", end, h, tag, err, wantHead, wantTag, wantErr)
	}
	if got, want := Committed(end), plainCommitted(end); got != want {
		t.Fatalf("Committed(%x) = %v, want %v", end, got, want)
	}
}

// checkErr asks for that error of an end, with nothing beside it.
func checkErr(t *testing.T, name string, end []byte, want api.Errno) {
	t.Helper()
	if h, tag, err := Read(end); err != want || h != (api.Head{}) || len(tag) != 0 {
		t.Fatalf("%s: Read(%x) = %+v, %x, %v, want %v", name, end, h, tag, err, want)
	}
	checkRead(t, end)
}

// checkTold asks for that head and that tag of an end.
func checkTold(t *testing.T, name string, end []byte, want api.Head, wantTag []byte) {
	t.Helper()
	if h, tag, err := Read(end); err != api.OK || h != want || !bytes.Equal(tag, wantTag) {
		t.Fatalf("%s: Read(%x) = %+v, %x, %v, want %+v, %x", name, end, h, tag, err, want, wantTag)
	}
	checkRead(t, end)
}

func checkMark(t *testing.T, n int) {
	t.Helper()
	if got, want := Mark(n), plainMark(n); !bytes.Equal(got, want) {
		t.Fatalf("Mark(%d) = %x (%d bytes), want %x (%d bytes)", n, got, len(got), want, len(want))
	}
}

func checkLess(t *testing.T, a, b api.Head) {
	t.Helper()
	if got, want := Less(a, b), plainLess(a, b); got != want {
		t.Fatalf("Less(%+v, %+v) = %v, want %v", a, b, got, want)
	}
}

// endOf is the end of a head and a tag that may be.
func endOf(t *testing.T, h api.Head, tag []byte) []byte {
	t.Helper()
	end, err := End(h, tag)
	if err != api.OK || len(end) != endBytes {
		t.Fatalf("End(%+v, %x) = %x, %v", h, tag, end, err)
	}
	return end
}

func all(x byte, n int) []byte {
	return bytes.Repeat([]byte{x}, n)
}

// counted is the bytes from first on, each one more than the one ahead.
func counted(first byte, n int) []byte {
	b := make([]byte, n)
	for i := range b {
		b[i] = first + byte(i)
	}
	return b
}

func randomBytes(source *rand.Rand, n int) []byte {
	b := make([]byte, n)
	source.Read(b)
	return b
}

// programmed is what a program makes of bytes: each bit is set only if it was, and comes so.
func programmed(was, comes []byte) []byte {
	out := make([]byte, len(was))
	for i := range was {
		out[i] = was[i] & comes[i]
	}
	return out
}

// wholeEnd makes an end of any bytes for a head's, with their complement right.
func wholeEnd(first, tag, mark []byte) []byte {
	complement := slices.Clone(first)
	for i := range complement {
		complement[i] ^= 255
	}
	return slices.Concat(first, complement, tag, mark)
}

// oneByte is a number of one byte of a head.
type oneByte struct {
	name string
	of   func(h *api.Head) *int
}

func oneByteNumbers() []oneByte {
	return []oneByte{
		{"Kind", func(h *api.Head) *int { return &h.Kind }},
		{"Ns", func(h *api.Head) *int { return &h.Ns }},
		{"Count", func(h *api.Head) *int { return &h.Count }},
	}
}

// intEdges are numbers at which one of a byte might be told wrong: some of them are a kind in their low byte, or in their low four.
func intEdges() []int {
	return []int{-1, 0, 1, 2, 3, 4, 5, 6, 127, 128, 254, 255, 256, 257, 260, 511, 512, 65535, 65536, 65537,
		1<<31 - 1, 1 << 31, 1<<32 - 1, 1 << 32, 1<<32 + 1, -2, -127, -128, -252, -255, -256, -257,
		math.MinInt, math.MinInt + 1, math.MaxInt, math.MaxInt - 1}
}

// lbaEdges are noughts, 1 in each byte, the highest bit of each, and the greatest.
func lbaEdges() []uint32 {
	edges := []uint32{0, math.MaxUint32, math.MaxUint32 - 1, 0x01020304}
	for shift := range 4 {
		edges = append(edges, 1<<(8*shift), 128<<(8*shift), 255<<(8*shift))
	}
	return edges
}

// longEdges are likewise, of eight bytes.
func longEdges() []uint64 {
	edges := []uint64{0, math.MaxUint64, math.MaxUint64 - 1, math.MaxInt64, 0x0102030405060708}
	for shift := range 8 {
		edges = append(edges, 1<<(8*shift), 128<<(8*shift), 255<<(8*shift))
	}
	return edges
}

// randomHead is one that may be; of each number each byte may be nought, so that what leads is seen too.
func randomHead(source *rand.Rand) api.Head {
	number := func() uint64 {
		return source.Uint64() >> (source.Intn(9) * 8 % 64)
	}
	return api.Head{
		Kind:    1 + source.Intn(4),
		Ns:      source.Intn(256),
		Count:   source.Intn(256),
		Lba:     uint32(number()),
		Epoch:   number(),
		Counter: number(),
	}
}

// randomOther is a head of which some of the numbers are put elsewhere: at their edges, or anywhere.
func randomOther(source *rand.Rand) api.Head {
	h := randomHead(source)
	for _, number := range oneByteNumbers() {
		switch source.Intn(6) {
		case 0:
			*number.of(&h) = intEdges()[source.Intn(len(intEdges()))]
		case 1:
			*number.of(&h) = int(source.Uint64())
		case 2:
			*number.of(&h) = source.Intn(600) - 200
		}
	}
	return h
}

// randomTag is of TagSize mostly; at times of none, or of another length.
func randomTag(source *rand.Rand) []byte {
	switch source.Intn(8) {
	case 0:
		return nil
	case 1:
		return []byte{}
	case 2:
		return randomBytes(source, source.Intn(70))
	}
	return randomBytes(source, tagBytes)
}

// manyHeads are such that each of their numbers is at each of its edges, and some at random.
func manyHeads() []api.Head {
	source := rand.New(rand.NewSource(1401))
	heads := []api.Head{theExample,
		{Kind: api.KindData}, {Kind: api.KindTrim}, {Kind: api.KindBlock}, {Kind: api.KindKey},
		{Kind: 4, Ns: 255, Count: 255, Lba: math.MaxUint32, Epoch: math.MaxUint64, Counter: math.MaxUint64}}
	for _, n := range []int{0, 1, 127, 128, 254, 255} {
		heads = append(heads, api.Head{Kind: 1, Ns: n}, api.Head{Kind: 2, Count: n})
	}
	for _, n := range lbaEdges() {
		heads = append(heads, api.Head{Kind: 3, Lba: n})
	}
	for _, n := range longEdges() {
		heads = append(heads, api.Head{Kind: 4, Epoch: n}, api.Head{Kind: 1, Counter: n})
	}
	for range 40 {
		heads = append(heads, randomHead(source))
	}
	return heads
}

// manyTags are noughts, 0xff, others with and without noughts at their ends, and random ones.
func manyTags() [][]byte {
	source := rand.New(rand.NewSource(1402))
	tags := [][]byte{all(0, tagBytes), all(255, tagBytes), all(7, tagBytes), counted(0, tagBytes), counted(224, tagBytes)}
	for range 4 {
		tags = append(tags, randomBytes(source, tagBytes))
	}
	return tags
}

// manyMarks are committed, not committed, and half way.
func manyMarks() [][]byte {
	source := rand.New(rand.NewSource(1403))
	marks := [][]byte{all(0, markBytes), all(255, markBytes), all(1, markBytes), counted(0, markBytes), counted(248, markBytes)}
	for bit := range 8 * markBytes {
		nearlyNought, nearlyFull := all(0, markBytes), all(255, markBytes)
		nearlyNought[bit/8] ^= 1 << (bit % 8)
		nearlyFull[bit/8] ^= 1 << (bit % 8)
		marks = append(marks, nearlyNought, nearlyFull)
	}
	for range 8 {
		marks = append(marks, randomBytes(source, markBytes))
	}
	return marks
}

// bitName names a bit of an end.
func bitName(bit int) string {
	return fmt.Sprintf("bit %d of byte %d", bit%8, bit/8)
}
