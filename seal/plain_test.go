package seal

import (
	"bytes"
	"crypto/aes"
	"crypto/hmac"
	"crypto/sha256"
	"encoding/binary"
	"encoding/hex"
	"math"
	"math/big"
	"math/rand"
	"slices"
	"testing"

	"nepenthe/api"
)

// The chapters' sizes, told once more.
const (
	keyBytes   = 96
	tagBytes   = 32
	tweakBytes = 16
	blockBytes = 16
	mostBytes  = 4096
)

// theHead has unlike numbers.
var theHead = api.Head{Kind: 1, Ns: 2, Count: 1, Lba: 3, Epoch: 4, Counter: 5}

// plainMayBe tells whether a page may have that head.
func plainMayBe(h api.Head) bool {
	isByte := func(n int) bool { return n == int(byte(n)) }
	return slices.Contains([]int{1, 2, 3, 4}, h.Kind) && isByte(h.Ns) && isByte(h.Count)
}

// plainSector tells whether bytes are a sector's.
func plainSector(b []byte) bool {
	for n := blockBytes; n <= mostBytes; n += blockBytes {
		if len(b) == n {
			return true
		}
	}
	return false
}

// plainTweak puts a head's Epoch and Counter into two halves of a number.
func plainTweak(h api.Head) []byte {
	n := new(big.Int).SetUint64(h.Epoch)
	n.Lsh(n, 64)
	n.Add(n, new(big.Int).SetUint64(h.Counter))
	return n.FillBytes(make([]byte, tweakBytes))
}

// plainMasks are the first n masks: numbers, of which the first byte is the least.
func plainMasks(key []byte, tweak []byte, n int) [][]byte {
	first := make([]byte, blockBytes)
	cipher(key).Encrypt(first, tweak)
	slices.Reverse(first)
	mask := new(big.Int).SetBytes(first)
	modulus := new(big.Int).SetBit(big.NewInt(0x87), 128, 1)
	var masks [][]byte
	for range n {
		b := mask.FillBytes(make([]byte, blockBytes))
		slices.Reverse(b)
		masks = append(masks, b)
		mask.Lsh(mask, 1)
		if mask.Bit(128) == 1 {
			mask.Xor(mask, modulus)
		}
	}
	return masks
}

type blockCipher interface {
	Encrypt(to, from []byte)
	Decrypt(to, from []byte)
}

func cipher(key []byte) blockCipher {
	c, err := aes.NewCipher(key)
	if err != nil {
		panic(err)
	}
	return c
}

// plainTurned is the sector, encrypted or (back) decrypted by the library's AES, block by block.
func plainTurned(keys []byte, h api.Head, sector []byte, back bool) []byte {
	data := cipher(keys[0:32])
	out := slices.Clone(sector)
	for j, mask := range plainMasks(keys[32:64], plainTweak(h), len(sector)/blockBytes) {
		block := out[j*blockBytes:][:blockBytes]
		xorInto(block, mask)
		if back {
			data.Decrypt(block, block)
		} else {
			data.Encrypt(block, block)
		}
		xorInto(block, mask)
	}
	return out
}

func xorInto(b, mask []byte) {
	for i := range b {
		b[i] ^= mask[i]
	}
}

// plainHead lays a head out as its chapter says.
func plainHead(h api.Head) []byte {
	b := []byte{byte(h.Kind), byte(h.Ns), byte(h.Count), 0}
	b = binary.BigEndian.AppendUint32(b, h.Lba)
	b = binary.BigEndian.AppendUint64(b, h.Epoch)
	return binary.BigEndian.AppendUint64(b, h.Counter)
}

// plainTag is the library's, of one text.
func plainTag(keys []byte, h api.Head, behind []byte) ([]byte, api.Errno) {
	if len(keys) != keyBytes || !plainMayBe(h) {
		return nil, api.ErrShape
	}
	sum := hmac.New(sha256.New, keys[64:96])
	sum.Write(append(plainHead(h), behind...))
	return sum.Sum(nil), api.OK
}

// plainSeal is the sector, encrypted, and its tag, as the chapter says.
func plainSeal(keys []byte, h api.Head, sector []byte) ([]byte, []byte, api.Errno) {
	if len(keys) != keyBytes || !plainMayBe(h) || !plainSector(sector) {
		return nil, nil, api.ErrShape
	}
	sealed := plainTurned(keys, h, sector, false)
	tag, err := plainTag(keys, h, sealed)
	return sealed, tag, err
}

// plainOpen is the sector, decrypted, if its tag fits.
func plainOpen(keys []byte, h api.Head, sealed, tag []byte) ([]byte, api.Errno) {
	if len(keys) != keyBytes || !plainMayBe(h) || !plainSector(sealed) {
		return nil, api.ErrShape
	}
	if right, _ := plainTag(keys, h, sealed); !bytes.Equal(tag, right) {
		return nil, api.ErrIntegrity
	}
	return plainTurned(keys, h, sealed, true), api.OK
}

// pair are keys, and the bytes of which they were made (none, if New did not make them).
type pair struct {
	keys  *Keys
	bytes []byte
}

// made are the keys of KeySize bytes.
func made(t *testing.T, b []byte) pair {
	t.Helper()
	k, err := New(b)
	if err != api.OK || k == nil {
		t.Fatalf("New(%x) = %v, %v", b, k, err)
	}
	return pair{keys: k, bytes: slices.Clone(b)}
}

// theKeys are all unlike bytes.
func theKeys(t *testing.T) pair {
	t.Helper()
	return made(t, counted(0, keyBytes))
}

// checkSeal holds what is sealed against the chapter's words.
func checkSeal(t *testing.T, p pair, h api.Head, sector []byte) {
	t.Helper()
	sealed, tag, err := p.keys.Seal(h, sector)
	wantSealed, wantTag, wantErr := plainSeal(p.bytes, h, sector)
	if err != wantErr || !bytes.Equal(sealed, wantSealed) || !bytes.Equal(tag, wantTag) {
		t.Fatalf("keys %x: Seal(%+v, %x) = %x, %x, %v, want %x, %x, %v", p.bytes, h, sector, sealed, tag, err, wantSealed, wantTag, wantErr)
	}
}

// checkOpen holds what is opened against the chapter's words.
func checkOpen(t *testing.T, p pair, h api.Head, sealed, tag []byte) {
	t.Helper()
	got, err := p.keys.Open(h, sealed, tag)
	want, wantErr := plainOpen(p.bytes, h, sealed, tag)
	if err != wantErr || !bytes.Equal(got, want) {
		t.Fatalf("keys %x: Open(%+v, %x, %x) = %x, %v, want %x, %v", p.bytes, h, sealed, tag, got, err, want, wantErr)
	}
}

// checkTag holds a tag against the chapter's words.
func checkTag(t *testing.T, p pair, h api.Head, behind []byte) {
	t.Helper()
	got, err := p.keys.Tag(h, behind)
	want, wantErr := plainTag(p.bytes, h, behind)
	if err != wantErr || !bytes.Equal(got, want) {
		t.Fatalf("keys %x: Tag(%+v, %x) = %x, %v, want %x, %v", p.bytes, h, behind, got, err, want, wantErr)
	}
}

// checkAll holds all that keys answer of one head and one sector, and of what it is sealed to.
func checkAll(t *testing.T, p pair, h api.Head, sector []byte) {
	t.Helper()
	checkSeal(t, p, h, sector)
	checkTag(t, p, h, sector)
	checkTag(t, p, h, nil)
	sealed, tag, _ := plainSeal(p.bytes, h, sector)
	checkOpen(t, p, h, sealed, tag)
	checkOpen(t, p, h, sector, tag)
	if got, want := Tweak(h), plainTweak(h); !bytes.Equal(got, want) {
		t.Fatalf("Tweak(%+v) = %x, want %x", h, got, want)
	}
}

// checkSealErr asks for that error of Seal, with nothing beside it.
func checkSealErr(t *testing.T, name string, p pair, h api.Head, sector []byte) {
	t.Helper()
	if sealed, tag, err := p.keys.Seal(h, sector); err != api.ErrShape || len(sealed) != 0 || len(tag) != 0 {
		t.Fatalf("%s: Seal(%+v, %x) = %x, %x, %v, want ErrShape", name, h, sector, sealed, tag, err)
	}
}

// checkOpenErr asks for that error of Open, with nothing beside it.
func checkOpenErr(t *testing.T, name string, p pair, h api.Head, sealed, tag []byte, want api.Errno) {
	t.Helper()
	if got, err := p.keys.Open(h, sealed, tag); err != want || len(got) != 0 {
		t.Fatalf("%s: Open(%+v, %x, %x) = %x, %v, want %v", name, h, sealed, tag, got, err, want)
	}
}

// checkTagErr asks for ErrShape of Tag, with nothing beside it.
func checkTagErr(t *testing.T, name string, p pair, h api.Head, behind []byte) {
	t.Helper()
	if tag, err := p.keys.Tag(h, behind); err != api.ErrShape || len(tag) != 0 {
		t.Fatalf("%s: Tag(%+v, %x) = %x, %v, want ErrShape", name, h, behind, tag, err)
	}
}

// sealedBy is a sector, sealed.
func sealedBy(t *testing.T, p pair, h api.Head, sector []byte) ([]byte, []byte) {
	t.Helper()
	sealed, tag, err := p.keys.Seal(h, sector)
	if err != api.OK || len(sealed) != len(sector) || len(tag) != tagBytes {
		t.Fatalf("keys %x: Seal(%+v, %x) = %x, %x, %v", p.bytes, h, sector, sealed, tag, err)
	}
	return sealed, tag
}

// openedBy is a sector, opened.
func openedBy(t *testing.T, p pair, h api.Head, sealed, tag []byte) []byte {
	t.Helper()
	sector, err := p.keys.Open(h, sealed, tag)
	if err != api.OK || len(sector) != len(sealed) {
		t.Fatalf("keys %x: Open(%+v, %x, %x) = %x, %v", p.bytes, h, sealed, tag, sector, err)
	}
	return sector
}

func unhex(t *testing.T, s string) []byte {
	t.Helper()
	b, err := hex.DecodeString(s)
	if err != nil {
		t.Fatal(err)
	}
	return b
}

func all(x byte, n int) []byte {
	return bytes.Repeat([]byte{x}, n)
}

// counted is the bytes from first on, each one more than the one ahead.
func counted(first byte, n int) []byte {
	b := make([]byte, n)
	for i := range b {
		b[i] = first + byte(i)
	}
	return b
}

// changed is b with one byte xored.
func changed(b []byte, at int, x byte) []byte {
	out := slices.Clone(b)
	out[at] ^= x
	return out
}

func randomBytes(source *rand.Rand, n int) []byte {
	b := make([]byte, n)
	source.Read(b)
	return b
}

// manyKeys are noughts, 0xff, counted ones, three that are alike, and random ones.
func manyKeys() [][]byte {
	source := rand.New(rand.NewSource(1601))
	keys := [][]byte{all(0, keyBytes), all(255, keyBytes), all(3, keyBytes), counted(0, keyBytes), counted(200, keyBytes),
		bytes.Repeat(counted(7, 32), 3)}
	for range 4 {
		keys = append(keys, randomBytes(source, keyBytes))
	}
	return keys
}

// manyHeads are the least and the greatest, those of each kind with one number at its edge, and some at random.
func manyHeads() []api.Head {
	source := rand.New(rand.NewSource(1602))
	heads := []api.Head{theHead,
		{Kind: api.KindData}, {Kind: api.KindTrim}, {Kind: api.KindBlock}, {Kind: api.KindKey},
		{Kind: 4, Ns: 255, Count: 255, Lba: math.MaxUint32, Epoch: math.MaxUint64, Counter: math.MaxUint64},
		{Kind: 1, Ns: 255}, {Kind: 1, Count: 255}, {Kind: 3, Lba: math.MaxUint32},
		{Kind: 2, Epoch: math.MaxUint64}, {Kind: 1, Counter: math.MaxUint64}}
	for range 12 {
		heads = append(heads, randomHead(source))
	}
	return heads
}

// wrongHeads are such that each is wrong for one reason, or, the last ones, for several.
func wrongHeads() map[string]api.Head {
	return map[string]api.Head{
		"no head":            {},
		"no kind":            {Kind: 0, Ns: 1, Count: 1},
		"a kind too great":   {Kind: 5},
		"a kind below 0":     {Kind: -1},
		"a kind in its byte": {Kind: 257},
		"a kind and 2^32":    {Kind: 1<<32 + 1},
		"the least kind":     {Kind: math.MinInt},
		"the most kind":      {Kind: math.MaxInt},
		"Ns below 0":         {Kind: 1, Ns: -1},
		"Ns too great":       {Kind: 1, Ns: 256},
		"the least Ns":       {Kind: 2, Ns: math.MinInt},
		"the most Ns":        {Kind: 2, Ns: math.MaxInt},
		"Count below 0":      {Kind: 3, Count: -1},
		"Count too great":    {Kind: 4, Count: 256},
		"the least Count":    {Kind: 2, Count: math.MinInt},
		"the most Count":     {Kind: 2, Count: math.MaxInt},
		"Ns and Count":       {Kind: 1, Ns: 256, Count: -1, Epoch: 4, Counter: 5},
		"all of them":        {Kind: 5, Ns: -1, Count: 256, Lba: 1, Epoch: 1, Counter: 1},
	}
}

// wrongSectors are no sectors: without bytes, too short, too long, or not whole blocks.
func wrongSectors() [][]byte {
	list := [][]byte{nil, {}, make([]byte, 0, 64)}
	for _, n := range []int{1, 8, 15, 17, 24, 31, 33, 40, 63, 65, 4081, 4095, 4097, 4104, 4112, 8192, 65536, 70000} {
		list = append(list, counted(9, n))
	}
	return list
}

// edges are numbers of 64 bits of which one byte, or the sign, or the carry, is at an edge.
func edges() []uint64 {
	list := []uint64{0, 1, 2, 255, 256, 65535, 65536, math.MaxInt32, 1 << 31, math.MaxUint32, 1 << 32, math.MaxInt64, 1 << 63, math.MaxUint64 - 1, math.MaxUint64}
	for i := range 8 {
		list = append(list, 0x12<<(8*i))
	}
	return append(list, 0x0102030405060708)
}

// unlikeHeads are all that differ from a head in one number alone, and may be.
func unlikeHeads(h api.Head) map[string]api.Head {
	of := func(change func(*api.Head)) api.Head {
		other := h
		change(&other)
		return other
	}
	return map[string]api.Head{
		"another Kind":               of(func(h *api.Head) { h.Kind = h.Kind%4 + 1 }),
		"another Ns":                 of(func(h *api.Head) { h.Ns ^= 1 }),
		"an Ns of another top bit":   of(func(h *api.Head) { h.Ns ^= 128 }),
		"another Count":              of(func(h *api.Head) { h.Count ^= 1 }),
		"a Count of another top bit": of(func(h *api.Head) { h.Count ^= 128 }),
		"another Lba":                of(func(h *api.Head) { h.Lba ^= 1 }),
		"an Lba of another top bit":  of(func(h *api.Head) { h.Lba ^= 1 << 31 }),
		"another Epoch":              of(func(h *api.Head) { h.Epoch ^= 1 }),
		"an Epoch of another top":    of(func(h *api.Head) { h.Epoch ^= 1 << 63 }),
		"the next Epoch":             of(func(h *api.Head) { h.Epoch++ }),
		"another Counter":            of(func(h *api.Head) { h.Counter ^= 1 }),
		"a Counter of another top":   of(func(h *api.Head) { h.Counter ^= 1 << 63 }),
		"the next Counter":           of(func(h *api.Head) { h.Counter++ }),
	}
}

// wrongTags are all of other lengths, up to some, and those of the right length that differ in one bit, or in all.
func wrongTags(right []byte) [][]byte {
	list := [][]byte{nil, {}, make([]byte, 0, tagBytes)}
	for n := 1; n < tagBytes; n++ {
		list = append(list, right[:n:n], right[:n], right[n:])
	}
	for _, behind := range [][]byte{{0}, {255}, {right[0]}, {right[31]}, right} {
		list = append(list, slices.Concat(right, behind), slices.Concat(behind, right))
	}
	for bit := range 8 * tagBytes {
		list = append(list, changed(right, bit/8, 1<<(bit%8)))
	}
	for at := range tagBytes {
		list = append(list, changed(right, at, 255))
	}
	inverted, reversed := slices.Clone(right), slices.Clone(right)
	for i := range inverted {
		inverted[i] ^= 255
	}
	slices.Reverse(reversed)
	return append(list, inverted, reversed, all(0, tagBytes), all(255, tagBytes))
}

// randomHead is one that may be; of each number the first bytes may be nought.
func randomHead(source *rand.Rand) api.Head {
	number := func() uint64 {
		return source.Uint64() >> (8 * source.Intn(8))
	}
	return api.Head{
		Kind:    1 + source.Intn(4),
		Ns:      source.Intn(256),
		Count:   source.Intn(256),
		Lba:     uint32(number()),
		Epoch:   number(),
		Counter: number(),
	}
}

// randomOther is a head of which at times a number is put elsewhere.
func randomOther(source *rand.Rand) api.Head {
	h := randomHead(source)
	for _, n := range []*int{&h.Kind, &h.Ns, &h.Count} {
		switch source.Intn(20) {
		case 0:
			*n = source.Intn(600) - 200
		case 1:
			*n = int(source.Uint64())
		}
	}
	return h
}

// randomSector is one mostly, and a small one more often; at times its length is another.
func randomSector(source *rand.Rand) []byte {
	n := blockBytes * (1 + source.Intn(1+source.Intn(1+source.Intn(1+source.Intn(256)))))
	switch source.Intn(12) {
	case 0:
		n += source.Intn(2*blockBytes) - blockBytes
	case 1:
		n = mostBytes + source.Intn(3*blockBytes)
	}
	return randomBytes(source, n)
}

// randomPair are keys that New made mostly; at times nil ones.
func randomPair(t *testing.T, source *rand.Rand) pair {
	t.Helper()
	if source.Intn(20) == 0 {
		return pair{}
	}
	return made(t, randomBytes(source, keyBytes))
}
