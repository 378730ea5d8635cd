package chunk

import (
	"bytes"
	"encoding/binary"
	"math"
	"math/rand"
	"slices"
	"testing"

	"nepenthe/api"
)

// The chapters' sizes, told once more.
const (
	recordBytes = 624
	headBytes   = 24
	bothBytes   = 48
	tagBytes    = 32
	markBytes   = 8
	endBytes    = 88
)

// theGeometry's records are the chapter's example, ten pages, of blocks that have two more.
var theGeometry = api.Geometry{Blocks: 7, Pages: 12, Sector: 64, Spare: 0, Wear: 1, Rounds: 1}

// theGen has unlike bytes.
const theGen = 0x0102030405060708

func theRecord() []byte {
	return counted(3, recordBytes)
}

// plainRight tells whether a geometry is right, number by number.
func plainRight(g api.Geometry) bool {
	switch {
	case g.Blocks < 7, g.Blocks > 64, g.Pages < 4, g.Pages > 32, g.Spare < 0, g.Spare > 8:
		return false
	case g.Wear < 1, g.Wear > 1000, g.Rounds < 1, g.Rounds > 1000:
		return false
	case g.Sector < 32, g.Sector > 4096, g.Sector&15 != 0:
		return false
	}
	return g.Sector*g.Pages >= recordBytes && g.Blocks-4-g.Spare >= 3
}

// plainCount goes on till a record has room in as many sectors.
func plainCount(sector int) int {
	count := 0
	for room := 0; room < recordBytes; room += sector {
		count++
	}
	return count
}

// plainHead is a head's bytes with their complement behind.
func plainHead(h api.Head) []byte {
	b := []byte{byte(h.Kind), byte(h.Ns), byte(h.Count), 0}
	b = binary.BigEndian.AppendUint32(b, h.Lba)
	b = binary.BigEndian.AppendUint64(b, h.Epoch)
	b = binary.BigEndian.AppendUint64(b, h.Counter)
	for _, x := range b[:headBytes] {
		b = append(b, 255-x)
	}
	return b
}

// keyHead is the head of a record's page.
func keyHead(i, count int, gen uint64) api.Head {
	return api.Head{Kind: 4, Ns: i, Count: 0, Lba: uint32(count), Epoch: gen, Counter: 0}
}

// layPages lays a record's pages out, of sectors that may not be right, too.
func layPages(sector int, rec []byte, gen uint64) [][]byte {
	count := plainCount(sector)
	pages := [][]byte{}
	for i := range count {
		b := all(255, sector+endBytes)
		copy(b[:sector], rec[i*sector:])
		copy(b[sector:], plainHead(keyHead(i, count, gen)))
		pages = append(pages, b)
	}
	return pages
}

// plainPages are a record's pages, as the chapter says.
func plainPages(g api.Geometry, rec []byte, gen uint64) ([][]byte, api.Errno) {
	if !plainRight(g) || len(rec) != recordBytes {
		return nil, api.ErrShape
	}
	return layPages(g.Sector, rec, gen), api.OK
}

// plainHold takes the generation of the first page, and holds all ends against what they have to be, byte by byte.
func plainHold(g api.Geometry, pages [][]byte) (uint64, []byte, bool) {
	if !plainRight(g) {
		return 0, nil, false
	}
	count := plainCount(g.Sector)
	if len(pages) < count || len(pages[0]) != g.Sector+endBytes {
		return 0, nil, false
	}
	gen := binary.BigEndian.Uint64(pages[0][g.Sector+8:])
	row := []byte{}
	for i := range count {
		b := pages[i]
		if len(b) != g.Sector+endBytes || !bytes.Equal(b[g.Sector:g.Sector+bothBytes], plainHead(keyHead(i, count, gen))) {
			return 0, nil, false
		}
		row = append(row, b[:g.Sector]...)
	}
	if !bytes.HasSuffix(pages[count-1], make([]byte, markBytes)) {
		return 0, nil, false
	}
	return gen, row[:recordBytes], true
}

// plainCurrent goes from the last block to the first, so that of like ones the first stays.
func plainCurrent(g api.Geometry, blocks [][][]byte) (int, uint64, []byte) {
	at, greatest, current := -1, uint64(0), []byte{}
	for i := len(blocks) - 1; i >= 0; i-- {
		if gen, rec, ok := plainHold(g, blocks[i]); ok && gen >= greatest {
			at, greatest, current = i, gen, rec
		}
	}
	return at, greatest, current
}

// checkPages holds a record's pages against the chapter's words.
func checkPages(t *testing.T, g api.Geometry, rec []byte, gen uint64) {
	t.Helper()
	got, err := Pages(g, rec, gen)
	want, wantErr := plainPages(g, rec, gen)
	if err != wantErr || !slices.EqualFunc(got, want, bytes.Equal) {
		t.Fatalf("Pages(%+v, %x, %d) = %x, %v, want %x, %v", g, rec, gen, got, err, want, wantErr)
	}
}

// checkShape asks that there are no pages.
func checkShape(t *testing.T, name string, g api.Geometry, rec []byte, gen uint64) {
	t.Helper()
	if pages, err := Pages(g, rec, gen); err != api.ErrShape || len(pages) != 0 {
		t.Fatalf("%s: Pages(%+v, %x, %d) = %x, %v, want ErrShape", name, g, rec, gen, pages, err)
	}
	checkPages(t, g, rec, gen)
}

// checkHold holds what pages hold against the chapter's words, and against what they tell as the only block.
func checkHold(t *testing.T, name string, g api.Geometry, pages [][]byte) bool {
	t.Helper()
	gen, rec, ok := Hold(g, pages)
	wantGen, wantRec, wantOK := plainHold(g, pages)
	if ok != wantOK || gen != wantGen || !bytes.Equal(rec, wantRec) {
		t.Fatalf("%s: Hold(%+v, %x) = %d, %x, %v, want %d, %x, %v", name, g, pages, gen, rec, ok, wantGen, wantRec, wantOK)
	}
	checkCurrent(t, name, g, [][][]byte{pages})
	return ok
}

// checkHeld asks that pages hold just this record.
func checkHeld(t *testing.T, name string, g api.Geometry, pages [][]byte, wantGen uint64, wantRec []byte) {
	t.Helper()
	if gen, rec, ok := Hold(g, pages); !ok || gen != wantGen || !bytes.Equal(rec, wantRec) {
		t.Fatalf("%s: Hold(%+v, %x) = %d, %x, %v, want %d, %x", name, g, pages, gen, rec, ok, wantGen, wantRec)
	}
	checkHold(t, name, g, pages)
}

// checkNone asks that pages hold no record, with nothing beside it.
func checkNone(t *testing.T, name string, g api.Geometry, pages [][]byte) {
	t.Helper()
	if gen, rec, ok := Hold(g, pages); ok || gen != 0 || len(rec) != 0 {
		t.Fatalf("%s: Hold(%+v, %x) = %d, %x, %v, want none", name, g, pages, gen, rec, ok)
	}
	checkHold(t, name, g, pages)
	checkIs(t, name, g, [][][]byte{pages}, -1, 0, nil)
}

// checkCurrent holds which block is current against the chapter's words.
func checkCurrent(t *testing.T, name string, g api.Geometry, blocks [][][]byte) int {
	t.Helper()
	at, gen, rec := Current(g, blocks)
	wantAt, wantGen, wantRec := plainCurrent(g, blocks)
	if at != wantAt || gen != wantGen || !bytes.Equal(rec, wantRec) {
		t.Fatalf("%s: Current(%+v, %d blocks) = %d, %d, %x, want %d, %d, %x", name, g, len(blocks), at, gen, rec, wantAt, wantGen, wantRec)
	}
	return at
}

// checkIs asks that just this block is current.
func checkIs(t *testing.T, name string, g api.Geometry, blocks [][][]byte, wantAt int, wantGen uint64, wantRec []byte) {
	t.Helper()
	if at, gen, rec := Current(g, blocks); at != wantAt || gen != wantGen || !bytes.Equal(rec, wantRec) {
		t.Fatalf("%s: Current(%+v, %d blocks) = %d, %d, %x, want %d, %d, %x", name, g, len(blocks), at, gen, rec, wantAt, wantGen, wantRec)
	}
	checkCurrent(t, name, g, blocks)
}

// made are the pages of a record and a geometry that may be.
func made(t *testing.T, g api.Geometry, rec []byte, gen uint64) [][]byte {
	t.Helper()
	pages, err := Pages(g, rec, gen)
	if err != api.OK || len(pages) != plainCount(g.Sector) {
		t.Fatalf("Pages(%+v, %x, %d) = %x, %v", g, rec, gen, pages, err)
	}
	return pages
}

// held are such pages, the last one committed.
func held(t *testing.T, g api.Geometry, rec []byte, gen uint64) [][]byte {
	t.Helper()
	pages := made(t, g, rec, gen)
	commit(pages[len(pages)-1])
	return pages
}

// block is all pages of a block that holds the record, the others blank.
func block(t *testing.T, g api.Geometry, rec []byte, gen uint64) [][]byte {
	t.Helper()
	pages := held(t, g, rec, gen)
	for len(pages) < g.Pages {
		pages = append(pages, all(255, g.Sector+endBytes))
	}
	return pages
}

// commit clears a page's mark.
func commit(b []byte) {
	clear(b[len(b)-markBytes:])
}

// putHead puts another head in its place, with its complement.
func putHead(b []byte, h api.Head) {
	copy(b[len(b)-endBytes:], plainHead(h))
}

// copied is pages in new memory.
func copied(pages [][]byte) [][]byte {
	out := make([][]byte, len(pages))
	for i, b := range pages {
		out[i] = bytes.Clone(b)
	}
	return out
}

// but is pages in new memory, one of which was put elsewhere.
func but(pages [][]byte, i int, b []byte) [][]byte {
	out := copied(pages)
	out[i] = b
	return out
}

// changed is pages of which one has one byte xored.
func changed(pages [][]byte, i, at int, x byte) [][]byte {
	out := copied(pages)
	out[i][at] ^= x
	return out
}

func all(x byte, n int) []byte {
	return bytes.Repeat([]byte{x}, n)
}

// counted is the bytes from first on, each one more than the one ahead, one in 251 left out, so that no two sectors are alike.
func counted(first byte, n int) []byte {
	b := make([]byte, n)
	for i := range b {
		b[i] = first + byte(i%251) + byte(i/251)
	}
	return b
}

// fewRecords are noughts, 0xff, others, what ends in 0xff, and what looks like pages.
func fewRecords() [][]byte {
	source := rand.New(rand.NewSource(1901))
	pages := slices.Concat(layPages(64, theRecord(), theGen)...)
	return [][]byte{theRecord(), all(0, recordBytes), all(255, recordBytes), slices.Concat(all(7, 600), all(255, 24)), pages[64:][:recordBytes], randomBytes(source, recordBytes)}
}

// fewGens are at the edges of their bytes and words.
func fewGens() []uint64 {
	return []uint64{0, 1, 2, 255, 256, math.MaxUint32, 1 << 32, 1<<63 - 1, 1 << 63, 1<<63 + 1, math.MaxUint64 - 1, math.MaxUint64, theGen}
}

// rightGeometries are the least and the greatest, those at which a record just fits, and those whose sectors a record fills.
func rightGeometries() []api.Geometry {
	return []api.Geometry{
		theGeometry,
		{Blocks: 7, Pages: 20, Sector: 32, Spare: 0, Wear: 1, Rounds: 1},
		{Blocks: 7, Pages: 4, Sector: 160, Spare: 0, Wear: 1, Rounds: 1},
		{Blocks: 64, Pages: 32, Sector: 4096, Spare: 8, Wear: 1000, Rounds: 1000},
		{Blocks: 64, Pages: 32, Sector: 32, Spare: 8, Wear: 1000, Rounds: 1000},
		{Blocks: 7, Pages: 4, Sector: 4096, Spare: 0, Wear: 1, Rounds: 1},
		{Blocks: 15, Pages: 13, Sector: 48, Spare: 8, Wear: 7, Rounds: 9},
		{Blocks: 10, Pages: 16, Sector: 208, Spare: 1, Wear: 4, Rounds: 1},
		{Blocks: 10, Pages: 4, Sector: 608, Spare: 1, Wear: 4, Rounds: 1},
		{Blocks: 10, Pages: 4, Sector: 624, Spare: 1, Wear: 4, Rounds: 1},
		{Blocks: 10, Pages: 4, Sector: 640, Spare: 1, Wear: 4, Rounds: 1},
		{Blocks: 10, Pages: 10, Sector: 64, Spare: 1, Wear: 4, Rounds: 1},
	}
}

// wrongGeometries are such that each is wrong for one reason, just beside one that is right, or, the last ones, for several. (A sector below the least is never wrong alone: a record takes more of them than a block may have pages.)
func wrongGeometries() map[string]api.Geometry {
	least := api.Geometry{Blocks: 7, Pages: 20, Sector: 32, Spare: 0, Wear: 1, Rounds: 1}
	most := api.Geometry{Blocks: 64, Pages: 32, Sector: 4096, Spare: 8, Wear: 1000, Rounds: 1000}
	of := func(g api.Geometry, change func(*api.Geometry)) api.Geometry {
		change(&g)
		return g
	}
	return map[string]api.Geometry{
		"nothing":           {},
		"Blocks too small":  of(least, func(g *api.Geometry) { g.Blocks-- }),
		"Blocks too great":  of(most, func(g *api.Geometry) { g.Blocks++ }),
		"Pages too small":   {Blocks: 7, Pages: 3, Sector: 4096, Spare: 0, Wear: 1, Rounds: 1},
		"Pages too great":   of(most, func(g *api.Geometry) { g.Pages++ }),
		"a step too small":  {Blocks: 7, Pages: 39, Sector: 16, Spare: 0, Wear: 1, Rounds: 1},
		"a step too great":  of(most, func(g *api.Geometry) { g.Sector += 16 }),
		"Sector no step":    {Blocks: 7, Pages: 32, Sector: 33, Spare: 0, Wear: 1, Rounds: 1},
		"Sector no step, 8": {Blocks: 7, Pages: 32, Sector: 72, Spare: 0, Wear: 1, Rounds: 1},
		"no sector":         of(least, func(g *api.Geometry) { g.Sector = 0 }),
		"Sector below 0":    of(least, func(g *api.Geometry) { g.Sector = -88 }),
		"the least sector":  of(least, func(g *api.Geometry) { g.Sector = math.MinInt }),
		"the most sector":   of(least, func(g *api.Geometry) { g.Sector = math.MaxInt }),
		"Spare too small":   of(least, func(g *api.Geometry) { g.Spare-- }),
		"Spare too great":   of(most, func(g *api.Geometry) { g.Spare++ }),
		"Wear too small":    of(least, func(g *api.Geometry) { g.Wear-- }),
		"Wear too great":    of(most, func(g *api.Geometry) { g.Wear++ }),
		"Rounds too small":  of(least, func(g *api.Geometry) { g.Rounds-- }),
		"Rounds too great":  of(most, func(g *api.Geometry) { g.Rounds++ }),
		"no record fits":    of(least, func(g *api.Geometry) { g.Pages-- }),
		"no record of four": {Blocks: 7, Pages: 4, Sector: 144, Spare: 0, Wear: 1, Rounds: 1},
		"too few blocks":    of(least, func(g *api.Geometry) { g.Spare++ }),
		"too few for eight": {Blocks: 14, Pages: 16, Sector: 48, Spare: 8, Wear: 7, Rounds: 9},
		"all too small":     {Blocks: 6, Pages: 3, Sector: 31, Spare: -1, Wear: 0, Rounds: 0},
		"all too great":     {Blocks: 65, Pages: 33, Sector: 4097, Spare: 9, Wear: 1001, Rounds: 1001},
	}
}

// otherHeads are heads that differ from one in one number.
func otherHeads(h api.Head) map[string]api.Head {
	of := func(change func(*api.Head)) api.Head {
		other := h
		change(&other)
		return other
	}
	return map[string]api.Head{
		"another kind, data":          of(func(h *api.Head) { h.Kind = api.KindData }),
		"another kind, trim":          of(func(h *api.Head) { h.Kind = api.KindTrim }),
		"another kind, block":         of(func(h *api.Head) { h.Kind = api.KindBlock }),
		"no kind, 0":                  of(func(h *api.Head) { h.Kind = 0 }),
		"no kind, 5":                  of(func(h *api.Head) { h.Kind = 5 }),
		"another Ns, one more":        of(func(h *api.Head) { h.Ns++ }),
		"another Ns, one less":        of(func(h *api.Head) { h.Ns = int(byte(h.Ns - 1)) }),
		"another Ns, by its high bit": of(func(h *api.Head) { h.Ns ^= 128 }),
		"another Count, 1":            of(func(h *api.Head) { h.Count = 1 }),
		"another Count, 255":          of(func(h *api.Head) { h.Count = 255 }),
		"another Lba, one more":       of(func(h *api.Head) { h.Lba++ }),
		"another Lba, one less":       of(func(h *api.Head) { h.Lba-- }),
		"another Lba, by its bit 8":   of(func(h *api.Head) { h.Lba ^= 1 << 8 }),
		"another Lba, by its bit 31":  of(func(h *api.Head) { h.Lba ^= 1 << 31 }),
		"another Counter, 1":          of(func(h *api.Head) { h.Counter = 1 }),
		"another Counter, by bit 32":  of(func(h *api.Head) { h.Counter = 1 << 32 }),
		"another Counter, the most":   of(func(h *api.Head) { h.Counter = math.MaxUint64 }),
	}
}

// otherGens are generations that differ from one a little.
func otherGens(gen uint64) []uint64 {
	return []uint64{gen + 1, gen - 1, gen ^ 1<<8, gen ^ 1<<32, gen ^ 1<<63, ^gen}
}

func randomBytes(source *rand.Rand, n int) []byte {
	b := make([]byte, n)
	source.Read(b)
	return b
}

// randomRight is a geometry that is right; small sectors come more often.
func randomRight(source *rand.Rand) api.Geometry {
	for {
		g := api.Geometry{
			Blocks: 7 + source.Intn(58),
			Pages:  4 + source.Intn(29),
			Sector: 16 * (2 + source.Intn(1+source.Intn(1+source.Intn(255)))),
			Spare:  source.Intn(9),
			Wear:   1 + source.Intn(1000),
			Rounds: 1 + source.Intn(1000),
		}
		if plainRight(g) {
			return g
		}
	}
}

// numbersOf are the geometry's, to be put elsewhere.
func numbersOf(g *api.Geometry) []*int {
	return []*int{&g.Blocks, &g.Pages, &g.Sector, &g.Spare, &g.Wear, &g.Rounds}
}

// randomGeometry is right mostly; at times one of its numbers is at an edge of its own or anywhere.
func randomGeometry(source *rand.Rand) api.Geometry {
	g := randomRight(source)
	edges := []int{math.MinInt, -16, -1, 0, 1, 3, 4, 6, 7, 8, 9, 16, 31, 32, 33, 64, 65, 1000, 1001, 4096, 4097, 4112, math.MaxInt}
	for _, n := range numbersOf(&g) {
		switch source.Intn(40) {
		case 0:
			*n = edges[source.Intn(len(edges))]
		case 1:
			*n = int(source.Uint64())
		case 2:
			*n += source.Intn(3) - 1
		}
	}
	return g
}

// randomGen is small at times, so that like ones come.
func randomGen(source *rand.Rand) uint64 {
	return source.Uint64() >> (4 * source.Intn(17))
}

// randomRecord is of the right length mostly; at times of none, or of another one.
func randomRecord(source *rand.Rand) []byte {
	switch source.Intn(12) {
	case 0:
		return nil
	case 1:
		return randomBytes(source, source.Intn(1400))
	case 2:
		return randomBytes(source, recordBytes-1+2*source.Intn(2))
	}
	return randomBytes(source, recordBytes)
}

// randomPages are those of a record, its last page committed mostly; at times some of them were put elsewhere.
func randomPages(source *rand.Rand, sector int, gen uint64) [][]byte {
	pages := layPages(sector, randomBytes(source, recordBytes), gen)
	count := len(pages)
	if source.Intn(8) > 0 {
		commit(pages[count-1])
	}
	for range source.Intn(6) {
		pages = append(pages, randomPage(source, sector, gen))
	}
	if source.Intn(3) > 0 {
		return pages
	}
	for range 1 + source.Intn(2) {
		spoilPage(source, pages, source.Intn(len(pages)), sector, gen)
	}
	if source.Intn(10) == 0 {
		pages = pages[:source.Intn(len(pages)+1)]
	}
	return pages
}

// randomPage is blank, or nothing, or what may stand in a block beside a record.
func randomPage(source *rand.Rand, sector int, gen uint64) []byte {
	switch source.Intn(4) {
	case 0:
		return all(255, sector+endBytes)
	case 1:
		return nil
	case 2:
		return randomBytes(source, sector+endBytes)
	}
	pages := layPages(sector, randomBytes(source, recordBytes), gen)
	return pages[source.Intn(len(pages))]
}

// spoilPage changes a page: its head in one number, a bit, its length, its place or its mark.
func spoilPage(source *rand.Rand, pages [][]byte, i, sector int, gen uint64) {
	b := pages[i]
	h := keyHead(i, plainCount(sector), gen)
	switch source.Intn(12) {
	case 0:
		h.Kind = source.Intn(7)
	case 1:
		h.Ns = source.Intn(256)
	case 2:
		h.Count = source.Intn(3)
	case 3:
		h.Lba = uint32(randomGen(source))
	case 4:
		h.Epoch = randomGen(source)
	case 5:
		h.Counter = uint64(source.Intn(2)) << source.Intn(64)
	case 6:
		pages[i] = randomPage(source, sector, gen)
		return
	case 7:
		pages[i] = b[:len(b)-min(len(b), 1)]
		return
	case 8:
		pages[i] = append(bytes.Clone(b), 0)
		return
	case 9:
		j := source.Intn(len(pages))
		pages[i], pages[j] = pages[j], pages[i]
		return
	case 10:
		if len(b) >= markBytes {
			commit(b)
		}
		return
	case 11:
		if len(b) > 0 {
			b[source.Intn(len(b))] ^= 1 << source.Intn(8)
		}
		return
	}
	if len(b) >= endBytes {
		putHead(b, h)
	}
}
