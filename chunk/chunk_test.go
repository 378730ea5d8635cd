package chunk

import (
	"bytes"
	"encoding/hex"
	"fmt"
	"math"
	"math/rand"
	"slices"
	"strings"
	"testing"

	"nepenthe/api"
	"nepenthe/fault"
	"nepenthe/geometry"
	"nepenthe/nand"
	"nepenthe/page"
)

// P19.1: Pages

func TestTheExample(t *testing.T) {
	rec := theRecord()
	pages, err := Pages(theGeometry, rec, theGen)
	if err != api.OK || len(pages) != 10 {
		t.Fatalf("Pages = %x, %v", pages, err)
	}
	for i, b := range pages[:9] {
		if !bytes.Equal(b[:64], rec[64*i:64*i+64]) {
			t.Errorf("page %d has %x", i, b[:64])
		}
	}
	rest := strings.Repeat("ff", 32) + "ffffffffffffffff"
	first := hex.EncodeToString(rec[:64]) +
		"04000000" + "0000000a" + "0102030405060708" + "0000000000000000" +
		"fbffffff" + "fffffff5" + "fefdfcfbfaf9f8f7" + "ffffffffffffffff" + rest
	last := hex.EncodeToString(rec[576:]) + strings.Repeat("ff", 16) +
		"04090000" + "0000000a" + "0102030405060708" + "0000000000000000" +
		"fbf6ffff" + "fffffff5" + "fefdfcfbfaf9f8f7" + "ffffffffffffffff" + rest
	if got := hex.EncodeToString(pages[0]); got != first {
		t.Errorf("the first page: %s, want %s", got, first)
	}
	if got := hex.EncodeToString(pages[9]); got != last {
		t.Errorf("the last page: %s, want %s", got, last)
	}
	checkNone(t, "not committed", theGeometry, pages)
	clear(pages[9][144:])
	checkHeld(t, "committed", theGeometry, pages, theGen, rec)
}

func TestRightGeometries(t *testing.T) {
	for _, g := range rightGeometries() {
		if !plainRight(g) {
			t.Fatalf("%+v is not right", g)
		}
		for _, rec := range fewRecords() {
			for _, gen := range fewGens() {
				checkPages(t, g, rec, gen)
				checkHeld(t, "held", g, held(t, g, rec, gen), gen, rec)
				checkHeld(t, "a block", g, block(t, g, rec, gen), gen, rec)
			}
		}
	}
}

// The layer below reads the pages as they have to be, and says how many there are.
func TestPagesAreTheLayerBelows(t *testing.T) {
	for _, g := range rightGeometries() {
		for _, gen := range fewGens() {
			pages := made(t, g, theRecord(), gen)
			if len(pages) != geometry.Chunks(g) {
				t.Errorf("%+v: %d pages", g, len(pages))
			}
			for i, b := range pages {
				p, err := page.Read(g, b)
				if err != api.OK || p.Head != keyHead(i, len(pages), gen) || p.Done || !bytes.Equal(p.Tag, all(255, tagBytes)) {
					t.Errorf("%+v: page %d tells %+v, %v", g, i, p, err)
				}
			}
		}
	}
}

// All sectors that there are: what stands on the pages is the record, filled with 0xff to a whole sector, no further.
func TestEachSector(t *testing.T) {
	for sector := 32; sector <= 4096; sector += 16 {
		g := api.Geometry{Blocks: 7, Pages: 32, Sector: sector, Spare: 0, Wear: 1, Rounds: 1}
		pages := made(t, g, theRecord(), theGen)
		row := []byte{}
		for _, b := range pages {
			if len(b) != sector+endBytes {
				t.Fatalf("sector %d: a page of %d bytes", sector, len(b))
			}
			row = append(row, b[:sector]...)
		}
		filled := len(row) - recordBytes
		if filled < 0 || filled >= sector || !bytes.Equal(row, append(theRecord(), all(255, filled)...)) {
			t.Errorf("sector %d: on its pages stands %x", sector, row)
		}
		if isFull := sector == 48 || sector == 208 || sector == 624; isFull != (filled == 0) {
			t.Errorf("sector %d: filled by %d", sector, filled)
		}
		checkPages(t, g, theRecord(), theGen)
		commit(pages[len(pages)-1])
		checkHeld(t, "each sector", g, pages, theGen, theRecord())
	}
}

// Each with a record, and with pages that would hold one, were it right.
func TestWrongGeometries(t *testing.T) {
	for name, g := range wrongGeometries() {
		if plainRight(g) {
			t.Fatalf("%s: %+v is right", name, g)
		}
		for _, n := range []int{0, 1, recordBytes - 1, recordBytes, recordBytes + 1} {
			checkShape(t, name, g, counted(1, n), theGen)
			checkShape(t, name, g, counted(1, n), 0)
		}
		lists := [][][]byte{nil, {}, {nil}, {{}}, {all(0, markBytes)}, {all(0, endBytes)}, held(t, theGeometry, theRecord(), theGen)}
		if g.Sector > 0 && g.Sector < 5000 {
			pages := layPages(g.Sector, theRecord(), theGen)
			commit(pages[len(pages)-1])
			lists = append(lists, pages)
		}
		for _, pages := range lists {
			checkNone(t, name, g, pages)
			checkIs(t, name, g, [][][]byte{pages, pages}, -1, 0, nil)
		}
		checkIs(t, name, g, nil, -1, 0, nil)
	}
}

// All geometries that are beside a right one in one number, or in two.
func TestGeometriesBesideRightOnes(t *testing.T) {
	for _, right := range rightGeometries() {
		pages := held(t, right, theRecord(), theGen)
		for i := range 6 {
			for j := range 6 {
				for _, by := range []int{-16, -1, 1, 16} {
					g := right
					*numbersOf(&g)[i] += by
					*numbersOf(&g)[j] -= by / 2
					checkPages(t, g, theRecord(), theGen)
					checkHold(t, "beside a right one", g, pages)
				}
			}
		}
	}
}

// Pages are asked for by the sector alone, as long as the geometry is right; pages of another sector hold nothing.
func TestPagesOfAnotherGeometry(t *testing.T) {
	for _, of := range rightGeometries() {
		pages := held(t, of, theRecord(), theGen)
		for _, g := range rightGeometries() {
			if g.Sector == of.Sector {
				checkHeld(t, "of the same sector", g, pages, theGen, theRecord())
				continue
			}
			checkNone(t, "of another sector", g, pages)
		}
	}
}

func TestRecordsOfOtherLengths(t *testing.T) {
	for _, g := range rightGeometries() {
		checkShape(t, "nil", g, nil, theGen)
		checkShape(t, "empty", g, []byte{}, theGen)
		checkShape(t, "empty, with room", g, make([]byte, 0, recordBytes), theGen)
		checkShape(t, "one too short, with room", g, make([]byte, recordBytes-1, recordBytes), theGen)
		for _, n := range []int{1, 16, g.Sector, 592, recordBytes - 16, recordBytes - 1, recordBytes + 1, recordBytes + 16, 2 * recordBytes, 32 * g.Sector, 70000} {
			if n == recordBytes {
				continue
			}
			for _, rec := range [][]byte{all(0, n), all(255, n), counted(7, n)} {
				checkShape(t, fmt.Sprintf("a record of %d bytes", n), g, rec, theGen)
			}
		}
		if pages := made(t, g, theRecord(), theGen); len(pages)*g.Sector < recordBytes {
			t.Errorf("%+v: %d pages", g, len(pages))
		}
	}
	for n := range 1300 {
		checkPages(t, theGeometry, counted(7, n), theGen)
	}
}

func TestGenerationsAtTheirEdges(t *testing.T) {
	for gen, want := range map[uint64]string{
		0:                  "0000000000000000",
		1:                  "0000000000000001",
		math.MaxUint32:     "00000000ffffffff",
		1 << 63:            "8000000000000000",
		math.MaxUint64 - 1: "fffffffffffffffe",
		math.MaxUint64:     "ffffffffffffffff",
	} {
		for i, b := range made(t, theGeometry, theRecord(), gen) {
			if got := hex.EncodeToString(b[72:80]); got != want {
				t.Errorf("generation %d: page %d tells %s, want %s", gen, i, got, want)
			}
		}
		checkHeld(t, "at an edge", theGeometry, held(t, theGeometry, theRecord(), gen), gen, theRecord())
	}
}

// The generation is the pages' alone, whatever the record's own bytes say of one.
func TestTheGenerationIsNotTheRecords(t *testing.T) {
	rec := slices.Concat([]byte{0, 0, 0, 0, 0, 0, 0, 9}, all(5, recordBytes-8))
	for _, gen := range fewGens() {
		checkHeld(t, "another generation", theGeometry, held(t, theGeometry, rec, gen), gen, rec)
	}
}

func TestRandomRecords(t *testing.T) {
	source := rand.New(rand.NewSource(1911))
	for range 2000 {
		checkPages(t, randomGeometry(source), randomRecord(source), randomGen(source))
	}
}

// P19.1: Hold

func TestFewerAndMorePages(t *testing.T) {
	for _, g := range rightGeometries() {
		pages := held(t, g, theRecord(), theGen)
		checkNone(t, "nil", g, nil)
		checkNone(t, "none", g, [][]byte{})
		for n := range pages {
			checkNone(t, fmt.Sprintf("the first %d", n), g, pages[:n])
			checkNone(t, fmt.Sprintf("the first %d, without room behind", n), g, slices.Clip(copied(pages[:n])))
			checkNone(t, fmt.Sprintf("all behind the first %d", n+1), g, pages[n+1:])
			fewer := copied(pages[:n])
			for _, b := range fewer {
				commit(b)
			}
			checkNone(t, fmt.Sprintf("the first %d, all committed", n), g, fewer)
		}
		checkHeld(t, "as many", g, pages, theGen, theRecord())
		checkHeld(t, "as many, without room behind", g, slices.Clip(copied(pages)), theGen, theRecord())
	}
}

// What stands behind the record's pages is all one, whatever it is and however many they are.
func TestPagesBehind(t *testing.T) {
	for _, g := range rightGeometries() {
		pages := held(t, g, theRecord(), theGen)
		size := g.Sector + endBytes
		other := held(t, g, all(9, recordBytes), theGen+1)
		behind := [][][]byte{{nil}, {{}}, {all(255, size)}, {all(0, size)}, {all(3, size-1)}, {all(3, size+1)}, {all(1, 7)}, pages, other, {pages[0]}, {other[len(other)-1]}}
		row := copied(pages)
		for _, more := range behind {
			checkHeld(t, "with more", g, slices.Concat(pages, more), theGen, theRecord())
			row = append(row, more...)
			checkHeld(t, "with many more", g, row, theGen, theRecord())
		}
		checkHeld(t, "another record's behind", g, slices.Concat(pages, other), theGen, theRecord())
		checkHeld(t, "another record's ahead", g, slices.Concat(other, pages), theGen+1, all(9, recordBytes))
		for _, b := range [][]byte{nil, {}, all(255, size), all(0, size)} {
			checkNone(t, "one page ahead", g, slices.Concat([][]byte{b}, pages))
		}
	}
}

func TestAPageOfAnotherLength(t *testing.T) {
	for _, g := range rightGeometries() {
		pages := held(t, g, theRecord(), theGen)
		for i, b := range pages {
			others := map[string][]byte{
				"nil":                   nil,
				"empty":                 {},
				"empty, with room":      b[:0],
				"one byte":              b[:1],
				"the payload":           b[:g.Sector],
				"the end":               b[g.Sector:],
				"one too short":         b[:len(b)-1],
				"one too short, ahead":  b[1:],
				"without its mark":      b[:len(b)-markBytes],
				"one too long":          append(bytes.Clone(b), 0),
				"one too long, 0xff":    append(bytes.Clone(b), 255),
				"one too long, ahead":   append([]byte{0}, b...),
				"two of them":           slices.Concat(b, b),
				"an end more":           slices.Concat(b, b[g.Sector:]),
				"a payload more, ahead": slices.Concat(b[:g.Sector], b),
			}
			for name, other := range others {
				checkNone(t, fmt.Sprintf("page %d: %s", i, name), g, but(pages, i, other))
			}
		}
	}
	for n := range 400 {
		checkHold(t, fmt.Sprintf("a page of %d bytes", n), theGeometry, but(held(t, theGeometry, theRecord(), theGen), 4, all(0, n)))
	}
}

func TestPagesInAnotherOrder(t *testing.T) {
	for _, g := range rightGeometries() {
		pages := held(t, g, theRecord(), theGen)
		for i := range pages {
			for j := range pages {
				if i == j {
					continue
				}
				swapped := copied(pages)
				swapped[i], swapped[j] = swapped[j], swapped[i]
				checkNone(t, fmt.Sprintf("%d and %d swapped", i, j), g, swapped)
				checkNone(t, fmt.Sprintf("%d in place of %d", j, i), g, but(pages, i, bytes.Clone(pages[j])))
				for _, b := range swapped {
					commit(b)
				}
				checkNone(t, fmt.Sprintf("%d and %d swapped, all committed", i, j), g, swapped)
			}
			if i > 0 {
				checkNone(t, fmt.Sprintf("%d first", i), g, slices.Concat(pages[i:], pages[:i]))
			}
			checkNone(t, fmt.Sprintf("without %d", i), g, slices.Concat(pages[:i], pages[i+1:]))
			if i < len(pages)-1 {
				checkNone(t, fmt.Sprintf("%d behind all others", i), g, slices.Concat(pages[:i], pages[i+1:], pages[i:i+1]))
				checkNone(t, fmt.Sprintf("%d twice", i), g, slices.Concat(pages[:i], pages[i:i+1], pages[i:]))
			}
		}
		checkHeld(t, "the last one twice", g, slices.Concat(pages, pages[len(pages)-1:]), theGen, theRecord())
		if len(pages) > 1 {
			backward := copied(pages)
			slices.Reverse(backward)
			checkNone(t, "backward", g, backward)
		}
	}
}

// In each page, one number of its head is another one, its complement fitting; and in all pages at once.
func TestAHeadThatIsAnother(t *testing.T) {
	for _, g := range rightGeometries() {
		pages := held(t, g, theRecord(), theGen)
		alike := map[string][][]byte{}
		for i := range pages {
			for name, h := range otherHeads(keyHead(i, len(pages), theGen)) {
				other := copied(pages)
				putHead(other[i], h)
				checkNone(t, fmt.Sprintf("page %d: %s", i, name), g, other)
				if alike[name] == nil {
					alike[name] = copied(pages)
				}
				putHead(alike[name][i], h)
			}
		}
		for name, other := range alike {
			checkNone(t, "all pages: "+name, g, other)
		}
	}
}

func TestAPageOfAnotherGeneration(t *testing.T) {
	for _, g := range rightGeometries() {
		for _, gen := range fewGens() {
			pages := held(t, g, theRecord(), gen)
			count := len(pages)
			for _, otherGen := range otherGens(gen) {
				before := copied(pages)
				for i := range pages {
					name := fmt.Sprintf("page %d of generation %d, not %d", i, otherGen, gen)
					other := copied(pages)
					putHead(other[i], keyHead(i, count, otherGen))
					// A single page is of one generation whatever it is.
					if count == 1 {
						checkHeld(t, name, g, other, otherGen, theRecord())
						continue
					}
					checkNone(t, name, g, other)
					putHead(before[i], keyHead(i, count, otherGen))
					if i < count-1 {
						checkNone(t, fmt.Sprintf("the first %d of generation %d, not %d", i+1, otherGen, gen), g, before)
					}
				}
				if count > 1 {
					checkHeld(t, "all of another generation", g, before, otherGen, theRecord())
				}
			}
		}
	}
}

func TestWhichPagesAreCommitted(t *testing.T) {
	for _, g := range rightGeometries() {
		bare := made(t, g, theRecord(), theGen)
		count := len(bare)
		checkNone(t, "none committed", g, bare)
		all := copied(bare)
		most := copied(bare)
		for i := range bare {
			one := copied(bare)
			commit(one[i])
			if i < count-1 {
				checkNone(t, fmt.Sprintf("page %d committed", i), g, one)
				commit(most[i])
				checkNone(t, fmt.Sprintf("the first %d committed", i+1), g, most)
			}
			commit(one[count-1])
			checkHeld(t, fmt.Sprintf("page %d and the last one committed", i), g, one, theGen, theRecord())
			commit(all[i])
		}
		checkHeld(t, "all committed", g, all, theGen, theRecord())
	}
}

// A mark is a nought at each byte, or none: no bit of it may be set; whatever the marks of other pages are.
func TestMarksThatAreNotWhole(t *testing.T) {
	for _, g := range rightGeometries() {
		pages := held(t, g, theRecord(), theGen)
		last := len(pages) - 1
		for bit := range 8 * markBytes {
			at := g.Sector + endBytes - markBytes + bit/8
			checkNone(t, fmt.Sprintf("bit %d of the last mark set", bit), g, changed(pages, last, at, 1<<(bit%8)))
			cleared := copied(made(t, g, theRecord(), theGen))
			cleared[last][at] ^= 1 << (bit % 8)
			checkNone(t, fmt.Sprintf("bit %d of the last mark cleared", bit), g, cleared)
			for i := range last {
				checkHeld(t, fmt.Sprintf("bit %d of mark %d cleared", bit, i), g, changed(pages, i, at, 1<<(bit%8)), theGen, theRecord())
			}
		}
	}
}

// Each byte of each page, each bit of it: a head, or its complement, tells nothing any more; a payload's byte is the record's; all else is all one.
func TestEachBit(t *testing.T) {
	for _, g := range []api.Geometry{theGeometry, rightGeometries()[7]} {
		pages := held(t, g, theRecord(), theGen)
		for i, b := range pages {
			for bit := range 8 * len(b) {
				checkChanged(t, g, pages, i, bit/8, 1<<(bit%8))
			}
		}
	}
}

// Each byte, where there is less room for bits, as all other bytes that it may be in a few places.
func TestEachByte(t *testing.T) {
	for _, g := range rightGeometries() {
		pages := held(t, g, theRecord(), theGen)
		for _, i := range []int{0, len(pages) / 2, len(pages) - 1} {
			for at := 0; at < len(pages[i]); at += 1 + g.Sector/100 {
				checkChanged(t, g, pages, i, at, 0xff)
			}
			for at := g.Sector; at < len(pages[i]); at++ {
				checkChanged(t, g, pages, i, at, byte(1+at%255))
			}
		}
	}
	pages := held(t, theGeometry, theRecord(), theGen)
	for _, at := range []int{0, 47, 48, 63, 64, 65, 66, 67, 71, 79, 87, 88, 111, 112, 143, 144, 151} {
		for x := 1; x < 256; x++ {
			checkChanged(t, theGeometry, pages, 0, at, byte(x))
			checkChanged(t, theGeometry, pages, 9, at, byte(x))
		}
	}
}

// checkChanged asks what becomes of pages that hold theRecord, of which one byte is another.
func checkChanged(t *testing.T, g api.Geometry, pages [][]byte, i, at int, x byte) {
	t.Helper()
	name := fmt.Sprintf("page %d, byte %d, by %02x", i, at, x)
	other := changed(pages, i, at, x)
	rec := theRecord()
	switch in := at - g.Sector; {
	case in < 0:
		if place := i*g.Sector + at; place < recordBytes {
			rec[place] ^= x
		}
	case in < bothBytes:
		checkNone(t, name, g, other)
		return
	case in >= bothBytes+tagBytes && i == len(pages)-1:
		checkNone(t, name, g, other)
		return
	}
	checkHeld(t, name, g, other, theGen, rec)
}

// A nought that is none, and a head whose complement does not fit, in both parts at once.
func TestHeadsThatAreNone(t *testing.T) {
	for _, g := range rightGeometries() {
		pages := held(t, g, theRecord(), theGen)
		for i := range pages {
			for in := range headBytes {
				other := changed(pages, i, g.Sector+in, 1)
				other[i][g.Sector+headBytes+in] ^= 2
				checkNone(t, "unlike bits of both", g, other)
			}
			nought := changed(pages, i, g.Sector+3, 1)
			nought[i][g.Sector+headBytes+3] ^= 1
			checkNone(t, "a nought that is none", g, nought)
			blank := copied(pages)
			copy(blank[i][g.Sector:], all(255, bothBytes))
			checkNone(t, "no head", g, blank)
			copy(blank[i][g.Sector:], all(0, bothBytes))
			checkNone(t, "noughts for a head", g, blank)
		}
	}
}

// What stands behind the record's bytes, and tags, are not looked at.
func TestWhatIsBehindTheRecordsBytes(t *testing.T) {
	for _, g := range rightGeometries() {
		for _, x := range []byte{0, 1, 0x5a, 254} {
			pages := held(t, g, theRecord(), theGen)
			last := pages[len(pages)-1]
			from := recordBytes - (len(pages)-1)*g.Sector
			copy(last[from:g.Sector], all(x, g.Sector-from))
			checkHeld(t, "filled otherwise", g, pages, theGen, theRecord())
			for _, b := range pages {
				copy(b[g.Sector+bothBytes:], all(x, tagBytes))
				checkHeld(t, "with tags", g, pages, theGen, theRecord())
			}
		}
	}
}

// Payloads of several records under one generation: nothing tells whose they are.
func TestPayloadsOfSeveralRecords(t *testing.T) {
	one, other := held(t, theGeometry, all(1, recordBytes), theGen), held(t, theGeometry, all(2, recordBytes), theGen)
	for i := range one {
		want := slices.Concat(all(1, recordBytes)[:min(64*i, recordBytes)], all(2, recordBytes)[min(64*i, recordBytes):])
		checkHeld(t, "of two records", theGeometry, slices.Concat(one[:i], other[i:]), theGen, want)
	}
}

func TestPagesWrongForSeveralReasons(t *testing.T) {
	for _, g := range rightGeometries() {
		pages := held(t, g, theRecord(), theGen)
		last := len(pages) - 1
		bare := made(t, g, theRecord(), theGen)
		putHead(bare[0], keyHead(0, len(pages), theGen+1))
		bare[0][g.Sector+1] ^= 1
		checkNone(t, "not committed, and a head that is none", g, bare)
		checkNone(t, "too few, and not committed", g, bare[:last])
		short := but(pages, last, pages[last][:len(pages[last])-1])
		short[0] = nil
		checkNone(t, "two of other lengths", g, short)
		for name, wrong := range wrongGeometries() {
			checkNone(t, name+", and pages of another one", wrong, bare)
			checkNone(t, name+", and two of other lengths", wrong, short)
			checkShape(t, name+", and a record of another length", wrong, all(1, g.Sector), 0)
		}
		size := g.Sector + endBytes
		for _, x := range []byte{0, 255, 0x5a} {
			list := [][]byte{}
			for range g.Pages {
				list = append(list, all(x, size))
			}
			checkNone(t, fmt.Sprintf("bytes %02x", x), g, list)
		}
		checkNone(t, "none but nil", g, make([][]byte, g.Pages))
	}
}

func TestRandomPages(t *testing.T) {
	source := rand.New(rand.NewSource(1912))
	there, none := 0, 0
	for range 6000 {
		g := randomGeometry(source)
		sector := g.Sector
		if sector < 32 || sector > 5000 {
			sector = 64
		}
		if checkHold(t, "random", g, randomPages(source, sector, randomGen(source))) {
			there++
		} else {
			none++
		}
	}
	if there < 1000 || none < 1000 {
		t.Errorf("%d hold a record, %d do not", there, none)
	}
}

// P19.2

func TestCurrentOfNone(t *testing.T) {
	for _, g := range rightGeometries() {
		bare := made(t, g, theRecord(), math.MaxUint64)
		blank := block(t, g, theRecord(), theGen)
		for _, b := range blank {
			copy(b, all(255, len(b)))
		}
		checkIs(t, "nil", g, nil, -1, 0, nil)
		checkIs(t, "none", g, [][][]byte{}, -1, 0, nil)
		checkIs(t, "one that is nil", g, [][][]byte{nil}, -1, 0, nil)
		checkIs(t, "one without pages", g, [][][]byte{{}}, -1, 0, nil)
		checkIs(t, "one page that is nil", g, [][][]byte{{nil}}, -1, 0, nil)
		checkIs(t, "a blank one", g, [][][]byte{blank}, -1, 0, nil)
		checkIs(t, "one that is not committed", g, [][][]byte{bare}, -1, 0, nil)
		checkIs(t, "many", g, [][][]byte{nil, {}, {nil}, blank, bare, bare[:1], blank, nil}, -1, 0, nil)
	}
}

func TestCurrentOfOne(t *testing.T) {
	for _, g := range rightGeometries() {
		bare := made(t, g, all(9, recordBytes), math.MaxUint64)
		for _, gen := range fewGens() {
			one := block(t, g, theRecord(), gen)
			checkIs(t, "alone", g, [][][]byte{one}, 0, gen, theRecord())
			for at := range 5 {
				blocks := [][][]byte{nil, bare, {}, bare, {nil}}
				blocks[at] = one
				checkIs(t, fmt.Sprintf("at %d", at), g, blocks, at, gen, theRecord())
			}
		}
	}
}

// The greatest at each place, the others ahead of it and behind it rising, falling and mixed.
func TestTheGreatestIsCurrent(t *testing.T) {
	gens := []uint64{0, 1, 2, 7, 1 << 40}
	blocks := map[uint64][][]byte{}
	for _, gen := range gens {
		blocks[gen] = block(t, theGeometry, counted(byte(gen), recordBytes), gen)
	}
	for _, order := range orders(gens) {
		row := [][][]byte{}
		for _, gen := range order {
			row = append(row, blocks[gen])
		}
		for n := 1; n <= len(row); n++ {
			greatest := slices.Max(order[:n])
			checkIs(t, fmt.Sprint(order[:n]), theGeometry, row[:n], slices.Index(order, greatest), greatest, counted(byte(greatest), recordBytes))
		}
	}
}

// orders are all orders of some numbers.
func orders(list []uint64) [][]uint64 {
	if len(list) == 0 {
		return [][]uint64{{}}
	}
	out := [][]uint64{}
	for i, first := range list {
		for _, rest := range orders(slices.Concat(list[:i], list[i+1:])) {
			out = append(out, append([]uint64{first}, rest...))
		}
	}
	return out
}

// Generations in their whole range, of which a few bits alone, or numbers with a sign, would tell another one.
func TestTheGreaterOfTwo(t *testing.T) {
	for _, a := range fewGens() {
		for _, b := range fewGens() {
			blocks := [][][]byte{held(t, theGeometry, all(1, recordBytes), a), held(t, theGeometry, all(2, recordBytes), b)}
			if b > a {
				checkIs(t, fmt.Sprint(a, b), theGeometry, blocks, 1, b, all(2, recordBytes))
				continue
			}
			checkIs(t, fmt.Sprint(a, b), theGeometry, blocks, 0, a, all(1, recordBytes))
		}
	}
}

// Of several of the greatest generation the first one is current, whatever their records are.
func TestSeveralOfOneGeneration(t *testing.T) {
	for _, g := range rightGeometries() {
		for _, gen := range fewGens() {
			row := [][][]byte{}
			for i := range 5 {
				row = append(row, block(t, g, all(byte(5-i), recordBytes), gen))
			}
			for at := range row {
				checkIs(t, "of one generation", g, row[at:], 0, gen, all(byte(5-at), recordBytes))
				blocks := slices.Concat(make([][][]byte, at), row[at:])
				checkIs(t, "of one generation, behind none", g, blocks, at, gen, all(byte(5-at), recordBytes))
			}
			if gen == 0 {
				continue
			}
			less := block(t, g, all(8, recordBytes), gen-1)
			checkIs(t, "a lesser one ahead", g, [][][]byte{less, row[1], row[0], less, row[2]}, 1, gen, all(4, recordBytes))
			checkIs(t, "a lesser one behind", g, [][][]byte{row[3], less, row[0], row[2], less}, 0, gen, all(2, recordBytes))
		}
	}
}

// One list of pages, as several blocks.
func TestOneBlockSeveralTimes(t *testing.T) {
	one := block(t, theGeometry, theRecord(), theGen)
	checkIs(t, "several times", theGeometry, [][][]byte{nil, one, one, one}, 1, theGen, theRecord())
}

// More blocks than an array has, or the key store.
func TestManyBlocks(t *testing.T) {
	blocks := [][][]byte{}
	for i := range 300 {
		blocks = append(blocks, held(t, theGeometry, counted(byte(i), recordBytes), uint64(i*7%300)))
	}
	checkIs(t, "many", theGeometry, blocks, 257, 299, counted(1, recordBytes))
	for n := range blocks {
		checkCurrent(t, "many", theGeometry, blocks[:n])
	}
}

// A block of a greater generation that holds no record, or not wholly, does not count.
func TestOnesThatHoldNone(t *testing.T) {
	for _, g := range rightGeometries() {
		one := block(t, g, theRecord(), 5)
		last := plainCount(g.Sector) - 1
		greater := block(t, g, all(9, recordBytes), 6)
		broken := map[string][][]byte{
			"not committed":      but(greater, last, made(t, g, all(9, recordBytes), 6)[last]),
			"a bit of the mark":  changed(greater, last, g.Sector+endBytes-1, 1),
			"a bit of a head":    changed(greater, 0, g.Sector+15, 8),
			"a bit of an end":    changed(greater, last, g.Sector+headBytes, 8),
			"too few":            greater[:last],
			"another length":     but(greater, 0, greater[0][1:]),
			"nil in its midst":   but(greater, last/2, nil),
			"of another sector":  held(t, api.Geometry{Blocks: 7, Pages: 32, Sector: g.Sector%4096 + 32, Wear: 1, Rounds: 1}, theRecord(), 6),
			"one page too early": slices.Concat([][]byte{all(255, g.Sector+endBytes)}, greater),
		}
		for name, other := range broken {
			checkNone(t, name, g, other)
			checkIs(t, name+", ahead", g, [][][]byte{other, one}, 1, 5, theRecord())
			checkIs(t, name+", behind", g, [][][]byte{one, other}, 0, 5, theRecord())
			checkIs(t, name+", both", g, [][][]byte{other, one, other}, 1, 5, theRecord())
		}
		checkIs(t, "whole", g, [][][]byte{one, greater}, 1, 6, all(9, recordBytes))
	}
}

func TestRandomBlocks(t *testing.T) {
	source := rand.New(rand.NewSource(1921))
	there, none := [4]int{}, 0
	for range 1500 {
		g := randomGeometry(source)
		if g.Sector < 32 || g.Sector > 5000 {
			g.Sector = 64
		}
		gen := randomGen(source)
		blocks := [][][]byte{}
		for range source.Intn(5) {
			blocks = append(blocks, randomPages(source, g.Sector, gen+uint64(source.Intn(3))))
		}
		if at := checkCurrent(t, "random", g, blocks); at < 0 {
			none++
		} else {
			there[at]++
		}
	}
	if slices.Min(there[:]) < 20 || none < 100 {
		t.Errorf("current %v, none %d", there, none)
	}
}

// P19.3

// committed is pages, the last one programmed with what commits it.
func committed(t *testing.T, g api.Geometry, pages [][]byte) [][]byte {
	t.Helper()
	mark, err := page.Commit(g)
	if err != api.OK {
		t.Fatal(err)
	}
	last, err := fault.Clear(pages[len(pages)-1], mark, nil)
	if err != api.OK {
		t.Fatal(err)
	}
	return but(pages, len(pages)-1, last)
}

func TestCommittedPagesHoldTheRecord(t *testing.T) {
	source := rand.New(rand.NewSource(1931))
	geometries := rightGeometries()
	for range 300 {
		geometries = append(geometries, randomRight(source))
	}
	for _, g := range geometries {
		for _, rec := range append(fewRecords(), randomBytes(source, recordBytes)) {
			gen := randomGen(source)
			pages := made(t, g, rec, gen)
			if g, r, ok := Hold(g, pages); ok || g != 0 || len(r) != 0 {
				t.Fatalf("not committed: %d, %x, %v", g, r, ok)
			}
			if h, r, ok := Hold(g, committed(t, g, pages)); !ok || h != gen || !bytes.Equal(r, rec) {
				t.Fatalf("committed: %d, %x, %v, want %d, %x", h, r, ok, gen, rec)
			}
		}
	}
}

// What is held is a record whose pages are just those, but for what is not looked at.
func TestThereAndBack(t *testing.T) {
	source := rand.New(rand.NewSource(1932))
	for range 500 {
		g := randomRight(source)
		was := held(t, g, randomBytes(source, recordBytes), randomGen(source))
		gen, rec, ok := Hold(g, was)
		if again := held(t, g, rec, gen); !ok || !slices.EqualFunc(again, was, bytes.Equal) {
			t.Fatalf("%x, laid out again: %x", was, again)
		}
	}
}

// On an array: nothing is held till the last page is committed, and nothing once the block is destroyed.
func TestRecordsOnAnArray(t *testing.T) {
	for _, g := range rightGeometries() {
		c, err := nand.New(g, nil)
		if err != api.OK {
			t.Fatal(err)
		}
		for n := range api.KeyBlocks {
			rec, gen := counted(byte(n), recordBytes), uint64(n+1)
			for i, b := range made(t, g, rec, gen) {
				checkNone(t, "not all programmed", g, onArray(t, c, n))
				program(t, c, api.Place{Block: n, Page: i}, b)
			}
			checkNone(t, "not committed", g, onArray(t, c, n))
			mark, _ := page.Commit(g)
			program(t, c, api.Place{Block: n, Page: geometry.Chunks(g) - 1}, mark)
			checkHeld(t, "committed", g, onArray(t, c, n), gen, rec)
			checkIs(t, "on an array", g, keyBlocks(t, c), n, gen, rec)
		}
		if err := c.Erase(3); err != api.OK {
			t.Fatal(err)
		}
		checkNone(t, "erased", g, onArray(t, c, 3))
		checkIs(t, "the last one erased", g, keyBlocks(t, c), 2, 3, counted(2, recordBytes))
		if err := c.Scrub(2); err != api.OK {
			t.Fatal(err)
		}
		checkNone(t, "scrubbed", g, onArray(t, c, 2))
		checkIs(t, "the third one scrubbed", g, keyBlocks(t, c), 1, 2, counted(1, recordBytes))
	}
}

func program(t *testing.T, c *nand.Chip, p api.Place, b []byte) {
	t.Helper()
	if err := c.Program(p, b); err != api.OK {
		t.Fatalf("Program(%+v) = %v", p, err)
	}
}

// onArray are all pages of a block.
func onArray(t *testing.T, c *nand.Chip, block int) [][]byte {
	t.Helper()
	pages := [][]byte{}
	for i := 0; ; i++ {
		b, err := c.Read(api.Place{Block: block, Page: i})
		if err != api.OK {
			return pages
		}
		pages = append(pages, b)
	}
}

// keyBlocks are all pages of the key blocks.
func keyBlocks(t *testing.T, c *nand.Chip) [][][]byte {
	t.Helper()
	blocks := [][][]byte{}
	for n := range api.KeyBlocks {
		blocks = append(blocks, onArray(t, c, n))
	}
	return blocks
}

// A commit that is torn holds the record, or none; one that fails never does; an erase that is torn leaves the record, or none, of the heads.
func TestWhatIsTorn(t *testing.T) {
	source := rand.New(rand.NewSource(1933))
	for range 1000 {
		g := randomRight(source)
		rec, gen := randomBytes(source, recordBytes), randomGen(source)
		pages := made(t, g, rec, gen)
		last := len(pages) - 1
		mark, _ := page.Commit(g)
		mask := randomBytes(source, 1+source.Intn(64))
		torn, _ := fault.Clear(pages[last], mark, mask)
		if checkHold(t, "a torn commit", g, but(pages, last, torn)) {
			checkHeld(t, "a torn commit", g, but(pages, last, torn), gen, rec)
		}
		failed, _ := fault.Fail(pages[last], mark, mask)
		checkNone(t, "a failing commit", g, but(pages, last, failed))
		i := source.Intn(len(pages))
		pages = committed(t, g, pages)
		begun, _ := fault.Clear(all(255, len(pages[i])), pages[i], mask)
		checkHold(t, "a torn program", g, but(pages, i, begun))
		checkHold(t, "a torn erase", g, but(pages, i, fault.Set(pages[i], mask)))
		checkHold(t, "another torn erase", g, but(pages, i, fault.Set(pages[i], []byte{1 << source.Intn(8), 0, 0, 0, 0, 0, 0})))
	}
}

// P19.4

// A lesser one, put in at each place, moves the current one's place, no more.
func TestLesserOnesChangeNothing(t *testing.T) {
	for _, g := range rightGeometries() {
		for _, gen := range fewGens() {
			row := [][][]byte{nil, block(t, g, theRecord(), gen), {}, block(t, g, all(6, recordBytes), gen)}
			checkIs(t, "without lesser ones", g, row, 1, gen, theRecord())
			for _, less := range fewGens() {
				if less >= gen {
					continue
				}
				lesser := block(t, g, all(7, recordBytes), less)
				for place := range len(row) + 1 {
					want := 1
					if place <= 1 {
						want = 2
					}
					checkIs(t, fmt.Sprintf("%d beside %d, at %d", less, gen, place), g, slices.Insert(slices.Clone(row), place, lesser), want, gen, theRecord())
				}
			}
		}
	}
}

// In place of lesser ones there may be others that are lesser, or none: the answer is the same.
func TestOthersForLesserOnes(t *testing.T) {
	source := rand.New(rand.NewSource(1941))
	for range 300 {
		g := randomRight(source)
		gen := 1 + randomGen(source)>>1
		at := source.Intn(4)
		blocks := make([][][]byte, 4)
		blocks[at] = held(t, g, theRecord(), gen)
		for range 4 {
			for i := range blocks {
				if i != at {
					blocks[i] = lesser(source, g, gen)
				}
			}
			checkIs(t, "others for lesser ones", g, blocks, at, gen, theRecord())
		}
	}
}

// lesser is a block of a lesser generation, or one that holds nothing.
func lesser(source *rand.Rand, g api.Geometry, gen uint64) [][]byte {
	switch source.Intn(4) {
	case 0:
		return nil
	case 1:
		return layPages(g.Sector, randomBytes(source, recordBytes), gen+1)
	}
	pages := layPages(g.Sector, randomBytes(source, recordBytes), source.Uint64()%gen)
	commit(pages[len(pages)-1])
	return pages
}

// Taken out, one by one, till those of the greatest generation are alone.
func TestLesserOnesTakenOut(t *testing.T) {
	source := rand.New(rand.NewSource(1942))
	for range 200 {
		g := randomRight(source)
		gens, blocks := []uint64{}, [][][]byte{}
		for range 6 {
			gen := randomGen(source)
			gens = append(gens, gen)
			blocks = append(blocks, held(t, g, counted(byte(gen), recordBytes), gen))
		}
		greatest := slices.Max(gens)
		isLess := func(gen uint64) bool { return gen < greatest }
		for i := slices.IndexFunc(gens, isLess); i >= 0; i = slices.IndexFunc(gens, isLess) {
			checkIs(t, "ahead of it", g, blocks, slices.Index(gens, greatest), greatest, counted(byte(greatest), recordBytes))
			gens, blocks = slices.Delete(gens, i, i+1), slices.Delete(blocks, i, i+1)
		}
		checkIs(t, "without lesser ones", g, blocks, 0, greatest, counted(byte(greatest), recordBytes))
	}
}

// What is handed in, and what is handed back.

// within is b in the midst of other bytes, with room behind it, and what tells whether any of all that was changed.
func within(b []byte) ([]byte, func() bool) {
	row := slices.Concat(all(0x5a, 40), b, all(0xa5, 5000))
	was := slices.Clone(row)
	return row[40 : 40+len(b)], func() bool { return bytes.Equal(row, was) }
}

// pagesWithin is a list of pages, each within other bytes, in the midst of other pages, with what tells whether any of all that was changed.
func pagesWithin(pages [][]byte) ([][]byte, func() bool) {
	row := [][]byte{all(1, 9)}
	sames := []func() bool{}
	for _, b := range pages {
		in, same := within(b)
		row = append(row, in)
		sames = append(sames, same)
	}
	row = append(row, all(2, 9), all(3, 9), nil)
	was := slices.Clone(row)
	return row[1 : 1+len(pages)], func() bool {
		for _, same := range sames {
			if !same() {
				return false
			}
		}
		// The lists are where they were, not only alike.
		return slices.EqualFunc(row, was, func(a, b []byte) bool {
			return bytes.Equal(a, b) && (len(a) == 0 || &a[0] == &b[0])
		})
	}
}

func TestNothingHandedInIsChanged(t *testing.T) {
	for _, g := range append(rightGeometries(), wrongGeometries()["no record fits"]) {
		for _, n := range []int{0, 1, recordBytes - 1, recordBytes, recordBytes + 1} {
			rec, same := within(counted(1, n))
			if Pages(g, rec, theGen); !same() {
				t.Errorf("Pages changes a record of %d bytes, or what is beside it", n)
			}
		}
		right := layPages(g.Sector, theRecord(), theGen)
		last := len(right) - 1
		done := copied(right)
		commit(done[last])
		for _, list := range [][][]byte{nil, right, done, done[:last], slices.Concat(done, right), changed(done, last, g.Sector, 1), but(done, 0, nil)} {
			pages, same := pagesWithin(list)
			Hold(g, pages)
			Current(g, [][][]byte{nil, pages, pages})
			if !same() {
				t.Errorf("%+v: %d pages are changed, or what is beside them", g, len(list))
			}
		}
	}
}

func TestTheListOfBlocksIsNotChanged(t *testing.T) {
	a, b := block(t, theGeometry, theRecord(), 4), block(t, theGeometry, theRecord(), 5)
	row := [][][]byte{a, nil, b, a, b}
	Current(theGeometry, row[:3])
	want := [][][]byte{a, nil, b, a, b}
	for i := range row {
		if len(row[i]) != len(want[i]) || len(row[i]) > 0 && &row[i][0] != &want[i][0] {
			t.Errorf("block %d is another one", i)
		}
	}
}

func TestWhatLiesBehindAListIsAllOne(t *testing.T) {
	for _, g := range rightGeometries() {
		rec, _ := within(theRecord())
		checkPages(t, g, rec, theGen)
		pages, _ := pagesWithin(held(t, g, theRecord(), theGen))
		checkHeld(t, "with room behind", g, pages, theGen, theRecord())
		checkNone(t, "with the last one in the room behind", g, pages[:len(pages)-1])
		short := but(pages, 0, pages[0][:len(pages[0])-1])
		checkNone(t, "with a page's last byte in the room behind", g, short)
		other := block(t, g, theRecord(), theGen+1)
		blocks := [][][]byte{pages, other}
		checkIs(t, "with a greater one in the room behind", g, blocks[:1], 0, theGen, theRecord())
	}
}

// spoil changes all of a list's memory, the room behind it too.
func spoil(b []byte) {
	b = b[:cap(b)]
	for i := range b {
		b[i] ^= 0x99
	}
}

func TestWhatIsHandedInIsNotKept(t *testing.T) {
	for _, g := range rightGeometries() {
		rec := theRecord()
		pages := made(t, g, rec, theGen)
		spoil(rec)
		if !slices.EqualFunc(pages, layPages(g.Sector, theRecord(), theGen), bytes.Equal) {
			t.Errorf("%+v: pages change with the record that they were made of", g)
		}
		commit(pages[len(pages)-1])
		_, one, _ := Hold(g, pages)
		_, _, current := Current(g, [][][]byte{nil, pages})
		for _, b := range pages {
			spoil(b)
		}
		clear(pages)
		if !bytes.Equal(one, theRecord()) || !bytes.Equal(current, theRecord()) {
			t.Errorf("%+v: a record changes with the pages that held it", g)
		}
	}
}

func TestAnswersAreNewMemory(t *testing.T) {
	for _, g := range rightGeometries() {
		rec := theRecord()
		right := held(t, g, rec, theGen)
		was := copied(right)
		blocks := [][][]byte{right, right}
		calls := map[string]func() [][]byte{
			"Pages":   func() [][]byte { pages, _ := Pages(g, rec, theGen); return pages },
			"Hold":    func() [][]byte { _, b, _ := Hold(g, right); return [][]byte{b} },
			"Current": func() [][]byte { _, _, b := Current(g, blocks); return [][]byte{b} },
		}
		for name, call := range calls {
			want := copied(call())
			for i := range want {
				first, second := call(), call()
				if len(first[i]) == 0 {
					t.Fatalf("%s answers nothing", name)
				}
				spoil(first[i])
				first[i] = want[i]
				if !slices.EqualFunc(first, want, bytes.Equal) {
					t.Errorf("%+v, %s: one list of an answer changes with another one", g, name)
				}
				if !slices.EqualFunc(second, want, bytes.Equal) || !slices.EqualFunc(call(), want, bytes.Equal) {
					t.Errorf("%+v, %s: an answer changes with another one", g, name)
				}
			}
		}
		if !slices.EqualFunc(right, was, bytes.Equal) || !bytes.Equal(rec, theRecord()) {
			t.Errorf("%+v: what was handed in changes with what was answered", g)
		}
	}
}

// Nothing that a list is appended to is another list's.
func TestAnswersHaveNoRoomThatIsAnothers(t *testing.T) {
	for _, g := range rightGeometries() {
		pages := made(t, g, theRecord(), theGen)
		for i := range pages {
			_ = append(pages[i], all(1, 500)...)
		}
		_ = append(pages, nil, nil, nil)
		if !slices.EqualFunc(pages, layPages(g.Sector, theRecord(), theGen), bytes.Equal) {
			t.Errorf("%+v: a page changes with what another one is appended to", g)
		}
	}
}

// What is handed in may be pieces of pages, and one list as all of them.
func TestPiecesOfPages(t *testing.T) {
	g := rightGeometries()[9]
	one := held(t, g, theRecord(), theGen)
	next := held(t, g, one[0][:recordBytes], theGen+1)
	checkHeld(t, "of a page's payload", g, next, theGen+1, theRecord())
	row := slices.Concat(held(t, theGeometry, theRecord(), theGen)...)
	pages := [][]byte{}
	for at := 0; at < len(row); at += 152 {
		pages = append(pages, row[at:at+152])
	}
	checkHeld(t, "cut from one list", theGeometry, pages, theGen, theRecord())
	for i := range pages {
		pages[i] = pages[9]
	}
	checkNone(t, "one list as all pages", theGeometry, pages)
}

func TestAskedAgain(t *testing.T) {
	source := rand.New(rand.NewSource(1951))
	for range 200 {
		g, rec, gen := randomGeometry(source), randomRecord(source), randomGen(source)
		pages := randomPages(source, 64, gen)
		checkPages(t, g, rec, gen)
		checkHold(t, "asked", theGeometry, pages)
		checkHold(t, "asked of another geometry", g, pages)
		checkPages(t, g, rec, gen)
		checkHold(t, "asked again", theGeometry, pages)
	}
}
