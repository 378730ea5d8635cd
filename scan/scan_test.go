package scan

import (
	"fmt"
	"math"
	"slices"
	"testing"

	"nepenthe/api"
	"nepenthe/nand"
	"nepenthe/octet"
	"nepenthe/page"
	"nepenthe/pagemap"
	"nepenthe/slot"
)

// theHeads are those of a block of namespace 1 with a page of data, a trim, and one more of data.
func theHeads() []api.Head {
	return []api.Head{opening(1, 7, 2, 1), dataOf(1, 3, 2, 5), trimOf(1, 4, 2, 2, 6), dataOf(1, 4, 2, 7)}
}

// edgeNumbers are block numbers that an array has, or has not.
func edgeNumbers() []int {
	return []int{0, 1, 3, 4, 5, 8, 9, 63, 64, -1, -2, math.MinInt, math.MinInt + 1, math.MaxInt, math.MaxInt - 1, math.MaxInt - 3, 1 << 32, -1 << 32}
}

// P23.1: Block

// TestExample: the chapter's.
func TestExample(t *testing.T) {
	for _, g := range fewGeometries() {
		checkUnknown(t, "a block of which nothing was programmed", g, 4, blankPages(g))
		pages := blockOf(t, g, theHeads()...)
		checkKnown(t, "a block", g, 4, pages, 1, 2, 3)
		checkUnknown(t, "a block whose first page is blank", g, 4, but(pages, 0, all(255, g.Sector+endBytes)))
	}
}

// TestWhatABlockTells says it number by number, without a reckoning.
func TestWhatABlockTells(t *testing.T) {
	got := Block(theGeometry, 5, blockOf(t, theGeometry, theHeads()...))
	order := api.Head{Kind: 3, Ns: 1, Count: 0, Lba: 7, Epoch: 2, Counter: 1}
	want := []pagemap.Spot{
		{Place: at(5, 1), Head: api.Head{Kind: 1, Ns: 1, Count: 1, Lba: 3, Epoch: 2, Counter: 5}, Order: order},
		{Place: at(5, 2), Head: api.Head{Kind: 2, Ns: 1, Count: 2, Lba: 4, Epoch: 2, Counter: 6}, Order: order},
		{Place: at(5, 3), Head: api.Head{Kind: 1, Ns: 1, Count: 1, Lba: 4, Epoch: 2, Counter: 7}, Order: order},
	}
	if !got.Known || got.Ns != 1 || got.Erases != 7 || got.Order != order || !slices.Equal(got.Spots, want) {
		t.Errorf("%+v", got)
	}
}

func TestGeometriesOfBlocks(t *testing.T) {
	pages := blockOf(t, theGeometry, theHeads()...)
	for len(pages) < 40 {
		pages = append(pages, made(t, theGeometry, dataOf(1, len(pages), 3, 3), true))
	}
	checkKnown(t, "more pages than there are", theGeometry, 4, pages, 1, 2, 3)
	for _, g := range wrongGeometries() {
		checkUnknown(t, "a geometry that is not right", g, 4, pages)
		checkUnknown(t, "a geometry that is not right, no pages", g, 4, nil)
	}
	for _, change := range []func(g *api.Geometry){
		func(g *api.Geometry) { g.Spare = 2 },
		func(g *api.Geometry) { g.Blocks = 64 },
		func(g *api.Geometry) { g.Wear, g.Rounds = 1000, 1000 },
		func(g *api.Geometry) { g.Pages = 32 },
	} {
		g := theGeometry
		change(&g)
		if told := checkBlock(t, "a geometry just as right", g, 4, pages); !told.Known {
			t.Errorf("%+v is not known", g)
		}
	}
	g := theGeometry
	g.Sector += 16
	checkUnknown(t, "pages of another geometry", g, 4, pages)
}

// TestHowManyPages: none, one too few, just so many, more.
func TestHowManyPages(t *testing.T) {
	for _, g := range fewGeometries() {
		pages, want := [][]byte{made(t, g, opening(2, 1, 1, 1), true)}, []int{}
		for n := 1; n < g.Pages; n++ {
			pages, want = append(pages, made(t, g, dataOf(2, n, 1, n), true)), append(want, n)
		}
		checkKnown(t, "just so many", g, 4, pages, want...)
		for n := range g.Pages {
			checkUnknown(t, fmt.Sprint("as few as ", n), g, 4, pages[:n])
		}
		checkUnknown(t, "none", g, 4, nil)
		for more := range 3 {
			pages = append(pages, made(t, g, dataOf(2, more, 9, 9), true))
			checkKnown(t, fmt.Sprint(more+1, " more"), g, 4, pages, want...)
		}
	}
}

// TestFirstPages: of each kind and namespace, committed and not.
func TestFirstPages(t *testing.T) {
	rest := blockOf(t, theGeometry, theHeads()...)
	for kind := 1; kind <= 4; kind++ {
		for ns := range 256 {
			for _, done := range []bool{false, true} {
				h := opening(ns, 3, 1, 1)
				h.Kind = kind
				pages := but(rest, 0, made(t, theGeometry, h, done))
				for n := 1; n < theGeometry.Pages; n++ {
					pages[n] = made(t, theGeometry, dataOf(ns, n, 1, n), true)
				}
				name := fmt.Sprintf("kind %d, namespace %d, committed %t", kind, ns, done)
				if kind == first && ns < 4 && done {
					checkKnown(t, name, theGeometry, 4, pages, 1, 2, 3, 4, 5)
				} else {
					checkUnknown(t, name, theGeometry, 4, pages)
				}
			}
		}
	}
}

// TestNumbersOfFirstPages: each is told as it stands there.
func TestNumbersOfFirstPages(t *testing.T) {
	for _, lba := range []uint32{0, 1, 255, 256, 1<<31 - 1, 1 << 31, math.MaxUint32} {
		for _, n := range []uint64{0, 1, 1<<63 - 1, 1 << 63, math.MaxUint64} {
			h := api.Head{Kind: first, Ns: 3, Count: int(n % 256), Lba: lba, Epoch: n, Counter: ^n}
			pages := blockOf(t, theGeometry, h, dataOf(3, 1, 1, 1))
			checkKnown(t, "a block", theGeometry, 4, pages, 1)
			if told := Block(theGeometry, 4, pages); told.Order != h || told.Erases != int(lba) || told.Ns != 3 || told.Spots[0].Order != h {
				t.Errorf("%+v tells %+v", h, told)
			}
		}
	}
}

// TestFirstPagesThatAreNone: too short, too long, torn, with another byte.
func TestFirstPagesThatAreNone(t *testing.T) {
	pages := blockOf(t, theGeometry, theHeads()...)
	for name, b := range noPages(pages[0], theGeometry.Sector) {
		checkUnknown(t, name, theGeometry, 4, but(pages, 0, b))
	}
	for i := range pages[0] {
		b := slices.Clone(pages[0])
		b[i] ^= 1
		told := checkBlock(t, fmt.Sprint("byte ", i), theGeometry, 4, but(pages, 0, b))
		if of, end := told.Known, i-theGeometry.Sector; of != (end < 0 || end >= 48 && end < 80) {
			t.Errorf("byte %d is another: known %t", i, of)
		}
	}
}

// noPages are what a page of so many bytes' sector is not, but that there is something of it.
func noPages(b []byte, sector int) map[string][]byte {
	notCommitted := slices.Concat(b[:sector+80], all(255, 8))
	all := map[string][]byte{
		"nil":                 nil,
		"no bytes":            {},
		"a byte too short":    b[:len(b)-1],
		"a byte too long":     append(slices.Clone(b), 0),
		"without its first":   b[1:],
		"the end alone":       b[sector:],
		"the sector alone":    b[:sector],
		"twice":               slices.Concat(b, b),
		"blank":               all(255, len(b)),
		"noughts":             all(0, len(b)),
		"not committed":       notCommitted,
		"the mark alone":      slices.Concat(all(255, sector+80), all(0, 8)),
		"the head alone":      slices.Concat(all(255, sector), b[sector:sector+24], all(255, 56), all(0, 8)),
		"the complement only": slices.Concat(all(255, sector+24), b[sector+24:sector+48], all(255, 32), all(0, 8)),
	}
	for i := range 8 {
		for _, x := range []byte{1, 0x80, 0xff} {
			marked := slices.Clone(b)
			marked[sector+80+i] = x
			all[fmt.Sprintf("byte %d of the mark is %d", i, x)] = marked
		}
	}
	return all
}

// TestLaterPages: of each kind, of the block's namespace and of others, committed and not, at each place.
func TestLaterPages(t *testing.T) {
	for ns := range 4 {
		for n := 1; n < theGeometry.Pages; n++ {
			for kind := 1; kind <= 4; kind++ {
				for _, of := range []int{0, 1, 2, 3, 4, 255} {
					for _, done := range []bool{false, true} {
						h := dataOf(of, n, 1, n)
						h.Kind = kind
						pages := but(blockOf(t, theGeometry, opening(ns, 3, 1, 1)), n, made(t, theGeometry, h, done))
						want := []int{}
						if kind <= 2 && of == ns && done {
							want = append(want, n)
						}
						checkKnown(t, fmt.Sprintf("page %d: %+v, committed %t", n, h, done), theGeometry, 4, pages, want...)
					}
				}
			}
		}
	}
}

// TestLaterPagesThatAreNone: what is no page is left out, and what is behind it is told.
func TestLaterPagesThatAreNone(t *testing.T) {
	heads := append(theHeads(), dataOf(1, 5, 3, 1), trimOf(1, 6, 1, 3, 2))
	pages := blockOf(t, theGeometry, heads...)
	for n := 1; n < theGeometry.Pages; n++ {
		want := slices.DeleteFunc([]int{1, 2, 3, 4, 5}, func(other int) bool { return other == n })
		for name, b := range noPages(pages[n], theGeometry.Sector) {
			checkKnown(t, fmt.Sprintf("page %d: %s", n, name), theGeometry, 4, but(pages, n, b), want...)
		}
		for i := range pages[n] {
			b := slices.Clone(pages[n])
			b[i] ^= 0x10
			checkBlock(t, fmt.Sprintf("page %d: byte %d", n, i), theGeometry, 4, but(pages, n, b))
		}
	}
	for n := 1; n < theGeometry.Pages; n++ {
		nothing := copied(pages[:1])
		for range theGeometry.Pages - 1 {
			nothing = append(nothing, nil)
		}
		checkKnown(t, "one page alone", theGeometry, 4, but(nothing, n, pages[n]), n)
	}
}

// TestBlocksWithinBlocks: a later page of KindBlock tells nothing, whatever the first one does.
func TestBlocksWithinBlocks(t *testing.T) {
	pages := blockOf(t, theGeometry, opening(1, 7, 2, 1), opening(2, 8, 3, 2), dataOf(2, 1, 4, 1), opening(1, 9, 9, 9), dataOf(1, 1, 4, 1))
	checkKnown(t, "two more first pages", theGeometry, 4, pages, 4)
	checkUnknown(t, "the first one is not there", theGeometry, 4, but(pages, 0, all(255, theGeometry.Sector+endBytes)))
	checkUnknown(t, "the first one is not there, and has no bytes", theGeometry, 4, but(pages, 0, nil))
}

// TestBlockNumbers: places have the number that was handed in, whatever it is.
func TestBlockNumbers(t *testing.T) {
	pages := blockOf(t, theGeometry, theHeads()...)
	for _, block := range edgeNumbers() {
		checkKnown(t, "a block", theGeometry, block, pages, 1, 2, 3)
		for i, s := range Block(theGeometry, block, pages).Spots {
			if s.Place != at(block, i+1) {
				t.Errorf("Block(%d) has a spot at %+v", block, s.Place)
			}
		}
		checkUnknown(t, "a blank block", theGeometry, block, blankPages(theGeometry))
	}
}

// TestHeadsOfSpots: each number of a head is told as it stands there, whatever it means.
func TestHeadsOfSpots(t *testing.T) {
	for _, n := range []uint64{0, 1, 7, 255, 1<<63 - 1, 1 << 63, math.MaxUint64} {
		for kind := 1; kind <= 2; kind++ {
			h := api.Head{Kind: kind, Ns: 0, Count: int(n % 256), Lba: uint32(n), Epoch: n, Counter: ^n}
			pages := blockOf(t, theGeometry, opening(0, 0, 0, 0), h)
			checkKnown(t, fmt.Sprintf("%+v", h), theGeometry, 4, pages, 1)
			if got := Block(theGeometry, 4, pages).Spots[0].Head; got != h {
				t.Errorf("%+v, want %+v", got, h)
			}
		}
	}
}

// TestTornFirstPages: while a first page is programmed and committed, it is known only when all of its head and its mark is done.
func TestTornFirstPages(t *testing.T) {
	for at := range 2 {
		for done := range 65 {
			// All bits of so many bytes of 64, again and again.
			mask := append(all(255, done), all(0, 64-done)...)
			c := newChip(t, theGeometry, []api.Fault{{At: at, Crash: true, Mask: mask}})
			write(t, c, api.Place{Block: 4}, opening(1, 7, 2, 1), true)
			checkError(t, "no power", c, api.ErrPower)
			c.Power(true)
			check(t, fmt.Sprint("torn behind ", done), c, [4]slot.Slot{}, 0)
		}
	}
}

func TestRandomBlocks(t *testing.T) {
	r := newRandom(2301)
	known, spots := 0, 0
	for range 20000 {
		g := one(r, fewGeometries()[:4])
		told := checkBlock(t, "at random", g, r.Intn(70)-3, r.pages(t, g))
		if told.Known {
			known++
		}
		spots += len(told.Spots)
	}
	if known < 5000 || spots < 10000 {
		t.Errorf("only %d blocks were known, with %d spots", known, spots)
	}
}

// P23.1: Array

// TestWhatAnArrayTells says it number by number, without a reckoning.
func TestWhatAnArrayTells(t *testing.T) {
	c := chipOf(t, theGeometry,
		[]api.Head{opening(1, 7, 2, 1), dataOf(1, 3, 2, 5), dataOf(1, 4, 2, 6), dataOf(1, 5, 2, 4)},
		nil,
		[]api.Head{opening(1, 4, 2, 2), dataOf(1, 3, 2, 7), trimOf(1, 6, 3, 2, 8)},
		[]api.Head{opening(0, 9, 2, 3), dataOf(0, 0, 2, 9)})
	f, err := Array(c, [4]slot.Slot{1: slotOf(9, 2, 4)}, 1<<5|1<<7|1<<0)
	if err != api.OK || f.Ledger.Len() != 5 || len(f.Orders) != 5 {
		t.Fatalf("%+v, %v", f, err)
	}
	for ns, want := range []int{0, 9, 0, 0} {
		if f.Map.Size(ns) != want {
			t.Errorf("namespace %d has %d sectors, want %d", ns, f.Map.Size(ns), want)
		}
	}
	places := map[int]api.Place{3: at(6, 1), 4: at(4, 2), 6: at(6, 2), 7: at(6, 2), 8: at(6, 2)}
	for lba := range 9 {
		want, there := places[lba]
		if s, ok := f.Map.Get(1, lba); s.Place != want || ok != there {
			t.Errorf("sector %d: %+v, %t, want %+v", lba, s, ok, want)
		}
	}
	for i, want := range []struct {
		owner, used, live, erases int
		held, bad                 bool
		order                     uint64
	}{
		{1, 5, 1, 7, true, false, 1},
		{-1, 0, 0, 9, false, true, 0},
		{1, 5, 2, 4, true, false, 2},
		{0, 0, 0, 9, false, true, 3},
		{-1, 0, 0, 9, false, false, 0},
	} {
		x := f.Ledger.At(i)
		if x.Owner != want.owner || x.Used != want.used || x.Live != want.live || x.Erases != want.erases || x.Held != want.held || x.Bad != want.bad {
			t.Errorf("data block %d: %+v, want %+v", i, x, want)
		}
		if x.Clean || x.Gone || x.Leak || f.Orders[i].Counter != want.order {
			t.Errorf("data block %d: %+v, order %+v", i, x, f.Orders[i])
		}
	}
}

// TestWithoutPower: a nil array, one that New did not make, one whose power is off, and one whose power went.
func TestWithoutPower(t *testing.T) {
	checkError(t, "nil", nil, api.ErrPower)
	checkError(t, "one that New did not make", &nand.Chip{}, api.ErrPower)
	for _, g := range fewGeometries() {
		c := chipOf(t, g, theHeads())
		check(t, "with power", c, [4]slot.Slot{1: slotOf(9, 1, 1)}, 0)
		c.Power(false)
		checkError(t, "off", c, api.ErrPower)
		c.Power(true)
		check(t, "on again", c, [4]slot.Slot{1: slotOf(9, 1, 1)}, 0)
	}
}

// TestAnArrayThatNewDidNotMake has no right geometry, though it was given power.
func TestAnArrayThatNewDidNotMake(t *testing.T) {
	c := &nand.Chip{}
	c.Power(true)
	checkError(t, "with power", c, api.ErrShape)
	c.Power(false)
	checkError(t, "without", c, api.ErrPower)
}

// TestWhereverThePowerGoes: at each operation that writes blocks, and with torn ones, what is told is what was committed.
func TestWhereverThePowerGoes(t *testing.T) {
	g := api.Geometry{Blocks: 7, Pages: 4, Sector: 160, Wear: 1, Rounds: 1}
	slots := [4]slot.Slot{1: slotOf(9, 1, 1)}
	for _, crash := range []bool{true, false} {
		for op := range 20 {
			for _, mask := range [][]byte{nil, {0}, {0x0f}, {0xf0, 0x55, 0xff}, {255, 255, 255, 255, 255, 0, 0, 0}} {
				c := newChip(t, g, []api.Fault{{At: op, Crash: crash, Mask: mask}})
				for n, h := range append(theHeads(), theHeads()...) {
					write(t, c, at(4+n/4, n%4), h, true)
				}
				c.Erase(4)
				c.Scrub(5)
				c.Erase(5)
				write(t, c, at(4, 0), opening(0, 1, 3, 3), true)
				if crash {
					checkError(t, "the power went", c, api.ErrPower)
				}
				c.Power(true)
				check(t, fmt.Sprintf("operation %d, crash %t, mask %x", op, crash, mask), c, slots, 1<<5)
			}
		}
	}
}

// wrongSlots are slots that may not be.
func wrongSlots() []slot.Slot {
	wrong := []slot.Slot{{Size: 9}, {Epoch: 1}, {Counter: 1}, {Wrapped: all(7, wrappedBytes)}, {Wrapped: []byte{0}}}
	for _, size := range []int{0, -1, -9, mostSectors + 1, 1 << 32, 1<<32 + 9, math.MinInt, math.MinInt + 9, math.MaxInt} {
		wrong = append(wrong, slotOf(size, 0, 0))
	}
	for _, n := range []int{0, 1, 96, 103, 105, 128, 208} {
		s := slotOf(9, 0, 0)
		s.Wrapped = all(7, n)
		wrong = append(wrong, s)
	}
	unused := slotOf(9, 0, 0)
	unused.Used = false
	nothing := slotOf(9, 0, 0)
	nothing.Wrapped = nil
	return append(wrong, unused, nothing)
}

// TestSlotsThatAreNotRight count as not used, each alone and beside ones that are.
func TestSlotsThatAreNotRight(t *testing.T) {
	blocks := [][]api.Head{}
	for ns := range 4 {
		blocks = append(blocks, []api.Head{opening(ns, ns, 1, ns), dataOf(ns, 0, 1, 1), trimOf(ns, 2, 3, 1, 2)})
	}
	c := chipOf(t, theGeometry, blocks...)
	for ns := range 4 {
		for i, wrong := range wrongSlots() {
			slots := [4]slot.Slot{slotOf(9, 0, 0), slotOf(8, 0, 0), slotOf(7, 0, 0), slotOf(6, 0, 0)}
			slots[ns] = wrong
			p := check(t, fmt.Sprintf("slot %d is wrong as %d", ns, i), c, slots, 0)
			if p.sizes[ns] != 0 || p.blocks[ns].Held || p.blocks[ns].Owner != ns || p.sizes[(ns+1)%4] == 0 || !p.blocks[(ns+1)%4].Held {
				t.Fatalf("slot %d is wrong as %d: %+v", ns, i, p)
			}
			var alone [4]slot.Slot
			alone[ns] = wrong
			check(t, "alone", c, alone, 0)
			check(t, "all", c, [4]slot.Slot{wrong, wrong, wrong, wrong}, 0)
		}
	}
}

// TestSlotsThatAreNotUsed: each of the ways in which four slots may be used or not, alike ones too.
func TestSlotsThatAreNotUsed(t *testing.T) {
	blocks := [][]api.Head{}
	for ns := range 4 {
		blocks = append(blocks, []api.Head{opening(ns, 1, 1, 1), dataOf(ns, 4, 2, 2), dataOf(ns, 5, 2, 2)})
	}
	c := chipOf(t, theGeometry, blocks...)
	for used := range 16 {
		for _, same := range []bool{true, false} {
			var slots [4]slot.Slot
			for ns := range slots {
				if used>>ns&1 == 0 {
					continue
				}
				slots[ns] = slotOf(6, 1, 1)
				if !same {
					slots[ns] = slotOf(3+ns, 1, ns)
				}
			}
			p := check(t, fmt.Sprintf("used %04b", used), c, slots, 0)
			for ns := range 4 {
				if same && p.blocks[ns].Held != (used>>ns&1 == 1) {
					t.Fatalf("used %04b: %+v", used, p.blocks[ns])
				}
			}
		}
	}
}

// TestSizes: the least and the greatest, and spots of the first and the last sectors.
func TestSizes(t *testing.T) {
	for _, size := range []int{1, 2, 255, 256, mostSectors - 1, mostSectors} {
		c := chipOf(t, theGeometry, []api.Head{opening(2, 1, 1, 1), dataOf(2, 0, 2, 2), dataOf(2, size-1, 2, 3), dataOf(2, size, 2, 4), trimOf(2, size-1, 2, 2, 5)})
		p := check(t, fmt.Sprint("size ", size), c, [4]slot.Slot{2: slotOf(size, 1, 1)}, 0)
		if p.sizes[2] != size || len(p.spots) != min(size, 2) {
			t.Fatalf("size %d: %+v", size, p)
		}
	}
}

// TestFloors: spots ahead of the floor, at it and behind it.
func TestFloors(t *testing.T) {
	numbers := []uint64{0, 1, 2, 1 << 32, 1<<63 - 1, 1 << 63, math.MaxUint64 - 1, math.MaxUint64}
	for _, epoch := range numbers {
		for _, counter := range numbers {
			live := 0
			for _, h := range []api.Head{
				{Epoch: epoch, Counter: counter}, {Epoch: epoch, Counter: counter + 1}, {Epoch: epoch, Counter: counter - 1},
				{Epoch: epoch + 1}, {Epoch: epoch + 1, Counter: counter}, {Epoch: epoch - 1, Counter: math.MaxUint64},
				{Epoch: counter, Counter: epoch},
			} {
				h.Kind, h.Ns, h.Count, h.Lba = data, 3, 1, 1
				c := chipOf(t, theGeometry, []api.Head{opening(3, 1, 1, 1), h})
				s := slotOf(5, 0, 0)
				s.Epoch, s.Counter = epoch, counter
				p := check(t, fmt.Sprintf("floor %d, %d: %+v", epoch, counter, h), c, [4]slot.Slot{3: s}, 0)
				live += len(p.spots)
				behind := h.Epoch > epoch || h.Epoch == epoch && h.Counter > counter
				if behind != (len(p.spots) == 1) || behind != p.blocks[0].Held {
					t.Fatalf("floor %d, %d: %+v: %+v", epoch, counter, h, p)
				}
			}
			if live == 0 && (epoch < math.MaxUint64 || counter < math.MaxUint64) {
				t.Fatalf("floor %d, %d: all was dead", epoch, counter)
			}
		}
	}
}

// TestADeadSpotTakesNothing: what is dead takes no sector, though its order is the greatest; a floor is that of the spot's own slot.
func TestADeadSpotTakesNothing(t *testing.T) {
	c := chipOf(t, theGeometry,
		[]api.Head{opening(0, 1, 9, 9), dataOf(0, 1, 1, 5)},
		[]api.Head{opening(1, 1, 1, 1), dataOf(1, 1, 1, 5)},
		[]api.Head{opening(0, 1, 1, 1), dataOf(0, 1, 1, 6), dataOf(0, 2, 1, 5)})
	p := check(t, "unlike floors", c, [4]slot.Slot{slotOf(4, 1, 5), slotOf(4, 1, 4)}, 0)
	if len(p.spots) != 2 || p.spots[sector{0, 1}].Place != at(6, 1) || p.spots[sector{1, 1}].Place != at(5, 1) {
		t.Errorf("%+v", p.spots)
	}
	if p.blocks[0].Held || !p.blocks[1].Held || p.blocks[2].Live != 1 {
		t.Errorf("%+v", p.blocks)
	}
}

// TestNewerSpots: of two of a sector the newer one is there, whichever block comes first; of two that are alike the first.
func TestNewerSpots(t *testing.T) {
	for _, heads := range [][4]api.Head{
		{opening(1, 1, 1, 1), dataOf(1, 2, 3, 4), opening(1, 1, 1, 2), dataOf(1, 2, 3, 5)},
		{opening(1, 1, 9, 9), dataOf(1, 2, 3, 4), opening(1, 1, 1, 2), dataOf(1, 2, 3, 5)},
		{opening(1, 1, 9, 9), dataOf(1, 2, 3, 9), opening(1, 1, 1, 2), trimOf(1, 1, 3, 4, 1)},
		{opening(1, 1, 1, 1), dataOf(1, 2, 3, 4), opening(1, 1, 1, 2), dataOf(1, 2, 3, 4)},
		{opening(1, 1, 1, 9), dataOf(1, 2, 3, 4), opening(1, 1, 2, 1), dataOf(1, 2, 3, 4)},
		{opening(1, 9, 1, 1), trimOf(1, 2, 1, 3, 4), opening(1, 1, 1, 2), dataOf(1, 2, 3, 4)},
	} {
		slots := [4]slot.Slot{1: slotOf(9, 1, 1)}
		older, newer := heads[:2], heads[2:]
		p := check(t, "the newer one behind", chipOf(t, theGeometry, older, nil, newer), slots, 0)
		if s := p.spots[sector{1, 2}]; s.Place.Block != 6 || s.Head != newer[1] || p.blocks[0].Held || !p.blocks[2].Held {
			t.Errorf("%+v: %+v", heads, p)
		}
		p = check(t, "the newer one ahead", chipOf(t, theGeometry, newer, older), slots, 0)
		if s := p.spots[sector{1, 2}]; s.Place.Block != 4 || s.Head != newer[1] || !p.blocks[0].Held || p.blocks[1].Held {
			t.Errorf("%+v: %+v", heads, p)
		}
	}
	alike := []api.Head{opening(1, 1, 1, 1), dataOf(1, 2, 3, 4), dataOf(1, 2, 3, 4), trimOf(1, 2, 1, 3, 4)}
	p := check(t, "alike", chipOf(t, theGeometry, nil, alike, alike, alike), [4]slot.Slot{1: slotOf(9, 1, 1)}, 0)
	if p.spots[sector{1, 2}].Place != at(5, 1) || p.blocks[1].Live != 1 || p.blocks[2].Held {
		t.Errorf("alike: %+v", p)
	}
}

// TestSpotsThatTheMapErrsAt are left out, and all others are there.
func TestSpotsThatTheMapErrsAt(t *testing.T) {
	most := dataOf(1, 0, 2, 2)
	most.Lba = math.MaxUint32
	many := trimOf(1, 0, 10, 2, 2)
	for _, wrong := range []api.Head{trimOf(1, 0, 0, 2, 2), trimOf(1, 8, 2, 2, 2), dataOf(1, 9, 2, 2), dataOf(1, 10, 2, 2), most, many, trimOf(1, 255, 255, 2, 2)} {
		c := chipOf(t, theGeometry,
			[]api.Head{opening(1, 1, 1, 1), wrong, dataOf(1, 0, 2, 1), wrong, trimOf(1, 0, 9, 2, 0)},
			[]api.Head{opening(1, 3, 1, 1), wrong, wrong})
		p := check(t, fmt.Sprintf("%+v", wrong), c, [4]slot.Slot{1: slotOf(9, 1, 1)}, 0)
		if len(p.spots) != 9 || p.blocks[0].Live != 2 || p.blocks[1].Held || p.blocks[1].Erases != 3 {
			t.Errorf("%+v: %+v", wrong, p)
		}
	}
}

// TestLivePages: as many are live as the map has places, of all that a block's pages may be.
func TestLivePages(t *testing.T) {
	for _, g := range fewGeometries() {
		for live := range g.Pages {
			heads := []api.Head{opening(0, 5, 1, 1)}
			for n := 1; n < g.Pages; n++ {
				heads = append(heads, dataOf(0, min(n, live), 2, n))
			}
			if live == 0 {
				heads = heads[:1]
			}
			c := chipOf(t, g, nil, heads)
			p := check(t, fmt.Sprint(live, " live"), c, [4]slot.Slot{slotOf(40, 1, 1)}, 0)
			x := p.blocks[1]
			if x.Live != live || x.Held != (live > 0) || x.Held && x.Used != g.Pages-1 || !x.Held && x.Used != 0 || x.Owner != 0 || x.Erases != 5 {
				t.Fatalf("%d live of %+v: %+v", live, g, x)
			}
		}
	}
	heads := []api.Head{opening(0, 5, 1, 1), trimOf(0, 0, 9, 2, 1), dataOf(0, 4, 2, 2), trimOf(0, 2, 5, 2, 3)}
	p := check(t, "trims of many sectors", chipOf(t, theGeometry, heads), [4]slot.Slot{slotOf(9, 1, 1)}, 0)
	if p.blocks[0].Live != 2 {
		t.Errorf("%+v", p.blocks[0])
	}
}

// TestKnownBlocksWithoutALivePage have their owner and their erase count, and are not held.
func TestKnownBlocksWithoutALivePage(t *testing.T) {
	c := chipOf(t, theGeometry,
		[]api.Head{opening(1, 2, 1, 1)},
		[]api.Head{opening(1, 3, 1, 2), dataOf(1, 1, 1, 1)},
		[]api.Head{opening(1, 4, 1, 3), dataOf(2, 1, 3, 3), opening(1, 1, 1, 1)},
		[]api.Head{opening(3, 5, 1, 4), dataOf(3, 1, 3, 3)},
		[]api.Head{opening(1, 6, 1, 5), dataOf(1, 9, 3, 3)})
	p := check(t, "none is live", c, [4]slot.Slot{1: slotOf(9, 1, 1), 2: slotOf(9, 1, 1)}, 0)
	for i, x := range p.blocks {
		if x.Held || x.Owner != []int{1, 1, 1, 3, 1}[i] || x.Erases != i+2 || x.Used != 0 {
			t.Errorf("data block %d: %+v", i, x)
		}
	}
}

// TestEraseCounts: a block that is not known has the greatest of those that are, wherever that is.
func TestEraseCounts(t *testing.T) {
	counts := []int{3, 0, 1 << 20, 5}
	for _, most := range []int{0, 1, 6, math.MaxInt32, math.MaxInt32 + 1, math.MaxUint32} {
		for i := range 5 {
			blocks := make([][]api.Head, 5)
			for j := range blocks {
				blocks[j] = []api.Head{opening(2, min(most, counts[j%4]), 1, 1), dataOf(2, j, 2, 2)}
			}
			blocks[i] = []api.Head{opening(2, most, 1, 1)}
			blocks[(i+1)%5] = nil
			blocks[(i+3)%5] = []api.Head{dataOf(2, 3, 3, 3)}
			p := check(t, fmt.Sprint(most, " of ", i), chipOf(t, theGeometry, blocks...), [4]slot.Slot{2: slotOf(9, 1, 1)}, 1<<(4+i))
			if p.blocks[(i+1)%5].Erases != most || p.blocks[(i+3)%5].Erases != most || p.blocks[i].Erases != most {
				t.Errorf("%d of %d: %+v", most, i, p.blocks)
			}
		}
	}
	// A count in a block that is not known is not told.
	not := opening(4, 99, 1, 1)
	p := check(t, "of a namespace that there is not", chipOf(t, theGeometry, []api.Head{not}, []api.Head{opening(0, 2, 1, 1)}), [4]slot.Slot{}, 0)
	if p.blocks[0].Erases != 2 || p.blocks[0].Owner != unknown || p.blocks[4].Erases != 2 || p.orders[0] != (api.Head{}) {
		t.Errorf("%+v", p)
	}
}

// TestNothingKnown: of an array that was never written, in each geometry.
func TestNothingKnown(t *testing.T) {
	for _, g := range fewGeometries() {
		p := check(t, "blank", newChip(t, g, nil), [4]slot.Slot{slotOf(9, 0, 0)}, 0)
		for i, x := range p.blocks {
			if x.Owner != unknown || x.Erases != 0 || x.Held || p.orders[i] != (api.Head{}) {
				t.Errorf("data block %d of %+v: %+v", i, g, x)
			}
		}
		if p.sizes[0] != 9 || len(p.spots) > 0 {
			t.Errorf("%+v", p)
		}
		c := newChip(t, g, nil)
		for block := range g.Blocks {
			c.Scrub(block)
		}
		check(t, "noughts", c, [4]slot.Slot{slotOf(9, 0, 0)}, math.MaxUint64)
	}
}

// TestAllKnown: all blocks are, each full.
func TestAllKnown(t *testing.T) {
	for _, g := range fewGeometries() {
		blocks := [][]api.Head{}
		for i := range g.Blocks - 4 {
			heads := []api.Head{opening(i%4, i, 1, i)}
			for n := 1; n < g.Pages; n++ {
				heads = append(heads, dataOf(i%4, i*g.Pages+n, 2, n))
			}
			blocks = append(blocks, heads)
		}
		p := check(t, "full", chipOf(t, g, blocks...), [4]slot.Slot{slotOf(3000, 1, 1), slotOf(3000, 1, 1), slotOf(3000, 1, 1), slotOf(3000, 1, 1)}, 0)
		for i, x := range p.blocks {
			if !x.Held || x.Live != g.Pages-1 || x.Used != g.Pages-1 || x.Owner != i%4 || x.Erases != i || p.orders[i].Counter != uint64(i) {
				t.Errorf("data block %d of %+v: %+v", i, g, x)
			}
		}
	}
}

// TestKeyBlocks: what stands in them is no data, whatever it is.
func TestKeyBlocks(t *testing.T) {
	c := chipOf(t, theGeometry, theHeads())
	slots := [4]slot.Slot{1: slotOf(9, 1, 1)}
	want := check(t, "ahead", c, slots, 0)
	for block := range 4 {
		for n, h := range []api.Head{opening(1, 50, 9, 9), dataOf(1, 3, 9, 9), dataOf(1, 0, 9, 9)} {
			write(t, c, at(block, n), h, true)
		}
	}
	got, err := Array(c, slots, 0)
	if err != api.OK {
		t.Fatal(err)
	}
	want.is(t, "behind", theGeometry, got)
}

// TestBadBlocks: each bit of the number is that of one block of the array; those of key blocks, and of blocks that there are not, say nothing.
func TestBadBlocks(t *testing.T) {
	for _, g := range fewGeometries() {
		c := chipOf(t, g, theHeads(), nil, []api.Head{opening(2, 2, 2, 2)})
		slots := [4]slot.Slot{1: slotOf(9, 1, 1)}
		for bit := range 64 {
			for _, bad := range []uint64{1 << bit, ^uint64(1 << bit)} {
				if g.Blocks == 64 && bit%7 > 0 {
					continue
				}
				p := check(t, fmt.Sprintf("bad %x", bad), c, slots, bad)
				for i, x := range p.blocks {
					if x.Bad != (bad == 1<<bit == (4+i == bit)) {
						t.Fatalf("bad %x: data block %d: %+v", bad, i, x)
					}
				}
			}
		}
		p := check(t, "all are bad", c, slots, math.MaxUint64)
		if x := p.blocks[0]; !x.Bad || !x.Held || x.Live != 3 || x.Owner != 1 || x.Erases != 7 {
			t.Errorf("a bad block that is live: %+v", x)
		}
	}
}

// TestRandomArrays: written by the project's own packages, with faults, held against the chapter's words.
func TestRandomArrays(t *testing.T) {
	r := newRandom(2302)
	known, live, dead := 0, 0, 0
	for range 4000 {
		g := one(r, fewGeometries()[:4])
		p := check(t, "at random", r.chip(t, g), r.slots(), one(r, []uint64{0, r.Uint64(), math.MaxUint64}))
		for _, x := range p.blocks {
			if x.Owner != unknown {
				known++
			}
			if x.Held {
				live++
			} else if x.Owner != unknown {
				dead++
			}
		}
	}
	if known < 5000 || live < 1000 || dead < 1000 {
		t.Errorf("only %d blocks were known, %d live, %d not", known, live, dead)
	}
}

// TestAnArrayOfALongLife: one that is written, erased and scrubbed again and again, scanned each time.
func TestAnArrayOfALongLife(t *testing.T) {
	r := newRandom(2303)
	c := newChip(t, theGeometry, nil)
	slots := r.slots()
	for range 300 {
		block := 4 + r.Intn(5)
		if r.Intn(2) == 0 {
			c.Erase(block)
		}
		r.fill(t, c, block)
		if r.Intn(6) == 0 {
			slots[r.Intn(4)] = r.slot()
		}
		check(t, "a step more", c, slots, 0)
	}
}

// P23.2

// TestPayloadsAndTags: no byte of them changes what is told.
func TestPayloadsAndTags(t *testing.T) {
	pages := blockOf(t, theGeometry, append(theHeads(), dataOf(1, 8, 4, 4), dataOf(2, 1, 1, 1))...)
	want := Block(theGeometry, 4, pages)
	for n := range pages {
		for i := range theGeometry.Sector + endBytes {
			if end := i - theGeometry.Sector; end >= 0 && end < 48 || end >= 80 {
				continue
			}
			for _, x := range []byte{0, 255, 0x5a} {
				b := slices.Clone(pages[n])
				b[i] = x
				if got := Block(theGeometry, 4, but(pages, n, b)); !sameTold(got, want) {
					t.Fatalf("page %d, byte %d is %d: %+v, want %+v", n, i, x, got, want)
				}
			}
		}
	}
}

// TestPagesThatAreNotCommitted: whatever stands in them changes nothing, newer heads and other first pages too.
func TestPagesThatAreNotCommitted(t *testing.T) {
	r := newRandom(2304)
	g := theGeometry
	for range 3000 {
		n := r.Intn(g.Pages)
		pages := blockOf(t, g, append(theHeads(), dataOf(1, 8, 4, 4), dataOf(1, 1, 1, 1))...)
		pages[n] = all(255, g.Sector+endBytes)
		want := Block(g, 4, pages)
		h := one(r, []api.Head{r.head(1), r.opening(), dataOf(1, 3, 99, 99), opening(1, 99, 99, 99)})
		pages[n] = made(t, g, h, true)
		// One bit of the mark that was not done is enough.
		pages[n][g.Sector+80+r.Intn(8)] = 1 << r.Intn(8)
		if got := Block(g, 4, pages); !sameTold(got, want) {
			t.Fatalf("page %d has %+v, not committed: %+v, want %+v", n, h, got, want)
		}
	}
}

// TestBytesOfAnArrayThatSayNothing: each byte of payloads, of tags, of pages that are not committed and of key blocks is another, and the same is told.
func TestBytesOfAnArrayThatSayNothing(t *testing.T) {
	g := api.Geometry{Blocks: 7, Pages: 4, Sector: 160, Wear: 1, Rounds: 1}
	slots, bad := [4]slot.Slot{1: slotOf(9, 1, 1)}, uint64(1<<6)
	c := chipOf(t, g, theHeads(), nil, []api.Head{opening(1, 3, 3, 3), trimOf(1, 0, 3, 3, 3)})
	write(t, c, at(5, 0), opening(1, 99, 9, 9), false)
	write(t, c, at(5, 1), dataOf(1, 3, 9, 9), true)
	write(t, c, at(6, 2), dataOf(1, 3, 9, 9), false)
	want := check(t, "as it was written", c, slots, bad)
	committed := []api.Place{at(4, 0), at(4, 1), at(4, 2), at(4, 3), at(6, 0), at(6, 1)}
	for n := range g.Blocks * g.Pages {
		p := at(n/g.Pages, n%g.Pages)
		was, _ := c.Read(p)
		for i := range was {
			end := i - g.Sector
			// In a block that is not known any page says nothing; in one that is, those that are not committed, if they do not become so.
			if slices.Contains(committed, p) && (end >= 0 && end < 48 || end >= 80) {
				continue
			}
			poke(t, c, p, i, ^was[i])
			got, err := Array(c, slots, bad)
			if err != api.OK {
				t.Fatal(err)
			}
			want.is(t, fmt.Sprintf("%+v, byte %d", p, i), g, got)
			poke(t, c, p, i, was[i])
		}
	}
	check(t, "as it was", c, slots, bad)
}

// poke changes a byte of an array while it has no power.
func poke(t *testing.T, c *nand.Chip, p api.Place, i int, x byte) {
	t.Helper()
	c.Power(false)
	if err := c.Poke(p, i, x); err != api.OK {
		t.Fatalf("Poke(%+v, %d): %v", p, i, err)
	}
	c.Power(true)
}

// TestBytesOfCommittedPagesThatSaySomething: of a head, its complement and its mark each bit matters: the page is not told, or tells just what stands there.
func TestBytesOfCommittedPagesThatSaySomething(t *testing.T) {
	g := api.Geometry{Blocks: 7, Pages: 4, Sector: 160, Wear: 1, Rounds: 1}
	slots := [4]slot.Slot{1: slotOf(9, 1, 1)}
	c := chipOf(t, g, theHeads(), []api.Head{opening(1, 3, 3, 3), trimOf(1, 0, 3, 3, 3)})
	for _, p := range []api.Place{at(4, 0), at(4, 1), at(4, 3), at(5, 0), at(5, 1)} {
		was, _ := c.Read(p)
		for end := range 88 {
			if end >= 48 && end < 80 {
				continue
			}
			i := g.Sector + end
			poke(t, c, p, i, was[i]^1<<(end%8))
			told := check(t, fmt.Sprintf("%+v, byte %d of the end", p, end), c, slots, 0)
			if x := told.blocks[p.Block-4]; p.Page == 0 && x.Owner != unknown || p.Page > 0 && x.Owner != 1 {
				t.Fatalf("%+v, byte %d of the end: %+v", p, end, x)
			}
			poke(t, c, p, i, was[i])
		}
	}
}

// P23.3

// TestToldTwice: by an array that was off meanwhile, and by another one with the same bytes.
func TestToldTwice(t *testing.T) {
	r := newRandom(2305)
	for range 200 {
		g := one(r, fewGeometries()[:4])
		slots, bad := r.slots(), r.Uint64()
		c := r.chip(t, g)
		want := check(t, "once", c, slots, bad)
		c.Power(false)
		c.Power(true)
		check(t, "once more", c, slots, bad)
		other := newChip(t, g, nil)
		other.Power(false)
		for i, x := range c.Image() {
			size := g.Sector + endBytes
			other.Poke(at(i/size/g.Pages, i/size%g.Pages), i%size, x)
		}
		other.Power(true)
		got, err := Array(other, slots, bad)
		if err != api.OK {
			t.Fatal(err)
		}
		want.is(t, "by another one", g, got)
	}
}

// TestWhatIsToldHangsOnTheBytesAlone: an array that came to them by other operations tells the same.
func TestWhatIsToldHangsOnTheBytesAlone(t *testing.T) {
	slots := [4]slot.Slot{1: slotOf(9, 1, 1)}
	c, other := chipOf(t, theGeometry, theHeads()), newChip(t, theGeometry, nil)
	for range 3 {
		for block := range theGeometry.Blocks {
			other.Scrub(block)
			other.Erase(block)
		}
	}
	for n, h := range theHeads() {
		write(t, other, at(4, n), h, true)
	}
	got, err := Array(other, slots, 0)
	if err != api.OK {
		t.Fatal(err)
	}
	check(t, "the one", c, slots, 0).is(t, "the other one", theGeometry, got)
}

// Rule 3

// TestWhatIsAnsweredIsNew: two answers share nothing, and pages that are changed behind a call change nothing that it told.
func TestWhatIsAnsweredIsNew(t *testing.T) {
	pages := blockOf(t, theGeometry, theHeads()...)
	told := Block(theGeometry, 4, pages)
	want := plainTold(theGeometry, 4, pages)
	for _, b := range pages {
		copy(b, octet.Fill(0, len(b)))
	}
	if !sameTold(told, want) {
		t.Errorf("what was told hangs on pages that were handed in: %+v", told)
	}
	c := chipOf(t, theGeometry, theHeads())
	slots := [4]slot.Slot{1: slotOf(9, 1, 1)}
	one, _ := Array(c, slots, 0)
	two, _ := Array(c, slots, 0)
	p := check(t, "an array", c, slots, 0)
	spoil(one)
	p.is(t, "the second answer", theGeometry, two)
	for block := range theGeometry.Blocks {
		c.Erase(block)
	}
	slots[1].Wrapped[5] = 77
	p.is(t, "the second answer, behind erases", theGeometry, two)
}

// TestPagesWrittenByTheProject: those that page.Make and page.Commit make are told as they are.
func TestPagesWrittenByTheProject(t *testing.T) {
	for _, g := range fewGeometries() {
		c := newChip(t, g, nil)
		mark, _ := page.Commit(g)
		for n, h := range theHeads() {
			b, _ := page.Make(g, h, nil, nil)
			c.Program(at(g.Blocks-1, n), b)
			c.Program(at(g.Blocks-1, n), mark)
		}
		p := check(t, "the last block", c, [4]slot.Slot{1: slotOf(9, 1, 1)}, 0)
		if x := p.blocks[g.Blocks-5]; x.Live != 3 || x.Owner != 1 || p.orders[g.Blocks-5] != theHeads()[0] {
			t.Errorf("the last block of %+v: %+v", g, x)
		}
	}
}
