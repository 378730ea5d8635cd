package keybox

import (
	"bytes"
	"fmt"
	"math"
	"math/rand"
	"slices"
	"testing"

	"nepenthe/api"
	"nepenthe/chunk"
	"nepenthe/geometry"
	"nepenthe/nand"
)

// P20.1

func TestOpenWithoutPower(t *testing.T) {
	if box, rec, err := Open(nil); box != nil || len(rec) != 0 || err != api.ErrPower {
		t.Errorf("Open(nil) = %v, %x, %v", box, rec, err)
	}
	if box, rec, err := Open(&nand.Chip{}); box != nil || len(rec) != 0 || err != api.ErrPower {
		t.Errorf("Open of an array that is none = %v, %x, %v", box, rec, err)
	}
	for _, g := range fewGeometries() {
		p := opened(t, "without power", g)
		p.power(false)
		if box, rec, err := Open(p.chip); box != nil || len(rec) != 0 || err != api.ErrPower {
			t.Errorf("blank: %v, %x, %v", box, rec, err)
		}
		p.power(true)
		p.commits(1, api.OK)
		p.power(false)
		if box, rec, err := Open(p.chip); box != nil || len(rec) != 0 || err != api.ErrPower {
			t.Errorf("with a record: %v, %x, %v", box, rec, err)
		}
		p.power(true)
		p.finds(1)
	}
}

func TestOpenOfNone(t *testing.T) {
	for _, g := range fewGeometries() {
		p := newPair(t, "no record", g)
		p.does("", func() {
			if rec, err := p.open(); err != api.ErrBlank || len(rec) != 0 || p.box == nil {
				t.Errorf("%+v: Open = %v, %x, %v", g, p.box, rec, err)
			}
		})
		p.is(-1, 0, false)
		p.commits(7, api.OK)
		p.is(0, 7, false)
		p.finds(7)
	}
}

// A record in each key block; one in the first block behind them is not the key store's.
func TestOpenOfOne(t *testing.T) {
	for _, g := range fewGeometries() {
		for block := range g.Blocks {
			p := newPair(t, fmt.Sprintf("in block %d", block), g)
			p.lay(block, recordOf(9), 9, true)
			if block >= keyCount {
				if rec, err := p.open(); err != api.ErrBlank || len(rec) != 0 {
					t.Errorf("%+v: block %d: %x, %v", g, block, rec, err)
				}
				p.is(-1, 0, false)
				continue
			}
			p.does("", func() { p.finds(9) })
			p.is(block, 9, false)
		}
	}
}

// Generations in all orders: the greatest is current, wherever it is.
func TestOpenOfSeveral(t *testing.T) {
	gens := []uint64{0, 1, 2, math.MaxUint64}
	for a := range 4 {
		for b := range 4 {
			for c := range 4 {
				for d := range 4 {
					p := newPair(t, fmt.Sprint(a, b, c, d), theGeometry)
					row := []uint64{gens[a], gens[b], gens[c], gens[d]}
					for i, gen := range row {
						p.lay(i, recordOf(gen+uint64(i)), gen, true)
					}
					rec, err := p.open()
					at := slices.Index(row, slices.Max(row))
					if err != api.OK || !bytes.Equal(rec, recordOf(row[at]+uint64(at))) {
						t.Fatalf("%d: %x, %v", row, rec, err)
					}
					p.is(at, row[at], false)
				}
			}
		}
	}
}

// Of two of one generation the first one is current, at each two places, beside lesser ones.
func TestOpenOfTwoOfOneGeneration(t *testing.T) {
	for first := range keyCount {
		for second := first + 1; second < keyCount; second++ {
			p := newPair(t, fmt.Sprintf("%d and %d", first, second), theGeometry)
			for i := range keyCount {
				if i == first || i == second {
					p.lay(i, all(byte(i), recordBytes), 5, true)
				} else {
					p.lay(i, all(9, recordBytes), 4, true)
				}
			}
			rec, err := p.open()
			if err != api.OK || !bytes.Equal(rec, all(byte(first), recordBytes)) {
				t.Errorf("%d and %d: %x, %v", first, second, rec, err)
			}
			p.is(first, 5, false)
		}
	}
}

// What is not committed, or was begun, destroyed or changed, holds no record.
func TestOpenOfWhatHoldsNone(t *testing.T) {
	for _, g := range fewGeometries() {
		last := geometry.Chunks(g) - 1
		others := map[string]func(p *pair){
			"not committed": func(p *pair) { p.lay(2, recordOf(6), 6, false) },
			"begun": func(p *pair) {
				pages, _ := plainPages(g.Sector, recordOf(6), 6)
				p.program(2, 0, pages[0])
			},
			"erased":            func(p *pair) { p.lay(2, recordOf(6), 6, true); p.erase(2) },
			"scrubbed":          func(p *pair) { p.lay(2, recordOf(6), 6, true); p.scrub(2) },
			"a bit of a head":   func(p *pair) { p.lay(2, recordOf(6), 6, true); p.poke(2, 0, g.Sector+1, 0x40) },
			"a bit of its mark": func(p *pair) { p.lay(2, recordOf(6), 6, true); p.poke(2, last, g.Sector+87, 1) },
			"noughts":           func(p *pair) { p.scrub(2) },
		}
		for name, other := range others {
			p := newPair(t, name, g)
			other(p)
			if rec, err := p.open(); err != api.ErrBlank || len(rec) != 0 {
				t.Errorf("%s: %x, %v", name, rec, err)
			}
			p.is(-1, 0, false)
			p.lay(1, recordOf(5), 5, true)
			p.finds(5)
			p.is(1, 5, false)
		}
	}
}

// A record's own bytes are not looked at: whether its tag fits is its own.
func TestOpenOfAChangedRecord(t *testing.T) {
	p := opened(t, "changed", theGeometry)
	p.commits(3, api.OK)
	want := recordOf(3)
	want[10] = 0x77
	p.poke(0, 0, 10, 0x77)
	if rec, err := p.open(); err != api.OK || !bytes.Equal(rec, want) {
		t.Errorf("%x, %v", rec, err)
	}
}

// No block is clean, bad or leaking when a key store is found, whatever was known ahead: all of them are destroyed anew.
func TestNothingIsKnownBehindAnOpen(t *testing.T) {
	p := opened(t, "blank", theGeometry)
	p.does("e0 p0.0 p0.1 p0.2 p0.2 e1 e2 e3", func() { p.commits(1, api.OK) })
	p.open()
	p.is(0, 1, false)
	p.does("e1 p1.0 p1.1 p1.2 p1.2 e0 e2 e3", func() { p.commits(2, api.OK) })
	p.does("p2.0 p2.1 p2.2 p2.2 e1", func() { p.commits(3, api.OK) })
	p.open()
	p.open()
	p.does("e3 p3.0 p3.1 p3.2 p3.2 e0 e1 e2", func() { p.commits(4, api.OK) })

	p = opened(t, "bad and leaking", theGeometry, fails(0, 1), fails(1, 1), fails(2, 1), fails(4, 1), fails(9), fails(10, 1))
	p.does("e0! s0! e1! s1 e2! s2 e3 p3.0 p3.1 p3.2! e3! s3", func() { p.commits(1, api.ErrReadOnly) })
	p.is(-1, 0, true, 0, 1, 2, 3)
	if _, err := p.open(); err != api.ErrBlank {
		t.Errorf("Open: %v", err)
	}
	p.is(-1, 0, false)
	p.does("e0 p0.0 p0.1 p0.2 p0.2 e1 e2 e3", func() { p.commits(2, api.OK) })
}

// The layer below tells the same of the blocks' pages.
func TestOpenIsTheLayerBelows(t *testing.T) {
	source := rand.New(rand.NewSource(2011))
	for range 200 {
		p := newPair(t, "random blocks", theGeometry)
		for block := range keyCount {
			switch source.Intn(5) {
			case 0:
				p.lay(block, randomBytes(source, recordBytes), uint64(source.Intn(3)), false)
			case 1:
				p.scrub(block)
			case 2, 3:
				p.lay(block, randomBytes(source, recordBytes), uint64(source.Intn(3)), true)
			}
		}
		rec, _ := p.open()
		at, gen, want := chunk.Current(theGeometry, p.wantChip.pages[:keyCount])
		if p.box.Current() != at || p.box.Gen() != gen || !bytes.Equal(rec, want) {
			t.Fatalf("%d, %d, %x, want %d, %d, %x", p.box.Current(), p.box.Gen(), rec, at, gen, want)
		}
	}
}

// P20.2

// Current 3: blocks 0, 1, 2 are tried, in that order. Likewise of each other block that may be current, and of none.
func TestTheExample(t *testing.T) {
	for current, want := range map[int]string{
		-1: "e0! s0 e1! s1 e2! s2 e3! s3",
		0:  "e1! s1 e2! s2 e3! s3",
		1:  "e2! s2 e3! s3 e0! s0",
		2:  "e3! s3 e0! s0 e1! s1",
		3:  "e0! s0 e1! s1 e2! s2",
	} {
		ahead := 0
		if current >= 0 {
			ahead = geometry.Chunks(theGeometry) + 1
		}
		p := newPair(t, fmt.Sprintf("current %d", current), theGeometry, fails(ahead, 1), fails(ahead+2, 1), fails(ahead+4, 1), fails(ahead+6, 1))
		if current >= 0 {
			p.lay(current, recordOf(5), 5, true)
		}
		p.open()
		p.does(want, func() { p.commits(6, api.ErrReadOnly) })
		if p.box.Current() != current {
			t.Errorf("current %d: it is %d now", current, p.box.Current())
		}
		for block := range keyCount {
			if p.box.Bad(block) != (block != current) {
				t.Errorf("current %d: Bad(%d) = %v", current, block, p.box.Bad(block))
			}
		}
	}
}

func TestANilKeyStore(t *testing.T) {
	// One that Open did not make has no array either.
	for name, b := range map[string]*Box{"nil": nil, "zero": {}} {
		for _, rec := range [][]byte{nil, {}, recordOf(1)[1:], recordOf(1), append(recordOf(1), 1)} {
			for _, gen := range []uint64{0, 1, math.MaxUint64} {
				if err := b.Commit(rec, gen); err != api.ErrPower {
					t.Errorf("%s: Commit(%d bytes, %d) = %v", name, len(rec), gen, err)
				}
			}
		}
		if b.Current() != -1 || b.Gen() != 0 || b.Leaks() {
			t.Errorf("%s: %d, %d, %v", name, b.Current(), b.Gen(), b.Leaks())
		}
		for _, block := range []int{math.MinInt, -1, 0, 1, 2, 3, 4, math.MaxInt} {
			if b.Bad(block) {
				t.Errorf("%s: Bad(%d)", name, block)
			}
		}
	}
}

func TestRecordsOfOtherLengths(t *testing.T) {
	for _, g := range fewGeometries() {
		p := opened(t, "lengths", g)
		for _, behind := range []string{"blank", "with a record"} {
			for _, rec := range [][]byte{nil, {}, {1}, make([]byte, 0, recordBytes), recordOf(1)[1:], recordOf(1)[:recordBytes-1], append(recordOf(1), 0), all(1, 2*recordBytes), all(1, 70000)} {
				was := stateOf(p.box)
				p.does("", func() {
					if err := p.commit(rec, 9); err != api.ErrShape {
						t.Errorf("%s: Commit(%d bytes) = %v", behind, len(rec), err)
					}
				})
				if stateOf(p.box) != was {
					t.Errorf("%s: behind a record of %d bytes: %+v", behind, len(rec), stateOf(p.box))
				}
			}
			p.commits(1, api.OK)
		}
		p.finds(1)
	}
	p := opened(t, "each length", theGeometry)
	for n := range 1300 {
		want := api.ErrShape
		if n == recordBytes {
			want = api.OK
		}
		if err := p.commit(all(byte(n), n), 1); err != want {
			t.Errorf("Commit(%d bytes) = %v", n, err)
		}
	}
}

// Without power nothing is looked at, and nothing done; read-only is told only of a record that may be.
func TestWhichErrorIsAnswered(t *testing.T) {
	short := recordOf(1)[1:]
	p := opened(t, "errors", theGeometry)
	p.commits(1, api.OK)
	p.power(false)
	p.does("", func() {
		for _, rec := range [][]byte{nil, short, recordOf(2)} {
			if err := p.commit(rec, 2); err != api.ErrPower {
				t.Errorf("without power: Commit(%d bytes) = %v", len(rec), err)
			}
		}
	})
	p.is(0, 1, false)
	p.power(true)
	p.commits(2, api.OK)

	p = opened(t, "read-only", theGeometry, fails(0), fails(2), fails(4), fails(6))
	p.commits(1, api.ErrReadOnly)
	p.does("", func() {
		if err := p.commit(short, 2); err != api.ErrShape {
			t.Errorf("read-only: Commit of a short record = %v", err)
		}
		p.commits(2, api.ErrReadOnly)
		p.power(false)
		if err := p.commit(short, 2); err != api.ErrPower {
			t.Errorf("read-only, without power: Commit of a short record = %v", err)
		}
		p.commits(2, api.ErrPower)
	})
	p.is(-1, 0, false, 0, 1, 2, 3)
}

func TestGenerationsAtTheirEdges(t *testing.T) {
	gens := []uint64{0, 1, 2, 255, 256, math.MaxUint32, 1 << 32, 1<<63 - 1, 1 << 63, math.MaxUint64 - 1, math.MaxUint64}
	for _, g := range fewGeometries() {
		for _, gen := range gens {
			p := opened(t, fmt.Sprintf("generation %d", gen), g)
			p.commits(gen, api.OK)
			p.is(0, gen, false)
			p.finds(gen)
			p.is(0, gen, false)
		}
	}
	// One that is not greater is written all the same: what was there is destroyed.
	for _, was := range gens {
		for _, gen := range gens {
			p := opened(t, fmt.Sprintf("%d behind %d", gen, was), theGeometry)
			p.commits(was, api.OK)
			p.does("p1.0 p1.1 p1.2 p1.2 e0", func() { p.commits(gen, api.OK) })
			p.is(1, gen, false)
			p.finds(gen)
			p.is(1, gen, false)
		}
	}
}

// Till what was there is destroyed, the one of the greater generation is found; of two of one generation the first.
func TestAGenerationThatIsNotGreater(t *testing.T) {
	for _, gen := range []uint64{4, 5, 6} {
		for current := range keyCount {
			ahead := geometry.Chunks(theGeometry) + 1
			p := newPair(t, fmt.Sprintf("%d behind 5, from %d", gen, current), theGeometry, crash(ahead+1+ahead, 0))
			p.lay(current, all(5, recordBytes), 5, true)
			p.open()
			next := (current + 1) % keyCount
			if err := p.commit(all(77, recordBytes), gen); err != api.ErrPower {
				t.Fatalf("%v", err)
			}
			p.is(next, gen, false)
			p.power(true)
			p.open()
			found := current
			if gen > 5 || gen == 5 && next < current {
				found = next
			}
			// The first block that is destroyed is the least of those that are not current: the power went there, and it had done nothing.
			p.is(found, max(gen, 5), false)
		}
	}
}

// Round about all blocks, several times: one is written, the one ahead destroyed.
func TestRoundAboutAllBlocks(t *testing.T) {
	for _, g := range fewGeometries() {
		chunks := geometry.Chunks(g)
		p := opened(t, "round about", g)
		for n := range 11 {
			block, gen, ops := n%keyCount, uint64(3*n+1), p.chip.Ops()
			if rec := recordOf(gen); p.commit(rec, gen) != api.OK {
				t.Fatalf("%+v: Commit %d", g, n)
			}
			p.is(block, gen, false)
			want := chunks + 2
			if n == 0 {
				want = chunks + 5
			}
			if got := p.chip.Ops() - ops; got != want {
				t.Errorf("%+v: Commit %d takes %d operations, want %d", g, n, got, want)
			}
			p.nothingElse()
			p.holds(gen)
		}
		for block := range keyCount {
			if n := p.chip.Erases(block); n > 4 {
				t.Errorf("%+v: block %d was erased %d times", g, block, n)
			}
		}
	}
}

func TestWhatStandsOnTheCurrentBlock(t *testing.T) {
	for _, g := range fewGeometries() {
		p := opened(t, "on the block", g)
		p.commits(9, api.OK)
		want, err := chunk.Pages(g, recordOf(9), 9)
		if err != api.OK {
			t.Fatal(err)
		}
		clear(want[len(want)-1][g.Sector+endBytes-markBytes:])
		for len(want) < g.Pages {
			want = append(want, all(255, g.Sector+endBytes))
		}
		if got := p.read(0); !slices.EqualFunc(got, want, bytes.Equal) {
			t.Errorf("%+v: %x, want %x", g, got, want)
		}
	}
}

func TestBlocksThatThereAreNot(t *testing.T) {
	p := opened(t, "bad", theGeometry, fails(0), fails(2), fails(4), fails(6))
	p.commits(1, api.ErrReadOnly)
	for block, want := range map[int]bool{math.MinInt: false, -4: false, -1: false, 0: true, 1: true, 2: true, 3: true, 4: false, 5: false, 6: false, 7: false, 64: false, 1 << 32: false, math.MaxInt: false} {
		if p.box.Bad(block) != want {
			t.Errorf("Bad(%d) = %v", block, p.box.Bad(block))
		}
	}
}

// Data blocks are not the key store's: whatever it does, and whatever fails, they stay as they are.
func TestDataBlocksStay(t *testing.T) {
	for _, g := range fewGeometries() {
		ahead := g.Blocks - keyCount
		p := newPair(t, "data", g, fails(ahead+7, 1), fails(ahead+8, 1), fails(ahead+9, 7), fails(ahead+20))
		for block := keyCount; block < g.Blocks; block++ {
			p.program(block, 0, all(byte(block), g.Sector+endBytes))
		}
		was := p.chip.Image()[keyCount*g.Pages*(g.Sector+endBytes):]
		p.open()
		for gen := range uint64(8) {
			p.commit(recordOf(gen), gen)
			if now := p.chip.Image()[keyCount*g.Pages*(g.Sector+endBytes):]; !bytes.Equal(now, was) {
				t.Fatalf("%+v: data blocks change", g)
			}
		}
	}
}

// What is destroyed, in which order, and what is not.

// In theGeometry a first Commit is e0 p0.0 p0.1 p0.2 p0.2 e1 e2 e3, operations 0 to 7, and a second one p1.0 p1.1 p1.2 p1.2 e0, operations 8 to 12.
func TestAnOperationOfTheFirstCommitFails(t *testing.T) {
	for at, want := range map[int]struct {
		ops     string
		current int
		bad     int
	}{
		0: {"e0! s0 e1 p1.0 p1.1 p1.2 p1.2 e2 e3", 1, 0},
		1: {"e0 p0.0! e0 e1 p1.0 p1.1 p1.2 p1.2 e2 e3", 1, 0},
		2: {"e0 p0.0 p0.1! e0 e1 p1.0 p1.1 p1.2 p1.2 e2 e3", 1, 0},
		3: {"e0 p0.0 p0.1 p0.2! e0 e1 p1.0 p1.1 p1.2 p1.2 e2 e3", 1, 0},
		4: {"e0 p0.0 p0.1 p0.2 p0.2! e0 e1 p1.0 p1.1 p1.2 p1.2 e2 e3", 1, 0},
		5: {"e0 p0.0 p0.1 p0.2 p0.2 e1! s1 e2 e3", 0, 1},
		6: {"e0 p0.0 p0.1 p0.2 p0.2 e1 e2! s2 e3", 0, 2},
		7: {"e0 p0.0 p0.1 p0.2 p0.2 e1 e2 e3! s3", 0, 3},
	} {
		for _, mask := range fewMasks() {
			p := opened(t, fmt.Sprintf("operation %d fails with %x", at, mask), theGeometry, fails(at, mask...))
			p.does(want.ops, func() { p.commits(1, api.OK) })
			p.is(want.current, 1, false, want.bad)
			p.nothingElse()
			p.holds(1)
			p.commits(2, api.OK)
			p.nothingElse()
			p.holds(2)
			if !p.box.Bad(want.bad) {
				t.Errorf("block %d is not bad any more", want.bad)
			}
		}
	}
}

func TestAnOperationOfTheSecondCommitFails(t *testing.T) {
	for at, want := range map[int]struct {
		ops     string
		current int
		bad     int
		next    string
	}{
		8:  {"p1.0! e1 p2.0 p2.1 p2.2 p2.2 e0", 2, 1, "p3.0 p3.1 p3.2 p3.2 e2"},
		9:  {"p1.0 p1.1! e1 p2.0 p2.1 p2.2 p2.2 e0", 2, 1, "p3.0 p3.1 p3.2 p3.2 e2"},
		10: {"p1.0 p1.1 p1.2! e1 p2.0 p2.1 p2.2 p2.2 e0", 2, 1, "p3.0 p3.1 p3.2 p3.2 e2"},
		11: {"p1.0 p1.1 p1.2 p1.2! e1 p2.0 p2.1 p2.2 p2.2 e0", 2, 1, "p3.0 p3.1 p3.2 p3.2 e2"},
		12: {"p1.0 p1.1 p1.2 p1.2 e0! s0", 1, 0, "p2.0 p2.1 p2.2 p2.2 e1"},
	} {
		for _, mask := range fewMasks() {
			p := opened(t, fmt.Sprintf("operation %d fails with %x", at, mask), theGeometry, fails(at, mask...))
			p.commits(1, api.OK)
			p.does(want.ops, func() { p.commits(2, api.OK) })
			p.is(want.current, 2, false, want.bad)
			p.nothingElse()
			p.holds(2)
			// A block that is bad, and clean or scrubbed, is neither tried nor destroyed any more.
			p.does(want.next, func() { p.commits(3, api.OK) })
			p.is(want.current+1, 3, false, want.bad)
		}
	}
}

// An erase fails, and the scrub behind it: the block leaks, till it is erased whole; it stays bad.
func TestABlockThatLeaks(t *testing.T) {
	p := opened(t, "leaks, and is destroyed again at once", theGeometry, fails(0, 1), fails(1, 1))
	p.does("e0! s0! e1 p1.0 p1.1 p1.2 p1.2 e0 e2 e3", func() { p.commits(1, api.OK) })
	p.is(1, 1, false, 0)
	p.does("p2.0 p2.1 p2.2 p2.2 e1", func() { p.commits(2, api.OK) })
	p.does("p3.0 p3.1 p3.2 p3.2 e2", func() { p.commits(3, api.OK) })
	p.does("p1.0 p1.1 p1.2 p1.2 e3", func() { p.commits(4, api.OK) })
	p.is(1, 4, false, 0)

	// The one that was current leaks, again and again, till it is scrubbed whole.
	p = opened(t, "leaks", theGeometry, fails(12, 1), fails(13, 1), fails(18, 2), fails(19, 2), fails(25))
	p.commits(1, api.OK)
	p.does("p1.0 p1.1 p1.2 p1.2 e0! s0!", func() { p.commits(2, api.OK) })
	p.is(1, 2, true, 0)
	p.does("p2.0 p2.1 p2.2 p2.2 e0! s0! e1", func() { p.commits(3, api.OK) })
	p.is(2, 3, true, 0)
	p.does("p3.0 p3.1 p3.2 p3.2 e0! s0 e2", func() { p.commits(4, api.OK) })
	p.is(3, 4, false, 0)
	p.nothingElse()
	p.does("p1.0 p1.1 p1.2 p1.2 e3", func() { p.commits(5, api.OK) })
	p.is(1, 5, false, 0)
	p.nothingElse()

	// Two leak; one of them does not any more, then the other.
	p = opened(t, "two leak", theGeometry, fails(5, 3), fails(6, 3), fails(8, 3), fails(9, 3), fails(16, 3), fails(17, 3))
	p.does("e0 p0.0 p0.1 p0.2 p0.2 e1! s1! e2 e3! s3!", func() { p.commits(1, api.OK) })
	p.is(0, 1, true, 1, 3)
	p.does("p2.0 p2.1 p2.2 p2.2 e0 e1 e3! s3!", func() { p.commits(2, api.OK) })
	p.is(2, 2, true, 1, 3)
	p.does("p0.0 p0.1 p0.2 p0.2 e2 e3", func() { p.commits(3, api.OK) })
	p.is(0, 3, false, 1, 3)
	p.nothingElse()
}

// Each block that is left alone leaks.
func TestEachBlockThatLeaks(t *testing.T) {
	for block := 1; block < keyCount; block++ {
		p := opened(t, fmt.Sprintf("block %d leaks", block), theGeometry, fails(4+block, 3), fails(5+block, 3))
		p.commits(1, api.OK)
		p.is(0, 1, true, block)
	}
	p := opened(t, "block 0 leaks", theGeometry, fails(12, 3), fails(13, 3))
	p.commits(1, api.OK)
	p.commits(2, api.OK)
	p.is(1, 2, true, 0)
}

// A program fails, and the erase behind it, and the scrub behind that.
func TestABlockThatWasTriedLeaks(t *testing.T) {
	for n, written := range []string{"p0.0!", "p0.0 p0.1!", "p0.0 p0.1 p0.2!", "p0.0 p0.1 p0.2 p0.2!"} {
		for _, mask := range fewMasks() {
			p := opened(t, written, theGeometry, fails(1+n, mask...), fails(2+n, mask...), fails(3+n, mask...), fails(9+n, mask...), fails(10+n, mask...))
			p.does("e0 "+written+" e0! s0! e1 p1.0 p1.1 p1.2 p1.2 e0! s0! e2 e3", func() { p.commits(1, api.OK) })
			p.is(1, 1, true, 0)
			p.does("p2.0 p2.1 p2.2 p2.2 e0 e1", func() { p.commits(2, api.OK) })
			p.is(2, 2, false, 0)
			p.nothingElse()
		}
	}
}

// A program fails, and the erase behind it; the scrub is done whole: the block is noughts, and is not touched any more.
func TestABlockThatWasTriedIsScrubbed(t *testing.T) {
	p := opened(t, "scrubbed", theGeometry, fails(2), fails(3, 1))
	p.does("e0 p0.0 p0.1! e0! s0 e1 p1.0 p1.1 p1.2 p1.2 e2 e3", func() { p.commits(1, api.OK) })
	p.is(1, 1, false, 0)
	row := slices.Concat(p.read(0)...)
	if !bytes.Equal(row, all(0, len(row))) {
		t.Errorf("block 0 has %x", row)
	}
	for gen := range uint64(7) {
		p.commits(gen+2, api.OK)
		p.nothingElse()
	}
	if p.chip.Erases(0) != 2 {
		t.Errorf("block 0 was erased %d times", p.chip.Erases(0))
	}
}

// Blocks go bad one by one, till the last one that is left is current: then it stays, and nothing more is done.
func TestTillNoBlockIsLeft(t *testing.T) {
	p := opened(t, "till none is left", theGeometry, fails(8), fails(19), fails(23), fails(29))
	p.commits(1, api.OK)
	p.does("p1.0! e1 p2.0 p2.1 p2.2 p2.2 e0", func() { p.commits(2, api.OK) })
	p.is(2, 2, false, 1)
	p.does("p3.0 p3.1 p3.2 p3.2 e2! s2", func() { p.commits(3, api.OK) })
	p.is(3, 3, false, 1, 2)
	p.does("p0.0 p0.1 p0.2! e0", func() { p.commits(4, api.ErrReadOnly) })
	p.is(3, 3, false, 0, 1, 2)
	p.holds(3)
	p.nothingElse()
	p.does("", func() {
		for gen := range uint64(5) {
			p.commits(gen+3, api.ErrReadOnly)
			p.is(3, 3, false, 0, 1, 2)
			p.holds(3)
		}
	})
	// Found anew, nothing is known to be bad: it can be written again.
	p.finds(3)
	p.is(3, 3, false)
	p.does("e0 p0.0 p0.1 p0.2 p0.2! e0 e1 p1.0 p1.1 p1.2 p1.2 e2 e3", func() {
		p.commits(5, api.OK)
	})
}

// No block is left, and some leak: they are not destroyed again, for nothing is current behind it that was not ahead.
func TestReadOnlyAndLeaking(t *testing.T) {
	p := opened(t, "none, all leak", theGeometry, fails(0, 1), fails(1, 1), fails(2, 1), fails(3, 1), fails(4, 1), fails(5, 1), fails(6, 1), fails(7, 1))
	p.does("e0! s0! e1! s1! e2! s2! e3! s3!", func() { p.commits(1, api.ErrReadOnly) })
	p.is(-1, 0, true, 0, 1, 2, 3)
	p.does("", func() { p.commits(1, api.ErrReadOnly) })
	p.is(-1, 0, true, 0, 1, 2, 3)

	p = opened(t, "one is current, the others leak", theGeometry, fails(5, 1), fails(6, 1), fails(7, 1), fails(8, 1), fails(9, 1), fails(10, 1))
	p.does("e0 p0.0 p0.1 p0.2 p0.2 e1! s1! e2! s2! e3! s3!", func() { p.commits(1, api.OK) })
	p.is(0, 1, true, 1, 2, 3)
	p.does("", func() { p.commits(2, api.ErrReadOnly) })
	p.is(0, 1, true, 1, 2, 3)
	p.holds(1)
}

// A first Commit for which no block is left: each of them is tried, each fails at another operation.
func TestEachBlockFailsOtherwise(t *testing.T) {
	p := opened(t, "otherwise", theGeometry, fails(0), fails(3), fails(6), fails(7), fails(12), fails(13), fails(14, 0x55))
	p.does("e0! s0 e1 p1.0! e1 e2 p2.0! e2! s2 e3 p3.0 p3.1 p3.2! e3! s3!", func() { p.commits(1, api.ErrReadOnly) })
	p.is(-1, 0, true, 0, 1, 2, 3)
	if _, err := p.open(); err != api.ErrBlank {
		t.Errorf("Open: %v", err)
	}
}

// A block that was programmed by another since it was erased may refuse a program: that fails likewise.
func TestBlocksThatAreNotAsTheyWere(t *testing.T) {
	p := opened(t, "programmed since", theGeometry)
	p.commits(1, api.OK)
	p.program(1, 1, all(255, 208+endBytes))
	p.does("e1 p2.0 p2.1 p2.2 p2.2 e0", func() { p.commits(2, api.OK) })
	p.is(2, 2, false, 1)

	p = opened(t, "scrubbed since", theGeometry)
	p.commits(1, api.OK)
	p.scrub(1)
	p.does("e1 p2.0 p2.1 p2.2 p2.2 e0", func() { p.commits(2, api.OK) })
	p.is(2, 2, false, 1)
	p.nothingElse()
}

// Several arrays, and several key stores of one array, know nothing of one another.
func TestKeyStoresAreApart(t *testing.T) {
	p, q := opened(t, "one", theGeometry, fails(0, 1), fails(1, 1), fails(7, 1), fails(8, 1)), opened(t, "other", onePage)
	p.commits(1, api.OK)
	q.is(-1, 0, false)
	q.commits(5, api.OK)
	p.is(1, 1, true, 0)
	q.is(0, 5, false)
	box, rec, err := Open(p.chip)
	if err != api.OK || !bytes.Equal(rec, recordOf(1)) || stateOf(box) != (state{current: 1, gen: 1}) {
		t.Errorf("%+v, %x, %v", stateOf(box), rec, err)
	}
	p.is(1, 1, true, 0)
	p.commits(2, api.OK)
	if stateOf(box) != (state{current: 1, gen: 1}) {
		t.Errorf("%+v", stateOf(box))
	}
}

// The power goes.

// A Commit behind one at which the power went, with power again, and no Open between.
func TestCommitBehindAPowerCut(t *testing.T) {
	ends := map[int]struct {
		first, second string
		current       int
	}{
		0: {"e0*", "e0 p0.0 p0.1 p0.2 p0.2 e1 e2 e3", -1},
		1: {"e0 p0.0*", "e0 p0.0 p0.1 p0.2 p0.2 e1 e2 e3", -1},
		2: {"e0 p0.0 p0.1*", "e0 p0.0 p0.1 p0.2 p0.2 e1 e2 e3", -1},
		3: {"e0 p0.0 p0.1 p0.2*", "e0 p0.0 p0.1 p0.2 p0.2 e1 e2 e3", -1},
		4: {"e0 p0.0 p0.1 p0.2 p0.2*", "e0 p0.0 p0.1 p0.2 p0.2 e1 e2 e3", -1},
		5: {"e0 p0.0 p0.1 p0.2 p0.2 e1*", "e1 p1.0 p1.1 p1.2 p1.2 e0 e2 e3", 0},
		6: {"e0 p0.0 p0.1 p0.2 p0.2 e1 e2*", "p1.0 p1.1 p1.2 p1.2 e0 e2 e3", 0},
		7: {"e0 p0.0 p0.1 p0.2 p0.2 e1 e2 e3*", "p1.0 p1.1 p1.2 p1.2 e0 e3", 0},
	}
	for at, want := range ends {
		for _, mask := range fewMasks() {
			p := opened(t, fmt.Sprintf("the power goes at %d with %x", at, mask), theGeometry, crash(at, mask...))
			p.does(want.first, func() { p.commits(1, api.ErrPower) })
			gen := uint64(0)
			if want.current >= 0 {
				gen = 1
			}
			p.is(want.current, gen, false)
			p.does("", func() { p.commits(2, api.ErrPower) })
			p.is(want.current, gen, false)
			p.power(true)
			p.is(want.current, gen, false)
			p.does(want.second, func() { p.commits(2, api.OK) })
			p.is(want.current+1, 2, false)
			p.nothingElse()
			p.holds(2)
		}
	}
}

// The power goes at what is done behind a failure: nothing more is done, and what is known stays as far as it was told.
func TestThePowerGoesBehindAFailure(t *testing.T) {
	for _, mask := range fewMasks() {
		p := opened(t, "at the scrub", theGeometry, fails(0, mask...), crash(1, mask...))
		p.does("e0! s0*", func() { p.commits(1, api.ErrPower) })
		p.is(-1, 0, false, 0)
		p.power(true)
		// The block is bad, and not leaking: it is let be, till the key store is opened anew.
		p.does("e1 p1.0 p1.1 p1.2 p1.2 e2 e3", func() { p.commits(1, api.OK) })
		p.is(1, 1, false, 0)

		p = opened(t, "at the erase behind a program", theGeometry, fails(2, mask...), crash(3, mask...))
		p.does("e0 p0.0 p0.1! e0*", func() { p.commits(1, api.ErrPower) })
		p.is(-1, 0, false, 0)
		p.power(true)
		p.does("e1 p1.0 p1.1 p1.2 p1.2 e2 e3", func() { p.commits(1, api.OK) })
		p.is(1, 1, false, 0)
		p.finds(1)
		p.does("e2 p2.0 p2.1 p2.2 p2.2 e0 e1 e3", func() { p.commits(2, api.OK) })
		p.nothingElse()

		p = opened(t, "at the scrub behind a program", theGeometry, fails(2, mask...), fails(3, mask...), crash(4, mask...))
		p.does("e0 p0.0 p0.1! e0! s0*", func() { p.commits(1, api.ErrPower) })
		p.is(-1, 0, false, 0)

		p = opened(t, "at the scrub of one that leaks", theGeometry, fails(12, mask...), fails(13, mask...), fails(18, mask...), crash(19, mask...))
		p.commits(1, api.OK)
		p.commits(2, api.OK)
		p.is(1, 2, true, 0)
		p.does("p2.0 p2.1 p2.2 p2.2 e0! s0*", func() { p.commits(3, api.ErrPower) })
		p.is(2, 3, true, 0)
		p.power(true)
		p.does("p3.0 p3.1 p3.2 p3.2 e0 e1 e2", func() { p.commits(4, api.OK) })
		p.is(3, 4, false, 0)
		p.nothingElse()

		p = opened(t, "at the erase of one that leaks", theGeometry, fails(12, mask...), fails(13, mask...), crash(18, mask...))
		p.commits(1, api.OK)
		p.commits(2, api.OK)
		p.does("p2.0 p2.1 p2.2 p2.2 e0*", func() { p.commits(3, api.ErrPower) })
		p.is(2, 3, true, 0)
	}
}

// P20.3

// small are geometries in which all operations of some Commits may be tried.
func small() []api.Geometry {
	return []api.Geometry{theGeometry, onePage, fewGeometries()[2], {Blocks: 7, Pages: 5, Sector: 320, Spare: 0, Wear: 1, Rounds: 1}}
}

// opsOf is how many operations so many Commits take, of which none fails.
func opsOf(g api.Geometry, commits int) int {
	chunks := geometry.Chunks(g)
	if commits == 0 {
		return 0
	}
	return chunks + 5 + (commits-1)*(chunks+2)
}

// survives asks that an Open finds the one record or, if it may, the other; of generation 0, none. It answers which.
func (p *pair) survives(was, wrote uint64) uint64 {
	p.t.Helper()
	p.power(true)
	rec, err := p.open()
	gen := p.box.Gen()
	switch {
	case gen == 0 && was == 0 && err == api.ErrBlank && len(rec) == 0:
	case gen != 0 && (gen == was || gen == wrote) && err == api.OK && bytes.Equal(rec, recordOf(gen)):
	default:
		p.t.Fatalf("%s: Open finds %x of generation %d, %v, want %d or %d, behind %s", p.name, rec, gen, err, was, wrote, told(p.wantChip.ops))
	}
	return gen
}

// The power goes at each operation of a Commit, the first one and others, round about all blocks.
func TestThePowerGoesAtEachOperation(t *testing.T) {
	t.Parallel()
	for _, g := range small() {
		for ahead := range 6 {
			start, end := opsOf(g, ahead), opsOf(g, ahead+1)
			mark := start + geometry.Chunks(g)
			if ahead == 0 {
				mark++
			}
			for at := start; at < end; at++ {
				for _, mask := range fewMasks() {
					p := opened(t, fmt.Sprintf("%d Commits ahead, the power goes at %d with %x", ahead, at, mask), g, crash(at, mask...))
					for gen := range ahead {
						p.commits(uint64(gen+1), api.OK)
					}
					was, wrote := uint64(ahead), uint64(ahead+1)
					p.commits(wrote, api.ErrPower)
					found := p.survives(was, wrote)
					isWhole := bytes.Equal(mask, all(255, len(mask)))
					if isNew := at > mark || at == mark && isWhole; isNew != (found == wrote) {
						t.Fatalf("%s: generation %d is found", p.name, found)
					}
					p.commits(wrote+1, api.OK)
					p.nothingElse()
					p.finds(wrote + 1)
				}
			}
		}
	}
}

// Without an operation that is torn: a Commit that was not answered with an error is found, whatever the generation.
func TestWhatWasCommittedIsFound(t *testing.T) {
	source := rand.New(rand.NewSource(2031))
	for _, g := range fewGeometries() {
		p := opened(t, "found", g)
		for range 9 {
			rec, gen := randomBytes(source, recordBytes), source.Uint64()>>source.Intn(64)
			if err := p.commit(rec, gen); err != api.OK {
				t.Fatal(err)
			}
			box, found, err := Open(p.chip)
			if err != api.OK || !bytes.Equal(found, rec) || box.Gen() != gen || box.Current() != p.box.Current() {
				t.Fatalf("%d, %x, %v, want %d, %x", box.Gen(), found, err, gen, rec)
			}
		}
	}
}

// halfScrubbed tells whether a scrub was done half.
func (p *pair) halfScrubbed() bool {
	return slices.ContainsFunc(p.wantChip.ops, func(op nand.Op) bool { return op.Kind == 3 && op.E != api.OK })
}

// failures goes through all ways in which up to so many operations of the last one of some Commits fail, and hands each on, with its plan.
func failures(t *testing.T, g api.Geometry, commits, most int, do func(p *pair, plan []api.Fault)) {
	t.Helper()
	masks := fewMasks()
	var grow func(plan []api.Fault, from int)
	grow = func(plan []api.Fault, from int) {
		p := opened(t, fmt.Sprintf("%d Commits, failing %+v", commits, plan), g, plan...)
		for gen := 1; gen < commits; gen++ {
			p.commits(uint64(gen), api.OK)
		}
		p.commit(recordOf(uint64(commits)), uint64(commits))
		do(p, plan)
		for at := from; at < p.chip.Ops() && len(plan) < most; at++ {
			grow(append(slices.Clone(plan), fails(at, masks[(at+len(plan))%len(masks)]...)), at+1)
		}
	}
	grow(nil, opsOf(g, commits-1))
}

// All ways in which operations may fail, of records of one page; P20.4 and P20.5 are asked of each Commit.
func TestAllFailures(t *testing.T) {
	t.Parallel()
	for commits := 1; commits <= 2; commits++ {
		ends, leaks, most, ways := map[api.Errno]int{}, 0, 0, 0
		failures(t, onePage, commits, api.MaxFaults, func(p *pair, plan []api.Fault) {
			ways++
			most = max(most, p.chip.Ops()-opsOf(onePage, commits-1))
			was, wrote := uint64(commits-1), uint64(commits)
			err := api.ErrReadOnly
			if p.box.Gen() == wrote {
				err = api.OK
			}
			ends[err]++
			if p.box.Leaks() {
				leaks++
			}
			if p.halfScrubbed() {
				return
			}
			found := p.survives(was, wrote)
			if (found == wrote) != (err == api.OK) {
				t.Fatalf("%s: generation %d is found behind %v", p.name, found, err)
			}
		})
		if ends[api.OK] < 100 || ends[api.ErrReadOnly] < 100 || leaks < 100 {
			t.Errorf("%d ways, %v, %d leak", ways, ends, leaks)
		}
		// At the most each block is tried, and leaks behind its last program; no more than that may be done.
		tried := [...]int{4, 3}[commits-1]
		if bound := 8 * (1 + 6); most > bound || most < tried*5 {
			t.Errorf("%d operations at the most", most)
		}
	}
}

// Up to three operations fail, wherever they are, and the power goes at each one behind.
func TestThePowerGoesBehindFailures(t *testing.T) {
	t.Parallel()
	masks := fewMasks()
	for _, g := range []api.Geometry{theGeometry, onePage} {
		for commits := 1; commits <= 3; commits++ {
			torn := 0
			failures(t, g, commits, 3, func(p *pair, plan []api.Fault) {
				from := opsOf(g, commits-1)
				if len(plan) > 0 {
					from = plan[len(plan)-1].At + 1
				}
				for at := from; at < p.chip.Ops(); at++ {
					torn++
					checkCut(t, g, commits, append(slices.Clone(plan), crash(at, masks[torn%len(masks)]...)))
				}
			})
			if torn < 50 {
				t.Errorf("%+v: the power went %d times", g, torn)
			}
		}
	}
}

// checkCut asks what is found, if the power goes in the last one of some Commits, and that it can be written anew.
func checkCut(t *testing.T, g api.Geometry, commits int, plan []api.Fault) {
	t.Helper()
	p := opened(t, fmt.Sprintf("%d Commits, %+v", commits, plan), g, plan...)
	for gen := 1; gen < commits; gen++ {
		p.commits(uint64(gen), api.OK)
	}
	p.commits(uint64(commits), api.ErrPower)
	if p.halfScrubbed() {
		return
	}
	p.survives(uint64(commits-1), uint64(commits))
	p.commits(uint64(commits+1), api.OK)
	p.finds(uint64(commits + 1))
}

// Commits one behind the other, with faults drawn at random, the key store opened anew whenever the power went: what is found is the record that was, or the one that was written.
func TestWhatIsFoundAtRandom(t *testing.T) {
	t.Parallel()
	source := rand.New(rand.NewSource(2032))
	newer, older, half := 0, 0, 0
	for range 1500 {
		g := small()[source.Intn(4)]
		p := opened(t, "found at random", g, randomPlan(source, 8, 80)...)
		gen := uint64(0)
		for range 8 {
			wrote := gen + 1 + uint64(source.Intn(3))
			err := p.commit(recordOf(wrote), wrote)
			if p.halfScrubbed() {
				half++
				break
			}
			if err == api.OK {
				p.holds(wrote)
				gen = wrote
				continue
			}
			found := p.survives(gen, wrote)
			if found == wrote {
				newer++
			} else {
				older++
			}
			if err == api.ErrReadOnly && found != gen {
				t.Fatalf("generation %d is found behind ErrReadOnly", found)
			}
			gen = found
		}
	}
	if newer < 50 || older < 100 || half < 100 {
		t.Errorf("%d newer, %d older, %d half scrubbed", newer, older, half)
	}
}

// randomPlan is some faults among the first operations, mostly one close behind the other, so that what is done behind a failure fails, too.
func randomPlan(source *rand.Rand, most, ops int) []api.Fault {
	plan, at := []api.Fault{}, source.Intn(ops)
	for range source.Intn(most + 1) {
		if source.Intn(3) == 0 {
			at = source.Intn(ops)
		}
		plan = append(plan, api.Fault{At: at, Crash: source.Intn(4) == 0, Mask: randomMask(source)})
		at += 1 + source.Intn(2)*source.Intn(3)
	}
	return plan
}

func randomMask(source *rand.Rand) []byte {
	switch source.Intn(4) {
	case 0:
		return fewMasks()[source.Intn(len(fewMasks()))]
	case 1:
		return []byte{1 << source.Intn(8), 0, 0, 0, 0}
	}
	return randomBytes(source, source.Intn(65))
}

// A scrub that is done half only clears, and may so commit what was not: it is found then, as the array's bytes say.
func TestAScrubThatIsDoneHalf(t *testing.T) {
	// A page has 712 bytes: the last bit of its mark is cleared, and no bit of its head that is not nought.
	mask := make([]byte, 64)
	mask[711%64] = 0x80
	want := recordOf(2)
	for i := 711 % 64; i < recordBytes; i += 64 {
		want[i] &= 0x7f
	}
	p := opened(t, "half done", onePage, fails(7), fails(8, 0), crash(9, mask...))
	p.commits(1, api.OK)
	p.does("p1.0 p1.0! e1! s1*", func() { p.commits(2, api.ErrPower) })
	p.is(0, 1, false, 1)
	p.power(true)
	if rec, err := p.open(); err != api.OK || !bytes.Equal(rec, want) {
		t.Errorf("%x, %v, want %x", rec, err, want)
	}
	p.is(1, 2, false)
	// Without the scrub the record that was is found.
	p = opened(t, "not begun", onePage, fails(7), crash(8, 0))
	p.commits(1, api.OK)
	p.does("p1.0 p1.0! e1*", func() { p.commits(2, api.ErrPower) })
	p.power(true)
	p.finds(1)
}

// P20.4

// Blocks that had records, or parts of them, when the key store was found are destroyed by the next Commit, whichever was current.
func TestWhatWasThereIsDestroyed(t *testing.T) {
	source := rand.New(rand.NewSource(2041))
	for _, g := range fewGeometries() {
		for range 12 {
			p := newPair(t, "what was there", g)
			for block := range keyCount {
				switch source.Intn(4) {
				case 0:
					p.program(block, 0, randomBytes(source, g.Sector+endBytes))
					p.program(block, g.Pages-1, randomBytes(source, g.Sector+endBytes))
				case 1:
					p.lay(block, recordOf(uint64(block)), uint64(source.Intn(4)), false)
				case 2:
					p.lay(block, recordOf(uint64(block)), uint64(source.Intn(4)), true)
				}
			}
			p.open()
			p.commits(9, api.OK)
			p.nothingElse()
			p.finds(9)
		}
	}
}

// Nothing of a record is left behind the next Commit: two arrays that had other records are the same, byte by byte.
func TestNothingHangsOnWhatWas(t *testing.T) {
	source := rand.New(rand.NewSource(2042))
	same, answers := 0, map[api.Errno]int{}
	for range 400 {
		// A program that fails leaves something that hangs on its bytes, but not whether it fails.
		plan := randomPlan(source, 4, 30)
		for i := range plan {
			plan[i].Crash = false
		}
		one, other := opened(t, "one", theGeometry, plan...), opened(t, "other", theGeometry, plan...)
		for gen := range uint64(4) {
			err := one.commit(randomBytes(source, recordBytes), gen)
			if got := other.commit(randomBytes(source, recordBytes), gen); got != err {
				t.Fatalf("%v and %v", err, got)
			}
			answers[err]++
			if err := one.commit(recordOf(gen), gen); err != api.OK || one.box.Leaks() {
				other.commit(recordOf(gen), gen)
				continue
			}
			other.commits(gen, api.OK)
			if !bytes.Equal(one.chip.Image(), other.chip.Image()) {
				t.Fatalf("the arrays differ, behind %s", told(one.wantChip.ops))
			}
			same++
		}
	}
	if same < 1000 || answers[api.ErrReadOnly] < 5 {
		t.Errorf("%d the same, %v", same, answers)
	}
}

// P20.5

// The most that may be done: each block is tried, its last program fails, and so do the erase and the scrub behind it.
func TestTheMostOperations(t *testing.T) {
	for _, g := range fewGeometries() {
		chunks := geometry.Chunks(g)
		bound := 8 * (chunks + 6)
		for current := -1; current < keyCount; current++ {
			ahead, plan := 0, []api.Fault{}
			if current >= 0 {
				ahead = chunks + 1
			}
			tries := keyCount - 1
			// An erase, the pages and the mark, an erase and a scrub.
			for n := range tries {
				last := ahead + (n+1)*(chunks+4) - 1
				plan = append(plan, fails(last-2, 1), fails(last-1, 1), fails(last, 1))
			}
			if current < 0 {
				// The fourth one is written; then those that leak are destroyed again, in vain.
				from := tries*(chunks+4) + chunks + 2
				for at := from; at < from+2*tries; at++ {
					plan = append(plan, fails(at, 1))
				}
			}
			p := newPair(t, fmt.Sprintf("current %d", current), g, plan...)
			want, answer := tries*(chunks+4), api.ErrReadOnly
			if current >= 0 {
				p.lay(current, recordOf(1), 1, true)
			} else {
				want, answer = want+chunks+2+2*tries, api.OK
			}
			p.open()
			n := p.chip.Ops()
			p.commits(2, answer)
			if got := p.chip.Ops() - n; got != want || got > bound {
				t.Errorf("%+v, current %d: %d operations, want %d, at the most %d: %s", g, current, got, want, bound, p.since(n))
			}
			if !p.box.Leaks() {
				t.Errorf("%+v, current %d: nothing leaks", g, current)
			}
		}
	}
}

// What is handed in, and what is handed back.

// within is b in the midst of other bytes, with room behind it, and what tells whether any of all that was changed.
func within(b []byte) ([]byte, func() bool) {
	row := slices.Concat(all(0x5a, 40), b, all(0xa5, 5000))
	was := slices.Clone(row)
	return row[40 : 40+len(b)], func() bool { return bytes.Equal(row, was) }
}

// spoil changes all of a list's memory, the room behind it too.
func spoil(b []byte) {
	b = b[:cap(b)]
	for i := range b {
		b[i] ^= 0x99
	}
}

func TestNothingHandedInIsChangedOrKept(t *testing.T) {
	for _, g := range fewGeometries() {
		p := opened(t, "handed in", g, fails(2, 1), fails(6))
		for gen := range uint64(6) {
			for _, n := range []int{0, recordBytes - 1, recordBytes + 1, recordBytes} {
				rec, same := within(slices.Concat(recordOf(gen), all(1, 9))[:n])
				p.commit(rec, gen)
				if !same() {
					t.Fatalf("%+v: a record of %d bytes is changed, or what is beside it", g, n)
				}
				image := p.chip.Image()
				spoil(rec)
				if !bytes.Equal(p.chip.Image(), image) {
					t.Fatalf("%+v: the array changes with the record that was handed in", g)
				}
				p.check("Commit")
			}
			p.holds(gen)
		}
	}
}

func TestAnswersAreNewMemory(t *testing.T) {
	for _, g := range fewGeometries() {
		p := opened(t, "handed back", g)
		p.commits(3, api.OK)
		first, one, err := Open(p.chip)
		if err != api.OK {
			t.Fatal(err)
		}
		second, other, err := Open(p.chip)
		if err != api.OK || first == second || first == p.box {
			t.Errorf("%+v: one key store is handed back twice: %v", g, err)
		}
		image := p.chip.Image()
		spoil(one)
		_ = append(one, all(7, 500)...)
		if !bytes.Equal(other, recordOf(3)) || !bytes.Equal(p.chip.Image(), image) {
			t.Errorf("%+v: a record changes with another one, or the array does", g)
		}
		p.holds(3)
		// The key store that was handed back with it is not changed either.
		if err := first.Commit(recordOf(4), 4); err != api.OK || first.Current() != 1 || first.Gen() != 4 {
			t.Errorf("%+v: %v, %d, %d", g, err, first.Current(), first.Gen())
		}
		if second.Current() != 0 || second.Gen() != 3 {
			t.Errorf("%+v: one key store changes with another one", g)
		}
	}
}

// What is asked changes nothing, and is answered likewise again.
func TestAskedAgain(t *testing.T) {
	p := opened(t, "asked", theGeometry, fails(0, 1), fails(1, 1), fails(7, 1), fails(8, 1))
	p.commits(1, api.OK)
	p.does("", func() {
		for range 3 {
			p.is(1, 1, true, 0)
			p.check("asking")
		}
		p.power(false)
		p.is(1, 1, true, 0)
	})
}

// The whole, at random.

// Records, faults and Commits, with power that goes and comes, key stores that are opened anew or not, and arrays that are changed past them.
func TestAtRandom(t *testing.T) {
	t.Parallel()
	source := rand.New(rand.NewSource(2051))
	answers, bads, leaks := map[api.Errno]int{}, [keyCount + 1]int{}, 0
	for range 1200 {
		g := randomGeometry(source)
		p := opened(t, "at random", g, randomPlan(source, 24, 120)...)
		for range 14 {
			answers[p.randomStep(source)]++
			bad := 0
			for block := range keyCount {
				if p.box.Bad(block) {
					bad++
				}
			}
			bads[bad]++
			if p.box.Leaks() {
				leaks++
			}
		}
	}
	for _, err := range []api.Errno{api.OK, api.ErrPower, api.ErrShape, api.ErrReadOnly} {
		if answers[err] < 100 {
			t.Errorf("%v is answered %d times", err, answers[err])
		}
	}
	if slices.Min(bads[:]) < 30 || leaks < 200 {
		t.Errorf("%v bad, %d leak", bads, leaks)
	}
}

// randomGeometry is right, and small mostly.
func randomGeometry(source *rand.Rand) api.Geometry {
	for {
		g := api.Geometry{
			Blocks: 7 + source.Intn(3),
			Pages:  4 + source.Intn(1+source.Intn(20)),
			Sector: 16 * (2 + source.Intn(1+source.Intn(48))),
			Spare:  0,
			Wear:   1 + source.Intn(1000),
			Rounds: 1 + source.Intn(1000),
		}
		if geometry.Check(g) == api.OK {
			return g
		}
	}
}

// randomStep commits something mostly, and answers what came of it.
func (p *pair) randomStep(source *rand.Rand) api.Errno {
	p.t.Helper()
	g := p.wantChip.g
	if !p.wantChip.on && source.Intn(4) > 0 {
		p.power(true)
		if source.Intn(2) == 0 {
			p.open()
		}
	}
	block := source.Intn(keyCount)
	switch source.Intn(30) {
	case 0:
		p.power(false)
	case 1:
		p.poke(block, source.Intn(g.Pages), source.Intn(g.Sector+endBytes), byte(source.Intn(256)))
	case 2:
		p.program(block, source.Intn(g.Pages), randomBytes(source, g.Sector+endBytes))
	case 3:
		p.erase(block)
	case 4:
		p.scrub(block)
	case 5:
		if p.wantChip.on {
			p.open()
		}
	}
	rec := randomBytes(source, recordBytes)
	if source.Intn(12) == 0 {
		rec = [][]byte{nil, {}, rec[1:], append(rec, 1), rec[:source.Intn(recordBytes)]}[source.Intn(5)]
	}
	// What was done past the key store it does not know: P20.4 is not asked of it then.
	p.cut = true
	return p.commit(rec, randomGen(source, p.box.Gen()))
}

// randomGen is one behind another mostly, or anywhere.
func randomGen(source *rand.Rand, gen uint64) uint64 {
	switch source.Intn(8) {
	case 0:
		return gen
	case 1:
		return gen - 1
	case 2:
		return source.Uint64() >> source.Intn(64)
	}
	return gen + 1 + uint64(source.Intn(2))
}
