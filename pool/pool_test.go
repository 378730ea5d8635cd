package pool

import (
	"bytes"
	"fmt"
	"math"
	"math/rand"
	"slices"
	"testing"

	"nepenthe/api"
	"nepenthe/ledger"
	"nepenthe/nand"
	"nepenthe/page"
	"nepenthe/scan"
	"nepenthe/slot"
)

// P24.1

func TestNewAsksForLengths(t *testing.T) {
	for _, g := range fewGeometries() {
		chip, _ := nand.New(g, nil)
		data := g.Blocks - keyCount
		for n := range 65 {
			for _, orders := range []int{0, 1, data - 1, data, data + 1, g.Blocks, 64, 65} {
				want := api.ErrShape
				if n == data && orders == data {
					want = api.OK
				}
				l := newLedger(t, n)
				p, err := New(chip, l, make([]api.Head, orders))
				if err != want || (p == nil) != (want != api.OK) {
					t.Fatalf("%+v: New with a ledger of %d and %d orders = %v, %v, want %v", g, n, orders, p, err, want)
				}
				if p, err := New(nil, l, make([]api.Head, orders)); p != nil || err != api.ErrShape {
					t.Fatalf("New of no array, a ledger of %d and %d orders = %v, %v", n, orders, p, err)
				}
			}
		}
		for _, orders := range [][]api.Head{nil, {}, make([]api.Head, data)} {
			if p, err := New(chip, nil, orders); p != nil || err != api.ErrShape {
				t.Fatalf("%+v: New without a ledger = %v, %v", g, p, err)
			}
		}
		if p, err := New(chip, newLedger(t, data), nil); p != nil || err != api.ErrShape {
			t.Fatalf("%+v: New without orders = %v, %v", g, p, err)
		}
		if chip.Ops() != 0 {
			t.Fatalf("%+v: New took operations", g)
		}
	}
}

// An array that New did not make has no data blocks: a pool of it has none, and so none to open.
func TestNewOfAnArrayThatIsNone(t *testing.T) {
	for _, on := range []bool{false, true} {
		for n := range 4 {
			chip := &nand.Chip{}
			chip.Power(on)
			p, err := New(chip, newLedger(t, n), make([]api.Head, n))
			if n > 0 {
				if p != nil || err != api.ErrShape {
					t.Errorf("New with %d blocks = %v, %v", n, p, err)
				}
				continue
			}
			if p == nil || err != api.OK {
				t.Fatalf("New without blocks = %v, %v", p, err)
			}
			refusesAll(t, p, on)
		}
		chip := &nand.Chip{}
		chip.Power(on)
		p, err := New(chip, nil, nil)
		if p == nil || err != api.OK || p.Ledger() != nil {
			t.Fatalf("New without blocks and a ledger = %v, %v", p, err)
		}
		refusesAll(t, p, on)
	}
}

// refusesAll asks a pool that has no blocks for all that it does.
func refusesAll(t *testing.T, p *Pool, on bool) {
	t.Helper()
	want := api.ErrPower
	if on {
		want = api.ErrFull
	}
	for ns := range slotCount {
		if b, err := p.Open(ns, orderOf(1)); b != 0 || err != want {
			t.Errorf("Open(%d) = %d, %v, want %v", ns, b, err, want)
		}
		if b, err := p.Begin(ns, orderOf(1)); b != 0 || err != want {
			t.Errorf("Begin(%d) = %d, %v, want %v", ns, b, err, want)
		}
	}
	hasNoBlocks(t, p)
}

// hasNoBlocks asks a pool that has no blocks, or is none, for what it does with one.
func hasNoBlocks(t *testing.T, p *Pool) {
	t.Helper()
	for _, b := range []int{math.MinInt, -1, 0, 1, 3, math.MaxInt} {
		if h := p.Order(b); h != (api.Head{}) {
			t.Errorf("Order(%d) = %+v", b, h)
		}
		for call, err := range map[string]api.Errno{
			"Destroy":       p.Destroy(b),
			"Seal":          p.Seal(b),
			"Write":         p.Write(b, 1, dataHead(1, 2), nil, nil),
			"Copy":          p.Copy(b, 1, api.Place{}),
			"Copy of place": p.Copy(b, 1, api.Place{Block: 4, Page: 1}),
		} {
			if err != api.ErrShape {
				t.Errorf("%s(%d) = %v", call, b, err)
			}
		}
	}
	for _, ns := range []int{math.MinInt, -2, -1, 4, 5, math.MaxInt} {
		if b, err := p.Open(ns, orderOf(1)); b != 0 || err != api.ErrShape {
			t.Errorf("Open(%d) = %d, %v", ns, b, err)
		}
		if b, err := p.Begin(ns, orderOf(1)); b != 0 || err != api.ErrShape {
			t.Errorf("Begin(%d) = %d, %v", ns, b, err)
		}
	}
	if at := p.Place(2, 3); at != (api.Place{Block: 6, Page: 3}) {
		t.Errorf("Place(2, 3) = %+v", at)
	}
}

// A nil pool, and one that New did not make, err in all, and have no ledger.
func TestNilPool(t *testing.T) {
	for _, p := range []*Pool{nil, {}} {
		if p.Ledger() != nil {
			t.Errorf("Ledger() = %v", p.Ledger())
		}
		for ns := range slotCount {
			if b, err := p.Open(ns, orderOf(1)); b != 0 || err != api.ErrShape {
				t.Errorf("Open(%d) = %d, %v", ns, b, err)
			}
			if b, err := p.Begin(ns, orderOf(1)); b != 0 || err != api.ErrShape {
				t.Errorf("Begin(%d) = %d, %v", ns, b, err)
			}
		}
		hasNoBlocks(t, p)
	}
}

// Power is asked for by what is done, not by New.
func TestNewWithoutPower(t *testing.T) {
	for _, g := range fewGeometries() {
		p := newPair(t, "without power", g)
		p.power(false)
		orders := make([]api.Head, p.want.blocks())
		orders[2] = orderOf(7)
		p.make(orders)
		p.errs("Destroy", p.destroy(0), api.ErrPower)
		p.power(true)
		p.errs("Destroy", p.destroy(0), api.OK)
	}
}

// What is done to the ledger is known to the pool, and the other way round.
func TestLedgerIsKept(t *testing.T) {
	p := newPair(t, "the ledger", theGeometry)
	if p.pool.Ledger() != p.ledger {
		t.Fatal("Ledger() is another one")
	}
	p.ledger.Hold(0, 3)
	p.want.of[0] = ledger.Block{Owner: 3, Held: true}
	p.ledger.Failed(1)
	p.want.of[1].Bad = true
	p.does("e2 p2.0 p2.0", func() { p.opens(1, orderOf(1), 2) })
	p.ledger.Release(0)
	p.want.of[0].Held = false
	p.does("e0 p0.0 p0.0", func() { p.opens(2, orderOf(2), 0) })
	if x := p.ledger.At(0); !x.Held || x.Owner != 2 || x.Erases != 1 {
		t.Errorf("the ledger knows %+v", x)
	}
	other, err := New(p.chip, p.ledger, make([]api.Head, 3))
	if err != api.OK || other.Ledger() != p.ledger {
		t.Errorf("a second pool: %v, %v", other, err)
	}
	// A second pool of the ledger has orders of its own.
	if other.Order(0) != (api.Head{}) || p.pool.Order(0) == (api.Head{}) {
		t.Errorf("orders: %+v, %+v", other.Order(0), p.pool.Order(0))
	}
}

func TestOrdersAreACopy(t *testing.T) {
	for _, g := range fewGeometries() {
		p := newPair(t, "orders", g)
		n := p.want.blocks()
		row := make([]api.Head, n+2)
		for i := range row {
			row[i] = api.Head{Kind: i, Ns: -i, Count: 1000, Lba: uint32(i), Epoch: math.MaxUint64, Counter: uint64(i)}
		}
		was := slices.Clone(row)
		p.make(row[:n])
		for b := range n {
			if p.pool.Order(b) != was[b] {
				t.Fatalf("Order(%d) = %+v, want %+v", b, p.pool.Order(b), was[b])
			}
		}
		for b := range n {
			p.opens(b%slotCount, orderOf(b), b)
		}
		if !slices.Equal(row, was) {
			t.Fatalf("the orders that were handed in are changed: %+v", row)
		}
		clear(row)
		p.check("clear")
	}
}

func TestOrderOfBlocksThatThereAreNot(t *testing.T) {
	for _, g := range fewGeometries() {
		p := newPair(t, "orders", g)
		n := p.want.blocks()
		orders := make([]api.Head, n)
		for b := range orders {
			orders[b] = orderOf(b + 1)
		}
		p.make(orders)
		for _, b := range []int{math.MinInt, -5, -4, -1, n, n + 1, n + 4, 64, math.MaxInt} {
			if h := p.pool.Order(b); h != (api.Head{}) {
				t.Errorf("Order(%d) = %+v", b, h)
			}
		}
	}
}

func TestPlace(t *testing.T) {
	for _, p := range []*Pool{nil, {}, newPair(t, "places", theGeometry).pool} {
		for _, b := range []int{-5, -4, -1, 0, 1, 2, 3, 60, math.MaxInt - 4, math.MinInt} {
			for _, n := range []int{math.MinInt, -1, 0, 1, 3, 4, math.MaxInt} {
				if at := p.Place(b, n); at != (api.Place{Block: 4 + b, Page: n}) {
					t.Errorf("Place(%d, %d) = %+v", b, n, at)
				}
			}
		}
	}
}

// P24.2

// aState is what a ledger may know of a block.
type aState struct {
	name string
	is   ledger.Block
}

func fewStates() []aState {
	return []aState{
		{"unknown", ledger.Block{Owner: -1, Erases: 3}},
		{"nobody's", ledger.Block{Owner: -2, Erases: 4}},
		{"clean", ledger.Block{Owner: -2, Erases: 5, Clean: true}},
		{"released", ledger.Block{Owner: 2, Used: 3, Erases: 1}},
		{"held", ledger.Block{Owner: 3, Used: 3, Live: 2, Erases: 9, Held: true}},
		{"held and clean", ledger.Block{Owner: 0, Used: 1, Live: 1, Held: true, Clean: true}},
		{"bad", ledger.Block{Owner: 1, Used: 2, Erases: 6, Bad: true}},
		{"bad and held", ledger.Block{Owner: 1, Used: 2, Live: 1, Erases: 6, Held: true, Bad: true}},
		{"bad and clean", ledger.Block{Owner: -2, Erases: 7, Clean: true, Bad: true}},
		{"gone", ledger.Block{Owner: 0, Used: 1, Erases: 2, Bad: true, Gone: true}},
		{"leaking", ledger.Block{Owner: -1, Used: 1, Erases: 2, Bad: true, Leak: true}},
		{"leaking, not bad", ledger.Block{Owner: 2, Erases: 2, Leak: true}},
	}
}

func TestDestroyWhole(t *testing.T) {
	for _, s := range fewStates() {
		for b := range 3 {
			p := newPair(t, s.name, theGeometry)
			p.fill()
			p.set(b, s.is)
			p.does(fmt.Sprintf("e%d", b), func() { p.errs("Destroy", p.destroy(b), api.OK) })
			p.knows(b, ledger.Block{Owner: -2, Erases: s.is.Erases + 1, Clean: true, Bad: s.is.Bad})
			p.does(fmt.Sprintf("e%d", b), func() { p.errs("Destroy again", p.destroy(b), api.OK) })
			p.knows(b, ledger.Block{Owner: -2, Erases: s.is.Erases + 2, Clean: true, Bad: s.is.Bad})
		}
	}
}

// fill writes each page of each data block.
func (p *pair) fill() {
	p.t.Helper()
	g := p.want.c.g
	for b := range p.want.blocks() {
		for n := range g.Pages {
			h, payload, tag := dataHead(b%slotCount, uint32(n)), payloadOf(g, b+n), tagOf(b-n)
			p.errs("Write", p.pool.Write(b, n, h, payload, tag), p.want.write(b, n, h, payload, tag))
		}
	}
	p.check("fill")
}

// filled is how many operations fill takes.
func filled(g api.Geometry) int {
	return 2 * g.Pages * (g.Blocks - keyCount)
}

func TestDestroyScrubs(t *testing.T) {
	from := filled(theGeometry)
	for _, s := range fewStates() {
		for _, mask := range fewMasks() {
			for b := range 3 {
				p := newPair(t, s.name, theGeometry, fails(from, mask...))
				p.fill()
				p.set(b, s.is)
				p.does(fmt.Sprintf("e%d! s%d", b, b), func() { p.errs("Destroy", p.destroy(b), api.ErrFail) })
				want := s.is
				want.Bad, want.Clean, want.Held, want.Gone, want.Leak = true, false, false, true, false
				p.knows(b, want)
				// It is bad for good, but may be erased still.
				p.does(fmt.Sprintf("e%d", b), func() { p.errs("Destroy again", p.destroy(b), api.OK) })
				p.knows(b, ledger.Block{Owner: -2, Erases: s.is.Erases + 1, Clean: true, Bad: true})
			}
		}
	}
}

func TestDestroyInVain(t *testing.T) {
	from := filled(theGeometry)
	for _, s := range fewStates() {
		for _, mask := range fewMasks() {
			p := newPair(t, s.name, theGeometry, fails(from, mask...), fails(from+1, mask...), fails(from+2, 1), fails(from+3, 2), fails(from+4, 3))
			p.fill()
			p.set(1, s.is)
			p.does("e1! s1!", func() { p.errs("Destroy", p.destroy(1), api.ErrSanitize) })
			want := s.is
			want.Bad, want.Clean, want.Held, want.Gone, want.Leak = true, false, false, false, true
			p.knows(1, want)
			p.does("e1! s1!", func() { p.errs("Destroy again", p.destroy(1), api.ErrSanitize) })
			p.knows(1, want)
			p.does("e1! s1", func() { p.errs("Destroy a third time", p.destroy(1), api.ErrFail) })
			want.Gone, want.Leak = true, false
			p.knows(1, want)
		}
	}
}

// At an erase by which the power goes nothing more is known; at a scrub the block is bad already.
func TestDestroyCrashes(t *testing.T) {
	from := filled(theGeometry)
	for _, s := range fewStates() {
		for _, mask := range fewMasks() {
			p := newPair(t, s.name, theGeometry, crash(from, mask...), fails(from+1, mask...), crash(from+2, mask...))
			p.fill()
			p.set(2, s.is)
			p.does("e2*", func() { p.errs("Destroy", p.destroy(2), api.ErrPower) })
			p.knows(2, s.is)
			p.does("", func() { p.errs("Destroy without power", p.destroy(2), api.ErrPower) })
			p.knows(2, s.is)
			p.power(true)
			p.does("e2! s2*", func() { p.errs("Destroy", p.destroy(2), api.ErrPower) })
			want := s.is
			want.Bad = true
			p.knows(2, want)
			p.power(true)
			p.does("e2", func() { p.errs("Destroy", p.destroy(2), api.OK) })
			p.knows(2, ledger.Block{Owner: -2, Erases: s.is.Erases + 1, Clean: true, Bad: true})
		}
	}
}

func TestDestroyOfBlocksThatThereAreNot(t *testing.T) {
	for _, g := range fewGeometries() {
		p := newPair(t, "blocks", g)
		n := p.want.blocks()
		p.does(fmt.Sprintf("e0 e%d", n-1), func() {
			p.errs("Destroy of the first one", p.destroy(0), api.OK)
			p.errs("Destroy of the last one", p.destroy(n-1), api.OK)
		})
		for _, on := range []bool{true, false} {
			p.power(on)
			for _, b := range []int{math.MinInt, -5, -4, -1, n, n + 1, n + 4, math.MaxInt - 4, math.MaxInt} {
				p.does("", func() {
					p.errs("Destroy", p.destroy(b), api.ErrShape)
					p.errs("Seal", p.seal(b), api.ErrShape)
					p.errs("Write", p.write(b, 1, dataHead(1, 2), nil, nil), api.ErrShape)
					p.errs("Copy", p.copy(b, 1, api.Place{}), api.ErrShape)
				})
			}
		}
	}
}

// What is destroyed has its order still: it is the ledger that knows that nothing is there.
func TestDestroyKeepsOrders(t *testing.T) {
	p := newPair(t, "orders", theGeometry, fails(4))
	p.opens(3, orderOf(1), 0)
	want := api.Head{Kind: kindOfHead, Ns: 3, Lba: 1, Epoch: orderOf(1).Epoch, Counter: orderOf(1).Counter}
	for _, err := range []api.Errno{api.OK, api.ErrFail, api.OK} {
		p.errs("Destroy", p.destroy(0), err)
		if h := p.pool.Order(0); h != want {
			t.Errorf("Order(0) = %+v, want %+v", h, want)
		}
	}
}

// started opens a block, or begins it.
func (p *pair) started(committed bool, ns int, order api.Head) (int, api.Errno) {
	p.t.Helper()
	if committed {
		return p.open(ns, order)
	}
	return p.begin(ns, order)
}

// starts opens a block, or begins it, and asks which one it is.
func (p *pair) starts(committed bool, ns int, order api.Head, want int) {
	p.t.Helper()
	if committed {
		p.opens(ns, order, want)
	} else {
		p.begins(ns, order, want)
	}
}

// full asks that no block is left.
func (p *pair) full(committed bool) {
	p.t.Helper()
	if b, err := p.started(committed, 1, orderOf(1)); b != 0 || err != api.ErrFull {
		p.t.Fatalf("%s: %d, %v, want full, behind %s", p.name, b, err, told(p.want.c.ops))
	}
}

// firstOf is the operations on a block's first page.
func firstOf(b int, committed bool) string {
	if committed {
		return fmt.Sprintf("p%d.0 p%d.0", b, b)
	}
	return fmt.Sprintf("p%d.0", b)
}

// bothWays does something with blocks that are opened, and with blocks that are begun.
func bothWays(t *testing.T, do func(t *testing.T, committed bool)) {
	t.Helper()
	t.Run("open", func(t *testing.T) { do(t, true) })
	t.Run("begin", func(t *testing.T) { do(t, false) })
}

// The chapter's example.
func TestOpenOfThreeBlocks(t *testing.T) {
	p := newPair(t, "the example", theGeometry)
	p.does("e0 p0.0 p0.0", func() { p.opens(2, orderOf(1), 0) })
	p.knows(0, ledger.Block{Owner: 2, Erases: 1, Held: true})
	if p.chip.Ops() != 3 {
		t.Errorf("%d operations", p.chip.Ops())
	}
	b := newPair(t, "the example, begun", theGeometry)
	b.does("e0 p0.0", func() { b.begins(2, orderOf(1), 0) })
	b.knows(0, ledger.Block{Owner: 2, Erases: 1, Held: true})
	b.hasFirst("Begin", 0, false)
}

func TestOpenOfNamespaces(t *testing.T) {
	bothWays(t, func(t *testing.T, committed bool) {
		for _, g := range fewGeometries() {
			for _, on := range []bool{true, false} {
				p := newPair(t, "namespaces", g)
				p.power(on)
				for _, ns := range []int{math.MinInt, -5, -2, -1, 4, 5, 255, 256, 260, math.MaxInt} {
					if b, err := p.started(committed, ns, orderOf(1)); b != 0 || err != api.ErrShape {
						t.Errorf("namespace %d: %d, %v", ns, b, err)
					}
				}
			}
			for ns := range 4 {
				p := newPair(t, "namespaces", g)
				p.starts(committed, ns, orderOf(1), 0)
				p.knows(0, ledger.Block{Owner: ns, Erases: 1, Held: true})
			}
		}
	})
}

// A namespace that there is not is told ahead of there being no block.
func TestOpenWhenFull(t *testing.T) {
	bothWays(t, func(t *testing.T, committed bool) {
		for _, g := range fewGeometries() {
			p := newPair(t, "full", g)
			for b := range p.want.blocks() {
				p.starts(committed, b%slotCount, orderOf(b), b)
			}
			p.does("", func() { p.full(committed) })
			if _, err := p.started(committed, 4, orderOf(1)); err != api.ErrShape {
				t.Errorf("no namespace, when full: %v", err)
			}
			p.power(false)
			if b, err := p.started(committed, 1, orderOf(1)); b != 0 || err != api.ErrPower {
				t.Errorf("no power, when full: %d, %v", b, err)
			}
			p.power(true)
			p.errs("Destroy", p.destroy(1), api.OK)
			p.does(firstOf(1, committed), func() { p.starts(committed, 1, orderOf(9), 1) })
			p.does("", func() { p.full(committed) })
		}
	})
}

// The states of a block: which are picked, and which of them are destroyed first.
func TestOpenPicks(t *testing.T) {
	bothWays(t, func(t *testing.T, committed bool) {
		for _, s := range fewStates() {
			p := newPair(t, s.name, theGeometry)
			p.set(0, ledger.Block{Owner: -2, Held: true})
			p.set(1, s.is)
			p.set(2, ledger.Block{Owner: -1, Bad: true})
			p.lies = true
			if s.is.Held || s.is.Bad {
				p.does("", func() { p.full(committed) })
				p.knows(1, s.is)
				continue
			}
			want := ledger.Block{Owner: 3, Erases: s.is.Erases, Held: true}
			ops := firstOf(1, committed)
			if !s.is.Clean {
				want.Erases++
				ops = "e1 " + ops
			}
			p.does(ops, func() { p.starts(committed, 3, orderOf(1), 1) })
			p.knows(1, want)
			p.knows(0, ledger.Block{Owner: -2, Held: true})
			p.knows(2, ledger.Block{Owner: -1, Bad: true})
		}
	})
}

// A clean block that leaks, as none does that the pool destroyed, leaks still: only an erase ends that.
func TestOpenOfACleanLeak(t *testing.T) {
	bothWays(t, func(t *testing.T, committed bool) {
		p := newPair(t, "a leak", theGeometry)
		p.set(1, ledger.Block{Owner: -2, Used: 3, Live: 2, Clean: true, Leak: true, Gone: true})
		p.set(0, ledger.Block{Owner: -2, Erases: 1})
		p.set(2, ledger.Block{Owner: -2, Erases: 1})
		p.does(firstOf(1, committed), func() { p.starts(committed, 0, orderOf(1), 1) })
		p.knows(1, ledger.Block{Owner: 0, Held: true, Leak: true, Gone: true})
	})
}

// Of all ways in which three blocks were erased, clean or not: the one that was erased least is picked, the first of several.
func TestOpenPicksTheLeastErased(t *testing.T) {
	bothWays(t, func(t *testing.T, committed bool) {
		for way := range 3 * 3 * 3 * 8 {
			p := newPair(t, fmt.Sprintf("way %d", way), theGeometry)
			left := way
			for b := range 3 {
				p.set(b, ledger.Block{Owner: -2, Erases: left % 3 * 7, Clean: left/3%2 == 1})
				left /= 6
			}
			for i := range 3 {
				best := p.want.pick()
				p.starts(committed, i, orderOf(i), best)
			}
			p.does("", func() { p.full(committed) })
		}
	})
}

// Ahead of the first operation, at each, and behind the last one.
func TestOpenFails(t *testing.T) {
	rest := func(b int, committed bool) string { return fmt.Sprintf("e%d %s", b, firstOf(b, committed)) }
	bothWays(t, func(t *testing.T, committed bool) {
		for _, mask := range fewMasks() {
			p := newPair(t, "the erase", theGeometry, fails(0, mask...))
			p.does("e0! s0 "+rest(1, committed), func() { p.starts(committed, 2, orderOf(1), 1) })
			p.knows(0, ledger.Block{Owner: -1, Bad: true, Gone: true})

			p = newPair(t, "the erase and the scrub", theGeometry, fails(0, mask...), fails(1, mask...))
			p.does("e0! s0! "+rest(1, committed), func() { p.starts(committed, 2, orderOf(1), 1) })
			p.knows(0, ledger.Block{Owner: -1, Bad: true, Leak: true})

			p = newPair(t, "the program", theGeometry, fails(1, mask...))
			p.does("e0 p0.0! e0 "+rest(1, committed), func() { p.starts(committed, 2, orderOf(1), 1) })
			p.knows(0, ledger.Block{Owner: -2, Erases: 2, Clean: true, Bad: true})
			p.isAll("Open", 0, 255)

			p = newPair(t, "the program, and the erase behind it", theGeometry, fails(1, mask...), fails(2, mask...))
			p.does("e0 p0.0! e0! s0 "+rest(1, committed), func() { p.starts(committed, 2, orderOf(1), 1) })
			p.knows(0, ledger.Block{Owner: -2, Erases: 1, Bad: true, Gone: true})
			p.isAll("Open", 0, 0)

			p = newPair(t, "the program, the erase and the scrub", theGeometry, fails(1, mask...), fails(2, mask...), fails(3, mask...))
			p.does("e0 p0.0! e0! s0! "+rest(1, committed), func() { p.starts(committed, 2, orderOf(1), 1) })
			p.knows(0, ledger.Block{Owner: -2, Erases: 1, Bad: true, Leak: true})

			p = newPair(t, "all blocks' erases", theGeometry, fails(0, mask...), fails(2, mask...), fails(3, mask...), fails(4, mask...))
			p.does("e0! s0 e1! s1! e2! s2", func() { p.full(committed) })

			p = newPair(t, "all blocks' programs", theGeometry, fails(1, mask...), fails(4, mask...), fails(7, mask...))
			p.does("e0 p0.0! e0 e1 p1.0! e1 e2 p2.0! e2", func() { p.full(committed) })
			p.does("", func() { p.full(committed) })
		}
	})
}

func TestOpenFailsToCommit(t *testing.T) {
	for _, mask := range fewMasks() {
		p := newPair(t, "the commit", theGeometry, fails(2, mask...))
		p.does("e0 p0.0 p0.0! e0 e1 p1.0 p1.0", func() { p.opens(2, orderOf(1), 1) })
		p.knows(0, ledger.Block{Owner: -2, Erases: 2, Clean: true, Bad: true})
		p.isAll("Open", 0, 255)
		if h := p.pool.Order(0); h != (api.Head{}) {
			t.Errorf("a block that was not opened has the order %+v", h)
		}

		p = newPair(t, "the commit, and the erase behind it", theGeometry, fails(2, mask...), fails(3, mask...))
		p.does("e0 p0.0 p0.0! e0! s0 e1 p1.0 p1.0", func() { p.opens(2, orderOf(1), 1) })
		p.knows(0, ledger.Block{Owner: -2, Erases: 1, Bad: true, Gone: true})
		p.isAll("Open", 0, 0)

		p = newPair(t, "the commit, the erase and the scrub", theGeometry, fails(2, mask...), fails(3, mask...), fails(4, mask...))
		p.does("e0 p0.0 p0.0! e0! s0! e1 p1.0 p1.0", func() { p.opens(2, orderOf(1), 1) })
		p.knows(0, ledger.Block{Owner: -2, Erases: 1, Bad: true, Leak: true})

		p = newPair(t, "all blocks' commits", theGeometry, fails(2, mask...), fails(6, mask...), fails(10, mask...))
		p.does("e0 p0.0 p0.0! e0 e1 p1.0 p1.0! e1 e2 p2.0 p2.0! e2", func() { p.full(true) })
	}
}

// Of a clean block, too, which is clean no more once a program failed.
func TestOpenFailsOnACleanBlock(t *testing.T) {
	bothWays(t, func(t *testing.T, committed bool) {
		for _, mask := range fewMasks() {
			p := newPair(t, "clean", theGeometry, fails(3, mask...), fails(4, mask...), crash(5, mask...))
			for b := range 3 {
				p.errs("Destroy", p.destroy(b), api.OK)
			}
			p.does("p0.0! e0! s0*", func() {
				if b, err := p.started(committed, 1, orderOf(3)); b != 0 || err != api.ErrPower {
					t.Errorf("%d, %v", b, err)
				}
			})
			// The words have it so: what was bad stays clean, till an erase or a scrub is done.
			p.knows(0, ledger.Block{Owner: -2, Erases: 1, Clean: true, Bad: true})
			p.power(true)
			p.does(firstOf(1, committed), func() { p.starts(committed, 1, orderOf(3), 1) })
		}
	})
}

// Wherever the power goes nothing more is done, and no block is told.
func TestOpenCrashes(t *testing.T) {
	plans := []struct {
		ops  string
		plan []api.Fault
		of0  ledger.Block
	}{
		{"e0*", []api.Fault{crash(0)}, ledger.Block{Owner: -1}},
		{"e0 p0.0*", []api.Fault{crash(1)}, ledger.Block{Owner: -2, Erases: 1, Clean: true}},
		{"e0! s0*", []api.Fault{fails(0), crash(1)}, ledger.Block{Owner: -1, Bad: true}},
		{"e0! s0 e1*", []api.Fault{fails(0), crash(2)}, ledger.Block{Owner: -1, Bad: true, Gone: true}},
		{"e0! s0! e1*", []api.Fault{fails(0), fails(1), crash(2)}, ledger.Block{Owner: -1, Bad: true, Leak: true}},
		{"e0 p0.0! e0*", []api.Fault{fails(1), crash(2)}, ledger.Block{Owner: -2, Erases: 1, Clean: true, Bad: true}},
		{"e0 p0.0! e0! s0*", []api.Fault{fails(1), fails(2), crash(3)}, ledger.Block{Owner: -2, Erases: 1, Clean: true, Bad: true}},
		{"e0 p0.0! e0 e1 p1.0*", []api.Fault{fails(1), crash(4)}, ledger.Block{Owner: -2, Erases: 2, Clean: true, Bad: true}},
		{"e0 p0.0 p0.0*", []api.Fault{crash(2)}, ledger.Block{Owner: -2, Erases: 1, Clean: true}},
		{"e0 p0.0 p0.0! e0*", []api.Fault{fails(2), crash(3)}, ledger.Block{Owner: -2, Erases: 1, Clean: true, Bad: true}},
		{"e0 p0.0 p0.0! e0! s0*", []api.Fault{fails(2), fails(3), crash(4)}, ledger.Block{Owner: -2, Erases: 1, Clean: true, Bad: true}},
		{"e0 p0.0 p0.0! e0 e1 p1.0 p1.0*", []api.Fault{fails(2), crash(6)}, ledger.Block{Owner: -2, Erases: 2, Clean: true, Bad: true}},
	}
	bothWays(t, func(t *testing.T, committed bool) {
		for _, plan := range plans {
			if commits := bytes.Contains([]byte(plan.ops), []byte("p0.0 p0.0")); commits && !committed {
				continue
			}
			for _, mask := range fewMasks() {
				for i := range plan.plan {
					plan.plan[i].Mask = mask
				}
				p := newPair(t, plan.ops, theGeometry, plan.plan...)
				p.does(plan.ops, func() {
					if b, err := p.started(committed, 2, orderOf(1)); b != 0 || err != api.ErrPower {
						t.Errorf("%s: %d, %v", plan.ops, b, err)
					}
				})
				p.knows(0, plan.of0)
				p.does("", func() {
					if b, err := p.started(committed, 2, orderOf(1)); b != 0 || err != api.ErrPower {
						t.Errorf("%s, without power: %d, %v", plan.ops, b, err)
					}
				})
				for b := range 3 {
					if h := p.pool.Order(b); h != (api.Head{}) || p.ledger.At(b).Held {
						t.Errorf("%s: block %d was not opened, but has the order %+v", plan.ops, b, h)
					}
				}
			}
		}
	})
}

// A page that is torn at any byte, by whichever call: it is committed if all of it is there, and only then. Nothing is behind it.
func TestTornAtEachByte(t *testing.T) {
	g := api.Geometry{Blocks: 7, Pages: 20, Sector: 32, Wear: 1, Rounds: 1}
	h := dataHead(2, 5)
	opened := func(p *pair) { p.opens(2, orderOf(1), 0) }
	begun := func(p *pair) { p.begins(2, orderOf(1), 0) }
	written := func(p *pair) {
		opened(p)
		p.errs("Write", p.write(0, 1, h, payloadOf(g, 5), tagOf(5)), api.OK)
	}
	for _, torn := range []struct {
		name    string
		from    int
		to      int
		page    int
		prepare func(p *pair)
		do      func(p *pair) api.Errno
	}{
		{"open", 1, 2, 0, func(*pair) {}, func(p *pair) api.Errno { _, err := p.open(2, orderOf(1)); return err }},
		{"begin", 1, 1, 0, func(*pair) {}, func(p *pair) api.Errno { _, err := p.begin(2, orderOf(1)); return err }},
		{"seal", 2, 2, 0, begun, func(p *pair) api.Errno { return p.seal(0) }},
		{"write", 3, 4, 1, opened, func(p *pair) api.Errno { return p.write(0, 1, h, payloadOf(g, 5), tagOf(5)) }},
		{"copy", 5, 6, 2, written, func(p *pair) api.Errno { return p.copy(0, 2, p.pool.Place(0, 1)) }},
	} {
		whole, _ := plainPage(g, api.Head{Kind: kindOfHead, Ns: 2, Lba: 1, Epoch: orderOf(1).Epoch, Counter: orderOf(1).Counter}, nil, nil)
		if torn.page > 0 {
			whole, _ = plainPage(g, h, payloadOf(g, 5), tagOf(5))
		}
		clear(whole[len(whole)-markBytes:])
		for at := torn.from; at <= torn.to; at++ {
			for n := range 65 {
				for _, mask := range [][]byte{upTo(n, 64), flip(upTo(n, 64)), only(n)} {
					p := newPair(t, fmt.Sprintf("%s: operation %d torn at byte %d", torn.name, at, n), g, crash(at, mask...))
					torn.prepare(p)
					p.errs("what is torn", torn.do(p), api.ErrPower)
					p.isTorn(torn.page, whole)
				}
			}
		}
	}
}

// isTorn asks that a page of block 0 is committed if it is that whole one, and only then, and that no page behind it has anything.
func (p *pair) isTorn(n int, whole []byte) {
	p.t.Helper()
	pages := p.read(0)
	told, err := page.Read(p.want.c.g, pages[n])
	if done := err == api.OK && told.Done; done != bytes.Equal(pages[n], whole) {
		p.t.Errorf("%s: committed: %v, whole: %v", p.name, done, !done)
	}
	for i, rest := range pages[n+1:] {
		if !bytes.Equal(rest, all(255, len(rest))) {
			p.t.Errorf("%s: page %d has something", p.name, n+1+i)
		}
	}
}

// only is a mask by which one byte of so many is done, and none behind it.
func only(n int) []byte {
	mask := make([]byte, min(64, n+1))
	mask[len(mask)-1] = 255
	return mask
}

func flip(b []byte) []byte {
	out := bytes.Clone(b)
	for i := range out {
		out[i] = ^out[i]
	}
	return out
}

// An erase count beyond a head's numbers begins anew, on the page and in the order.
func TestOpenTellsErases(t *testing.T) {
	bothWays(t, func(t *testing.T, committed bool) {
		for _, erases := range []int{0, 1, 2, 255, 256, 1000, 1<<31 - 1, 1 << 31, 1<<32 - 2, 1<<32 - 1, 1 << 32, 1<<32 + 1, 1<<40 + 7, math.MaxInt - 1, -1, -5} {
			for _, clean := range []bool{true, false} {
				p := newPair(t, fmt.Sprintf("%d erases", erases), theGeometry)
				p.set(0, ledger.Block{Owner: -2, Held: true})
				p.set(1, ledger.Block{Owner: -2, Erases: erases, Clean: clean})
				p.set(2, ledger.Block{Owner: -2, Held: true})
				p.starts(committed, 3, orderOf(2), 1)
				want := erases
				if !clean {
					want++
				}
				h := api.Head{Kind: 3, Ns: 3, Lba: lowOf(want), Epoch: orderOf(2).Epoch, Counter: orderOf(2).Counter}
				if p.pool.Order(1) != h {
					t.Errorf("%s: Order(1) = %+v, want %+v", p.name, p.pool.Order(1), h)
				}
				first, err := page.Read(theGeometry, p.read(1)[0])
				if err != api.OK || first.Head != h || first.Done != committed {
					t.Errorf("%s: the first page tells %+v, %v", p.name, first, err)
				}
				if x := p.ledger.At(1); x.Erases != want || x.Owner != 3 || !x.Held || x.Clean {
					t.Errorf("%s: the ledger knows %+v", p.name, x)
				}
			}
		}
	})
}

// lowOf is a number modulo 2^32.
func lowOf(n int) uint32 {
	n %= 1 << 32
	if n < 0 {
		n += 1 << 32
	}
	return uint32(n)
}

// Of the order that is handed in only its Epoch and Counter are the block's, whatever else it has.
func TestOpenTakesEpochAndCounter(t *testing.T) {
	bothWays(t, func(t *testing.T, committed bool) {
		for _, order := range []api.Head{
			{},
			{Epoch: 1, Counter: 2},
			{Kind: 1, Ns: 2, Count: 3, Lba: 4, Epoch: 5, Counter: 6},
			{Kind: 4, Ns: 255, Count: 255, Lba: math.MaxUint32, Epoch: math.MaxUint64, Counter: math.MaxUint64},
			{Kind: -1, Ns: -1, Count: -1, Epoch: 1 << 63, Counter: 1 << 32},
			{Kind: math.MaxInt, Ns: math.MinInt, Count: 256, Epoch: 1<<32 - 1, Counter: 1 << 63},
		} {
			p := newPair(t, "orders", theGeometry)
			p.starts(committed, 1, order, 0)
			want := api.Head{Kind: 3, Ns: 1, Count: 0, Lba: 1, Epoch: order.Epoch, Counter: order.Counter}
			if p.pool.Order(0) != want {
				t.Errorf("Order(0) = %+v, want %+v", p.pool.Order(0), want)
			}
			p.hasFirst("open", 0, committed)
			first, err := page.Read(theGeometry, p.read(0)[0])
			if err != api.OK || first.Head != want || !bytes.Equal(first.Payload, all(255, 208)) || !bytes.Equal(first.Tag, all(255, 32)) {
				t.Errorf("the first page tells %+v, %v", first, err)
			}
		}
	})
}

// A block that is opened anew has the new order, and the other ones theirs.
func TestOpenChangesOneOrder(t *testing.T) {
	bothWays(t, func(t *testing.T, committed bool) {
		p := newPair(t, "orders", theGeometry)
		orders := []api.Head{orderOf(11), orderOf(12), orderOf(13)}
		p.make(orders)
		p.starts(committed, 0, orderOf(1), 0)
		if p.pool.Order(1) != orders[1] || p.pool.Order(2) != orders[2] {
			t.Errorf("other orders: %+v, %+v", p.pool.Order(1), p.pool.Order(2))
		}
		p.errs("Destroy", p.destroy(0), api.OK)
		p.set(1, ledger.Block{Owner: 0, Held: true})
		p.set(2, ledger.Block{Owner: 0, Held: true})
		p.starts(committed, 3, orderOf(2), 0)
		if h := p.pool.Order(0); h != (api.Head{Kind: 3, Ns: 3, Lba: 2, Epoch: orderOf(2).Epoch, Counter: orderOf(2).Counter}) {
			t.Errorf("Order(0) = %+v", h)
		}
	})
}

// A block that is not so clean as the ledger has it: what the array refuses failed.
func TestOpenOfWhatIsNotClean(t *testing.T) {
	bothWays(t, func(t *testing.T, committed bool) {
		clean := ledger.Block{Owner: -2, Clean: true}
		some, _ := plainPage(theGeometry, dataHead(1, 1), nil, nil)
		p := newPair(t, "programmed twice", theGeometry)
		p.set(0, clean)
		p.program(keyCount, 0, some)
		p.program(keyCount, 0, some)
		p.does("e0 e1 "+firstOf(1, committed), func() { p.starts(committed, 1, orderOf(1), 1) })
		p.knows(0, ledger.Block{Owner: -2, Erases: 1, Clean: true, Bad: true})

		p = newPair(t, "programmed behind", theGeometry)
		p.set(0, clean)
		p.program(keyCount, 2, some)
		p.does("e0 e1 "+firstOf(1, committed), func() { p.starts(committed, 1, orderOf(1), 1) })

		p = newPair(t, "scrubbed", theGeometry)
		p.set(0, clean)
		p.scrub(keyCount)
		p.does("e0 e1 "+firstOf(1, committed), func() { p.starts(committed, 1, orderOf(1), 1) })

		p = newPair(t, "programmed once", theGeometry)
		p.set(0, clean)
		p.program(keyCount, 0, some)
		if committed {
			p.does("p0.0 e0 e1 p1.0 p1.0", func() { p.opens(1, orderOf(1), 1) })
		} else {
			p.does("p0.0", func() { p.begins(1, orderOf(1), 0) })
		}

		p = newPair(t, "erased past the ledger", theGeometry)
		p.program(keyCount, 0, some)
		p.erase(keyCount)
		p.does("e0 "+firstOf(0, committed), func() { p.starts(committed, 1, orderOf(1), 0) })
	})
}

// What is begun is not known to who finds the array; what is sealed is, and what is opened.
func TestSeal(t *testing.T) {
	for _, g := range fewGeometries() {
		p := newPair(t, "seal", g)
		p.begins(2, orderOf(1), 0)
		p.hasFirst("Begin", 0, false)
		p.finds(0, false)
		was := p.ledger.At(0)
		p.does("p0.0", func() { p.errs("Seal", p.seal(0), api.OK) })
		p.hasFirst("Seal", 0, true)
		p.finds(0, true)
		p.knows(0, was)
		// Its first page was programmed twice, as one that was opened.
		p.does("", func() { p.errs("Seal again", p.seal(0), api.ErrTwice) })
		p.hasFirst("Seal again", 0, true)
		p.knows(0, was)
		p.opens(1, orderOf(2), 1)
		p.finds(1, true)
		p.does("", func() { p.errs("Seal of an opened one", p.seal(1), api.ErrTwice) })
		p.hasFirst("Seal of an opened one", 1, true)
		p.errs("Destroy", p.destroy(0), api.OK)
		p.finds(0, false)
	}
}

func TestBeginAndSealIsOpen(t *testing.T) {
	for _, g := range fewGeometries() {
		opened, sealed := newPair(t, "open", g), newPair(t, "begin and seal", g)
		opened.opens(2, orderOf(1), 0)
		sealed.begins(2, orderOf(1), 0)
		sealed.errs("Seal", sealed.seal(0), api.OK)
		if !bytes.Equal(opened.chip.Image(), sealed.chip.Image()) || opened.ledger.At(0) != sealed.ledger.At(0) || opened.pool.Order(0) != sealed.pool.Order(0) {
			t.Errorf("%+v: to begin and seal is not to open", g)
		}
	}
}

// finds asks whether a block is known when the array is found, and, if it is, that it tells its order.
func (p *pair) finds(b int, known bool) {
	p.t.Helper()
	found, err := scan.Array(p.chip, [api.MaxSlots]slot.Slot{}, 0)
	if err != api.OK {
		p.t.Fatalf("%s: scan: %v", p.name, err)
	}
	want := api.Head{}
	if known {
		want = p.pool.Order(b)
	}
	if found.Orders[b] != want {
		p.t.Fatalf("%s: block %d is found with the order %+v, want %+v", p.name, b, found.Orders[b], want)
	}
	if x := found.Ledger.At(b); known && (x.Owner != want.Ns || x.Erases != int(want.Lba)) || !known && x.Owner != -1 {
		p.t.Fatalf("%s: block %d is found as %+v", p.name, b, x)
	}
}

// A first page that was not programmed is sealed, too, though nothing is known by it; so is one with pages behind it, if it was begun.
func TestSealOfOthers(t *testing.T) {
	p := newPair(t, "blank", theGeometry)
	p.does("p1.0", func() { p.errs("Seal", p.seal(1), api.OK) })
	p.finds(1, false)
	p.does("p1.0", func() { p.errs("Seal again", p.seal(1), api.OK) })
	p.does("", func() { p.errs("Seal a third time", p.seal(1), api.ErrTwice) })

	p = newPair(t, "with pages", theGeometry)
	p.begins(0, orderOf(1), 0)
	p.errs("Write", p.write(0, 1, dataHead(0, 1), nil, nil), api.OK)
	p.errs("Write", p.write(0, 3, dataHead(0, 2), nil, nil), api.OK)
	p.does("p0.0", func() { p.errs("Seal", p.seal(0), api.OK) })
	p.finds(0, true)

	p = newPair(t, "without a first page", theGeometry)
	p.errs("Write", p.write(0, 1, dataHead(0, 1), nil, nil), api.OK)
	p.does("", func() { p.errs("Seal", p.seal(0), api.ErrOrder) })

	p = newPair(t, "scrubbed", theGeometry, fails(0))
	p.errs("Destroy", p.destroy(0), api.ErrFail)
	p.does("", func() { p.errs("Seal", p.seal(0), api.ErrTwice) })
}

func TestSealFails(t *testing.T) {
	for _, mask := range fewMasks() {
		p := newPair(t, "fails", theGeometry, fails(2, mask...))
		p.begins(2, orderOf(1), 0)
		was := p.ledger.At(0)
		p.does("p0.0!", func() { p.errs("Seal", p.seal(0), api.ErrFail) })
		p.finds(0, false)
		p.knows(0, was)

		p = newPair(t, "crashes", theGeometry, crash(2, mask...))
		p.begins(2, orderOf(1), 0)
		p.does("p0.0*", func() { p.errs("Seal", p.seal(0), api.ErrPower) })
		p.knows(0, was)
		p.does("", func() { p.errs("Seal without power", p.seal(0), api.ErrPower) })
		p.knows(0, was)
		first := p.read(0)[0]
		p.power(true)
		p.finds(0, bytes.HasSuffix(first, make([]byte, markBytes)))
	}
}

// P24.3

func TestWrite(t *testing.T) {
	for _, g := range fewGeometries() {
		p := newPair(t, "write", g)
		p.opens(2, orderOf(1), 0)
		was := p.ledger.At(0)
		for n := 1; n < g.Pages; n++ {
			h := api.Head{Kind: 1 + n%4, Ns: n * 13 % 256, Count: n * 7 % 256, Lba: uint32(n) << 20, Epoch: uint64(n) << 40, Counter: math.MaxUint64 - uint64(n)}
			payload, tag := payloadOf(g, n), tagOf(n)
			p.does(fmt.Sprintf("p0.%d p0.%d", n, n), func() { p.errs("Write", p.write(0, n, h, payload, tag), api.OK) })
			b, err := p.chip.Read(p.pool.Place(0, n))
			if err != api.OK {
				t.Fatal(err)
			}
			if told, ok := page.Done(g, b, h.Kind); !ok || told.Head != h || !bytes.Equal(told.Payload, payload) || !bytes.Equal(told.Tag, tag) {
				t.Fatalf("%+v: page %d tells %+v, %v", g, n, told, ok)
			}
		}
		p.knows(0, was)
	}
}

// Each page of each block, held or not: pages behind need not be there, pages ahead can't be programmed any more.
func TestWriteOfPages(t *testing.T) {
	for b := range 3 {
		for first := range 4 {
			for second := range 4 {
				p := newPair(t, fmt.Sprintf("block %d: %d, %d", b, first, second), theGeometry)
				p.does(fmt.Sprintf("p%d.%d p%d.%d", b, first, b, first), func() {
					p.errs("Write", p.write(b, first, dataHead(1, 1), payloadOf(theGeometry, 1), tagOf(1)), api.OK)
				})
				want, ops := api.OK, fmt.Sprintf("p%d.%d p%d.%d", b, second, b, second)
				if second < first {
					want, ops = api.ErrOrder, ""
				}
				if second == first {
					want, ops = api.ErrTwice, ""
				}
				p.does(ops, func() {
					p.errs("Write", p.write(b, second, dataHead(2, 2), payloadOf(theGeometry, 2), tagOf(2)), want)
				})
				p.knows(b, ledger.Block{Owner: -1})
			}
		}
	}
}

// Without power, or of a page that there is not, it is the array that errs.
func TestWriteOfPagesThatThereAreNot(t *testing.T) {
	for _, g := range fewGeometries() {
		p := newPair(t, "no page", g)
		n := p.want.blocks()
		p.does("", func() {
			for _, at := range []int{math.MinInt, -1, g.Pages, g.Pages + 1, math.MaxInt} {
				p.errs("Write", p.write(n-1, at, dataHead(1, 1), nil, nil), api.ErrShape)
				p.errs("Copy", p.copy(n-1, at, api.Place{}), api.ErrShape)
			}
			p.power(false)
			for _, at := range []int{math.MinInt, -1, 0, g.Pages - 1, g.Pages, math.MaxInt} {
				p.errs("Write", p.write(n-1, at, dataHead(1, 1), nil, nil), api.ErrPower)
				p.errs("Copy", p.copy(n-1, at, api.Place{}), api.ErrPower)
			}
		})
		p.power(true)
		p.errs("Write", p.write(n-1, g.Pages-1, dataHead(1, 1), nil, nil), api.OK)
	}
}

// Heads, payloads and tags that may not be are told ahead of there being no power.
func TestWriteOfWhatMayNotBe(t *testing.T) {
	for _, g := range fewGeometries() {
		p := newPair(t, "may not be", g)
		for _, on := range []bool{false, true} {
			p.power(on)
			p.does("", func() {
				for _, h := range []api.Head{
					{}, {Kind: 5}, {Kind: -1}, {Kind: 256 + 1}, {Kind: math.MinInt}, {Kind: math.MaxInt},
					{Kind: 1, Ns: -1}, {Kind: 1, Ns: 256}, {Kind: 1, Ns: math.MinInt},
					{Kind: 1, Count: -1}, {Kind: 1, Count: 256}, {Kind: 1, Count: math.MaxInt},
				} {
					p.errs("Write", p.write(0, 1, h, payloadOf(g, 1), tagOf(1)), api.ErrShape)
				}
				for _, size := range []int{1, 8, g.Sector - 1, g.Sector + 1, 2 * g.Sector, g.Sector + 88, 31} {
					if size != g.Sector {
						p.errs("Write", p.write(0, 1, dataHead(1, 1), make([]byte, size), tagOf(1)), api.ErrShape)
					}
				}
				for _, size := range []int{1, 8, 31, 33, 64} {
					p.errs("Write", p.write(0, 1, dataHead(1, 1), payloadOf(g, 1), make([]byte, size)), api.ErrShape)
				}
			})
		}
	}
}

// Bounds of what a head may be, and payloads and tags without bytes, whose bits are left.
func TestWriteOfWhatMayBe(t *testing.T) {
	g := theGeometry
	for _, h := range []api.Head{
		{Kind: 1}, {Kind: 2, Ns: 255}, {Kind: 3, Count: 255}, {Kind: 4, Ns: 255, Count: 255, Lba: math.MaxUint32, Epoch: math.MaxUint64, Counter: math.MaxUint64},
	} {
		for _, payload := range [][]byte{nil, {}, make([]byte, g.Sector), all(255, g.Sector), payloadOf(g, 3)} {
			for _, tag := range [][]byte{nil, {}, make([]byte, 32), tagOf(3)} {
				p := newPair(t, "may be", g)
				p.errs("Write", p.write(1, 2, h, payload, tag), api.OK)
				told, ok := page.Done(g, p.read(1)[2], h.Kind)
				wantPayload, wantTag := payload, tag
				if len(payload) == 0 {
					wantPayload = all(255, g.Sector)
				}
				if len(tag) == 0 {
					wantTag = all(255, 32)
				}
				if !ok || told.Head != h || !bytes.Equal(told.Payload, wantPayload) || !bytes.Equal(told.Tag, wantTag) {
					t.Errorf("%+v: %+v, %v", h, told, ok)
				}
			}
		}
	}
}

func TestWriteFails(t *testing.T) {
	for _, mask := range fewMasks() {
		write := func(p *pair) api.Errno {
			return p.write(0, 1, dataHead(2, 5), payloadOf(theGeometry, 5), tagOf(5))
		}
		from := func(p *pair) api.Errno {
			return p.copy(0, 1, p.pool.Place(2, 1))
		}
		for _, do := range []func(*pair) api.Errno{write, from} {
			// Five operations come ahead: three open the block, and two write what is copied.
			for at, want := range map[api.Errno][]struct {
				ops  string
				plan api.Fault
			}{
				api.ErrFail:  {{"p0.1!", fails(5, mask...)}, {"p0.1 p0.1!", fails(6, mask...)}},
				api.ErrPower: {{"p0.1*", crash(5, mask...)}, {"p0.1 p0.1*", crash(6, mask...)}},
			} {
				for _, w := range want {
					p := newPair(t, w.ops, theGeometry, w.plan)
					p.opens(2, orderOf(1), 0)
					p.errs("Write", p.write(2, 1, dataHead(2, 5), payloadOf(theGeometry, 5), tagOf(5)), api.OK)
					was := []ledger.Block{p.ledger.At(0), p.ledger.At(1), p.ledger.At(2)}
					p.does(w.ops, func() { p.errs("what fails", do(p), at) })
					for b, x := range was {
						p.knows(b, x)
					}
					if at == api.ErrPower {
						p.does("", func() { p.errs("without power", do(p), at) })
						p.power(true)
					}
					// A page that was programmed once may be so once more, and one that was committed not.
					p.errs("what comes behind", p.write(0, 2, dataHead(2, 6), nil, nil), api.OK)
				}
			}
		}
	}
}

// Of whichever place: a committed page, one that is not, one that tells no head, a blank one, one of noughts.
func TestCopy(t *testing.T) {
	for _, g := range fewGeometries() {
		some, _ := plainPage(g, dataHead(3, 9), payloadOf(g, 9), tagOf(9))
		done := bytes.Clone(some)
		clear(done[len(done)-markBytes:])
		half := bytes.Clone(some)
		half[len(half)-3] = 0x10
		for name, there := range map[string][]byte{
			"committed":          done,
			"not committed":      some,
			"half committed":     half,
			"blank":              all(255, len(some)),
			"of noughts":         make([]byte, len(some)),
			"of no head":         randomBytes(rand.New(rand.NewSource(2402)), len(some)),
			"but for its mark":   append(all(255, len(some)-markBytes), make([]byte, markBytes)...),
			"noughts ahead of 1": append(make([]byte, len(some)-markBytes), all(255, markBytes)...),
		} {
			for _, from := range []api.Place{{Block: 0, Page: 0}, {Block: 3, Page: g.Pages - 1}, {Block: 4, Page: 0}, {Block: 5, Page: 2}, {Block: g.Blocks - 1, Page: g.Pages - 1}} {
				p := newPair(t, name, g)
				p.program(from.Block, from.Page, there)
				b, n := 2, g.Pages-1
				if p.pool.Place(b, n) == from {
					b = 1
				}
				want := append(bytes.Clone(there[:len(there)-markBytes]), make([]byte, markBytes)...)
				p.does(fmt.Sprintf("p%d.%d p%d.%d", b, n, b, n), func() { p.errs("Copy", p.copy(b, n, from), api.OK) })
				if got := p.read(b)[n]; !bytes.Equal(got, want) {
					t.Fatalf("%+v: %s: the copy is\n%x, want\n%x", g, name, got, want)
				}
				op := p.chip.Trace()[1]
				if !bytes.Equal(op.Data[:len(want)-markBytes], want[:len(want)-markBytes]) || !bytes.Equal(op.Data[len(want)-markBytes:], all(255, markBytes)) {
					t.Fatalf("%+v: %s: programmed is %x", g, name, op.Data)
				}
				if got, _ := p.chip.Read(from); !bytes.Equal(got, there) {
					t.Fatalf("%+v: %s: what was copied is changed", g, name)
				}
			}
		}
	}
}

// A copy of a copy tells the same, in whichever block.
func TestCopyOfACopy(t *testing.T) {
	g := theGeometry
	p := newPair(t, "copies", g)
	for b := range 3 {
		p.opens(2, orderOf(b), b)
	}
	h := dataHead(2, 77)
	p.errs("Write", p.write(0, 1, h, payloadOf(g, 4), tagOf(4)), api.OK)
	at := p.pool.Place(0, 1)
	for _, to := range []api.Place{{Block: 1, Page: 1}, {Block: 1, Page: 2}, {Block: 2, Page: 3}, {Block: 0, Page: 3}} {
		p.errs("Copy", p.copy(to.Block, to.Page, at), api.OK)
		at = p.pool.Place(to.Block, to.Page)
		b, _ := p.chip.Read(at)
		if told, ok := page.Done(g, b, api.KindData); !ok || told.Head != h || !bytes.Equal(told.Payload, payloadOf(g, 4)) || !bytes.Equal(told.Tag, tagOf(4)) {
			t.Errorf("the copy at %+v tells %+v, %v", at, told, ok)
		}
	}
	p.does("", func() {
		p.errs("Copy to itself", p.copy(0, 1, p.pool.Place(0, 1)), api.ErrTwice)
		p.errs("Copy to what is written", p.copy(1, 2, p.pool.Place(0, 1)), api.ErrTwice)
		p.errs("Copy ahead", p.copy(2, 2, p.pool.Place(0, 1)), api.ErrOrder)
	})
}

// A blank page may be copied to itself: it is committed, and tells nothing.
func TestCopyOfABlankPageToItself(t *testing.T) {
	p := newPair(t, "itself", theGeometry)
	p.does("p1.2 p1.2", func() { p.errs("Copy", p.copy(1, 2, p.pool.Place(1, 2)), api.OK) })
	if _, err := page.Read(theGeometry, p.read(1)[2]); err != api.ErrForm {
		t.Errorf("it tells %v", err)
	}
}

// Of a place that there is not, ahead of there being no power.
func TestCopyOfPlacesThatThereAreNot(t *testing.T) {
	for _, g := range fewGeometries() {
		p := newPair(t, "places", g)
		for _, on := range []bool{true, false} {
			p.power(on)
			p.does("", func() {
				for _, from := range []api.Place{
					{Block: -1}, {Block: g.Blocks}, {Block: math.MinInt}, {Block: math.MaxInt},
					{Page: -1}, {Page: g.Pages}, {Page: math.MinInt}, {Page: math.MaxInt},
					{Block: -1, Page: g.Pages}, {Block: g.Blocks - 1, Page: g.Pages}, {Block: 4, Page: -1},
				} {
					p.errs("Copy", p.copy(0, 1, from), api.ErrShape)
					p.errs("Copy", p.copy(-1, 1, from), api.ErrShape)
				}
			})
		}
		p.power(true)
		p.does("p0.1 p0.1", func() {
			p.errs("Copy of the last place", p.copy(0, 1, api.Place{Block: g.Blocks - 1, Page: g.Pages - 1}), api.OK)
		})
	}
}

// P24.4: what destroy asks behind each Destroy holds of all blocks, whatever was there.
func TestDestroyLeavesNothing(t *testing.T) {
	for _, g := range fewGeometries() {
		for _, plan := range [][]api.Fault{nil, {fails(filled(g), 0x55)}, {fails(filled(g))}} {
			p := newPair(t, "nothing", g, plan...)
			p.fill()
			was := p.read(1)
			n := p.want.blocks()
			p.destroy(n - 1)
			p.destroy(0)
			for i, b := range p.read(1) {
				if !bytes.Equal(b, was[i]) {
					t.Fatalf("%+v: another block's page %d is changed", g, i)
				}
			}
			if len(plan) == 0 {
				p.isAll("Destroy", n-1, 255)
			} else {
				p.isAll("Destroy", n-1, 0)
			}
			p.isAll("Destroy", 0, 255)
		}
	}
}

// P24.5: whatever fails ahead of it, a block that is opened has its first page and nothing else; open asks that of each.
func TestOpenLeavesOnePage(t *testing.T) {
	for way := range 3 * 3 * 3 * 3 * 3 * 3 {
		plan := []api.Fault{}
		from, left := filled(theGeometry), way
		for i := range 6 {
			if left%3 > 0 {
				plan = append(plan, fails(from+i, [][]byte{{}, {0x3c}}[left%3-1]...))
			}
			left /= 3
		}
		p := newPair(t, fmt.Sprintf("way %d", way), theGeometry, plan...)
		p.fill()
		b, err := p.open(1, orderOf(5))
		if err == api.OK {
			p.hasFirst("Open", b, true)
			p.finds(b, true)
		} else if p.ledger.Bads() != 3 {
			t.Fatalf("%s: %v with %d bad blocks", p.name, err, p.ledger.Bads())
		}
	}
}

// What is handed in is neither changed nor kept, with what lies behind its end; what the array keeps is its own.
func TestNothingHandedInIsKept(t *testing.T) {
	g := theGeometry
	p := newPair(t, "kept", g)
	p.opens(1, orderOf(1), 0)
	room := payloadOf(api.Geometry{Sector: g.Sector + 200}, 8)
	tagRoom := payloadOf(api.Geometry{Sector: 100}, 9)
	was, tagWas := bytes.Clone(room), bytes.Clone(tagRoom)
	p.errs("Write", p.write(0, 1, dataHead(1, 1), room[:g.Sector], tagRoom[:32]), api.OK)
	p.errs("Write", p.write(0, 2, dataHead(1, 1), room[:0], tagRoom[:0]), api.OK)
	p.errs("Write", p.write(0, 3, dataHead(1, 1), room[:g.Sector-1], tagRoom[:32]), api.ErrShape)
	if !bytes.Equal(room, was) || !bytes.Equal(tagRoom, tagWas) {
		t.Error("what was handed in is changed")
	}
	clear(room)
	clear(tagRoom)
	p.check("clear")
	p.errs("Copy", p.copy(0, 3, p.pool.Place(0, 1)), api.OK)
}

// Two pools to which the same is done tell the same.
func TestAlike(t *testing.T) {
	one, two := randomRun(t, 2403), randomRun(t, 2403)
	if !slices.EqualFunc(one.chip.Trace(), two.chip.Trace(), sameOp) || !bytes.Equal(one.chip.Image(), two.chip.Image()) {
		t.Error("the same steps came to something else")
	}
}

// Steps at random, with faults, each held against the chapter's words.
func TestAtRandom(t *testing.T) {
	for seed := range int64(600) {
		randomRun(t, seed)
	}
}

func randomRun(t *testing.T, seed int64) *pair {
	t.Helper()
	source := rand.New(rand.NewSource(seed))
	g := []api.Geometry{
		theGeometry,
		{Blocks: 8, Pages: 20, Sector: 32, Wear: 1, Rounds: 1},
		{Blocks: 7, Pages: 10, Sector: 64, Wear: 1, Rounds: 1},
		{Blocks: 10, Pages: 4, Sector: 160 + 48, Wear: 1, Rounds: 1},
	}[source.Intn(4)]
	plan := []api.Fault{}
	for range source.Intn(20) {
		plan = append(plan, api.Fault{At: source.Intn(120), Crash: source.Intn(4) == 0, Mask: randomMask(source)})
	}
	p := newPair(t, fmt.Sprintf("seed %d", seed), g, plan...)
	for range 50 {
		p.randomStep(source)
		if !p.chip.On() && source.Intn(3) > 0 {
			p.power(true)
		}
	}
	return p
}

func randomMask(source *rand.Rand) []byte {
	if source.Intn(3) == 0 {
		return nil
	}
	return randomBytes(source, 1+source.Intn(64))
}

func (p *pair) randomStep(source *rand.Rand) {
	p.t.Helper()
	g := p.want.c.g
	b, n := source.Intn(p.want.blocks()+1)-source.Intn(2), source.Intn(g.Pages+1)-source.Intn(2)
	order := api.Head{Kind: source.Intn(9) - 2, Ns: source.Int(), Count: source.Int(), Lba: source.Uint32(), Epoch: source.Uint64(), Counter: source.Uint64()}
	switch source.Intn(12) {
	case 0:
		p.destroy(b)
	case 1, 2:
		p.open(source.Intn(6)-1, order)
	case 3, 4:
		p.begin(source.Intn(6)-1, order)
	case 5:
		p.seal(b)
	case 6, 7, 8:
		payload, tag := randomBytes(source, g.Sector), randomBytes(source, tagBytes)
		h := api.Head{Kind: source.Intn(5), Ns: source.Intn(257), Count: source.Intn(258) - 1, Lba: order.Lba, Epoch: order.Epoch, Counter: order.Counter}
		p.write(b, n, h, payload[:source.Intn(2)*(g.Sector-source.Intn(9)/8)], tag[:source.Intn(2)*(tagBytes-source.Intn(9)/8)])
	case 9:
		p.copy(b, n, api.Place{Block: source.Intn(g.Blocks+2) - 1, Page: source.Intn(g.Pages+2) - 1})
	case 10:
		p.ledger.Release(b)
		if p.want.there(b) {
			p.want.of[b].Held, p.want.of[b].Live = false, 0
		}
		p.check("Release")
	case 11:
		if source.Intn(3) == 0 {
			p.randomChange(source, max(0, min(b, p.want.blocks()-1)))
		}
	}
}

// randomChange has the power go, the pool be made anew, or the ledger know something else.
func (p *pair) randomChange(source *rand.Rand, b int) {
	p.t.Helper()
	switch source.Intn(3) {
	case 0:
		p.power(false)
	case 1:
		p.make(slices.Clone(p.want.orders))
	case 2:
		p.lies = true
		p.set(b, ledger.Block{
			Owner: source.Intn(6) - 2, Used: source.Intn(4), Live: source.Intn(4), Erases: source.Intn(9) - 1 + source.Intn(2)<<32,
			Held: source.Intn(3) == 0, Clean: source.Intn(2) == 0, Bad: source.Intn(4) == 0, Gone: source.Intn(4) == 0, Leak: source.Intn(4) == 0,
		})
	}
}
