package ledger

import (
	"math"
	"math/rand"
	"testing"

	"nepenthe/api"
)

// P21.1

func TestNewOfSizesThatMayBe(t *testing.T) {
	for n := 0; n <= maxBlocks; n++ {
		l, err := New(n)
		if l == nil || err != api.OK || l.Len() != n {
			t.Fatalf("New(%d) = %v, %v", n, l, err)
		}
		for b := range n {
			if x := l.At(b); x != (Block{Owner: -1}) || !Free(x) {
				t.Errorf("New(%d): At(%d) = %+v", n, b, x)
			}
		}
		newPair(t, n).is()
	}
}

func TestNewOfSizesThatMayNotBe(t *testing.T) {
	for _, n := range []int{-1, -2, 65, 66, 128, 1 << 32, -1 << 32, 1<<32 + 1, math.MinInt, math.MinInt + 1, math.MaxInt, math.MaxInt - 1} {
		if l, err := New(n); l != nil || err != api.ErrShape {
			t.Errorf("New(%d) = %v, %v", n, l, err)
		}
	}
}

func TestTheConstants(t *testing.T) {
	if Unknown != -1 || Nobody != -2 {
		t.Errorf("Unknown %d, Nobody %d", Unknown, Nobody)
	}
}

// holdsNothing holds each call of a ledger without blocks against the chapter's words.
func holdsNothing(t *testing.T, name string, l *Ledger) {
	t.Helper()
	if l.Len() != 0 || l.Pick() != -1 || l.Bads() != 0 {
		t.Errorf("%s: Len %d, Pick %d, Bads %d", name, l.Len(), l.Pick(), l.Bads())
	}
	if least, most := l.Spread(); least != -1 || most != -1 {
		t.Errorf("%s: Spread %d, %d", name, least, most)
	}
	for _, ns := range names() {
		if l.Held(ns) != 0 || l.Leaks(ns) {
			t.Errorf("%s: Held(%d) %d, Leaks %t", name, ns, l.Held(ns), l.Leaks(ns))
		}
		for _, but := range []int{-1, 0, 1, math.MinInt, math.MaxInt} {
			if got := l.Victim(ns, but); got != -1 {
				t.Errorf("%s: Victim(%d, %d) %d", name, ns, but, got)
			}
		}
	}
	for _, b := range append(noBlocks(0), 63, 64) {
		for _, d := range deeds(b) {
			if err := d.ledger(l); err != api.ErrShape {
				t.Errorf("%s: %s = %v", name, d.name, err)
			}
		}
		if l.Len() != 0 || l.At(b) != (Block{}) || l.Dirty(b) {
			t.Errorf("%s: Len %d, At(%d) %+v, Dirty %t", name, l.Len(), b, l.At(b), l.Dirty(b))
		}
	}
}

func TestALedgerWithoutBlocks(t *testing.T) {
	holdsNothing(t, "nil", nil)
	holdsNothing(t, "one that New did not make", &Ledger{})
	l, err := New(0)
	if l == nil || err != api.OK {
		t.Fatalf("New(0) = %v, %v", l, err)
	}
	holdsNothing(t, "New(0)", l)
}

func TestSetOfAllThatMayBeKnown(t *testing.T) {
	for _, owner := range owners() {
		for _, x := range allFlags(owner, 3, 2, 1) {
			p := pairOf(t, unlike()...)
			p.does(setOf(1, x))
			if got := p.l.At(1); got != x {
				t.Fatalf("At = %+v of %+v", got, x)
			}
			p.is()
		}
	}
}

func TestSetOfNumbersAtTheirEdges(t *testing.T) {
	for _, used := range numbers() {
		for _, live := range numbers() {
			for _, erases := range numbers() {
				x := Block{Owner: 1, Used: used, Live: live, Erases: erases, Held: true}
				p := pairOf(t, Block{Owner: 1, Erases: 1}, x, Block{Owner: 1, Used: 1, Live: 1, Held: true})
				if got := p.l.At(1); got != x {
					t.Fatalf("At = %+v of %+v", got, x)
				}
				if got := p.l.Dirty(1); got != (used > live) {
					t.Fatalf("Dirty %t of %+v", got, x)
				}
				p.blocks()
				p.choices(-1, 1)
			}
		}
	}
}

func TestSetOfOwnersThatThereAreNot(t *testing.T) {
	for _, owner := range noOwners() {
		p := pairOf(t, unlike()...)
		for b := range 3 {
			if err := p.l.Set(b, Block{Owner: owner, Used: 8, Erases: 8, Clean: true}); err != api.ErrShape {
				t.Errorf("Set(%d, owner %d) = %v", b, owner, err)
			}
			p.is()
		}
	}
}

func TestSetBehindSet(t *testing.T) {
	p := pairOf(t, unlike()...)
	p.does(setOf(0, Block{Owner: -2, Used: 1, Live: 2, Erases: 3, Held: true, Clean: true, Bad: true, Gone: true, Leak: true}))
	p.does(setOf(0, Block{}))
	if x := p.l.At(0); x != (Block{}) {
		t.Errorf("At = %+v", x)
	}
	p.is()
}

func TestFree(t *testing.T) {
	for _, owner := range names() {
		for _, x := range allFlags(owner, owner, -owner, 1) {
			if got := Free(x); got != (x.Held == false && x.Bad == false) {
				t.Errorf("Free(%+v) = %t", x, got)
			}
		}
	}
	if !Free(Block{}) {
		t.Error("the zero block is not free")
	}
}

// What At hands back is no part of the ledger, nor is what Set was handed.
func TestWhatAtHandsBack(t *testing.T) {
	p := pairOf(t, unlike()...)
	for b := range 3 {
		x := p.l.At(b)
		x.Owner, x.Used, x.Live, x.Erases = 0, 99, 98, 97
		x.Held, x.Clean, x.Bad, x.Gone, x.Leak = !x.Held, !x.Clean, !x.Bad, !x.Gone, !x.Leak
		p.is()
	}
	x := Block{Owner: 3, Used: 1}
	p.does(setOf(0, x))
	x.Owner, x.Used = 0, 2
	if got := p.l.At(0); got != (Block{Owner: 3, Used: 1}) {
		t.Errorf("At = %+v", got)
	}
}

func TestLedgersAreNewMemory(t *testing.T) {
	one, other := pairOf(t, unlike()...), pairOf(t, unlike()...)
	for _, d := range deeds(1) {
		one.does(d)
		one.is()
		other.is()
	}
	newPair(t, 3).is()
}

// P21.2

// Each change of each block, whatever was known of it: what the words name, and nothing else.
func TestEachChange(t *testing.T) {
	for _, owner := range owners() {
		for _, x := range allFlags(owner, 6, 4, 5) {
			changes := []struct {
				name string
				how  func(l *Ledger) api.Errno
				want Block
			}{
				{"Hold", func(l *Ledger) api.Errno { return l.Hold(1, 3) },
					Block{Owner: 3, Erases: 5, Held: true, Bad: x.Bad, Gone: x.Gone, Leak: x.Leak}},
				{"Release", func(l *Ledger) api.Errno { return l.Release(1) },
					Block{Owner: owner, Used: 6, Erases: 5, Clean: x.Clean, Bad: x.Bad, Gone: x.Gone, Leak: x.Leak}},
				{"Erased", func(l *Ledger) api.Errno { return l.Erased(1) },
					Block{Owner: -2, Erases: 6, Clean: true, Bad: x.Bad}},
				{"Failed", func(l *Ledger) api.Errno { return l.Failed(1) },
					Block{owner, 6, 4, 5, x.Held, x.Clean, true, x.Gone, x.Leak}},
				{"Scrubbed whole", func(l *Ledger) api.Errno { return l.Scrubbed(1, true) },
					Block{Owner: owner, Used: 6, Live: 4, Erases: 5, Bad: true, Gone: true}},
				{"Scrubbed half", func(l *Ledger) api.Errno { return l.Scrubbed(1, false) },
					Block{Owner: owner, Used: 6, Live: 4, Erases: 5, Bad: true, Leak: true}},
				{"Use", func(l *Ledger) api.Errno { return l.Use(1) },
					Block{owner, 7, 4, 5, x.Held, x.Clean, x.Bad, x.Gone, x.Leak}},
				{"Count 3", func(l *Ledger) api.Errno { return l.Count(1, 3) },
					Block{owner, 6, 7, 5, x.Held, x.Clean, x.Bad, x.Gone, x.Leak}},
				{"Count -4", func(l *Ledger) api.Errno { return l.Count(1, -4) },
					Block{owner, 6, 0, 5, x.Held, x.Clean, x.Bad, x.Gone, x.Leak}},
			}
			for _, c := range changes {
				p := pairOf(t, unlike()[0], x, unlike()[1])
				if err := c.how(p.l); err != api.OK || p.l.At(1) != c.want {
					t.Fatalf("%s of %+v: %v, %+v, want %+v", c.name, x, err, p.l.At(1), c.want)
				}
			}
		}
	}
}

func TestHoldForEachNamespace(t *testing.T) {
	for _, n := range []int{1, 2, maxBlocks} {
		for b := range n {
			for ns := range maxSlots {
				p := newPair(t, n)
				p.does(holdOf(b, ns))
				if x := p.l.At(b); x != (Block{Owner: ns, Held: true}) {
					t.Fatalf("Hold(%d, %d) of %d: %+v", b, ns, n, x)
				}
				p.blocks()
				p.choices(-1, b)
			}
		}
	}
}

func TestHoldForOthers(t *testing.T) {
	for _, ns := range append(noOwners(), -1, -2) {
		p := pairOf(t, unlike()...)
		for _, b := range append(noBlocks(3), 0, 1, 2) {
			if err := p.l.Hold(b, ns); err != api.ErrShape {
				t.Errorf("Hold(%d, %d) = %v", b, ns, err)
			}
		}
		p.is()
	}
}

// A block that there is not: each change errs, and changes nothing.
func TestChangesOfBlocksThatThereAreNot(t *testing.T) {
	for _, n := range []int{0, 1, 3, maxBlocks} {
		p := newPair(t, n)
		for b := range n {
			p.does(setOf(b, unlike()[b%3]))
		}
		for _, b := range noBlocks(n) {
			for _, d := range deeds(b) {
				if err := d.ledger(p.l); err != api.ErrShape {
					t.Fatalf("of %d: %s = %v", n, d.name, err)
				}
			}
			p.blocks()
			p.choices(-1)
		}
	}
}

func TestErasedOnceMore(t *testing.T) {
	p := newPair(t, 2)
	for n := 1; n <= 5; n++ {
		p.does(erasedOf(1))
		if x := p.l.At(1); x != (Block{Owner: Nobody, Erases: n, Clean: true}) {
			t.Errorf("erased %d times: %+v", n, x)
		}
		p.does(holdOf(1, 2))
		p.does(useOf(1))
		p.does(countOf(1, 1))
		if x := p.l.At(1); x != (Block{Owner: 2, Used: 1, Live: 1, Erases: n, Held: true}) {
			t.Errorf("held: %+v", x)
		}
		p.is()
	}
}

func TestScrubbedBehindScrubbed(t *testing.T) {
	for _, first := range []bool{false, true} {
		for _, second := range []bool{false, true} {
			p := pairOf(t, Block{Owner: 2, Used: 3, Live: 2, Erases: 9, Held: true, Clean: true})
			p.does(scrubbedOf(0, first))
			if x := p.l.At(0); x != (Block{Owner: 2, Used: 3, Live: 2, Erases: 9, Bad: true, Gone: first, Leak: !first}) {
				t.Errorf("%t: %+v", first, x)
			}
			p.is()
			p.does(scrubbedOf(0, second))
			if x := p.l.At(0); x != (Block{Owner: 2, Used: 3, Live: 2, Erases: 9, Bad: true, Gone: second, Leak: !second}) {
				t.Errorf("%t, %t: %+v", first, second, x)
			}
			p.is()
			p.does(erasedOf(0))
			if x := p.l.At(0); x != (Block{Owner: Nobody, Erases: 10, Clean: true, Bad: true}) {
				t.Errorf("erased: %+v", x)
			}
			p.is()
		}
	}
}

func TestCountAboutNought(t *testing.T) {
	rows := []struct{ live, by, want int }{
		{0, 0, 0}, {0, 1, 1}, {0, -1, 0}, {0, math.MinInt, 0}, {0, math.MaxInt, math.MaxInt},
		{3, -2, 1}, {3, -3, 0}, {3, -4, 0}, {3, -5, 0}, {3, 2, 5}, {3, 0, 3}, {3, math.MinInt, 0},
		{-3, 0, 0}, {-3, 2, 0}, {-3, 3, 0}, {-3, 4, 1}, {-3, -1, 0}, {-3, math.MaxInt, math.MaxInt - 3},
		{math.MinInt, -1, 0}, {math.MinInt, math.MinInt, 0}, {math.MinInt, math.MaxInt, 0}, {math.MinInt + 1, math.MaxInt, 0}, {math.MinInt + 2, math.MaxInt, 1},
		{math.MaxInt, 0, math.MaxInt}, {math.MaxInt, -1, math.MaxInt - 1}, {math.MaxInt, math.MinInt, 0}, {math.MaxInt, -math.MaxInt, 0}, {math.MaxInt, 1 - math.MaxInt, 1},
		{math.MaxInt - 1, 1, math.MaxInt}, {1, math.MaxInt - 1, math.MaxInt}, {1, math.MaxInt, math.MaxInt}, {math.MaxInt, 1, math.MaxInt}, {math.MaxInt, math.MaxInt, math.MaxInt},
	}
	for _, r := range rows {
		p := pairOf(t, unlike()[0], Block{Owner: 1, Used: 2, Live: r.live, Erases: 3, Held: true})
		p.does(countOf(1, r.by))
		if x := p.l.At(1); x != (Block{Owner: 1, Used: 2, Live: r.want, Erases: 3, Held: true}) {
			t.Errorf("Count(1, %d) of %d live: %+v, want %d", r.by, r.live, x, r.want)
		}
		p.is()
	}
	// Past nought is forgotten: what is added behind it is added to nought.
	p := newPair(t, 1)
	for _, step := range [][2]int{{2, 2}, {-5, 0}, {3, 3}, {-3, 0}, {1, 1}} {
		p.does(countOf(0, step[0]))
		if got := p.l.At(0).Live; got != step[1] {
			t.Errorf("%s: %d live, want %d", p.last(), got, step[1])
		}
	}
}

// Numbers that were set beyond nought, and to their greatest, are added to without coming out on the other side.
func TestNumbersThatAreAddedTo(t *testing.T) {
	for _, r := range [][2]int{{0, 1}, {-1, 0}, {math.MinInt, math.MinInt + 1}, {math.MaxInt - 1, math.MaxInt}, {math.MaxInt, math.MaxInt}} {
		p := pairOf(t, Block{Used: r[0], Erases: r[0]}, Block{Erases: 1})
		p.does(useOf(0))
		if x := p.l.At(0); x != (Block{Used: r[1], Erases: r[0]}) {
			t.Errorf("Use of %d: %+v", r[0], x)
		}
		p.is()
		p.does(erasedOf(0))
		if x := p.l.At(0); x != (Block{Owner: Nobody, Erases: r[1], Clean: true}) {
			t.Errorf("Erased of %d: %+v", r[0], x)
		}
		p.is()
	}
}

func TestUseAgainAndAgain(t *testing.T) {
	p := newPair(t, 2)
	p.does(holdOf(0, 1))
	for n := 1; n <= 40; n++ {
		p.does(useOf(0))
		if x := p.l.At(0); x != (Block{Owner: 1, Used: n, Held: true}) {
			t.Errorf("%d: %+v", n, x)
		}
	}
	p.is()
}

// P21.3

func TestExamplePick(t *testing.T) {
	p := newPair(t, 3)
	for _, b := range []int{0, 0, 1, 2} {
		p.does(erasedOf(b))
	}
	if got := p.l.Pick(); got != 1 {
		t.Errorf("Pick = %d", got)
	}
	p.is()
}

func TestPickOfSeveral(t *testing.T) {
	held, bad := Block{Held: true, Erases: -9}, Block{Bad: true, Erases: -9}
	of := func(erases int) Block { return Block{Owner: -2, Clean: true, Erases: erases} }
	rows := []struct {
		blocks []Block
		want   int
	}{
		{[]Block{of(1), of(1), of(1)}, 0},
		{[]Block{of(2), of(1), of(1)}, 1},
		{[]Block{of(2), of(2), of(1)}, 2},
		{[]Block{of(1), of(2), of(1)}, 0},
		{[]Block{held, of(5), of(5)}, 1},
		{[]Block{bad, of(5), of(4)}, 2},
		{[]Block{held, bad, of(7)}, 2},
		{[]Block{held, held, bad}, -1},
		{[]Block{{Held: true, Bad: true}}, -1},
		{[]Block{of(math.MaxInt), of(math.MinInt), of(0)}, 1},
		{[]Block{of(math.MaxInt), of(math.MaxInt - 1), of(math.MaxInt)}, 1},
		{[]Block{{Owner: -1, Erases: 1}, {Owner: 2, Clean: true, Erases: 1}}, 0},
		{[]Block{{Owner: -1, Erases: 1, Gone: true, Leak: true}, {Owner: 2, Erases: 2}}, 0},
	}
	for _, r := range rows {
		p := pairOf(t, r.blocks...)
		if got := p.l.Pick(); got != r.want {
			t.Errorf("%+v: Pick = %d, want %d", r.blocks, got, r.want)
		}
		p.is()
	}
}

func TestVictims(t *testing.T) {
	of := func(ns, live int) Block { return Block{Owner: ns, Used: 9, Live: live, Held: true} }
	bad := Block{Owner: 1, Held: true, Bad: true}
	released := Block{Owner: 1}
	rows := []struct {
		blocks        []Block
		ns, but, want int
	}{
		{[]Block{of(1, 3), of(1, 2), of(1, 2)}, 1, -1, 1},
		{[]Block{of(1, 3), of(1, 2), of(1, 2)}, 1, 1, 2},
		{[]Block{of(1, 3), of(1, 2), of(1, 2)}, 1, 2, 1},
		{[]Block{of(1, 3), of(1, 2), of(1, 2)}, 1, 3, 1},
		{[]Block{of(1, 2), of(1, 2), of(1, 2)}, 1, -1, 0},
		{[]Block{of(1, 2), of(1, 2), of(1, 2)}, 1, 0, 1},
		{[]Block{of(2, 0), of(1, 2), of(0, 0)}, 1, -1, 1},
		{[]Block{of(2, 0), of(1, 2), of(0, 0)}, 1, 1, -1},
		{[]Block{of(2, 0), of(1, 2), of(0, 0)}, 3, -1, -1},
		{[]Block{bad, released, of(1, 9)}, 1, -1, 2},
		{[]Block{bad, released}, 1, -1, -1},
		{[]Block{of(0, 1)}, 0, -1, 0},
		{[]Block{of(0, 1)}, 0, 0, -1},
		{[]Block{of(0, 1)}, 0, math.MaxInt, 0},
		{[]Block{of(1, math.MaxInt), of(1, math.MinInt), of(1, 0)}, 1, -1, 1},
		{[]Block{of(1, math.MaxInt), of(1, math.MinInt), of(1, 0)}, 1, 1, 2},
		{[]Block{of(1, math.MaxInt), of(1, math.MaxInt), of(1, math.MaxInt-1)}, 1, -1, 2},
		{[]Block{of(-1, 1), of(-2, 1)}, -1, -1, 0},
		{[]Block{of(-1, 1), of(-2, 1)}, -2, -1, 1},
		{[]Block{of(-1, 1), of(-2, 1)}, 0, -1, -1},
		{[]Block{of(1, 1), of(2, 1)}, 5, -1, -1},
	}
	for _, r := range rows {
		p := pairOf(t, r.blocks...)
		if got := p.l.Victim(r.ns, r.but); got != r.want {
			t.Errorf("%+v: Victim(%d, %d) = %d, want %d", r.blocks, r.ns, r.but, got, r.want)
		}
		p.is()
	}
}

// A victim is told by its live pages alone: not by those that are used, nor by how often it was erased.
func TestVictimIsToldByLivePages(t *testing.T) {
	p := pairOf(t,
		Block{Owner: 0, Used: 1, Live: 2, Erases: 1, Held: true},
		Block{Owner: 0, Used: 9, Live: 1, Erases: 9, Held: true},
		Block{Owner: 0, Used: 0, Live: 3, Erases: 0, Held: true, Clean: true, Gone: true, Leak: true})
	for but, want := range []int{1, 0, 1} {
		if got := p.l.Victim(0, but); got != want {
			t.Errorf("Victim(0, %d) = %d, want %d", but, got, want)
		}
	}
	p.is()
}

func TestHeldAndBads(t *testing.T) {
	p := pairOf(t,
		Block{Owner: 2, Held: true}, Block{Owner: 2, Held: true, Bad: true}, Block{Owner: 2}, Block{Owner: 2, Bad: true},
		Block{Owner: 0, Held: true}, Block{Owner: 0, Held: true, Clean: true, Gone: true, Leak: true}, Block{Owner: -1, Held: true}, Block{Owner: -2, Bad: true, Clean: true})
	for ns, want := range map[int]int{0: 2, 1: 0, 2: 1, 3: 0, 4: 0, -1: 1, -2: 0, -3: 0, math.MinInt: 0, math.MaxInt: 0} {
		if got := p.l.Held(ns); got != want {
			t.Errorf("Held(%d) = %d, want %d", ns, got, want)
		}
	}
	if got := p.l.Bads(); got != 3 {
		t.Errorf("Bads = %d", got)
	}
	p.is()
}

func TestAllBlocksAlike(t *testing.T) {
	for _, n := range []int{1, 2, maxBlocks} {
		kinds := []struct {
			x                              Block
			pick, victim, held, bads, good int
		}{
			{Block{Owner: 1}, 0, -1, 0, 0, 0},
			{Block{Owner: 1, Held: true}, -1, 0, n, 0, 0},
			{Block{Owner: 1, Bad: true}, -1, -1, 0, n, -1},
			{Block{Owner: 1, Held: true, Bad: true}, -1, -1, 0, n, -1},
		}
		for _, k := range kinds {
			p := newPair(t, n)
			for b := range n {
				p.does(setOf(b, k.x))
			}
			least, most := p.l.Spread()
			got := [...]int{p.l.Pick(), p.l.Victim(1, -1), p.l.Held(1), p.l.Bads(), least, most}
			if want := [...]int{k.pick, k.victim, k.held, k.bads, k.good, k.good}; got != want {
				t.Errorf("%d times %+v: %d, want %d", n, k.x, got, want)
			}
			p.blocks()
			p.choices(-1, 0, n-1)
		}
	}
}

func TestSpreadOfSeveral(t *testing.T) {
	of := func(erases int) Block { return Block{Erases: erases} }
	bad := func(erases int) Block { return Block{Erases: erases, Bad: true} }
	rows := []struct {
		blocks      []Block
		least, most int
	}{
		{[]Block{of(1)}, 0, 0},
		{[]Block{of(1), of(1), of(1)}, 0, 0},
		{[]Block{of(5), of(1), of(5)}, 1, 0},
		{[]Block{of(1), of(5), of(1), of(5)}, 0, 1},
		{[]Block{of(1), of(2), of(3)}, 0, 2},
		{[]Block{of(3), of(2), of(1)}, 2, 0},
		{[]Block{of(2), of(1), of(3), of(1), of(3)}, 1, 2},
		{[]Block{bad(0), of(2), bad(9)}, 1, 1},
		{[]Block{bad(0), bad(9)}, -1, -1},
		{[]Block{bad(0), of(3), of(4), bad(9)}, 1, 2},
		{[]Block{of(0), of(math.MinInt), of(math.MaxInt)}, 1, 2},
		{[]Block{of(math.MinInt), of(math.MinInt + 1), of(math.MinInt)}, 0, 1},
		{[]Block{of(math.MaxInt), of(math.MaxInt - 1), of(math.MaxInt)}, 1, 0},
		{[]Block{of(-1), of(-3), of(-2)}, 1, 0},
		{[]Block{{Erases: 2, Held: true}, {Erases: 1, Owner: -1, Gone: true, Leak: true}, {Erases: 3, Clean: true}}, 1, 2},
	}
	for _, r := range rows {
		p := pairOf(t, r.blocks...)
		if least, most := p.l.Spread(); least != r.least || most != r.most {
			t.Errorf("%+v: Spread = %d, %d, want %d, %d", r.blocks, least, most, r.least, r.most)
		}
		p.is()
	}
}

func TestDirty(t *testing.T) {
	rows := []struct {
		name string
		x    Block
		want bool
	}{
		{"free", Block{}, true},
		{"free and clean", Block{Clean: true}, false},
		{"free, with pages used", Block{Used: 3, Live: 1}, true},
		{"free and clean, with pages used", Block{Used: 3, Live: 1, Clean: true}, false},
		{"free, and said to be gone", Block{Gone: true}, true},
		{"bad", Block{Bad: true}, true},
		{"bad and clean", Block{Bad: true, Clean: true}, false},
		{"bad and gone", Block{Bad: true, Gone: true}, false},
		{"bad, clean and gone", Block{Bad: true, Clean: true, Gone: true}, false},
		{"bad and leaking", Block{Bad: true, Leak: true}, true},
		{"bad and held", Block{Bad: true, Held: true}, true},
		{"bad and held, as many pages used as live", Block{Bad: true, Held: true, Used: 3, Live: 3}, true},
		{"bad, held and gone, as many pages used as live", Block{Bad: true, Held: true, Gone: true, Used: 3, Live: 3}, false},
		{"bad, held and gone, with more used", Block{Bad: true, Held: true, Gone: true, Used: 4, Live: 3}, true},
		{"bad, held and clean, with more used", Block{Bad: true, Held: true, Clean: true, Used: 4, Live: 3}, true},
		{"held", Block{Held: true}, false},
		{"held and clean", Block{Held: true, Clean: true}, false},
		{"held, as many pages used as live", Block{Held: true, Used: 3, Live: 3}, false},
		{"held, with one more used", Block{Held: true, Used: 4, Live: 3}, true},
		{"held and clean, with one more used", Block{Held: true, Clean: true, Used: 4, Live: 3}, true},
		{"held, with one more live", Block{Held: true, Used: 3, Live: 4}, false},
		{"held, with none live", Block{Held: true, Used: 1}, true},
		{"held, with none used", Block{Held: true, Live: 1}, false},
		{"held, the greatest used", Block{Held: true, Used: math.MaxInt, Live: math.MinInt}, true},
		{"held, the greatest live", Block{Held: true, Used: math.MinInt, Live: math.MaxInt}, false},
		{"held, below nought", Block{Held: true, Used: -1, Live: -2}, true},
	}
	for _, r := range rows {
		for _, owner := range owners() {
			x := r.x
			x.Owner = owner
			for b := range 3 {
				blocks := []Block{{Clean: true}, {Clean: true}, {Clean: true}}
				blocks[b] = x
				p := pairOf(t, blocks...)
				for other := range 3 {
					if got, want := p.l.Dirty(other), other == b && r.want; got != want {
						t.Errorf("%s: Dirty(%d) = %t of %+v", r.name, other, got, blocks)
					}
				}
			}
		}
	}
}

func TestDirtyOfAllKinds(t *testing.T) {
	for _, pages := range [][2]int{{0, 0}, {1, 0}, {0, 1}, {2, 2}, {3, 2}} {
		p := newPair(t, 32)
		for b, x := range allFlags(1, pages[0], pages[1], 1) {
			p.does(setOf(b, x))
		}
		p.is()
	}
}

// A leaking block is that of each who may have something in it.
func TestLeaks(t *testing.T) {
	for _, owner := range owners() {
		for _, bad := range []bool{false, true} {
			p := pairOf(t, Block{Owner: -2, Clean: true}, Block{Owner: 3}, Block{Owner: owner, Bad: bad, Leak: true}, Block{Owner: 0, Bad: true, Gone: true})
			for _, ns := range names() {
				if got, want := p.l.Leaks(ns), owner == -1 || ns == owner; got != want {
					t.Errorf("owner %d: Leaks(%d) = %t", owner, ns, got)
				}
			}
			p.is()
			p.does(scrubbedOf(2, true))
			for _, ns := range names() {
				if p.l.Leaks(ns) {
					t.Errorf("owner %d, scrubbed whole: Leaks(%d)", owner, ns)
				}
			}
			p.does(scrubbedOf(2, false))
			p.does(erasedOf(2))
			for _, ns := range names() {
				if p.l.Leaks(ns) {
					t.Errorf("owner %d, erased: Leaks(%d)", owner, ns)
				}
			}
			p.is()
		}
	}
	// One that leaks among those that do not, wherever it is.
	for b := range maxBlocks {
		p := newPair(t, maxBlocks)
		p.does(holdOf(b, 1))
		p.does(scrubbedOf(b, false))
		if !p.l.Leaks(1) || p.l.Leaks(2) || p.l.Leaks(-1) {
			t.Errorf("block %d: %t, %t, %t", b, p.l.Leaks(1), p.l.Leaks(2), p.l.Leaks(-1))
		}
	}
}

// What is asked changes nothing, and is answered alike again.
func TestAskedAgain(t *testing.T) {
	p := pairOf(t, unlike()...)
	for range 3 {
		p.is()
	}
}

// P21.4

// All ledgers of three blocks of which each is held, bad, both or free, and erased, or live, once or twice.
func TestWhatIsPickedIsFree(t *testing.T) {
	kinds := []Block{}
	for _, n := range []int{1, 2} {
		for _, owner := range []int{0, 1} {
			for _, x := range []Block{{}, {Held: true}, {Bad: true}, {Held: true, Bad: true}} {
				x.Owner, x.Live, x.Erases = owner, n, n
				kinds = append(kinds, x)
			}
		}
	}
	for _, x := range kinds {
		for _, y := range kinds {
			for _, z := range kinds {
				p := pairOf(t, x, y, z)
				p.choices(-1, 0, 1, 2)
			}
		}
	}
}

// Picked and held, one block behind the other, till none is free; released, till all are.
func TestPickedAndHeld(t *testing.T) {
	for _, n := range []int{1, 7, maxBlocks} {
		p := newPair(t, n)
		for i := range n {
			b := p.l.Pick()
			if b != i {
				t.Fatalf("of %d: Pick = %d, want %d", n, b, i)
			}
			p.does(erasedOf(b))
			p.does(holdOf(b, i%maxSlots))
			p.blocks()
			p.choices(-1, b)
		}
		if b := p.l.Pick(); b != -1 {
			t.Errorf("of %d: all are held, and %d is picked", n, b)
		}
		for i := range n {
			b := p.l.Victim(i%maxSlots, -1)
			if b != i {
				t.Fatalf("of %d: Victim(%d) = %d, want %d", n, i%maxSlots, b, i)
			}
			p.does(releaseOf(b))
			p.choices(-1)
		}
		for ns := range maxSlots {
			if b := p.l.Victim(ns, -1); b != -1 {
				t.Errorf("of %d: none is held, and %d is a victim", n, b)
			}
		}
	}
}

// P21.5

// Each change, of each block, whatever it answers: what is known of the others stays.
func TestOthersStay(t *testing.T) {
	for _, n := range []int{1, 2, 3, maxBlocks} {
		for _, b := range []int{0, n / 2, n - 1} {
			for _, d := range deeds(b) {
				l, err := New(n)
				if err != api.OK {
					t.Fatalf("New(%d): %v", n, err)
				}
				for other := range n {
					l.Set(other, Block{Owner: other % maxSlots, Used: other + 3, Live: other + 1, Erases: other, Held: other%2 == 0, Leak: other%3 == 0})
				}
				d.ledger(l)
				for other := range n {
					want := Block{Owner: other % maxSlots, Used: other + 3, Live: other + 1, Erases: other, Held: other%2 == 0, Leak: other%3 == 0}
					if got := l.At(other); other != b && got != want {
						t.Fatalf("%s of %d: %+v is known of %d, and was %+v", d.name, n, got, other, want)
					}
				}
			}
		}
	}
}

// All changes of a block in each of its states, at their edges.
func TestChangesOfAllStates(t *testing.T) {
	for _, owner := range []int{1, -1, -2} {
		for _, x := range allFlags(owner, 3, 2, 4) {
			for _, d := range deeds(1) {
				p := pairOf(t, unlike()[0], x, unlike()[2])
				p.does(d)
				p.blocks()
				p.choices(-1, 1)
			}
		}
	}
}

func TestAtRandom(t *testing.T) {
	source := rand.New(rand.NewSource(21))
	for run := range 300 {
		n := source.Intn(6)
		if run%30 == 0 {
			n = maxBlocks - source.Intn(3)
		}
		p := newPair(t, n)
		for range 60 {
			p.does(randomDeed(source, n))
			p.blocks()
			p.choices(-1, randomIndex(source, n), randomIndex(source, n))
		}
	}
}

// Blocks that are known of at random, from the beginning on.
func TestRandomBlocks(t *testing.T) {
	source := rand.New(rand.NewSource(2121))
	for range 500 {
		p := newPair(t, 1+source.Intn(5))
		for b := range p.plain.blocks {
			p.does(setOf(b, randomBlock(source)))
		}
		p.is()
	}
}

// A device's way with its blocks: picked, held, used, emptied, released, erased, and failing now and then.
func TestAsADeviceDoes(t *testing.T) {
	source := rand.New(rand.NewSource(212121))
	for range 20 {
		p := newPair(t, 12)
		for range 200 {
			p.deviceStep(source)
			p.blocks()
			p.choices(-1, source.Intn(12))
		}
	}
}

// deviceStep is one of these.
func (p *pair) deviceStep(source *rand.Rand) {
	p.t.Helper()
	ns := source.Intn(maxSlots)
	if b := p.l.Pick(); b != -1 && source.Intn(3) == 0 {
		if source.Intn(8) == 0 {
			p.does(failedOf(b))
			p.does(scrubbedOf(b, source.Intn(2) == 0))
			return
		}
		p.does(erasedOf(b))
		p.does(holdOf(b, ns))
		return
	}
	b := p.l.Victim(ns, source.Intn(12))
	switch source.Intn(4) {
	case 0:
		if b != -1 {
			p.does(releaseOf(b))
		}
	case 1:
		if b != -1 {
			p.does(countOf(b, -source.Intn(4)))
		}
	default:
		if b != -1 {
			p.does(useOf(b))
			p.does(countOf(b, 1))
		}
	}
}
