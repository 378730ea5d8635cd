package ledger

import (
	"fmt"
	"math"
	"math/big"
	"math/rand"
	"slices"
	"testing"

	"nepenthe/api"
)

// The chapter's limits, told once more.
const (
	maxBlocks = 64
	maxSlots  = 4
)

// owners are all that there are: namespaces, Unknown's and Nobody's.
func owners() []int {
	return []int{0, 1, 2, 3, -1, -2}
}

// noOwners are numbers that are no owner's.
func noOwners() []int {
	return []int{4, 5, -3, -4, 255, 256, math.MaxInt, math.MinInt, math.MaxInt - 1, math.MinInt + 1, 1 << 32, -1 << 32, 1<<32 + 1}
}

// names are owners, and numbers that are not: what may be asked for as a namespace.
func names() []int {
	return slices.Concat(owners(), noOwners())
}

// noBlocks are numbers that no block of n has.
func noBlocks(n int) []int {
	return []int{-1, -2, n, n + 1, maxBlocks + n, math.MinInt, math.MinInt + 1, math.MaxInt, math.MaxInt - 1, 1 << 32, -1 << 32}
}

// numbers are counts at their edges.
func numbers() []int {
	return []int{0, 1, 2, -1, -2, math.MaxInt, math.MaxInt - 1, math.MinInt, math.MinInt + 1}
}

// plainSum adds as on paper; what is beyond an int's range is held at its end.
func plainSum(a, b int) int {
	sum := new(big.Int).Add(big.NewInt(int64(a)), big.NewInt(int64(b)))
	if sum.IsInt64() {
		return int(sum.Int64())
	}
	if sum.Sign() > 0 {
		return math.MaxInt
	}
	return math.MinInt
}

// plainFree: neither held nor bad.
func plainFree(x Block) bool {
	if x.Held {
		return false
	}
	if x.Bad {
		return false
	}
	return true
}

// plainDirty goes through the three kinds of blocks that are.
func plainDirty(x Block) bool {
	kinds := 0
	if x.Bad {
		nothing := x.Clean || x.Gone
		if !nothing {
			kinds++
		}
	}
	if plainFree(x) && !x.Clean {
		kinds++
	}
	if x.Held {
		more := big.NewInt(int64(x.Used)).Cmp(big.NewInt(int64(x.Live)))
		if more == 1 {
			kinds++
		}
	}
	return kinds > 0
}

// plain is a ledger as the chapter's words have it: a list of blocks, gone over anew for each answer.
type plain struct {
	blocks []Block
}

// which are the numbers of the blocks of which it is so, in order.
func (p *plain) which(so func(x Block) bool) []int {
	all := []int{}
	for b, x := range p.blocks {
		if so(x) {
			all = append(all, b)
		}
	}
	return all
}

// ordered are those blocks, by a number, and those alike in order of blocks; down: the greatest first.
func (p *plain) ordered(of []int, number func(x Block) int, down bool) []int {
	sorted := slices.Clone(of)
	slices.SortStableFunc(sorted, func(a, b int) int {
		x, y := number(p.blocks[a]), number(p.blocks[b])
		if down {
			x, y = y, x
		}
		return big.NewInt(int64(x)).Cmp(big.NewInt(int64(y)))
	})
	return sorted
}

// headOf is the first of a list: -1, if there is none.
func headOf(list []int) int {
	if len(list) == 0 {
		return -1
	}
	return list[0]
}

func erases(x Block) int { return x.Erases }

func live(x Block) int { return x.Live }

func (p *plain) pick() int {
	return headOf(p.ordered(p.which(plainFree), erases, false))
}

func (p *plain) heldBy(ns int) []int {
	held := p.which(func(x Block) bool { return x.Held })
	held = slices.DeleteFunc(held, func(b int) bool { return p.blocks[b].Bad })
	return slices.DeleteFunc(held, func(b int) bool { return p.blocks[b].Owner != ns })
}

func (p *plain) victim(ns, but int) int {
	others := slices.DeleteFunc(p.heldBy(ns), func(b int) bool { return b == but })
	return headOf(p.ordered(others, live, false))
}

func (p *plain) spread() (int, int) {
	good := p.which(func(x Block) bool { return !x.Bad })
	return headOf(p.ordered(good, erases, false)), headOf(p.ordered(good, erases, true))
}

func (p *plain) leaks(ns int) bool {
	leaking := p.which(func(x Block) bool { return x.Leak })
	return slices.ContainsFunc(leaking, func(b int) bool { return slices.Contains([]int{ns, -1}, p.blocks[b].Owner) })
}

// does changes a block as told, if there is one.
func (p *plain) does(b int, how func(x *Block)) api.Errno {
	if b < 0 || b >= len(p.blocks) {
		return api.ErrShape
	}
	how(&p.blocks[b])
	return api.OK
}

// deed is one of a ledger's changes: what it is called, how it is done to a ledger, and how to a plain one.
type deed struct {
	name    string
	ledger  func(l *Ledger) api.Errno
	plainly func(p *plain) api.Errno
}

func setOf(b int, x Block) deed {
	return deed{fmt.Sprintf("Set(%d, %+v)", b, x), func(l *Ledger) api.Errno { return l.Set(b, x) }, func(p *plain) api.Errno {
		if !slices.Contains(owners(), x.Owner) {
			return api.ErrShape
		}
		return p.does(b, func(was *Block) { *was = x })
	}}
}

func holdOf(b, ns int) deed {
	return deed{fmt.Sprintf("Hold(%d, %d)", b, ns), func(l *Ledger) api.Errno { return l.Hold(b, ns) }, func(p *plain) api.Errno {
		if !slices.Contains([]int{0, 1, 2, 3}, ns) {
			return api.ErrShape
		}
		return p.does(b, func(x *Block) {
			x.Owner = ns
			x.Held = true
			x.Clean = false
			x.Used = 0
			x.Live = 0
		})
	}}
}

func releaseOf(b int) deed {
	return deed{fmt.Sprintf("Release(%d)", b), func(l *Ledger) api.Errno { return l.Release(b) }, func(p *plain) api.Errno {
		return p.does(b, func(x *Block) {
			x.Held = false
			x.Live = 0
		})
	}}
}

func erasedOf(b int) deed {
	return deed{fmt.Sprintf("Erased(%d)", b), func(l *Ledger) api.Errno { return l.Erased(b) }, func(p *plain) api.Errno {
		return p.does(b, func(x *Block) {
			x.Owner = -2
			x.Clean = true
			x.Held = false
			x.Leak = false
			x.Gone = false
			x.Used = 0
			x.Live = 0
			x.Erases = plainSum(x.Erases, 1)
		})
	}}
}

func failedOf(b int) deed {
	return deed{fmt.Sprintf("Failed(%d)", b), func(l *Ledger) api.Errno { return l.Failed(b) }, func(p *plain) api.Errno {
		return p.does(b, func(x *Block) { x.Bad = true })
	}}
}

func scrubbedOf(b int, whole bool) deed {
	return deed{fmt.Sprintf("Scrubbed(%d, %t)", b, whole), func(l *Ledger) api.Errno { return l.Scrubbed(b, whole) }, func(p *plain) api.Errno {
		return p.does(b, func(x *Block) {
			x.Bad = true
			x.Clean = false
			x.Held = false
			x.Gone = whole
			x.Leak = !whole
		})
	}}
}

func useOf(b int) deed {
	return deed{fmt.Sprintf("Use(%d)", b), func(l *Ledger) api.Errno { return l.Use(b) }, func(p *plain) api.Errno {
		return p.does(b, func(x *Block) { x.Used = plainSum(x.Used, 1) })
	}}
}

func countOf(b, by int) deed {
	return deed{fmt.Sprintf("Count(%d, %d)", b, by), func(l *Ledger) api.Errno { return l.Count(b, by) }, func(p *plain) api.Errno {
		return p.does(b, func(x *Block) {
			x.Live = plainSum(x.Live, by)
			if x.Live < 0 {
				x.Live = 0
			}
		})
	}}
}

// deeds are all changes of a block, at their edges.
func deeds(b int) []deed {
	all := []deed{releaseOf(b), erasedOf(b), failedOf(b), scrubbedOf(b, true), scrubbedOf(b, false), useOf(b)}
	for _, ns := range names() {
		all = append(all, holdOf(b, ns), setOf(b, Block{Owner: ns}), setOf(b, Block{ns, 3, 2, 1, true, true, true, true, true}))
	}
	for _, by := range numbers() {
		all = append(all, countOf(b, by), setOf(b, Block{by % 3, by, by, by, false, true, false, true, false}))
	}
	return all
}

// pair is a ledger and a plain one, to which all the same was done.
type pair struct {
	t     *testing.T
	l     *Ledger
	plain *plain
	done  []string
}

func newPair(t *testing.T, n int) *pair {
	t.Helper()
	l, err := New(n)
	if l == nil || err != api.OK {
		t.Fatalf("New(%d) = %v, %v", n, l, err)
	}
	p := &pair{t: t, l: l, plain: &plain{}}
	for range n {
		p.plain.blocks = append(p.plain.blocks, Block{Owner: -1})
	}
	return p
}

// pairOf is one of which these blocks are known.
func pairOf(t *testing.T, blocks ...Block) *pair {
	t.Helper()
	p := newPair(t, len(blocks))
	for b, x := range blocks {
		p.does(setOf(b, x))
	}
	return p
}

// does does it to both, and holds their errors against each other.
func (p *pair) does(d deed) {
	p.t.Helper()
	p.done = append(p.done, d.name)
	if got, want := d.ledger(p.l), d.plainly(p.plain); got != want {
		p.t.Fatalf("%s = %v, want %v", p.last(), got, want)
	}
}

// last are the deeds that were done last.
func (p *pair) last() []string {
	return p.done[max(0, len(p.done)-10):]
}

// blocks holds what is known of each block, and whether it is dirty, or free, against the plain ledger.
func (p *pair) blocks() {
	p.t.Helper()
	if got, want := p.l.Len(), len(p.plain.blocks); got != want {
		p.t.Fatalf("%s: Len = %d, want %d", p.last(), got, want)
	}
	for b, want := range p.plain.blocks {
		if got := p.l.At(b); got != want {
			p.t.Fatalf("%s: At(%d) = %+v, want %+v", p.last(), b, got, want)
		}
		if got := p.l.Dirty(b); got != plainDirty(want) {
			p.t.Fatalf("%s: Dirty(%d) = %t of %+v", p.last(), b, got, want)
		}
		if got := Free(want); got != plainFree(want) {
			p.t.Fatalf("%s: Free(%+v) = %t", p.last(), want, got)
		}
	}
	for _, b := range noBlocks(len(p.plain.blocks)) {
		if got := p.l.At(b); got != (Block{}) {
			p.t.Fatalf("%s: At(%d) = %+v", p.last(), b, got)
		}
		if p.l.Dirty(b) {
			p.t.Fatalf("%s: Dirty(%d)", p.last(), b)
		}
	}
}

// choices holds what is picked, counted and told of all blocks against the plain ledger, and P21.4.
func (p *pair) choices(but ...int) {
	p.t.Helper()
	pick := p.l.Pick()
	if want := p.plain.pick(); pick != want {
		p.t.Fatalf("%s: Pick = %d, want %d", p.last(), pick, want)
	}
	if pick != -1 && !Free(p.l.At(pick)) {
		p.t.Fatalf("%s: %d is picked, and not free", p.last(), pick)
	}
	if got, want := p.l.Bads(), len(p.plain.which(func(x Block) bool { return x.Bad })); got != want {
		p.t.Fatalf("%s: Bads = %d, want %d", p.last(), got, want)
	}
	least, most := p.l.Spread()
	if wantLeast, wantMost := p.plain.spread(); least != wantLeast || most != wantMost {
		p.t.Fatalf("%s: Spread = %d, %d, want %d, %d", p.last(), least, most, wantLeast, wantMost)
	}
	for _, ns := range names() {
		if got, want := p.l.Held(ns), len(p.plain.heldBy(ns)); got != want {
			p.t.Fatalf("%s: Held(%d) = %d, want %d", p.last(), ns, got, want)
		}
		if got, want := p.l.Leaks(ns), p.plain.leaks(ns); got != want {
			p.t.Fatalf("%s: Leaks(%d) = %t, want %t", p.last(), ns, got, want)
		}
		for _, but := range but {
			p.victim(ns, but)
		}
	}
}

// victim holds one victim against the plain ledger, and P21.4.
func (p *pair) victim(ns, but int) {
	p.t.Helper()
	got := p.l.Victim(ns, but)
	if want := p.plain.victim(ns, but); got != want {
		p.t.Fatalf("%s: Victim(%d, %d) = %d, want %d", p.last(), ns, but, got, want)
	}
	if x := p.l.At(got); got != -1 && (!x.Held || x.Owner != ns || x.Bad || got == but) {
		p.t.Fatalf("%s: Victim(%d, %d) = %d, of which %+v is known", p.last(), ns, but, got, x)
	}
}

// is holds all that can be asked against the plain ledger.
func (p *pair) is() {
	p.t.Helper()
	p.blocks()
	but := noBlocks(len(p.plain.blocks))
	for b := range p.plain.blocks {
		but = append(but, b)
	}
	p.choices(but...)
}

// allFlags are all ways in which a block may be held, clean, bad, gone and leaking, with an owner and numbers.
func allFlags(owner, used, live, erases int) []Block {
	flags := []bool{false, true}
	all := []Block{}
	for _, held := range flags {
		for _, clean := range flags {
			for _, bad := range flags {
				for _, gone := range flags {
					for _, leak := range flags {
						all = append(all, Block{owner, used, live, erases, held, clean, bad, gone, leak})
					}
				}
			}
		}
	}
	return all
}

// unlike are three blocks that are neither like one another nor like most.
func unlike() []Block {
	return []Block{
		{Owner: 2, Used: 9, Live: 4, Erases: 7, Held: true},
		{Owner: 1, Used: 5, Live: 5, Erases: 3, Held: true, Bad: true, Leak: true},
		{Owner: -1, Used: 1, Live: 2, Erases: 5, Clean: true, Gone: true},
	}
}

// randomNumber is small more often than not, so that there are blocks alike.
func randomNumber(source *rand.Rand) int {
	switch source.Intn(8) {
	case 0:
		return numbers()[source.Intn(len(numbers()))]
	case 1:
		return int(source.Uint64())
	case 2:
		return -source.Intn(4)
	}
	return source.Intn(4)
}

func randomOwner(source *rand.Rand) int {
	if source.Intn(10) == 0 {
		return noOwners()[source.Intn(len(noOwners()))]
	}
	return owners()[source.Intn(len(owners()))]
}

func randomIndex(source *rand.Rand, n int) int {
	if n == 0 || source.Intn(20) == 0 {
		return noBlocks(n)[source.Intn(len(noBlocks(n)))]
	}
	return source.Intn(n)
}

func randomBlock(source *rand.Rand) Block {
	coin := func() bool { return source.Intn(2) == 0 }
	return Block{randomOwner(source), randomNumber(source), randomNumber(source), randomNumber(source), coin(), coin(), coin(), coin(), coin()}
}

func randomDeed(source *rand.Rand, n int) deed {
	b := randomIndex(source, n)
	switch source.Intn(12) {
	case 0:
		return setOf(b, randomBlock(source))
	case 1, 2, 3:
		return holdOf(b, randomOwner(source))
	case 4:
		return releaseOf(b)
	case 5, 6:
		return erasedOf(b)
	case 7:
		return failedOf(b)
	case 8:
		return scrubbedOf(b, source.Intn(2) == 0)
	case 9, 10:
		return useOf(b)
	}
	return countOf(b, randomNumber(source))
}
