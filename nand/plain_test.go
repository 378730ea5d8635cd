package nand

import (
	"bytes"
	"fmt"
	"math"
	"math/rand"
	"slices"
	"testing"

	"nepenthe/api"
)

// plain is an array as the chapter's words have it, bit by bit and page by page: it calls nothing of the program.
type plain struct {
	g      api.Geometry
	plan   []api.Fault
	on     bool
	pages  [][][]byte
	times  [][]int
	erased []int
	gone   []bool
	ops    []Op
}

func newPlain(g api.Geometry, plan []api.Fault) *plain {
	p := &plain{g: g, on: true, erased: make([]int, g.Blocks), gone: make([]bool, g.Blocks)}
	for _, f := range plan {
		p.plan = append(p.plan, api.Fault{At: f.At, Crash: f.Crash, Mask: slices.Clone(f.Mask)})
	}
	for range g.Blocks {
		var pages [][]byte
		for range g.Pages {
			pages = append(pages, all(0xff, g.Sector+88))
		}
		p.pages = append(p.pages, pages)
		p.times = append(p.times, make([]int, g.Pages))
	}
	return p
}

func (p *plain) hasBlock(block int) bool {
	return 0 <= block && block < p.g.Blocks
}

func (p *plain) hasPage(at api.Place) bool {
	return p.hasBlock(at.Block) && 0 <= at.Page && at.Page < p.g.Pages
}

// due is the fault of the operation that comes next: nil, if there is none.
func (p *plain) due() *api.Fault {
	for i := range p.plan {
		if p.plan[i].At == len(p.ops) {
			return &p.plan[i]
		}
	}
	return nil
}

// told keeps an operation, and answers as its fault says.
func (p *plain) told(f *api.Fault, op Op) api.Errno {
	switch {
	case f == nil:
		op.E = api.OK
	case f.Crash:
		op.E, p.on = api.ErrPower, false
	default:
		op.E = api.ErrFail
	}
	p.ops = append(p.ops, op)
	return op.E
}

func (p *plain) Program(at api.Place, b []byte) api.Errno {
	if !p.on {
		return api.ErrPower
	}
	if !p.hasPage(at) || len(b) != p.g.Sector+88 {
		return api.ErrShape
	}
	times := p.times[at.Block]
	if times[at.Page] == 2 || p.gone[at.Block] {
		return api.ErrTwice
	}
	for behind := at.Page + 1; behind < p.g.Pages; behind++ {
		if times[at.Page] == 0 && times[behind] != 0 {
			return api.ErrOrder
		}
	}
	f, page := p.due(), p.pages[at.Block][at.Page]
	switch {
	case f == nil:
		clearBits(page, b, nil, false)
	case f.Crash:
		clearBits(page, b, f.Mask, false)
	default:
		clearBits(page, b, f.Mask, true)
	}
	times[at.Page]++
	return p.told(f, Op{Kind: 1, Place: at, Data: slices.Clone(b)})
}

func (p *plain) Erase(block int) api.Errno {
	if !p.on {
		return api.ErrPower
	}
	if !p.hasBlock(block) {
		return api.ErrShape
	}
	f := p.due()
	if f == nil {
		for i := range p.g.Pages {
			p.pages[block][i] = all(0xff, p.g.Sector+88)
			p.times[block][i] = 0
		}
		p.gone[block] = false
	} else {
		row := slices.Concat(p.pages[block]...)
		setBits(row, f.Mask)
		p.lay(block, row)
	}
	p.erased[block]++
	return p.told(f, Op{Kind: 2, Place: api.Place{Block: block}})
}

func (p *plain) Scrub(block int) api.Errno {
	if !p.on {
		return api.ErrPower
	}
	if !p.hasBlock(block) {
		return api.ErrShape
	}
	f := p.due()
	row := slices.Concat(p.pages[block]...)
	if f == nil {
		row = all(0, len(row))
	} else {
		clearBits(row, all(0, len(row)), f.Mask, false)
	}
	p.lay(block, row)
	p.gone[block] = true
	return p.told(f, Op{Kind: 3, Place: api.Place{Block: block}})
}

// lay puts one list's bytes into a block, page by page.
func (p *plain) lay(block int, row []byte) {
	for i, page := range slices.Collect(slices.Chunk(row, p.g.Sector+88)) {
		p.pages[block][i] = slices.Clone(page)
	}
}

func (p *plain) Read(at api.Place) ([]byte, api.Errno) {
	if !p.on {
		return nil, api.ErrPower
	}
	if !p.hasPage(at) {
		return nil, api.ErrShape
	}
	return slices.Clone(p.pages[at.Block][at.Page]), api.OK
}

func (p *plain) Poke(at api.Place, i int, x byte) api.Errno {
	if p.on {
		return api.ErrPower
	}
	if !p.hasPage(at) || i < 0 || i >= p.g.Sector+88 {
		return api.ErrShape
	}
	p.pages[at.Block][at.Page][i] = x
	return api.OK
}

func (p *plain) Image() []byte {
	var row []byte
	for _, pages := range p.pages {
		row = append(row, slices.Concat(pages...)...)
	}
	return row
}

// done tells whether a mask says bit i.
func done(mask []byte, i int) bool {
	if len(mask) == 0 {
		return true
	}
	return bit(mask, i%(8*len(mask)))
}

// bit tells whether bit i of a list is one, counted from the least of its first byte.
func bit(b []byte, i int) bool {
	return b[i/8]&[8]byte{1, 2, 4, 8, 16, 32, 64, 128}[i%8] != 0
}

// clearBits clears the bits of was that are nought in to, so far as the mask says; not the last of them, if the program fails.
func clearBits(was, to, mask []byte, fails bool) {
	var due []int
	for i := range 8 * len(was) {
		if bit(was, i) && !bit(to, i) {
			due = append(due, i)
		}
	}
	for n, i := range due {
		if done(mask, i) && !(fails && n == len(due)-1) {
			was[i/8] -= [8]byte{1, 2, 4, 8, 16, 32, 64, 128}[i%8]
		}
	}
}

// setBits sets the bits that are nought, so far as the mask says.
func setBits(was, mask []byte) {
	for i := range 8 * len(was) {
		if !bit(was, i) && done(mask, i) {
			was[i/8] += [8]byte{1, 2, 4, 8, 16, 32, 64, 128}[i%8]
		}
	}
}

// pair is an array and the plain one that is told the same; behind each call all that can be asked of them is held against one another.
type pair struct {
	t    *testing.T
	chip *Chip
	want *plain
}

func newPair(t *testing.T, g api.Geometry, plan []api.Fault) *pair {
	t.Helper()
	chip, err := New(g, plan)
	if err != api.OK || chip == nil {
		t.Fatalf("New(%+v) = %v, %v", g, chip, err)
	}
	p := &pair{t: t, chip: chip, want: newPlain(g, plan)}
	p.check("New")
	return p
}

func (p *pair) program(at api.Place, b []byte) api.Errno {
	p.t.Helper()
	return p.same(fmt.Sprintf("Program(%v, %s)", at, short(b)), p.chip.Program(at, b), p.want.Program(at, b))
}

func (p *pair) erase(block int) api.Errno {
	p.t.Helper()
	return p.same(fmt.Sprintf("Erase(%d)", block), p.chip.Erase(block), p.want.Erase(block))
}

func (p *pair) scrub(block int) api.Errno {
	p.t.Helper()
	return p.same(fmt.Sprintf("Scrub(%d)", block), p.chip.Scrub(block), p.want.Scrub(block))
}

func (p *pair) poke(at api.Place, i int, x byte) api.Errno {
	p.t.Helper()
	return p.same(fmt.Sprintf("Poke(%v, %d, %02x)", at, i, x), p.chip.Poke(at, i, x), p.want.Poke(at, i, x))
}

func (p *pair) power(on bool) {
	p.t.Helper()
	p.chip.Power(on)
	p.want.on = on
	p.check(fmt.Sprintf("Power(%v)", on))
}

func (p *pair) read(at api.Place) ([]byte, api.Errno) {
	p.t.Helper()
	got, err := p.chip.Read(at)
	want, wantErr := p.want.Read(at)
	if !bytes.Equal(got, want) {
		p.t.Fatalf("Read(%v) = %s, want %s", at, short(got), short(want))
	}
	return got, p.same(fmt.Sprintf("Read(%v)", at), err, wantErr)
}

func (p *pair) same(call string, got, want api.Errno) api.Errno {
	p.t.Helper()
	if got != want {
		p.t.Fatalf("operation %d: %s = %v, want %v", len(p.want.ops), call, got, want)
	}
	p.check(call)
	return got
}

// check holds all but the bytes of single pages, which are the image's, against the plain array.
func (p *pair) check(call string) {
	p.t.Helper()
	if got := p.chip.On(); got != p.want.on {
		p.t.Fatalf("behind %s: On() = %v", call, got)
	}
	if got := p.chip.Ops(); got != len(p.want.ops) {
		p.t.Fatalf("behind %s: Ops() = %d, want %d", call, got, len(p.want.ops))
	}
	for block, want := range p.want.erased {
		if got := p.chip.Erases(block); got != want {
			p.t.Fatalf("behind %s: Erases(%d) = %d, want %d", call, block, got, want)
		}
	}
	for _, block := range []int{math.MinInt, -1, p.want.g.Blocks, math.MaxInt} {
		if got := p.chip.Erases(block); got != 0 {
			p.t.Fatalf("behind %s: Erases(%d) = %d", call, block, got)
		}
	}
	if got, want := p.chip.Image(), p.want.Image(); !bytes.Equal(got, want) {
		p.t.Fatalf("behind %s: the image differs: %s", call, p.differs(got, want))
	}
	if got := p.chip.Geometry(); got != p.want.g {
		p.t.Fatalf("behind %s: Geometry() = %+v", call, got)
	}
	if got := p.chip.Trace(); !slices.EqualFunc(got, p.want.ops, sameOp) {
		p.t.Fatalf("behind %s: the trace differs: %s", call, lastOf(got))
	}
}

// differs tells where two images do.
func (p *pair) differs(got, want []byte) string {
	if len(got) != len(want) {
		return fmt.Sprintf("%d bytes, want %d", len(got), len(want))
	}
	size := p.want.g.Sector + 88
	for i := range got {
		if got[i] != want[i] {
			return fmt.Sprintf("byte %d of page %d of block %d is %02x, want %02x", i%size, i/size%p.want.g.Pages, i/size/p.want.g.Pages, got[i], want[i])
		}
	}
	return "nowhere"
}

func sameOp(a, b Op) bool {
	return a.Kind == b.Kind && a.Place == b.Place && a.E == b.E && bytes.Equal(a.Data, b.Data)
}

func lastOf(ops []Op) string {
	if len(ops) == 0 {
		return "it has no operation"
	}
	last := ops[len(ops)-1]
	return fmt.Sprintf("it has %d operations, the last of kind %d at %v with %s: %v", len(ops), last.Kind, last.Place, short(last.Data), last.E)
}

func all(x byte, n int) []byte {
	return bytes.Repeat([]byte{x}, n)
}

// counted is the bytes from first on, each one more than the one ahead.
func counted(first byte, n int) []byte {
	b := make([]byte, n)
	for i := range b {
		b[i] = first + byte(i)
	}
	return b
}

func randomBytes(source *rand.Rand, n int) []byte {
	b := make([]byte, n)
	source.Read(b)
	return b
}

// short tells bytes, of a long list those at its ends alone.
func short(b []byte) string {
	if len(b) <= 20 {
		return fmt.Sprintf("%x", b)
	}
	return fmt.Sprintf("%x..%x (%d bytes)", b[:8], b[len(b)-8:], len(b))
}

// randomPlan is some faults among the first operations, now and then two of one number.
func randomPlan(source *rand.Rand, faults, ops int) []api.Fault {
	var plan []api.Fault
	for range faults {
		mask := randomBytes(source, []int{0, 1, 2, 3, 5, 8, 31, 63, 64}[source.Intn(9)])
		plan = append(plan, api.Fault{At: source.Intn(ops), Crash: source.Intn(2) == 0, Mask: mask})
	}
	return plan
}

// randomStep does something to a pair that is refused now and then.
func randomStep(p *pair, source *rand.Rand) {
	p.t.Helper()
	g, size := p.want.g, p.want.g.Sector+88
	at := api.Place{Block: source.Intn(2) * source.Intn(g.Blocks), Page: source.Intn(g.Pages)}
	if source.Intn(20) == 0 {
		at = api.Place{Block: source.Intn(g.Blocks+4) - 2, Page: source.Intn(g.Pages+4) - 2}
	}
	if !p.want.on && source.Intn(3) == 0 {
		p.power(true)
	}
	switch n := source.Intn(100); {
	case n < 65:
		if source.Intn(20) == 0 {
			size += source.Intn(3) - 1
		}
		b := randomBytes(source, size)
		if source.Intn(4) == 0 {
			b = all(byte(source.Intn(256)), size)
		}
		p.program(at, b)
	case n < 75:
		p.erase(at.Block)
	case n < 80:
		p.scrub(at.Block)
	case n < 90:
		p.read(at)
	case n < 98:
		p.poke(at, source.Intn(size+4)-2, byte(source.Intn(256)))
	default:
		p.power(false)
	}
}
