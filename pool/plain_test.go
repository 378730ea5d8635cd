package pool

import (
	"bytes"
	"encoding/binary"
	"fmt"
	"math/rand"
	"slices"
	"strings"
	"testing"

	"nepenthe/api"
	"nepenthe/ledger"
	"nepenthe/nand"
)

// The chapters' sizes and kinds, told once more.
const (
	keyCount   = 4
	slotCount  = 4
	headBytes  = 24
	tagBytes   = 32
	markBytes  = 8
	endBytes   = 88
	kindOfData = 1
	kindOfTrim = 2
	kindOfHead = 3
)

// theGeometry has three data blocks, as the chapter's example has.
var theGeometry = api.Geometry{Blocks: 7, Pages: 4, Sector: 208, Spare: 0, Wear: 1, Rounds: 1}

// fewGeometries are theGeometry, the least and the greatest sectors, and the most blocks and pages.
func fewGeometries() []api.Geometry {
	return []api.Geometry{
		theGeometry,
		{Blocks: 7, Pages: 10, Sector: 64, Spare: 0, Wear: 1, Rounds: 1},
		{Blocks: 8, Pages: 20, Sector: 32, Spare: 1, Wear: 3, Rounds: 2},
		{Blocks: 15, Pages: 5, Sector: 160, Spare: 8, Wear: 1000, Rounds: 1000},
		{Blocks: 7, Pages: 4, Sector: 4096, Spare: 0, Wear: 4, Rounds: 2},
		{Blocks: 64, Pages: 32, Sector: 48, Spare: 8, Wear: 1000, Rounds: 1000},
	}
}

// plainChip is an array as its chapter's words have it, bit by bit: it calls nothing of the program.
type plainChip struct {
	g      api.Geometry
	plan   []api.Fault
	on     bool
	pages  [][][]byte
	times  [][]int
	erased []int
	gone   []bool
	ops    []nand.Op
}

func newPlainChip(g api.Geometry, plan []api.Fault) *plainChip {
	c := &plainChip{g: g, plan: plan, on: true, erased: make([]int, g.Blocks), gone: make([]bool, g.Blocks)}
	for range g.Blocks {
		c.pages = append(c.pages, blankPages(g))
		c.times = append(c.times, make([]int, g.Pages))
	}
	return c
}

func blankPages(g api.Geometry) [][]byte {
	pages := [][]byte{}
	for range g.Pages {
		pages = append(pages, all(255, g.Sector+endBytes))
	}
	return pages
}

// due is the fault of the operation that comes next: nil, if there is none.
func (c *plainChip) due() *api.Fault {
	for i := range c.plan {
		if c.plan[i].At == len(c.ops) {
			return &c.plan[i]
		}
	}
	return nil
}

// told keeps an operation, and answers as its fault says.
func (c *plainChip) told(f *api.Fault, op nand.Op) api.Errno {
	if f != nil {
		op.E = api.ErrFail
	}
	if f != nil && f.Crash {
		op.E, c.on = api.ErrPower, false
	}
	c.ops = append(c.ops, op)
	return op.E
}

// there tells whether there is such a page.
func (c *plainChip) there(block, page int) bool {
	return block >= 0 && block < c.g.Blocks && page >= 0 && page < c.g.Pages
}

func (c *plainChip) program(block, page int, with []byte) api.Errno {
	if !c.on {
		return api.ErrPower
	}
	if !c.there(block, page) || len(with) != c.g.Sector+endBytes {
		return api.ErrShape
	}
	times := c.times[block]
	if times[page] == 2 || c.gone[block] {
		return api.ErrTwice
	}
	for behind := page + 1; behind < c.g.Pages; behind++ {
		if times[page] == 0 && times[behind] > 0 {
			return api.ErrOrder
		}
	}
	times[page]++
	f := c.due()
	if f == nil {
		clearBits(c.pages[block][page], with, nil, false)
	} else {
		clearBits(c.pages[block][page], with, f.Mask, !f.Crash)
	}
	return c.told(f, nand.Op{Kind: 1, Place: api.Place{Block: block, Page: page}, Data: bytes.Clone(with)})
}

func (c *plainChip) erase(block int) api.Errno {
	if !c.on {
		return api.ErrPower
	}
	c.erased[block]++
	f := c.due()
	if f == nil {
		c.pages[block] = blankPages(c.g)
		c.times[block] = make([]int, c.g.Pages)
		c.gone[block] = false
	} else {
		row := slices.Concat(c.pages[block]...)
		for i := range row {
			row[i] |= said(f.Mask, i)
		}
		c.lay(block, row)
	}
	return c.told(f, nand.Op{Kind: 2, Place: api.Place{Block: block}})
}

func (c *plainChip) scrub(block int) api.Errno {
	if !c.on {
		return api.ErrPower
	}
	c.gone[block] = true
	f := c.due()
	row := slices.Concat(c.pages[block]...)
	if f == nil {
		clearBits(row, make([]byte, len(row)), nil, false)
	} else {
		clearBits(row, make([]byte, len(row)), f.Mask, false)
	}
	c.lay(block, row)
	return c.told(f, nand.Op{Kind: 3, Place: api.Place{Block: block}})
}

// lay puts one list's bytes into a block, page by page.
func (c *plainChip) lay(block int, row []byte) {
	size := c.g.Sector + endBytes
	for i := range c.g.Pages {
		c.pages[block][i] = bytes.Clone(row[i*size : (i+1)*size])
	}
}

func (c *plainChip) image() []byte {
	return slices.Concat(slices.Concat(c.pages...)...)
}

// said is the bits of byte i that a mask says.
func said(mask []byte, i int) byte {
	if len(mask) == 0 {
		return 255
	}
	return mask[i%len(mask)]
}

// clearBits clears the bits of was that are nought in to, so far as the mask says; not the last of them, if the program fails.
func clearBits(was, to, mask []byte, fails bool) {
	place, keep := 0, byte(0)
	for i := range was {
		for bit := range 8 {
			if one := byte(1) << bit; fails && was[i]&one != 0 && to[i]&one == 0 {
				place, keep = i, one
			}
		}
	}
	for i := range was {
		left := was[i] & (to[i] | ^said(mask, i))
		if i == place {
			left |= keep
		}
		was[i] = left
	}
}

// plainPage is the bytes of a page, not committed: false, if it may not be.
func plainPage(g api.Geometry, h api.Head, payload, tag []byte) ([]byte, bool) {
	if h.Kind < 1 || h.Kind > 4 || h.Ns < 0 || h.Ns > 255 || h.Count < 0 || h.Count > 255 {
		return nil, false
	}
	if len(payload) != 0 && len(payload) != g.Sector || len(tag) != 0 && len(tag) != tagBytes {
		return nil, false
	}
	b := all(255, g.Sector+endBytes)
	copy(b, payload)
	told := []byte{byte(h.Kind), byte(h.Ns), byte(h.Count), 0}
	told = binary.BigEndian.AppendUint32(told, h.Lba)
	told = binary.BigEndian.AppendUint64(told, h.Epoch)
	told = binary.BigEndian.AppendUint64(told, h.Counter)
	for i, x := range told {
		b[g.Sector+i], b[g.Sector+headBytes+i] = x, ^x
	}
	copy(b[g.Sector+2*headBytes:], tag)
	return b, true
}

// plainMark is what commits a page.
func plainMark(g api.Geometry) []byte {
	b := all(255, g.Sector+endBytes)
	clear(b[len(b)-markBytes:])
	return b
}

// plainPool is a pool as the chapter's words have it, with its ledger's blocks, as chapter 21's words have them.
type plainPool struct {
	c      *plainChip
	of     []ledger.Block
	orders []api.Head
}

// blocks is how many data blocks there are.
func (p *plainPool) blocks() int {
	return p.c.g.Blocks - keyCount
}

func (p *plainPool) there(b int) bool {
	return b >= 0 && b < p.blocks()
}

func (p *plainPool) destroy(b int) api.Errno {
	if !p.there(b) {
		return api.ErrShape
	}
	switch p.c.erase(keyCount + b) {
	case api.ErrPower:
		return api.ErrPower
	case api.OK:
		x := &p.of[b]
		x.Owner, x.Used, x.Live = -2, 0, 0
		x.Erases++
		x.Clean, x.Held, x.Leak, x.Gone = true, false, false, false
		return api.OK
	}
	p.of[b].Bad = true
	switch p.c.scrub(keyCount + b) {
	case api.ErrPower:
		return api.ErrPower
	case api.OK:
		p.scrubbed(b, true)
		return api.ErrFail
	}
	p.scrubbed(b, false)
	return api.ErrSanitize
}

func (p *plainPool) scrubbed(b int, whole bool) {
	x := &p.of[b]
	x.Bad, x.Clean, x.Held = true, false, false
	x.Gone, x.Leak = whole, !whole
}

// pick goes from the last block to the first, so that of like ones the first is picked.
func (p *plainPool) pick() int {
	best := -1
	for b := p.blocks() - 1; b >= 0; b-- {
		if p.of[b].Held || p.of[b].Bad {
			continue
		}
		if best < 0 || p.of[b].Erases <= p.of[best].Erases {
			best = b
		}
	}
	return best
}

func (p *plainPool) start(ns int, order api.Head, committed bool) (int, api.Errno) {
	if ns < 0 || ns >= slotCount {
		return 0, api.ErrShape
	}
	if !p.c.on {
		return 0, api.ErrPower
	}
	for b := p.pick(); b >= 0; b = p.pick() {
		if !p.of[b].Clean {
			err := p.destroy(b)
			if err == api.ErrPower {
				return 0, err
			}
			if err != api.OK {
				continue
			}
		}
		h := api.Head{Kind: kindOfHead, Ns: ns, Count: 0, Lba: uint32(uint64(p.of[b].Erases) % (1 << 32)), Epoch: order.Epoch, Counter: order.Counter}
		with, _ := plainPage(p.c.g, h, nil, nil)
		err := p.c.program(keyCount+b, 0, with)
		if err == api.OK && committed {
			err = p.c.program(keyCount+b, 0, plainMark(p.c.g))
		}
		if err == api.OK {
			x := &p.of[b]
			x.Owner, x.Held, x.Clean, x.Used, x.Live = ns, true, false, 0, 0
			p.orders[b] = h
			return b, api.OK
		}
		if err == api.ErrPower {
			return 0, err
		}
		p.of[b].Bad = true
		if p.destroy(b) == api.ErrPower {
			return 0, api.ErrPower
		}
	}
	return 0, api.ErrFull
}

func (p *plainPool) seal(b int) api.Errno {
	if !p.there(b) {
		return api.ErrShape
	}
	return p.c.program(keyCount+b, 0, plainMark(p.c.g))
}

func (p *plainPool) write(b, n int, h api.Head, payload, tag []byte) api.Errno {
	with, ok := plainPage(p.c.g, h, payload, tag)
	if !p.there(b) || !ok {
		return api.ErrShape
	}
	return p.put(b, n, with)
}

func (p *plainPool) copy(b, n int, from api.Place) api.Errno {
	if !p.there(b) || !p.c.there(from.Block, from.Page) {
		return api.ErrShape
	}
	if !p.c.on {
		return api.ErrPower
	}
	with := bytes.Clone(p.c.pages[from.Block][from.Page])
	for i := len(with) - markBytes; i < len(with); i++ {
		with[i] = 255
	}
	return p.put(b, n, with)
}

// put writes a page: programs and commits it.
func (p *plainPool) put(b, n int, with []byte) api.Errno {
	if err := p.c.program(keyCount+b, n, with); err != api.OK {
		return err
	}
	return p.c.program(keyCount+b, n, plainMark(p.c.g))
}

// pair is an array with its ledger and its pool, and all three as the chapters' words have them; lies, whether the ledger was told, or the array done, what the pool did not do.
type pair struct {
	t      *testing.T
	name   string
	chip   *nand.Chip
	ledger *ledger.Ledger
	pool   *Pool
	want   *plainPool
	lies   bool
}

// newPair is such a pair, of which no block is clean, and none has an order.
func newPair(t *testing.T, name string, g api.Geometry, plan ...api.Fault) *pair {
	t.Helper()
	chip, err := nand.New(g, plan)
	if err != api.OK {
		t.Fatalf("%s: nand.New(%+v, %+v): %v", name, g, plan, err)
	}
	n := g.Blocks - keyCount
	p := &pair{t: t, name: name, chip: chip, ledger: newLedger(t, n)}
	p.want = &plainPool{c: newPlainChip(g, plan), of: make([]ledger.Block, n), orders: make([]api.Head, n)}
	for b := range p.want.of {
		p.want.of[b].Owner = -1
	}
	p.make(p.want.orders)
	return p
}

func newLedger(t *testing.T, n int) *ledger.Ledger {
	t.Helper()
	l, err := ledger.New(n)
	if err != api.OK {
		t.Fatalf("ledger.New(%d): %v", n, err)
	}
	return l
}

// make makes the pool anew, with these orders.
func (p *pair) make(orders []api.Head) {
	p.t.Helper()
	made, err := New(p.chip, p.ledger, orders)
	if err != api.OK {
		p.t.Fatalf("%s: New: %v", p.name, err)
	}
	p.pool = made
	p.want.orders = slices.Clone(orders)
	p.check("New")
}

func (p *pair) destroy(b int) api.Errno {
	p.t.Helper()
	err, want := p.pool.Destroy(b), p.want.destroy(b)
	call := fmt.Sprintf("Destroy(%d)", b)
	p.answered(call, err, want)
	// P24.4
	if err == api.OK {
		p.isAll(call, b, 255)
	}
	if err == api.ErrFail {
		p.isAll(call, b, 0)
	}
	return err
}

func (p *pair) open(ns int, order api.Head) (int, api.Errno) {
	p.t.Helper()
	b, err := p.pool.Open(ns, order)
	wantB, want := p.want.start(ns, order, true)
	call := fmt.Sprintf("Open(%d, %+v)", ns, order)
	p.answered(call, err, want)
	if b != wantB {
		p.t.Fatalf("%s: %s = %d, want %d, behind %s", p.name, call, b, wantB, told(p.want.c.ops))
	}
	// P24.5
	if err == api.OK && !p.lies {
		p.hasFirst(call, b, true)
	}
	return b, err
}

func (p *pair) begin(ns int, order api.Head) (int, api.Errno) {
	p.t.Helper()
	b, err := p.pool.Begin(ns, order)
	wantB, want := p.want.start(ns, order, false)
	call := fmt.Sprintf("Begin(%d, %+v)", ns, order)
	p.answered(call, err, want)
	if b != wantB {
		p.t.Fatalf("%s: %s = %d, want %d, behind %s", p.name, call, b, wantB, told(p.want.c.ops))
	}
	return b, err
}

func (p *pair) seal(b int) api.Errno {
	p.t.Helper()
	err, want := p.pool.Seal(b), p.want.seal(b)
	p.answered(fmt.Sprintf("Seal(%d)", b), err, want)
	return err
}

func (p *pair) write(b, n int, h api.Head, payload, tag []byte) api.Errno {
	p.t.Helper()
	err, want := p.pool.Write(b, n, h, payload, tag), p.want.write(b, n, h, payload, tag)
	p.answered(fmt.Sprintf("Write(%d, %d, %+v, %d bytes, %d bytes)", b, n, h, len(payload), len(tag)), err, want)
	return err
}

func (p *pair) copy(b, n int, from api.Place) api.Errno {
	p.t.Helper()
	err, want := p.pool.Copy(b, n, from), p.want.copy(b, n, from)
	p.answered(fmt.Sprintf("Copy(%d, %d, %+v)", b, n, from), err, want)
	return err
}

// opens opens a block, and asks which one it is.
func (p *pair) opens(ns int, order api.Head, want int) {
	p.t.Helper()
	if b, err := p.open(ns, order); b != want || err != api.OK {
		p.t.Fatalf("%s: Open(%d, %+v) = %d, %v, want %d, behind %s", p.name, ns, order, b, err, want, told(p.want.c.ops))
	}
}

// begins begins a block, and asks which one it is.
func (p *pair) begins(ns int, order api.Head, want int) {
	p.t.Helper()
	if b, err := p.begin(ns, order); b != want || err != api.OK {
		p.t.Fatalf("%s: Begin(%d, %+v) = %d, %v, want %d, behind %s", p.name, ns, order, b, err, want, told(p.want.c.ops))
	}
}

// errs asks for an error.
func (p *pair) errs(call string, err, want api.Errno) {
	p.t.Helper()
	if err != want {
		p.t.Fatalf("%s: %s = %v, want %v, behind %s", p.name, call, err, want, told(p.want.c.ops))
	}
}

func (p *pair) power(on bool) {
	p.chip.Power(on)
	p.want.c.on = on
}

// set has the ledger know this of a block.
func (p *pair) set(b int, x ledger.Block) {
	p.t.Helper()
	if err := p.ledger.Set(b, x); err != api.OK {
		p.t.Fatalf("%s: Set(%d, %+v): %v", p.name, b, x, err)
	}
	p.want.of[b] = x
}

// program, erase and scrub are done to the array past the pool.
func (p *pair) program(block, page int, with []byte) {
	p.t.Helper()
	p.lies = true
	err, want := p.chip.Program(api.Place{Block: block, Page: page}, with), p.want.c.program(block, page, with)
	p.answered(fmt.Sprintf("Program(%d, %d)", block, page), err, want)
}

func (p *pair) erase(block int) {
	p.t.Helper()
	p.lies = true
	err, want := p.chip.Erase(block), p.want.c.erase(block)
	p.answered(fmt.Sprintf("Erase(%d)", block), err, want)
}

func (p *pair) scrub(block int) {
	p.t.Helper()
	p.lies = true
	err, want := p.chip.Scrub(block), p.want.c.scrub(block)
	p.answered(fmt.Sprintf("Scrub(%d)", block), err, want)
}

// answered asks for an error, and holds all that can be told of the pool, its ledger and its array against the chapters' words.
func (p *pair) answered(call string, err, want api.Errno) {
	p.t.Helper()
	if err != want {
		p.t.Fatalf("%s: %s = %v, want %v, behind %s", p.name, call, err, want, told(p.want.c.ops))
	}
	p.check(call)
}

func (p *pair) check(call string) {
	p.t.Helper()
	got := p.chip.Trace()
	if !slices.EqualFunc(got, p.want.c.ops, sameOp) || p.chip.Ops() != len(p.want.c.ops) || p.chip.On() != p.want.c.on {
		p.t.Fatalf("%s: behind %s: %s, want %s", p.name, call, told(got), told(p.want.c.ops))
	}
	if !bytes.Equal(p.chip.Image(), p.want.c.image()) {
		p.t.Fatalf("%s: behind %s: the array's bytes differ, behind %s", p.name, call, told(got))
	}
	if p.pool.Ledger() != p.ledger || p.ledger.Len() != len(p.want.of) {
		p.t.Fatalf("%s: behind %s: the ledger is another one", p.name, call)
	}
	for b, want := range p.want.of {
		if x := p.ledger.At(b); x != want {
			p.t.Fatalf("%s: behind %s: of block %d the ledger knows %+v, want %+v, behind %s", p.name, call, b, x, want, told(got))
		}
	}
	for b := -2; b < len(p.want.orders)+2; b++ {
		want := api.Head{}
		if p.want.there(b) {
			want = p.want.orders[b]
		}
		if h := p.pool.Order(b); h != want {
			p.t.Fatalf("%s: behind %s: block %d's order is %+v, want %+v, behind %s", p.name, call, b, h, want, told(got))
		}
	}
}

// isAll asks that all bytes of a block are x.
func (p *pair) isAll(call string, b int, x byte) {
	p.t.Helper()
	row := slices.Concat(p.read(b)...)
	if !bytes.Equal(row, all(x, len(row))) {
		p.t.Fatalf("%s: behind %s not all bytes of block %d are %x, behind %s", p.name, call, b, x, told(p.want.c.ops))
	}
}

// hasFirst asks that a block's first page tells its order, and is committed or not, and that nothing else is there.
func (p *pair) hasFirst(call string, b int, committed bool) {
	p.t.Helper()
	want, _ := plainPage(p.want.c.g, p.pool.Order(b), nil, nil)
	if committed {
		clear(want[len(want)-markBytes:])
	}
	for n, page := range p.read(b) {
		if !bytes.Equal(page, want) {
			p.t.Fatalf("%s: behind %s page %d of block %d is\n%x, want\n%x, behind %s", p.name, call, n, b, page, want, told(p.want.c.ops))
		}
		want = all(255, len(want))
	}
}

// read answers a block's pages, of an array with or without power.
func (p *pair) read(b int) [][]byte {
	p.t.Helper()
	was := p.chip.On()
	p.chip.Power(true)
	pages := [][]byte{}
	for n := range p.want.c.g.Pages {
		page, err := p.chip.Read(api.Place{Block: keyCount + b, Page: n})
		if err != api.OK {
			p.t.Fatalf("%s: Read(%d, %d): %v", p.name, b, n, err)
		}
		pages = append(pages, page)
	}
	p.chip.Power(was)
	return pages
}

func sameOp(a, b nand.Op) bool {
	return a.Kind == b.Kind && a.Place == b.Place && a.E == b.E && bytes.Equal(a.Data, b.Data)
}

// told tells operations: p1.2 a program of page 2 of data block 1, e1 an erase, s1 a scrub; with ! behind, if it failed, and *, if the power went.
func told(ops []nand.Op) string {
	words := []string{}
	for _, op := range ops {
		word := fmt.Sprintf("%c%d", " pes"[op.Kind], op.Place.Block-keyCount)
		if op.Kind == 1 {
			word += fmt.Sprintf(".%d", op.Place.Page)
		}
		words = append(words, word+map[api.Errno]string{api.OK: "", api.ErrFail: "!", api.ErrPower: "*"}[op.E])
	}
	return strings.Join(words, " ")
}

// does asks what operations a call does.
func (p *pair) does(want string, call func()) {
	p.t.Helper()
	n := p.chip.Ops()
	call()
	if got := told(p.chip.Trace()[n:]); got != want {
		p.t.Fatalf("%s: the operations are %q, want %q", p.name, got, want)
	}
}

// knows asks what the ledger knows of a block.
func (p *pair) knows(b int, want ledger.Block) {
	p.t.Helper()
	if x := p.ledger.At(b); x != want {
		p.t.Fatalf("%s: of block %d the ledger knows %+v, want %+v, behind %s", p.name, b, x, want, told(p.want.c.ops))
	}
}

func all(x byte, n int) []byte {
	return bytes.Repeat([]byte{x}, n)
}

// payloadOf is a payload of which no two bytes near each other are alike.
func payloadOf(g api.Geometry, seed int) []byte {
	b := make([]byte, g.Sector)
	for i := range b {
		b[i] = byte(seed + i*7 + i/251)
	}
	return b
}

// tagOf is a tag that is told by its seed.
func tagOf(seed int) []byte {
	b := make([]byte, tagBytes)
	for i := range b {
		b[i] = byte(seed*3 + i*5)
	}
	return b
}

// dataHead is a head of a sector.
func dataHead(ns int, lba uint32) api.Head {
	return api.Head{Kind: kindOfData, Ns: ns, Count: 1, Lba: lba, Epoch: 4, Counter: 1<<40 + uint64(lba)}
}

// orderOf is an order by its number.
func orderOf(n int) api.Head {
	return api.Head{Epoch: uint64(n) << 33, Counter: uint64(n)*5 + 1}
}

func randomBytes(source *rand.Rand, n int) []byte {
	b := make([]byte, n)
	source.Read(b)
	return b
}

func fails(at int, mask ...byte) api.Fault {
	return api.Fault{At: at, Mask: mask}
}

func crash(at int, mask ...byte) api.Fault {
	return api.Fault{At: at, Crash: true, Mask: mask}
}

// fewMasks do nothing, all, and part of it.
func fewMasks() [][]byte {
	return [][]byte{{0}, {}, {255}, {0x0f}, {0xaa}, {1, 0, 0}, randomBytes(rand.New(rand.NewSource(2401)), 64)}
}

// upTo is a mask by which the first n of so many bytes are done.
func upTo(n, size int) []byte {
	mask := make([]byte, size)
	for i := range n {
		mask[i] = 255
	}
	return mask
}
