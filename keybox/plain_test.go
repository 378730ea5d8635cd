package keybox

import (
	"bytes"
	"encoding/binary"
	"fmt"
	"math/rand"
	"slices"
	"strings"
	"testing"

	"nepenthe/api"
	"nepenthe/nand"
)

// The chapters' sizes, told once more.
const (
	keyCount    = 4
	recordBytes = 624
	headBytes   = 24
	markBytes   = 8
	endBytes    = 88
)

// theGeometry's records are three pages, of blocks that have one more.
var theGeometry = api.Geometry{Blocks: 7, Pages: 4, Sector: 208, Spare: 0, Wear: 1, Rounds: 1}

// onePage is such that a record's first page is its last, too.
var onePage = api.Geometry{Blocks: 7, Pages: 4, Sector: 624, Spare: 0, Wear: 1, Rounds: 1}

// fewGeometries are theGeometry, those in which a record fills a block, and is one page, and the least and the greatest sectors.
func fewGeometries() []api.Geometry {
	return []api.Geometry{
		theGeometry,
		onePage,
		{Blocks: 7, Pages: 10, Sector: 64, Spare: 0, Wear: 1, Rounds: 1},
		{Blocks: 7, Pages: 20, Sector: 32, Spare: 0, Wear: 1, Rounds: 1},
		{Blocks: 15, Pages: 5, Sector: 160, Spare: 8, Wear: 1000, Rounds: 1000},
		{Blocks: 8, Pages: 4, Sector: 4096, Spare: 1, Wear: 4, Rounds: 2},
		{Blocks: 64, Pages: 32, Sector: 48, Spare: 8, Wear: 1000, Rounds: 1000},
	}
}

// plainChip is an array as its chapter's words have it, bit by bit: it calls nothing of the program.
type plainChip struct {
	g      api.Geometry
	plan   []api.Fault
	on     bool
	pages  [][][]byte
	times  [][]int
	erased []int
	gone   []bool
	ops    []nand.Op
}

func newPlainChip(g api.Geometry, plan []api.Fault) *plainChip {
	c := &plainChip{g: g, plan: plan, on: true, erased: make([]int, g.Blocks), gone: make([]bool, g.Blocks)}
	for range g.Blocks {
		c.pages = append(c.pages, blankPages(g))
		c.times = append(c.times, make([]int, g.Pages))
	}
	return c
}

func blankPages(g api.Geometry) [][]byte {
	pages := [][]byte{}
	for range g.Pages {
		pages = append(pages, all(255, g.Sector+endBytes))
	}
	return pages
}

// due is the fault of the operation that comes next: nil, if there is none.
func (c *plainChip) due() *api.Fault {
	for i := range c.plan {
		if c.plan[i].At == len(c.ops) {
			return &c.plan[i]
		}
	}
	return nil
}

// told keeps an operation, and answers as its fault says.
func (c *plainChip) told(f *api.Fault, op nand.Op) api.Errno {
	if f != nil {
		op.E = api.ErrFail
	}
	if f != nil && f.Crash {
		op.E, c.on = api.ErrPower, false
	}
	c.ops = append(c.ops, op)
	return op.E
}

func (c *plainChip) program(block, page int, with []byte) api.Errno {
	if !c.on {
		return api.ErrPower
	}
	times := c.times[block]
	if times[page] == 2 || c.gone[block] {
		return api.ErrTwice
	}
	for behind := page + 1; behind < c.g.Pages; behind++ {
		if times[page] == 0 && times[behind] > 0 {
			return api.ErrOrder
		}
	}
	times[page]++
	f := c.due()
	if f == nil {
		clearBits(c.pages[block][page], with, nil, false)
	} else {
		clearBits(c.pages[block][page], with, f.Mask, !f.Crash)
	}
	return c.told(f, nand.Op{Kind: 1, Place: api.Place{Block: block, Page: page}, Data: bytes.Clone(with)})
}

func (c *plainChip) erase(block int) api.Errno {
	if !c.on {
		return api.ErrPower
	}
	c.erased[block]++
	f := c.due()
	if f == nil {
		c.pages[block] = blankPages(c.g)
		c.times[block] = make([]int, c.g.Pages)
		c.gone[block] = false
	} else {
		row := slices.Concat(c.pages[block]...)
		for i := range row {
			row[i] |= said(f.Mask, i)
		}
		c.lay(block, row)
	}
	return c.told(f, nand.Op{Kind: 2, Place: api.Place{Block: block}})
}

func (c *plainChip) scrub(block int) api.Errno {
	if !c.on {
		return api.ErrPower
	}
	c.gone[block] = true
	f := c.due()
	row := slices.Concat(c.pages[block]...)
	if f == nil {
		clearBits(row, make([]byte, len(row)), nil, false)
	} else {
		clearBits(row, make([]byte, len(row)), f.Mask, false)
	}
	c.lay(block, row)
	return c.told(f, nand.Op{Kind: 3, Place: api.Place{Block: block}})
}

// lay puts one list's bytes into a block, page by page.
func (c *plainChip) lay(block int, row []byte) {
	size := c.g.Sector + endBytes
	for i := range c.g.Pages {
		c.pages[block][i] = bytes.Clone(row[i*size : (i+1)*size])
	}
}

func (c *plainChip) image() []byte {
	return slices.Concat(slices.Concat(c.pages...)...)
}

// said is the bits of byte i that a mask says.
func said(mask []byte, i int) byte {
	if len(mask) == 0 {
		return 255
	}
	return mask[i%len(mask)]
}

// clearBits clears the bits of was that are nought in to, so far as the mask says; not the last of them, if the program fails.
func clearBits(was, to, mask []byte, fails bool) {
	place, keep := 0, byte(0)
	for i := range was {
		for bit := range 8 {
			if one := byte(1) << bit; fails && was[i]&one != 0 && to[i]&one == 0 {
				place, keep = i, one
			}
		}
	}
	for i := range was {
		left := was[i] & (to[i] | ^said(mask, i))
		if i == place {
			left |= keep
		}
		was[i] = left
	}
}

// plainPages are a record's pages, byte by byte, with what commits the last one behind them.
func plainPages(sector int, rec []byte, gen uint64) (pages [][]byte, mark []byte) {
	count := (recordBytes-1)/sector + 1
	for i := range count {
		b := all(255, sector+endBytes)
		copy(b[:sector], rec[i*sector:])
		copy(b[sector:], plainHead(i, count, gen))
		pages = append(pages, b)
	}
	mark = all(255, sector+endBytes)
	clear(mark[sector+endBytes-markBytes:])
	return pages, mark
}

// plainHead is the bytes of the head of a record's page, with their complement behind.
func plainHead(i, count int, gen uint64) []byte {
	b := []byte{4, byte(i), 0, 0, 0, 0, 0, byte(count)}
	b = binary.BigEndian.AppendUint64(b, gen)
	b = append(b, make([]byte, 8)...)
	for _, x := range b[:headBytes] {
		b = append(b, ^x)
	}
	return b
}

// plainHold takes the generation of a block's first page, and holds all ends against what they have to be.
func plainHold(g api.Geometry, pages [][]byte) (uint64, []byte, bool) {
	gen := binary.BigEndian.Uint64(pages[0][g.Sector+8:])
	count := (recordBytes-1)/g.Sector + 1
	row := []byte{}
	for i := range count {
		if !bytes.Equal(pages[i][g.Sector:g.Sector+2*headBytes], plainHead(i, count, gen)) {
			return 0, nil, false
		}
		row = append(row, pages[i][:g.Sector]...)
	}
	return gen, row[:recordBytes], bytes.HasSuffix(pages[count-1], make([]byte, markBytes))
}

// plainBlock is what a key store knows of a block.
type plainBlock struct {
	clean, bad, leaks bool
}

// plainBox is a key store as the chapter's words have it.
type plainBox struct {
	c   *plainChip
	at  int
	gen uint64
	of  [keyCount]plainBlock
}

// plainOpen goes from the last block to the first, so that of like ones the first stays.
func plainOpen(c *plainChip) (*plainBox, []byte, api.Errno) {
	if c == nil || !c.on {
		return nil, nil, api.ErrPower
	}
	b, rec := &plainBox{c: c, at: -1}, []byte(nil)
	for i := keyCount - 1; i >= 0; i-- {
		if gen, held, ok := plainHold(c.g, c.pages[i]); ok && gen >= b.gen {
			b.at, b.gen, rec = i, gen, held
		}
	}
	if b.at < 0 {
		return b, nil, api.ErrBlank
	}
	return b, rec, api.OK
}

// destroy tells whether there is power still.
func (b *plainBox) destroy(i int) bool {
	switch b.c.erase(i) {
	case api.OK:
		b.of[i].clean = true
		b.of[i].leaks = false
	case api.ErrFail:
		b.of[i].bad = true
		switch b.c.scrub(i) {
		case api.OK:
			b.of[i].leaks = false
		case api.ErrFail:
			b.of[i].leaks = true
		}
	}
	return b.c.on
}

// try writes to a block, and tells whether all was done; the power may have gone.
func (b *plainBox) try(i int, pages [][]byte, mark []byte) bool {
	if !b.of[i].clean && !b.destroy(i) {
		return false
	}
	if !b.of[i].clean {
		return false
	}
	b.of[i].clean = false
	for n := 0; n <= len(pages); n++ {
		err := api.OK
		if n < len(pages) {
			err = b.c.program(i, n, pages[n])
		} else {
			err = b.c.program(i, n-1, mark)
		}
		if err == api.ErrPower {
			return false
		}
		if err != api.OK {
			b.of[i].bad = true
			b.destroy(i)
			return false
		}
	}
	return true
}

func (b *plainBox) commit(rec []byte, gen uint64) api.Errno {
	if b == nil || !b.c.on {
		return api.ErrPower
	}
	if len(rec) != recordBytes {
		return api.ErrShape
	}
	pages, mark := plainPages(b.c.g.Sector, rec, gen)
	// The chapter's example, for each block that may be current, and for none.
	order := map[int][]int{-1: {0, 1, 2, 3}, 0: {1, 2, 3}, 1: {2, 3, 0}, 2: {3, 0, 1}, 3: {0, 1, 2}}
	for _, i := range order[b.at] {
		if b.of[i].bad {
			continue
		}
		done := b.try(i, pages, mark)
		if !b.c.on {
			return api.ErrPower
		}
		if done {
			b.at, b.gen = i, gen
			return b.rest()
		}
	}
	return api.ErrReadOnly
}

// rest destroys what is not current.
func (b *plainBox) rest() api.Errno {
	for i, of := range b.of {
		if i == b.at || of.clean || of.bad && !of.leaks {
			continue
		}
		if !b.destroy(i) {
			return api.ErrPower
		}
	}
	return api.OK
}

// pair is an array with its key store, and both as the chapters' words have them; cut, whether the power went since the key store was opened.
type pair struct {
	t        *testing.T
	name     string
	chip     *nand.Chip
	box      *Box
	wantChip *plainChip
	wantBox  *plainBox
	cut      bool
}

func newPair(t *testing.T, name string, g api.Geometry, plan ...api.Fault) *pair {
	t.Helper()
	chip, err := nand.New(g, plan)
	if err != api.OK {
		t.Fatalf("%s: New(%+v, %+v): %v", name, g, plan, err)
	}
	return &pair{t: t, name: name, chip: chip, wantChip: newPlainChip(g, plan)}
}

// opened is such a pair, its key store opened.
func opened(t *testing.T, name string, g api.Geometry, plan ...api.Fault) *pair {
	t.Helper()
	p := newPair(t, name, g, plan...)
	p.open()
	return p
}

// open opens the key store anew, and answers the record with Open's error.
func (p *pair) open() ([]byte, api.Errno) {
	p.t.Helper()
	box, rec, err := Open(p.chip)
	want, wantRec, wantErr := plainOpen(p.wantChip)
	if err != wantErr || !bytes.Equal(rec, wantRec) || (box == nil) != (want == nil) {
		p.t.Fatalf("%s: Open = %v, %x, %v, want %v, %x, %v", p.name, box != nil, rec, err, want != nil, wantRec, wantErr)
	}
	p.box, p.wantBox, p.cut = box, want, false
	p.check("Open")
	return rec, err
}

func (p *pair) commit(rec []byte, gen uint64) api.Errno {
	p.t.Helper()
	n, was := p.chip.Ops(), p.box.Current()
	err, want := p.box.Commit(rec, gen), p.wantBox.commit(rec, gen)
	call := fmt.Sprintf("Commit(%d bytes, %d)", len(rec), gen)
	if err != want {
		p.t.Fatalf("%s: %s = %v, want %v, behind %s", p.name, call, err, want, told(p.wantChip.ops))
	}
	p.check(call)
	p.cut = p.cut || !p.chip.On()
	// P20.5
	if most := 8 * ((recordBytes-1)/p.wantChip.g.Sector + 1 + 6); p.chip.Ops()-n > most {
		p.t.Fatalf("%s: %s takes more than %d operations: %s", p.name, call, most, p.since(n))
	}
	// P20.4, and likewise what was tried in vain.
	if (err == api.OK || err == api.ErrReadOnly) && !p.box.Leaks() && !p.cut {
		p.nothingElse()
	}
	if err == api.ErrReadOnly && p.box.Current() != was {
		p.t.Fatalf("%s: behind %s the current block is %d, not %d", p.name, call, p.box.Current(), was)
	}
	return err
}

// commits commits a record that is told by its generation, and asks for the answer.
func (p *pair) commits(gen uint64, want api.Errno) {
	p.t.Helper()
	if err := p.commit(recordOf(gen), gen); err != want {
		p.t.Fatalf("%s: Commit of generation %d = %v, want %v, behind %s", p.name, gen, err, want, told(p.wantChip.ops))
	}
}

func (p *pair) power(on bool) {
	p.chip.Power(on)
	p.wantChip.on = on
	p.cut = p.cut || !on
}

// program, erase and scrub are done to the array past its key store.
func (p *pair) program(block, page int, with []byte) {
	p.t.Helper()
	err, want := p.chip.Program(api.Place{Block: block, Page: page}, with), p.wantChip.program(block, page, with)
	if err != want {
		p.t.Fatalf("%s: Program(%d, %d) = %v, want %v", p.name, block, page, err, want)
	}
}

func (p *pair) erase(block int) {
	p.t.Helper()
	if err, want := p.chip.Erase(block), p.wantChip.erase(block); err != want {
		p.t.Fatalf("%s: Erase(%d) = %v, want %v", p.name, block, err, want)
	}
}

func (p *pair) scrub(block int) {
	p.t.Helper()
	if err, want := p.chip.Scrub(block), p.wantChip.scrub(block); err != want {
		p.t.Fatalf("%s: Scrub(%d) = %v, want %v", p.name, block, err, want)
	}
}

// poke changes a byte while there is no power.
func (p *pair) poke(block, page, at int, x byte) {
	p.t.Helper()
	was := p.chip.On()
	p.power(false)
	if err := p.chip.Poke(api.Place{Block: block, Page: page}, at, x); err != api.OK {
		p.t.Fatalf("%s: Poke: %v", p.name, err)
	}
	p.wantChip.pages[block][page][at] = x
	p.power(was)
}

// lay programs a record to a block, past the key store.
func (p *pair) lay(block int, rec []byte, gen uint64, committed bool) {
	p.t.Helper()
	pages, mark := plainPages(p.wantChip.g.Sector, rec, gen)
	for i, b := range pages {
		p.program(block, i, b)
	}
	if committed {
		p.program(block, len(pages)-1, mark)
	}
}

// check holds all that the key store and its array tell against the chapters' words.
func (p *pair) check(call string) {
	p.t.Helper()
	if got, want := stateOf(p.box), p.wantBox.state(); got != want {
		p.t.Fatalf("%s: behind %s: %+v, want %+v, behind %s", p.name, call, got, want, told(p.wantChip.ops))
	}
	got := p.chip.Trace()
	if !slices.EqualFunc(got, p.wantChip.ops, sameOp) || p.chip.Ops() != len(p.wantChip.ops) || p.chip.On() != p.wantChip.on {
		p.t.Fatalf("%s: behind %s: %s, want %s", p.name, call, told(got), told(p.wantChip.ops))
	}
	if !bytes.Equal(p.chip.Image(), p.wantChip.image()) {
		p.t.Fatalf("%s: behind %s: the array's bytes differ, behind %s", p.name, call, told(got))
	}
	for i, n := range p.wantChip.erased {
		if p.chip.Erases(i) != n {
			p.t.Fatalf("%s: behind %s: block %d was erased %d times, want %d", p.name, call, i, p.chip.Erases(i), n)
		}
	}
}

// state is all that a key store tells; of Bad from block -2 on.
type state struct {
	current int
	gen     uint64
	leaks   bool
	bad     [keyCount + 4]bool
}

func stateOf(b *Box) state {
	s := state{current: b.Current(), gen: b.Gen(), leaks: b.Leaks()}
	for i := range s.bad {
		s.bad[i] = b.Bad(i - 2)
	}
	return s
}

func (b *plainBox) state() state {
	if b == nil {
		return state{current: -1}
	}
	s := state{current: b.at, gen: b.gen}
	for i, of := range b.of {
		s.leaks = s.leaks || of.leaks
		s.bad[i+2] = of.bad
	}
	return s
}

func sameOp(a, b nand.Op) bool {
	return a.Kind == b.Kind && a.Place == b.Place && a.E == b.E && bytes.Equal(a.Data, b.Data)
}

// told tells operations: p1.2 a program of page 2 of block 1, e1 an erase, s1 a scrub; with ! behind, if it failed, and *, if the power went.
func told(ops []nand.Op) string {
	words := []string{}
	for _, op := range ops {
		word := fmt.Sprintf("%c%d", " pes"[op.Kind], op.Place.Block)
		if op.Kind == 1 {
			word += fmt.Sprintf(".%d", op.Place.Page)
		}
		words = append(words, word+map[api.Errno]string{api.OK: "", api.ErrFail: "!", api.ErrPower: "*"}[op.E])
	}
	return strings.Join(words, " ")
}

// since tells the operations from one on.
func (p *pair) since(n int) string {
	return told(p.chip.Trace()[n:])
}

// does asks what operations a call does.
func (p *pair) does(want string, call func()) {
	p.t.Helper()
	n := p.chip.Ops()
	call()
	if got := p.since(n); got != want {
		p.t.Fatalf("%s: the operations are %q, want %q", p.name, got, want)
	}
}

// is asks which block is current, its generation, whether one leaks, and which ones are bad.
func (p *pair) is(current int, gen uint64, leaks bool, bad ...int) {
	p.t.Helper()
	want := state{current: current, gen: gen, leaks: leaks}
	for _, i := range bad {
		want.bad[i+2] = true
	}
	if got := stateOf(p.box); got != want {
		p.t.Fatalf("%s: %+v, want %+v", p.name, got, want)
	}
}

// nothingElse asks that all key blocks but the current one are 0xff, or noughts.
func (p *pair) nothingElse() {
	p.t.Helper()
	for block := range keyCount {
		if block == p.box.Current() {
			continue
		}
		row := slices.Concat(p.read(block)...)
		if !bytes.Equal(row, all(255, len(row))) && !bytes.Equal(row, all(0, len(row))) {
			p.t.Fatalf("%s: block %d has something, behind %s", p.name, block, told(p.wantChip.ops))
		}
	}
}

// read answers a block's pages.
func (p *pair) read(block int) [][]byte {
	p.t.Helper()
	pages := [][]byte{}
	for i := range p.wantChip.g.Pages {
		b, err := p.chip.Read(api.Place{Block: block, Page: i})
		if err != api.OK {
			p.t.Fatalf("%s: Read(%d, %d): %v", p.name, block, i, err)
		}
		pages = append(pages, b)
	}
	return pages
}

// finds opens the key store anew, and asks for its record.
func (p *pair) finds(gen uint64) {
	p.t.Helper()
	p.open()
	p.holds(gen)
}

// holds asks for the record that an Open finds; the key store that is open stays so.
func (p *pair) holds(gen uint64) {
	p.t.Helper()
	box, rec, err := Open(p.chip)
	if err != api.OK || box.Gen() != gen || !bytes.Equal(rec, recordOf(gen)) {
		p.t.Fatalf("%s: Open finds %x of generation %d, %v, want generation %d", p.name, rec, box.Gen(), err, gen)
	}
}

func all(x byte, n int) []byte {
	return bytes.Repeat([]byte{x}, n)
}

// recordOf is a record that is told by its generation: no two pages of it are alike, and no two records.
func recordOf(gen uint64) []byte {
	b := make([]byte, recordBytes)
	for i := range b {
		b[i] = byte(gen) + byte(i%251) + byte(i/251)
	}
	binary.BigEndian.PutUint64(b[recordBytes/2:], gen)
	return b
}

func randomBytes(source *rand.Rand, n int) []byte {
	b := make([]byte, n)
	source.Read(b)
	return b
}

func fails(at int, mask ...byte) api.Fault {
	return api.Fault{At: at, Mask: mask}
}

func crash(at int, mask ...byte) api.Fault {
	return api.Fault{At: at, Crash: true, Mask: mask}
}

// fewMasks do nothing, all, and part of it.
func fewMasks() [][]byte {
	return [][]byte{{0}, {}, {255}, {0x0f}, {0xaa}, {1, 0, 0}, randomBytes(rand.New(rand.NewSource(2001)), 64)}
}
