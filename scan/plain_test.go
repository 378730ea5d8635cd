package scan

import (
	"bytes"
	"encoding/binary"
	"fmt"
	"math"
	"math/rand"
	"slices"
	"testing"

	"nepenthe/api"
	"nepenthe/ledger"
	"nepenthe/nand"
	"nepenthe/page"
	"nepenthe/pagemap"
	"nepenthe/slot"
)

// The chapters' sizes, told once more.
const (
	keyCount     = 4
	slotCount    = 4
	recordBytes  = 624
	headBytes    = 24
	markBytes    = 8
	endBytes     = 88
	wrappedBytes = 104
	mostSectors  = 65535
)

// Kinds of pages, and owners that are no namespaces, told once more.
const (
	data    = 1
	trim    = 2
	first   = 3
	key     = 4
	unknown = -1
)

// theGeometry has five data blocks, each with five pages for data.
var theGeometry = api.Geometry{Blocks: 9, Pages: 6, Sector: 112, Spare: 1, Wear: 1, Rounds: 1}

// fewGeometries are theGeometry, and some at the edges of what may be.
func fewGeometries() []api.Geometry {
	return []api.Geometry{
		theGeometry,
		{Blocks: 7, Pages: 4, Sector: 160, Spare: 0, Wear: 1, Rounds: 1},
		{Blocks: 7, Pages: 20, Sector: 32, Spare: 0, Wear: 1, Rounds: 1},
		{Blocks: 15, Pages: 5, Sector: 128, Spare: 8, Wear: 1000, Rounds: 1000},
		{Blocks: 8, Pages: 4, Sector: 4096, Spare: 1, Wear: 4, Rounds: 2},
		{Blocks: 64, Pages: 32, Sector: 48, Spare: 8, Wear: 1000, Rounds: 1000},
		{Blocks: 64, Pages: 4, Sector: 208, Spare: 0, Wear: 2, Rounds: 3},
	}
}

// wrongGeometries are such that each is wrong for one reason, just beside one that is right, or for several. In none are there more pages than a test hands in.
func wrongGeometries() []api.Geometry {
	all := []api.Geometry{{}, {Blocks: math.MinInt, Pages: math.MinInt, Sector: math.MinInt}, {Blocks: 7, Pages: 3, Sector: 4096, Wear: 1, Rounds: 1}}
	for _, change := range []func(g *api.Geometry){
		func(g *api.Geometry) { g.Blocks = 6 },
		func(g *api.Geometry) { g.Blocks = 65 },
		func(g *api.Geometry) { g.Blocks = math.MaxInt },
		func(g *api.Geometry) { g.Pages = 33 },
		func(g *api.Geometry) { g.Pages = 5 },
		func(g *api.Geometry) { g.Pages = 0 },
		func(g *api.Geometry) { g.Pages = -1 },
		func(g *api.Geometry) { g.Pages = math.MaxInt },
		func(g *api.Geometry) { g.Sector = 111 },
		func(g *api.Geometry) { g.Sector = 120 },
		func(g *api.Geometry) { g.Sector = 0 },
		func(g *api.Geometry) { g.Sector = -88 },
		func(g *api.Geometry) { g.Sector = 4112 },
		func(g *api.Geometry) { g.Spare = -1 },
		func(g *api.Geometry) { g.Spare = 3 },
		func(g *api.Geometry) { g.Wear = 0 },
		func(g *api.Geometry) { g.Wear = 1001 },
		func(g *api.Geometry) { g.Rounds = 0 },
		func(g *api.Geometry) { g.Rounds = 1001 },
	} {
		g := theGeometry
		change(&g)
		all = append(all, g)
	}
	return all
}

// plainRight tells whether a geometry is right, number by number.
func plainRight(g api.Geometry) bool {
	switch {
	case g.Blocks < 7, g.Blocks > 64, g.Pages < 4, g.Pages > 32, g.Spare < 0, g.Spare > 8:
		return false
	case g.Wear < 1, g.Wear > 1000, g.Rounds < 1, g.Rounds > 1000:
		return false
	case g.Sector < 32, g.Sector > 4096, g.Sector&15 != 0:
		return false
	}
	return g.Sector*g.Pages >= recordBytes && g.Blocks-keyCount-g.Spare >= 3
}

// plainCommitted is the head that a page of so many bytes' sector tells, if it is committed, bit by bit.
func plainCommitted(b []byte, sector int) (api.Head, bool) {
	if len(b) != sector+endBytes || !bytes.HasSuffix(b, make([]byte, markBytes)) {
		return api.Head{}, false
	}
	end := b[sector:]
	for i := range headBytes {
		if end[i] != 255-end[headBytes+i] {
			return api.Head{}, false
		}
	}
	if end[0] == 0 || end[0] > 4 || end[3] != 0 {
		return api.Head{}, false
	}
	return api.Head{
		Kind:    int(end[0]),
		Ns:      int(end[1]),
		Count:   int(end[2]),
		Lba:     binary.BigEndian.Uint32(end[4:]),
		Epoch:   binary.BigEndian.Uint64(end[8:]),
		Counter: binary.BigEndian.Uint64(end[16:]),
	}, true
}

// plainTold is what the pages of a block tell, as the chapter says.
func plainTold(g api.Geometry, block int, pages [][]byte) Told {
	if !plainRight(g) || len(pages) < g.Pages {
		return Told{}
	}
	of, ok := plainCommitted(pages[0], g.Sector)
	if !ok || of.Kind != first || !slices.Contains([]int{0, 1, 2, 3}, of.Ns) {
		return Told{}
	}
	told := Told{Known: true, Ns: of.Ns, Erases: int(of.Lba), Order: of}
	for n, b := range pages[:g.Pages] {
		if h, ok := plainCommitted(b, g.Sector); ok && (h.Kind == data || h.Kind == trim) && h.Ns == of.Ns && n > 0 {
			told.Spots = append(told.Spots, pagemap.Spot{Place: at(block, n), Head: h, Order: of})
		}
	}
	return told
}

// sector is one of a namespace.
type sector struct{ ns, lba int }

// plain is what an array tells, as the chapter's words have it.
type plain struct {
	sizes  [slotCount]int
	spots  map[sector]pagemap.Spot
	blocks []ledger.Block
	orders []api.Head
}

// plainUsed tells whether a slot is one that is right, and used.
func plainUsed(s slot.Slot) bool {
	return s.Used && s.Size > 0 && s.Size <= mostSectors && len(s.Wrapped) == wrappedBytes
}

// plainBehind tells whether the first row of numbers is the greater one.
func plainBehind(a, b []uint64) bool {
	return slices.Compare(a, b) > 0
}

// put gives a spot to its sectors, if all of them are there.
func (p *plain) put(s pagemap.Spot) {
	lba, count := int(s.Head.Lba), s.Head.Count
	if count == 0 || lba+count > p.sizes[s.Head.Ns] {
		return
	}
	age := func(s pagemap.Spot) []uint64 {
		return []uint64{s.Head.Epoch, s.Head.Counter, s.Order.Epoch, s.Order.Counter}
	}
	for i := range count {
		x := sector{s.Head.Ns, lba + i}
		if was, there := p.spots[x]; !there || plainBehind(age(s), age(was)) {
			p.spots[x] = s
		}
	}
}

// places are the places of a block that some sector's spot has, by page, each with the spot of the first sector.
func (p *plain) places(block int) []pagemap.Spot {
	of := map[int]pagemap.Spot{}
	for _, s := range p.spots {
		if s.Place.Block == block {
			of[s.Place.Page] = s
		}
	}
	all := []pagemap.Spot{}
	for n := range 32 {
		if s, there := of[n]; there {
			all = append(all, s)
		}
	}
	return all
}

// plainFound works out what an array tells from its bytes.
func plainFound(g api.Geometry, image []byte, slots [slotCount]slot.Slot, bad uint64) *plain {
	p := &plain{spots: map[sector]pagemap.Spot{}}
	for ns, s := range slots {
		if plainUsed(s) {
			p.sizes[ns] = s.Size
		}
	}
	all := []Told{}
	for block := keyCount; block < g.Blocks; block++ {
		pages := slices.Collect(slices.Chunk(image, g.Sector+endBytes))[block*g.Pages:][:g.Pages]
		all = append(all, plainTold(g, block, pages))
	}
	most := 0
	for _, told := range all {
		for _, s := range told.Spots {
			under := slots[told.Ns]
			if plainUsed(under) && plainBehind([]uint64{s.Head.Epoch, s.Head.Counter}, []uint64{under.Epoch, under.Counter}) {
				p.put(s)
			}
		}
		if told.Known && told.Erases > most {
			most = told.Erases
		}
	}
	for i, told := range all {
		x := ledger.Block{Owner: unknown, Erases: most, Bad: bad/(1<<(keyCount+i))%2 == 1}
		if told.Known {
			x.Owner, x.Erases = told.Ns, told.Erases
		}
		if live := len(p.places(keyCount + i)); live > 0 {
			x.Held, x.Live, x.Used = true, live, g.Pages-1
		}
		p.blocks = append(p.blocks, x)
		p.orders = append(p.orders, told.Order)
	}
	return p
}

// at is a place.
func at(block, page int) api.Place {
	return api.Place{Block: block, Page: page}
}

// opening is the head of a block's first page.
func opening(ns, erases, epoch, counter int) api.Head {
	return api.Head{Kind: first, Ns: ns, Lba: uint32(erases), Epoch: uint64(epoch), Counter: uint64(counter)}
}

// dataOf is the head of a page of data.
func dataOf(ns, lba, epoch, counter int) api.Head {
	return api.Head{Kind: data, Ns: ns, Count: 1, Lba: uint32(lba), Epoch: uint64(epoch), Counter: uint64(counter)}
}

// trimOf is the head of a page that trims sectors.
func trimOf(ns, lba, count, epoch, counter int) api.Head {
	return api.Head{Kind: trim, Ns: ns, Count: count, Lba: uint32(lba), Epoch: uint64(epoch), Counter: uint64(counter)}
}

// slotOf is a used slot with a floor.
func slotOf(size, epoch, counter int) slot.Slot {
	return slot.Slot{Used: true, Size: size, Epoch: uint64(epoch), Counter: uint64(counter), Wrapped: all(7, wrappedBytes)}
}

// all is a byte, n times.
func all(x byte, n int) []byte {
	return bytes.Repeat([]byte{x}, n)
}

// made is a page with that head, committed or not.
func made(t *testing.T, g api.Geometry, h api.Head, done bool) []byte {
	t.Helper()
	b, err := page.Make(g, h, all(byte(h.Lba), g.Sector), all(byte(h.Counter), 32))
	if err != api.OK {
		t.Fatalf("page.Make(%+v, %+v): %v", g, h, err)
	}
	if done {
		copy(b[len(b)-markBytes:], make([]byte, markBytes))
	}
	return b
}

// blankPages are a block's pages, none of them programmed.
func blankPages(g api.Geometry) [][]byte {
	pages := [][]byte{}
	for range g.Pages {
		pages = append(pages, all(255, g.Sector+endBytes))
	}
	return pages
}

// blockOf are a block's pages, of which the first ones are committed with these heads.
func blockOf(t *testing.T, g api.Geometry, heads ...api.Head) [][]byte {
	t.Helper()
	pages := blankPages(g)
	for n, h := range heads {
		pages[n] = made(t, g, h, true)
	}
	return pages
}

// copied are pages in memory of their own, with room behind each that has another byte.
func copied(pages [][]byte) [][]byte {
	out := [][]byte{}
	for _, b := range pages {
		if b != nil {
			b = append(slices.Clone(b), 0x5a, 0xa5)[:len(b)]
		}
		out = append(out, b)
	}
	return out
}

// but are pages of which the i-th is another one.
func but(pages [][]byte, i int, b []byte) [][]byte {
	out := copied(pages)
	out[i] = b
	return out
}

// samePages tells whether pages are as they were, and the room behind each.
func samePages(a, b [][]byte) bool {
	return slices.EqualFunc(a, b, func(x, y []byte) bool {
		return (x == nil) == (y == nil) && len(x) == len(y) && bytes.Equal(x[:cap(x)], y[:cap(y)])
	})
}

// sameTold tells whether the same was told.
func sameTold(a, b Told) bool {
	return a.Known == b.Known && a.Ns == b.Ns && a.Erases == b.Erases && a.Order == b.Order && slices.Equal(a.Spots, b.Spots)
}

// checkBlock holds what a block's pages tell, twice, against the chapter's words, and answers it.
func checkBlock(t *testing.T, name string, g api.Geometry, block int, pages [][]byte) Told {
	t.Helper()
	in := copied(pages)
	want := plainTold(g, block, pages)
	for range 2 {
		got := Block(g, block, in)
		if !sameTold(got, want) {
			t.Fatalf("%s: Block(%+v, %d, ..) = %+v, want %+v", name, g, block, got, want)
		}
		if !samePages(in, copied(pages)) {
			t.Fatalf("%s: Block(%+v, %d, ..) changed pages", name, g, block)
		}
		// What was answered is spoilt, so that it is seen if it is kept.
		for i := range got.Spots[:cap(got.Spots)] {
			got.Spots[:cap(got.Spots)][i] = pagemap.Spot{Place: at(-7, -7)}
		}
	}
	return want
}

// checkKnown is checkBlock of a block that is known, and has spots at these pages.
func checkKnown(t *testing.T, name string, g api.Geometry, block int, pages [][]byte, spots ...int) {
	t.Helper()
	told := checkBlock(t, name, g, block, pages)
	ns := []int{}
	for _, s := range told.Spots {
		ns = append(ns, s.Place.Page)
	}
	if !told.Known || !slices.Equal(ns, spots) {
		t.Fatalf("%s: known %t, spots at %v, want %v", name, told.Known, ns, spots)
	}
}

// checkUnknown is checkBlock of a block that is not known.
func checkUnknown(t *testing.T, name string, g api.Geometry, block int, pages [][]byte) {
	t.Helper()
	if told := checkBlock(t, name, g, block, pages); !sameTold(told, Told{}) {
		t.Fatalf("%s: %+v, want nothing", name, told)
	}
}

// holds holds a map's answers against the plain one.
func (p *plain) holds(t *testing.T, name string, g api.Geometry, m *pagemap.Map) {
	t.Helper()
	for ns, size := range p.sizes {
		if got := m.Size(ns); got != size {
			t.Fatalf("%s: Size(%d) = %d, want %d", name, ns, got, size)
		}
		datas := 0
		for lba := range size {
			want, there := p.spots[sector{ns, lba}]
			if got, ok := m.Get(ns, lba); got != want || ok != there {
				t.Fatalf("%s: Get(%d, %d) = %+v, %t, want %+v, %t", name, ns, lba, got, ok, want, there)
			}
			if want.Head.Kind == data {
				datas++
			}
		}
		if got := m.Data(ns); got != datas {
			t.Fatalf("%s: Data(%d) = %d, want %d", name, ns, got, datas)
		}
	}
	for block := -1; block <= g.Blocks; block++ {
		if got, want := m.In(block), p.places(block); !slices.Equal(got, want) {
			t.Fatalf("%s: In(%d) = %+v, want %+v", name, block, got, want)
		}
	}
}

// is holds what was found against what should be.
func (p *plain) is(t *testing.T, name string, g api.Geometry, got Found) {
	t.Helper()
	if got.Map == nil || got.Ledger == nil || got.Ledger.Len() != len(p.blocks) || got.Ledger.Len() != g.Blocks-keyCount {
		t.Fatalf("%s: %+v, want %d blocks", name, got, len(p.blocks))
	}
	p.holds(t, name, g, got.Map)
	for i, want := range p.blocks {
		if x := got.Ledger.At(i); x != want {
			t.Fatalf("%s: data block %d: %+v, want %+v", name, i, x, want)
		}
	}
	if !slices.Equal(got.Orders, p.orders) {
		t.Fatalf("%s: orders %+v, want %+v", name, got.Orders, p.orders)
	}
}

// state is all that can be asked of an array, but its bytes.
func state(c *nand.Chip) string {
	erases := []int{}
	for block := range c.Geometry().Blocks {
		erases = append(erases, c.Erases(block))
	}
	return fmt.Sprint(c.On(), c.Ops(), len(c.Trace()), c.Geometry(), erases)
}

// slotsState is all that slots have, and the room behind their lists.
func slotsState(slots [slotCount]slot.Slot) string {
	rooms := [][]byte{}
	for _, s := range slots {
		rooms = append(rooms, s.Wrapped[:cap(s.Wrapped)])
	}
	return fmt.Sprint(slots, rooms)
}

// spoil changes all that can be changed of what was found, so that it is seen if it is kept.
func spoil(f Found) {
	for ns := range slotCount {
		f.Map.Drop(ns)
		f.Map.Add(ns, 3)
		f.Map.Put(pagemap.Spot{Place: at(4, 1), Head: trimOf(ns, 0, 3, 99, 99)})
	}
	for b := range f.Ledger.Len() {
		f.Ledger.Set(b, ledger.Block{Owner: ledger.Nobody, Used: 77, Clean: true, Gone: true})
	}
	for i := range f.Orders[:cap(f.Orders)] {
		f.Orders[:cap(f.Orders)][i] = opening(3, 99, 99, 99)
	}
}

// check holds what an array tells, twice, against the chapter's words, and answers those.
func check(t *testing.T, name string, c *nand.Chip, slots [slotCount]slot.Slot, bad uint64) *plain {
	t.Helper()
	was, image, wasSlots := state(c), c.Image(), slotsState(slots)
	want := plainFound(c.Geometry(), image, slots, bad)
	for range 2 {
		got, err := Array(c, slots, bad)
		if err != api.OK {
			t.Fatalf("%s: %v", name, err)
		}
		want.is(t, name, c.Geometry(), got)
		spoil(got)
		if state(c) != was || slotsState(slots) != wasSlots || !bytes.Equal(c.Image(), image) {
			t.Fatalf("%s: what was handed in was changed, or is kept", name)
		}
	}
	return want
}

// checkError holds what an array answers against an error, with nothing beside it.
func checkError(t *testing.T, name string, c *nand.Chip, want api.Errno) {
	t.Helper()
	for _, slots := range [][slotCount]slot.Slot{{}, {slotOf(5, 1, 1), {Size: 3}}} {
		for _, bad := range []uint64{0, math.MaxUint64} {
			got, err := Array(c, slots, bad)
			if err != want || got.Map != nil || got.Ledger != nil || got.Orders != nil {
				t.Fatalf("%s: Array = %+v, %v, want %v", name, got, err, want)
			}
		}
	}
}

// newChip is an array that was not written.
func newChip(t *testing.T, g api.Geometry, plan []api.Fault) *nand.Chip {
	t.Helper()
	c, err := nand.New(g, plan)
	if err != api.OK {
		t.Fatalf("nand.New(%+v): %v", g, err)
	}
	return c
}

// write programs a page with a head, and commits it, and answers whether the array did not err.
func write(t *testing.T, c *nand.Chip, p api.Place, h api.Head, done bool) bool {
	t.Helper()
	ok := c.Program(p, made(t, c.Geometry(), h, false)) == api.OK
	mark, _ := page.Commit(c.Geometry())
	return done && c.Program(p, mark) == api.OK && ok
}

// chipOf is an array of which the first data blocks' first pages are committed with these heads.
func chipOf(t *testing.T, g api.Geometry, blocks ...[]api.Head) *nand.Chip {
	t.Helper()
	c := newChip(t, g, nil)
	for i, heads := range blocks {
		for n, h := range heads {
			if !write(t, c, at(keyCount+i, n), h, true) {
				t.Fatalf("page %d of data block %d was not written", n, i)
			}
		}
	}
	return c
}

// random draws numbers.
type random struct{ *rand.Rand }

func newRandom(seed int64) random {
	return random{rand.New(rand.NewSource(seed))}
}

// one is one of these.
func one[T any](r random, list []T) T {
	return list[r.Intn(len(list))]
}

// often tells whether it is so, once in n times not.
func (r random) often(n int) bool {
	return r.Intn(n) > 0
}

// number counts: small more often than not, so that there are heads alike.
func (r random) number() uint64 {
	if r.often(15) {
		return uint64(r.Intn(5))
	}
	return one(r, []uint64{math.MaxUint64, math.MaxUint64 - 1, 1 << 63, 1<<63 - 1, 1 << 32})
}

// erases is an erase count.
func (r random) erases() uint32 {
	if r.often(15) {
		return uint32(r.Intn(9))
	}
	return one(r, []uint32{math.MaxUint32, math.MaxUint32 - 1, 1 << 31, 1<<31 - 1})
}

// slot is one that is used, for the most part, and right.
func (r random) slot() slot.Slot {
	s := slotOf(1+r.Intn(9), 0, 0)
	s.Epoch, s.Counter = uint64(r.Intn(2)), uint64(r.Intn(4))
	switch r.Intn(16) {
	case 0:
		s.Size = one(r, []int{0, -1, mostSectors + 1, math.MinInt, math.MaxInt, 1 << 32, 1<<32 + 5})
	case 1:
		s.Wrapped = one(r, [][]byte{nil, {}, all(1, 103), all(1, 105), all(1, 96), all(1, 128)})
	case 2:
		s.Used = false
	case 3, 4:
		s = slot.Slot{}
	case 5:
		s = slot.Slot{Wrapped: []byte{}}
	case 6:
		s.Epoch, s.Counter = math.MaxUint64, math.MaxUint64-1
	}
	return s
}

func (r random) slots() [slotCount]slot.Slot {
	var all [slotCount]slot.Slot
	for ns := range all {
		all[ns] = r.slot()
		if ns > 0 && r.Intn(8) == 0 {
			all[ns] = all[ns-1]
		}
	}
	return all
}

// head is one of a page of a block of that namespace, for the most part.
func (r random) head(ns int) api.Head {
	h := api.Head{Kind: data + r.Intn(2), Ns: ns, Count: 1, Lba: uint32(r.Intn(10)), Epoch: r.number(), Counter: r.number()}
	if h.Kind == trim || r.Intn(8) == 0 {
		h.Count = r.Intn(5)
	}
	switch r.Intn(24) {
	case 0:
		h.Kind = one(r, []int{first, key})
	case 1:
		h.Ns = one(r, []int{0, 1, 2, 3, 4, 255})
	case 2:
		h.Lba = r.Uint32()
	case 3:
		h.Count = r.Intn(256)
	}
	return h
}

// opening is the head of a block's first page, for the most part.
func (r random) opening() api.Head {
	h := api.Head{Kind: first, Ns: r.Intn(slotCount), Lba: r.erases(), Epoch: r.number(), Counter: r.number()}
	switch r.Intn(16) {
	case 0:
		h.Kind = one(r, []int{data, trim, key})
	case 1:
		h.Ns = one(r, []int{4, 5, 128, 255})
	case 2:
		h.Count = r.Intn(256)
	}
	return h
}

// page is one of a block, or what could be found in its place.
func (r random) page(t *testing.T, g api.Geometry, h api.Head) []byte {
	t.Helper()
	b := made(t, g, h, r.often(5))
	switch r.Intn(24) {
	case 0:
		return one(r, [][]byte{nil, {}, b[:len(b)-1], append(b, 0), b[1:], b[g.Sector:], all(0, len(b)), all(255, len(b))})
	case 1:
		b[g.Sector+r.Intn(endBytes)] ^= 1 << r.Intn(8)
	case 2:
		i := g.Sector + r.Intn(headBytes)
		x := byte(1) << r.Intn(8)
		b[i], b[i+headBytes] = b[i]^x, b[i+headBytes]^x
	}
	return b
}

// pages are those of a block, at times too few or too many.
func (r random) pages(t *testing.T, g api.Geometry) [][]byte {
	t.Helper()
	n := g.Pages
	if !r.often(12) {
		n = one(r, []int{0, 1, n - 1, n + 1, n + 2, 2 * n})
	}
	h := r.opening()
	pages := [][]byte{r.page(t, g, h)}
	for range n - 1 {
		pages = append(pages, r.page(t, g, r.head(h.Ns)))
	}
	return pages[:n]
}

// mask is one of a fault.
func (r random) mask() []byte {
	b := make([]byte, one(r, []int{0, 1, 2, 3, 31, 64}))
	r.Read(b)
	return b
}

// plan is one that hits some of the first operations.
func (r random) plan() []api.Fault {
	plan := []api.Fault{}
	for range r.Intn(6) {
		plan = append(plan, api.Fault{At: r.Intn(90), Crash: r.Intn(2) == 0, Mask: r.mask()})
	}
	return plan
}

// fill writes a data block from its first page on, as far as it comes.
func (r random) fill(t *testing.T, c *nand.Chip, block int) {
	t.Helper()
	h := r.opening()
	write(t, c, at(block, 0), h, r.often(8))
	for n := 1; n < c.Geometry().Pages && r.often(9); n++ {
		if r.often(10) {
			write(t, c, at(block, n), r.head(h.Ns), r.often(6))
		}
	}
}

// chip is an array that was written, erased and scrubbed, with faults; the power came again each time that it went. At times bytes were changed meanwhile.
func (r random) chip(t *testing.T, g api.Geometry) *nand.Chip {
	t.Helper()
	c := newChip(t, g, r.plan())
	for range 2 * (g.Blocks - keyCount) {
		c.Power(true)
		block := r.Intn(g.Blocks)
		switch r.Intn(9) {
		case 0:
			c.Erase(block)
		case 1:
			c.Scrub(block)
		default:
			r.fill(t, c, block)
		}
	}
	c.Power(false)
	for range r.Intn(40) - 20 {
		c.Poke(at(r.Intn(g.Blocks), r.Intn(g.Pages)), g.Sector+r.Intn(endBytes), byte(r.Intn(256)))
	}
	c.Power(true)
	return c
}
