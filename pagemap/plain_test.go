package pagemap

import (
	"fmt"
	"maps"
	"math"
	"math/big"
	"math/rand"
	"slices"
	"testing"

	"nepenthe/api"
)

// The chapter's limits, told once more.
const (
	maxSlots = 4
	maxSize  = 65535
	maxCount = 32
)

// Kinds of pages, told once more.
const (
	data = 1
	trim = 2
)

// noNamespaces are numbers that no namespace has.
func noNamespaces() []int {
	return []int{-1, -2, 4, 5, 255, 256, math.MinInt, math.MinInt + 1, math.MaxInt, math.MaxInt - 1, 1 << 32, -1 << 32, 1<<32 + 1}
}

// noSizes are sizes that no namespace has.
func noSizes() []int {
	return []int{0, -1, -2, maxSize + 1, maxSize + 2, 1 << 16, 1<<16 + 1, 1 << 32, 1<<32 + 1, -1 << 32, math.MinInt, math.MinInt + 1, math.MaxInt, math.MaxInt - 1}
}

// noKinds are kinds of pages that speak of no sector.
func noKinds() []int {
	return []int{0, 3, 4, 5, -1, -2, 255, 256, 257, 1<<32 + 1, math.MinInt, math.MinInt + 1, math.MaxInt, math.MaxInt - 1}
}

// noSectors are numbers that no sector of a namespace of that size has.
func noSectors(size int) []int {
	return []int{-1, -2, size, size + 1, maxSize + size, math.MinInt, math.MinInt + 1, math.MaxInt, math.MaxInt - 1, 1 << 32, -1 << 32}
}

// edgePlaces are places that an array has, or has not, out of order.
func edgePlaces() []api.Place {
	return []api.Place{
		at(1, 0), at(0, 1), at(0, 0), at(63, 31), at(64, 32), at(-1, 2), at(-1, -2), at(1, -1), at(2, 5), at(2, 4),
		at(math.MinInt, math.MaxInt), at(math.MaxInt, math.MinInt), at(math.MinInt, math.MinInt), at(math.MaxInt, math.MaxInt),
		at(0, math.MinInt), at(0, math.MaxInt), at(1<<32, 1), at(1<<32+1, 0), at(1, 1<<32), at(-1<<32, 0),
	}
}

// at is a place.
func at(block, page int) api.Place {
	return api.Place{Block: block, Page: page}
}

// order is a block's.
func order(counter int) api.Head {
	return api.Head{Kind: 3, Counter: uint64(counter)}
}

// spot is one at a place, of data or a trim of a namespace's sectors from lba on.
func spot(p api.Place, kind, ns, lba, count, counter int) Spot {
	return Spot{Place: p, Head: api.Head{Kind: kind, Ns: ns, Count: count, Lba: uint32(lba), Counter: uint64(counter)}}
}

// plainNewer: by the four numbers, the first that are unlike.
func plainNewer(a, b Spot) bool {
	numbers := func(s Spot) []uint64 {
		return []uint64{s.Head.Epoch, s.Head.Counter, s.Order.Epoch, s.Order.Counter}
	}
	return slices.Compare(numbers(a), numbers(b)) > 0
}

// sector is one of a namespace.
type sector struct{ ns, lba int }

// inOrder holds sectors against each other.
func inOrder(a, b sector) int {
	return slices.Compare([]int{a.ns, a.lba}, []int{b.ns, b.lba})
}

// plain is a map as the chapter's words have it: sizes, and spots of sectors, of which all else is worked out anew.
type plain struct {
	sizes map[int]int
	spots map[sector]Spot
}

func newPlain() *plain {
	return &plain{sizes: map[int]int{}, spots: map[sector]Spot{}}
}

// live is of how many sectors each place is the spot's.
func (p *plain) live() map[api.Place]int {
	of := map[api.Place]int{}
	for _, s := range p.spots {
		of[s.Place]++
	}
	return of
}

// dead are the places that were live and are no more, by block, then by page.
func (p *plain) dead(was map[api.Place]int) []api.Place {
	is := p.live()
	all := []api.Place{}
	for place := range was {
		if is[place] == 0 {
			all = append(all, place)
		}
	}
	slices.SortFunc(all, func(a, b api.Place) int {
		return slices.Compare([]int{a.Block, a.Page}, []int{b.Block, b.Page})
	})
	return all
}

func (p *plain) add(ns, size int) api.Errno {
	if !slices.Contains([]int{0, 1, 2, 3}, ns) {
		return api.ErrShape
	}
	if size <= 0 || size >= 65536 {
		return api.ErrShape
	}
	if _, there := p.sizes[ns]; there {
		return api.ErrExists
	}
	p.sizes[ns] = size
	return api.OK
}

func (p *plain) drop(ns int) ([]api.Place, api.Errno) {
	if _, there := p.sizes[ns]; !there {
		return nil, api.ErrShape
	}
	was := p.live()
	delete(p.sizes, ns)
	maps.DeleteFunc(p.spots, func(x sector, _ Spot) bool { return x.ns == ns })
	return p.dead(was), api.OK
}

// spoken are the sectors of which a head speaks: none, if one of them is not there, or it is not of data or a trim.
func (p *plain) spoken(h api.Head) []sector {
	size, there := p.sizes[h.Ns]
	if !there || h.Kind != data && h.Kind != trim || h.Count <= 0 {
		return nil
	}
	behind := new(big.Int).Add(big.NewInt(int64(h.Lba)), big.NewInt(int64(h.Count)))
	if behind.Cmp(big.NewInt(int64(size))) > 0 {
		return nil
	}
	all := []sector{}
	for i := range h.Count {
		all = append(all, sector{h.Ns, int(h.Lba) + i})
	}
	return all
}

func (p *plain) put(s Spot) ([]api.Place, api.Errno) {
	all := p.spoken(s.Head)
	if len(all) == 0 {
		return nil, api.ErrShape
	}
	was := p.live()
	for _, x := range all {
		older, there := p.spots[x]
		if !there || plainNewer(s, older) {
			p.spots[x] = s
		}
	}
	return p.dead(was), api.OK
}

func (p *plain) move(from, to api.Place, order api.Head) api.Errno {
	if from != to && p.live()[to] > 0 {
		return api.ErrShape
	}
	for x, s := range p.spots {
		if s.Place == from {
			p.spots[x] = Spot{Place: to, Head: s.Head, Order: order}
		}
	}
	return api.OK
}

// sectors are those that have a spot, in order.
func (p *plain) sectors() []sector {
	return slices.SortedFunc(maps.Keys(p.spots), inOrder)
}

// in are the live places of a block, by page, of each the spot of the first sector.
func (p *plain) in(block int) []Spot {
	of := map[int]Spot{}
	for _, x := range p.sectors() {
		s := p.spots[x]
		if _, there := of[s.Place.Page]; s.Place.Block == block && !there {
			of[s.Place.Page] = s
		}
	}
	all := []Spot{}
	for _, page := range slices.Sorted(maps.Keys(of)) {
		all = append(all, of[page])
	}
	return all
}

func (p *plain) data(ns int) int {
	n := 0
	for x, s := range p.spots {
		if x.ns == ns && s.Head.Kind == data {
			n++
		}
	}
	return n
}

// deed is one of a map's changes: what it is called, how it is done to a map, and how to a plain one.
type deed struct {
	name    string
	to      func(m *Map) ([]api.Place, api.Errno)
	plainly func(p *plain) ([]api.Place, api.Errno)
	places  []api.Place // of which it speaks
}

func addOf(ns, size int) deed {
	return deed{
		name:    fmt.Sprintf("Add(%d, %d)", ns, size),
		to:      func(m *Map) ([]api.Place, api.Errno) { return nil, m.Add(ns, size) },
		plainly: func(p *plain) ([]api.Place, api.Errno) { return nil, p.add(ns, size) },
	}
}

func dropOf(ns int) deed {
	return deed{
		name:    fmt.Sprintf("Drop(%d)", ns),
		to:      func(m *Map) ([]api.Place, api.Errno) { return m.Drop(ns) },
		plainly: func(p *plain) ([]api.Place, api.Errno) { return p.drop(ns) },
	}
}

func putOf(s Spot) deed {
	return deed{
		name:    fmt.Sprintf("Put(%+v)", s),
		to:      func(m *Map) ([]api.Place, api.Errno) { return m.Put(s) },
		plainly: func(p *plain) ([]api.Place, api.Errno) { return p.put(s) },
		places:  []api.Place{s.Place},
	}
}

func moveOf(from, to api.Place, order api.Head) deed {
	return deed{
		name:    fmt.Sprintf("Move(%+v, %+v, %+v)", from, to, order),
		to:      func(m *Map) ([]api.Place, api.Errno) { return nil, m.Move(from, to, order) },
		plainly: func(p *plain) ([]api.Place, api.Errno) { return nil, p.move(from, to, order) },
		places:  []api.Place{from, to},
	}
}

// edgeDeeds are changes at their edges, of maps of which namespace 1 has that size.
func edgeDeeds(size int) []deed {
	all := []deed{}
	for _, ns := range append(noNamespaces(), 0, 1, 2, 3) {
		all = append(all, addOf(ns, 5), addOf(ns, 0), dropOf(ns), putOf(spot(at(1, 1), data, ns, 0, 1, 3)))
	}
	for _, n := range append(noSizes(), 1, maxSize) {
		all = append(all, addOf(1, n), addOf(3, n), putOf(spot(at(1, 2), trim, 1, 0, n, 4)), putOf(spot(at(1, 3), data, 1, size-1, n, 4)))
	}
	for _, kind := range append(noKinds(), data, trim) {
		all = append(all, putOf(spot(at(1, 4), kind, 1, 0, 1, 5)))
	}
	for _, p := range edgePlaces() {
		all = append(all, putOf(spot(p, trim, 1, 0, size, 2)), moveOf(at(1, 1), p, order(1)), moveOf(p, p, order(2)), moveOf(p, at(1, 1), order(3)))
	}
	return all
}

// pair is a map and a plain one, to which all the same was done.
type pair struct {
	t     *testing.T
	m     *Map
	plain *plain
	known map[api.Place]int // places that were spoken of
	done  []string
}

func newPair(t *testing.T) *pair {
	t.Helper()
	m := New()
	if m == nil {
		t.Fatal("New() = nil")
	}
	return &pair{t: t, m: m, plain: newPlain(), known: map[api.Place]int{}}
}

// pairOf is one with namespaces of these sizes, from 0 on, into which these spots were put.
func pairOf(t *testing.T, sizes []int, spots ...Spot) *pair {
	t.Helper()
	p := newPair(t)
	for ns, size := range sizes {
		p.must(addOf(ns, size))
	}
	for _, s := range spots {
		p.must(putOf(s))
	}
	return p
}

// does does it to both, and holds their answers against each other. What was answered is spoilt, so that it is seen if the map has kept it.
func (p *pair) does(d deed) ([]api.Place, api.Errno) {
	p.t.Helper()
	p.done = append(p.done, d.name)
	for _, place := range d.places {
		p.known[place]++
	}
	got, err := d.to(p.m)
	want, wantErr := d.plainly(p.plain)
	if err != wantErr || len(got) != len(want) || len(got) > 0 && !slices.Equal(got, want) {
		p.t.Fatalf("%s = %v, %v, want %v, %v", p.last(), got, err, want, wantErr)
	}
	answer := slices.Clone(got)
	for i := range got[:cap(got)] {
		got[:cap(got)][i] = at(77, 77)
	}
	return answer, err
}

// must does what errs with nothing.
func (p *pair) must(d deed) []api.Place {
	p.t.Helper()
	places, err := p.does(d)
	if err != api.OK {
		p.t.Fatalf("%s = %v", p.last(), err)
	}
	return places
}

// tells does what errs with nothing, and has these places live no more.
func (p *pair) tells(d deed, want ...api.Place) {
	p.t.Helper()
	if got := p.must(d); !slices.Equal(got, want) {
		p.t.Fatalf("%s = %v, want %v", p.last(), got, want)
	}
}

// errs does what errs so.
func (p *pair) errs(d deed, want api.Errno) {
	p.t.Helper()
	if places, err := p.does(d); err != want || len(places) > 0 {
		p.t.Fatalf("%s = %v, %v, want %v", p.last(), places, err, want)
	}
}

// last are the deeds that were done last.
func (p *pair) last() []string {
	return p.done[max(0, len(p.done)-10):]
}

// sectors holds sizes and each sector's spot against the plain map.
func (p *pair) sectors() {
	p.t.Helper()
	for ns := range maxSlots {
		size := p.plain.sizes[ns]
		if got := p.m.Size(ns); got != size {
			p.t.Fatalf("%s: Size(%d) = %d, want %d", p.last(), ns, got, size)
		}
		if got, want := p.m.Data(ns), p.plain.data(ns); got != want {
			p.t.Fatalf("%s: Data(%d) = %d, want %d", p.last(), ns, got, want)
		}
		for lba := range size {
			want, there := p.plain.spots[sector{ns, lba}]
			if got, ok := p.m.Get(ns, lba); got != want || ok != there {
				p.t.Fatalf("%s: Get(%d, %d) = %+v, %t, want %+v, %t", p.last(), ns, lba, got, ok, want, there)
			}
		}
		for _, lba := range noSectors(size) {
			if got, ok := p.m.Get(ns, lba); got != (Spot{}) || ok {
				p.t.Fatalf("%s: Get(%d, %d) = %+v, %t", p.last(), ns, lba, got, ok)
			}
		}
	}
	for _, ns := range noNamespaces() {
		if got, ok := p.m.Get(ns, 0); got != (Spot{}) || ok || p.m.Size(ns) != 0 || p.m.Data(ns) != 0 {
			p.t.Fatalf("%s: Get(%d, 0) = %+v, %t, Size %d, Data %d", p.last(), ns, got, ok, p.m.Size(ns), p.m.Data(ns))
		}
	}
}

// places holds what is told of each place that was spoken of, of each beside it, and of their blocks, against the plain map; and P22.5.
func (p *pair) places() {
	p.t.Helper()
	refs := p.plain.live()
	blocks := map[int]int{}
	for place := range p.known {
		for _, beside := range []api.Place{place, at(place.Block, place.Page+1), at(place.Block+1, place.Page), at(place.Page, place.Block)} {
			if got, want := p.m.Refs(beside), refs[beside]; got != want {
				p.t.Fatalf("%s: Refs(%+v) = %d, want %d", p.last(), beside, got, want)
			}
			blocks[beside.Block]++
		}
	}
	// Places that are live no more are not kept: a map that is long in use does not grow.
	if len(p.m.refs) != len(refs) {
		p.t.Fatalf("%s: %d places are kept, and %d are live", p.last(), len(p.m.refs), len(refs))
	}
	live, of := 0, 0
	for block := range blocks {
		got := p.m.In(block)
		if want := p.plain.in(block); len(got) != len(want) || len(got) > 0 && !slices.Equal(got, want) {
			p.t.Fatalf("%s: In(%d) = %+v, want %+v", p.last(), block, got, want)
		}
		for _, s := range got {
			live++
			of += p.m.Refs(s.Place)
		}
		for i := range got[:cap(got)] {
			got[:cap(got)][i] = spot(at(78, 78), data, 0, 0, 1, 99)
		}
	}
	if live != len(refs) || of != len(p.plain.spots) || live > of {
		p.t.Fatalf("%s: %d places are live, of %d sectors; want %d, %d", p.last(), live, of, len(refs), len(p.plain.spots))
	}
}

// is holds all that can be asked against the plain map.
func (p *pair) is() {
	p.t.Helper()
	p.sectors()
	p.places()
}

// same holds all that can be asked of the one against the other.
func (p *pair) same(other *pair) {
	p.t.Helper()
	if !maps.Equal(p.plain.sizes, other.plain.sizes) || !maps.Equal(p.plain.spots, other.plain.spots) {
		p.t.Fatalf("unlike:\n%s\n%s", p.done, other.done)
	}
	p.is()
	other.is()
}

// orders are all in which n things may come.
func orders(n int) [][]int {
	if n == 0 {
		return [][]int{{}}
	}
	all := [][]int{}
	for _, shorter := range orders(n - 1) {
		for i := range n {
			all = append(all, slices.Insert(slices.Clone(shorter), i, n-1))
		}
	}
	return all
}

// random draws numbers.
type random struct{ *rand.Rand }

func newRandom(seed int64) random {
	return random{rand.New(rand.NewSource(seed))}
}

// of is one of these.
func of[T any](r random, list []T) T {
	return list[r.Intn(len(list))]
}

// number counts: small more often than not, so that there are heads alike.
func (r random) number() uint64 {
	if r.Intn(12) == 0 {
		return of(r, []uint64{math.MaxUint64, math.MaxUint64 - 1, 1 << 63, 1<<63 - 1, 1 << 32})
	}
	return uint64(r.Intn(5))
}

func (r random) namespace() int {
	if r.Intn(25) == 0 {
		return of(r, noNamespaces())
	}
	return r.Intn(maxSlots)
}

func (r random) size() int {
	if r.Intn(25) == 0 {
		return of(r, noSizes())
	}
	return 1 + r.Intn(9)
}

func (r random) place() api.Place {
	if r.Intn(25) == 0 {
		return of(r, edgePlaces())
	}
	return at(r.Intn(3), r.Intn(4))
}

// head is one of a namespace's, for the most part.
func (r random) head(size int) api.Head {
	h := api.Head{Kind: 1 + r.Intn(2), Ns: r.namespace(), Epoch: r.number(), Counter: r.number()}
	h.Lba = uint32(r.Intn(size + 1))
	h.Count = r.Intn(4)
	if r.Intn(4) == 0 {
		h.Count = size - int(h.Lba)
	}
	switch r.Intn(30) {
	case 0:
		h.Kind = of(r, noKinds())
	case 1:
		h.Count = of(r, noSizes())
	case 2:
		h.Lba = uint32(r.Int63())
	}
	return h
}

// deed is one that hits what is there, for the most part.
func (r random) deed(p *pair) deed {
	switch r.Intn(20) {
	case 0, 1:
		return addOf(r.namespace(), r.size())
	case 2:
		return dropOf(r.namespace())
	case 3, 4, 5:
		return moveOf(r.place(), r.place(), api.Head{Kind: 3, Ns: r.Intn(4), Epoch: r.number(), Counter: r.number()})
	}
	s := Spot{Place: r.place(), Order: api.Head{Kind: 3, Lba: uint32(r.Intn(3)), Epoch: r.number(), Counter: r.number()}}
	s.Head = r.head(8)
	if size, there := p.plain.sizes[s.Head.Ns]; there && r.Intn(4) > 0 {
		ns := s.Head.Ns
		s.Head = r.head(size)
		s.Head.Ns = ns
	}
	return putOf(s)
}
