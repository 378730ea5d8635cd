package pagemap

import (
	"math"
	"slices"
	"testing"

	"nepenthe/api"
)

// P22.1

// hasNothing holds each question of a map without namespaces against the chapter's words.
func hasNothing(t *testing.T, name string, m *Map) {
	t.Helper()
	for _, ns := range append(noNamespaces(), 0, 1, 2, 3) {
		if m.Size(ns) != 0 || m.Data(ns) != 0 {
			t.Errorf("%s: Size(%d) %d, Data %d", name, ns, m.Size(ns), m.Data(ns))
		}
		for _, lba := range append(noSectors(1), 0) {
			if s, ok := m.Get(ns, lba); s != (Spot{}) || ok {
				t.Errorf("%s: Get(%d, %d) %+v, %t", name, ns, lba, s, ok)
			}
		}
		if l, err := m.Drop(ns); len(l) > 0 || err != api.ErrShape {
			t.Errorf("%s: Drop(%d) %v, %v", name, ns, l, err)
		}
		for _, kind := range append(noKinds(), data, trim) {
			if l, err := m.Put(spot(at(1, 1), kind, ns, 0, 1, 1)); len(l) > 0 || err != api.ErrShape {
				t.Errorf("%s: Put of namespace %d, kind %d: %v, %v", name, ns, kind, l, err)
			}
		}
	}
	for _, p := range append(edgePlaces(), at(1, 1)) {
		if m.Refs(p) != 0 || len(m.In(p.Block)) != 0 {
			t.Errorf("%s: Refs(%+v) %d, In %v", name, p, m.Refs(p), m.In(p.Block))
		}
	}
}

// movesNothing holds moves of a map in which nothing is live against what they answer.
func movesNothing(t *testing.T, name string, m *Map, want api.Errno) {
	t.Helper()
	for _, from := range edgePlaces() {
		for _, to := range edgePlaces() {
			if err := m.Move(from, to, order(1)); err != want {
				t.Errorf("%s: Move(%+v, %+v) = %v, want %v", name, from, to, err, want)
			}
			if m.Refs(from) != 0 || m.Refs(to) != 0 {
				t.Errorf("%s: Refs(%+v) %d, Refs(%+v) %d", name, from, m.Refs(from), to, m.Refs(to))
			}
		}
	}
}

func TestANilMap(t *testing.T) {
	var m *Map
	hasNothing(t, "nil", m)
	movesNothing(t, "nil", m, api.ErrShape)
	for _, ns := range append(noNamespaces(), 0, 1, 2, 3) {
		for _, size := range append(noSizes(), 1, maxSize) {
			if err := m.Add(ns, size); err != api.ErrShape {
				t.Errorf("Add(%d, %d) = %v", ns, size, err)
			}
		}
	}
	for _, d := range edgeDeeds(3) {
		if l, err := d.to(m); len(l) > 0 || err != api.ErrShape {
			t.Errorf("%s = %v, %v", d.name, l, err)
		}
	}
	hasNothing(t, "nil", m)
}

func TestAMapWithoutNamespaces(t *testing.T) {
	for name, m := range map[string]*Map{"New()": New(), "one that New did not make": {}} {
		if m == nil {
			t.Fatalf("%s is nil", name)
		}
		hasNothing(t, name, m)
		movesNothing(t, name, m, api.OK)
		hasNothing(t, name, m)
		if err := m.Add(2, 3); err != api.OK || m.Size(2) != 3 {
			t.Errorf("%s: Add = %v, Size %d", name, err, m.Size(2))
		}
		if l, err := m.Put(spot(at(1, 1), data, 2, 1, 2, 1)); len(l) > 0 || err != api.OK || m.Refs(at(1, 1)) != 2 {
			t.Errorf("%s: Put = %v, %v", name, l, err)
		}
		if err := m.Move(at(1, 1), at(1, 2), order(1)); err != api.OK || m.Refs(at(1, 2)) != 2 {
			t.Errorf("%s: Move = %v", name, err)
		}
	}
}

func TestMapsAreNewMemory(t *testing.T) {
	one, other := pairOf(t, []int{3, 4}), pairOf(t, []int{3, 4}, spot(at(1, 2), trim, 1, 0, 3, 2))
	for _, d := range edgeDeeds(4) {
		one.does(d)
		other.is()
	}
	newPair(t).is()
}

func TestAddOfEachNamespace(t *testing.T) {
	for ns := range maxSlots {
		for _, size := range []int{1, 2, maxCount, maxSize - 1, maxSize} {
			p := newPair(t)
			p.tells(addOf(ns, size))
			if got := p.m.Size(ns); got != size {
				t.Errorf("Size(%d) = %d, want %d", ns, got, size)
			}
			p.is()
		}
	}
	p := newPair(t)
	for _, ns := range []int{2, 0, 3, 1} {
		p.tells(addOf(ns, 5+ns))
		p.is()
	}
}

func TestAddOfSizesThatMayNotBe(t *testing.T) {
	for _, size := range noSizes() {
		for _, there := range []bool{false, true} {
			p := newPair(t)
			for ns := range maxSlots {
				if there {
					p.must(addOf(ns, 3))
				}
			}
			for _, ns := range append(noNamespaces(), 0, 1, 2, 3) {
				// One that is there errs with its size all the same: that comes first.
				p.errs(addOf(ns, size), api.ErrShape)
			}
			p.is()
		}
	}
}

func TestAddOfNamespacesThatMayNotBe(t *testing.T) {
	p := pairOf(t, []int{3})
	for _, ns := range noNamespaces() {
		for _, size := range append(noSizes(), 1, 3, maxSize) {
			p.errs(addOf(ns, size), api.ErrShape)
		}
	}
	p.is()
}

func TestAddOfOneThatIsThere(t *testing.T) {
	for ns := range maxSlots {
		p := pairOf(t, []int{4, 4, 4, 4}, spot(at(1, 1), data, ns, 2, 1, 1))
		for _, size := range []int{1, 3, 4, 5, maxSize} {
			p.errs(addOf(ns, size), api.ErrExists)
			p.is()
		}
	}
}

func TestDropOfOneThatIsNotThere(t *testing.T) {
	p := pairOf(t, []int{4, 4}, spot(at(1, 1), data, 0, 2, 1, 1), spot(at(1, 2), data, 1, 2, 1, 1))
	for _, ns := range append(noNamespaces(), 2, 3) {
		p.errs(dropOf(ns), api.ErrShape)
	}
	p.is()
	p.tells(dropOf(1), at(1, 2))
	p.errs(dropOf(1), api.ErrShape)
	p.is()
}

// Dropped and there again: no sector has a spot, and the size is the new one.
func TestDroppedAndAddedAgain(t *testing.T) {
	for ns := range maxSlots {
		p := pairOf(t, []int{5, 5, 5, 5})
		for other := range maxSlots {
			p.must(putOf(spot(at(1, other), data, other, 1, 1, 9)))
			p.must(putOf(spot(at(2, other), trim, other, 2, 3, 9)))
		}
		for _, size := range []int{5, 2, 9, 1} {
			p.must(dropOf(ns))
			if p.m.Size(ns) != 0 {
				t.Errorf("dropped: Size(%d) = %d", ns, p.m.Size(ns))
			}
			p.errs(putOf(spot(at(3, 1), data, ns, 0, 1, 9)), api.ErrShape)
			p.is()
			p.must(addOf(ns, size))
			if p.m.Size(ns) != size || p.m.Data(ns) != 0 {
				t.Errorf("added: Size(%d) = %d, Data %d", ns, p.m.Size(ns), p.m.Data(ns))
			}
			p.is()
			// An older head than was there is taken: what was there is forgotten.
			p.tells(putOf(spot(at(3, 1), data, ns, size-1, 1, 1)))
			p.is()
		}
	}
}

func TestDropTellsPlacesInOrder(t *testing.T) {
	places := edgePlaces()
	p := pairOf(t, []int{3, len(places), 3})
	p.must(putOf(spot(at(5, 5), trim, 0, 0, 3, 1)))
	p.must(putOf(spot(at(5, 6), trim, 2, 0, 3, 1)))
	for i, place := range places {
		p.must(putOf(spot(place, data, 1, i, 1, 1)))
	}
	p.is()
	p.tells(dropOf(1),
		at(math.MinInt, math.MinInt), at(math.MinInt, math.MaxInt), at(-1<<32, 0), at(-1, -2), at(-1, 2),
		at(0, math.MinInt), at(0, 0), at(0, 1), at(0, math.MaxInt), at(1, -1), at(1, 0), at(1, 1<<32), at(2, 4), at(2, 5),
		at(63, 31), at(64, 32), at(1<<32, 1), at(1<<32+1, 0), at(math.MaxInt, math.MinInt), at(math.MaxInt, math.MaxInt))
	p.is()
}

// A place that is the spot's of more sectors is told once, and only if no other namespace's sector has it.
func TestDropOfPlacesOfMoreSectors(t *testing.T) {
	p := pairOf(t, []int{6, 6, 6},
		spot(at(2, 2), trim, 0, 0, 3, 1), spot(at(2, 1), trim, 0, 3, 2, 1), spot(at(1, 9), data, 0, 5, 1, 1),
		spot(at(2, 1), trim, 1, 0, 2, 1), spot(at(1, 7), data, 1, 4, 1, 1),
		spot(at(1, 9), trim, 2, 0, 6, 1))
	p.is()
	p.tells(dropOf(0), at(2, 2))
	p.is()
	p.tells(dropOf(2), at(1, 9))
	p.is()
	p.tells(dropOf(1), at(1, 7), at(2, 1))
	p.is()
}

func TestDropOfOneWithoutSpots(t *testing.T) {
	p := pairOf(t, []int{3, 3}, spot(at(0, 0), data, 0, 0, 1, 0))
	p.tells(dropOf(1))
	p.is()
	p.tells(dropOf(0), at(0, 0))
	p.is()
}

// P22.2

func TestExample(t *testing.T) {
	p := pairOf(t, []int{8})
	p.tells(putOf(spot(at(1, 1), data, 0, 3, 1, 5)))
	p.is()
	p.tells(putOf(spot(at(1, 2), trim, 0, 2, 3, 7)), at(1, 1))
	p.is()
	p.tells(putOf(spot(at(1, 3), data, 0, 3, 1, 6)))
	p.is()
	s, ok := p.m.Get(0, 3)
	if !ok || s != spot(at(1, 2), trim, 0, 2, 3, 7) || p.m.Refs(at(1, 2)) != 3 || p.m.Refs(at(1, 3)) != 0 || p.m.Data(0) != 0 {
		t.Errorf("%+v, %t", s, ok)
	}
}

// Which sectors a spot gets: those of which it speaks, and no other.
func TestPutOfEachSpan(t *testing.T) {
	for _, size := range []int{1, 2, 5} {
		for lba := range size {
			for count := 1; lba+count <= size; count++ {
				for ns := range maxSlots {
					for _, kind := range []int{data, trim} {
						p := pairOf(t, []int{size, size, size, size})
						s := spot(at(4, 2), kind, ns, lba, count, 1)
						p.tells(putOf(s))
						for x := range size {
							got, ok := p.m.Get(ns, x)
							if want := lba <= x && x < lba+count; ok != want || want && got != s {
								t.Fatalf("%+v: Get(%d, %d) = %+v, %t", s, ns, x, got, ok)
							}
						}
						if p.m.Refs(at(4, 2)) != count {
							t.Errorf("%+v: Refs = %d", s, p.m.Refs(at(4, 2)))
						}
						p.is()
					}
				}
			}
		}
	}
}

func TestPutOfSectorsThatThereAreNot(t *testing.T) {
	rows := []struct {
		size       int
		lba, count int
	}{
		{1, 1, 1}, {1, 0, 2}, {1, 0, 0}, {1, 1, 0}, {1, 0, -1}, {1, 2, -1}, {1, math.MaxUint32, 1},
		{8, 8, 1}, {8, 7, 2}, {8, 0, 9}, {8, 9, 1}, {8, 4, 5}, {8, 8, 0}, {8, 3, 0}, {8, 7, -1}, {8, 8, -1}, {8, 8, -8},
		{8, 0, math.MaxInt}, {8, 1, math.MaxInt}, {8, 7, math.MaxInt - 6}, {8, 8, math.MaxInt - 7}, {8, 1, math.MaxInt - 1},
		{8, 0, math.MinInt}, {8, 8, math.MinInt}, {8, 8, math.MinInt + 8}, {8, 1, -math.MaxInt},
		{8, math.MaxUint32, 1}, {8, math.MaxUint32, 2}, {8, math.MaxUint32, 8}, {8, math.MaxUint32 - 7, 8}, {8, math.MaxUint32 - 7, 9},
		{8, math.MaxUint32, math.MaxInt}, {8, math.MaxUint32, math.MinInt}, {8, math.MaxUint32, math.MaxInt - math.MaxUint32 + 1},
		{8, 1 << 31, 1}, {8, 1<<31 - 1, 1}, {8, 1<<31 + 3, 1}, {8, 1 << 16, 1}, {8, 1<<16 + 3, 1}, {8, 256, 1}, {8, 259, 1},
		{8, 3, 1<<32 + 1}, {8, 3, 256 + 1}, {8, 3, -1 << 32}, {8, 3, 1<<16 + 1},
		{maxCount, 0, maxCount + 1}, {maxCount, 1, maxCount}, {maxCount, maxCount, 1},
		{maxSize, maxSize, 1}, {maxSize, maxSize - 1, 2}, {maxSize, 0, maxSize + 1}, {maxSize, 1, maxSize}, {maxSize, maxSize, maxSize}, {maxSize, 1 << 16, 1},
	}
	for _, r := range rows {
		p := pairOf(t, []int{3, r.size, 3}, spot(at(1, 1), trim, 1, 0, r.size, 5), spot(at(1, 2), trim, 0, 0, 3, 5))
		for _, kind := range []int{data, trim} {
			for _, place := range []api.Place{at(1, 1), at(1, 2), at(1, 3)} {
				s := spot(place, kind, 1, 0, r.count, 9)
				s.Head.Lba = uint32(r.lba)
				p.errs(putOf(s), api.ErrShape)
			}
		}
		if r.size < 100 {
			p.is()
		} else if got, ok := p.m.Get(1, r.size-1); !ok || got.Head.Counter != 5 {
			t.Errorf("%+v: %+v, %t", r, got, ok)
		}
	}
}

// No count is too great for a namespace that has as many sectors.
func TestPutOfManySectors(t *testing.T) {
	for _, size := range []int{maxCount, maxCount + 1, 255, 256, 257, 4096} {
		for _, count := range []int{maxCount - 1, maxCount, maxCount + 1, 255, 256, 257, size} {
			if count > size {
				continue
			}
			p := pairOf(t, []int{2, size})
			p.tells(putOf(spot(at(1, 1), data, 1, 0, count, 3)))
			if d := putOf(spot(at(1, 2), trim, 1, size-count, count, 4)); count == size {
				p.tells(d, at(1, 1))
			} else {
				p.tells(d)
			}
			if got := p.m.Refs(at(1, 2)); got != count {
				t.Errorf("%d of %d: Refs = %d", count, size, got)
			}
			p.is()
		}
	}
}

func TestTheGreatestNamespaces(t *testing.T) {
	p := pairOf(t, []int{maxSize, maxSize, maxSize, maxSize})
	for ns := range maxSlots {
		p.tells(putOf(spot(at(ns, 1), trim, ns, 0, maxSize, 1)))
		p.tells(putOf(spot(at(ns, 2), data, ns, maxSize-1, 1, 2)))
		p.tells(putOf(spot(at(ns, 3), data, ns, 0, 1, 2)))
		if p.m.Refs(at(ns, 1)) != maxSize-2 || p.m.Data(ns) != 2 || len(p.m.In(ns)) != 3 {
			t.Errorf("%d: Refs %d, Data %d, In %v", ns, p.m.Refs(at(ns, 1)), p.m.Data(ns), p.m.In(ns))
		}
	}
	p.tells(putOf(spot(at(1, 9), data, 1, 0, maxSize, 3)), at(1, 1), at(1, 2), at(1, 3))
	if p.m.Data(1) != maxSize {
		t.Errorf("Data = %d", p.m.Data(1))
	}
	p.must(moveOf(at(0, 1), at(9, 9), order(4)))
	p.is()
	p.tells(dropOf(0), at(0, 2), at(0, 3), at(9, 9))
	p.tells(dropOf(1), at(1, 9))
	p.is()
}

func TestPutOfKinds(t *testing.T) {
	p := pairOf(t, []int{3, 3}, spot(at(1, 1), data, 1, 0, 3, 5))
	for _, kind := range noKinds() {
		for _, lba := range []int{0, 2, 3} {
			p.errs(putOf(spot(at(1, 2), kind, 1, lba, 1, 9)), api.ErrShape)
			p.errs(putOf(spot(at(1, 2), kind, 0, lba, 1, 9)), api.ErrShape)
		}
	}
	p.is()
	p.tells(putOf(spot(at(1, 3), data, 0, 0, 1, 1)))
	p.tells(putOf(spot(at(1, 4), trim, 0, 1, 2, 1)))
	if p.m.Data(0) != 1 {
		t.Errorf("Data = %d", p.m.Data(0))
	}
	p.is()
}

func TestPutOfNamespacesThatThereAreNot(t *testing.T) {
	p := pairOf(t, []int{3, 3}, spot(at(1, 1), data, 1, 0, 3, 5))
	for _, ns := range append(noNamespaces(), 2, 3) {
		for _, kind := range []int{data, trim} {
			p.errs(putOf(spot(at(1, 2), kind, ns, 0, 1, 9)), api.ErrShape)
			p.errs(putOf(spot(at(1, 1), kind, ns, 0, 0, 9)), api.ErrShape)
		}
	}
	p.is()
}

// Only Place, Head and Order as they came are a sector's spot: no number of them is left out, or looked at.
func TestASpotIsKeptAsItCame(t *testing.T) {
	heads := []api.Head{{}, {Kind: 3, Ns: 3, Count: 4, Lba: 5, Epoch: 6, Counter: 7}, {Kind: -9, Ns: -8, Count: math.MinInt, Lba: math.MaxUint32, Epoch: math.MaxUint64, Counter: math.MaxUint64}}
	for i, o := range heads {
		for _, place := range edgePlaces() {
			p := pairOf(t, []int{1, 2, 3})
			s := Spot{Place: place, Head: api.Head{Kind: data, Ns: 2, Count: 1, Lba: 2, Epoch: math.MaxUint64 - uint64(i), Counter: uint64(i)}, Order: o}
			p.tells(putOf(s))
			if got, ok := p.m.Get(2, 2); !ok || got != s {
				t.Errorf("Get = %+v, %t, want %+v", got, ok, s)
			}
			if got := p.m.In(place.Block); len(got) != 1 || got[0] != s {
				t.Errorf("In = %+v, want %+v", got, s)
			}
			p.is()
		}
	}
}

// What Get and In hand back is no part of the map, nor is what Put was handed.
func TestWhatIsHandedBack(t *testing.T) {
	s := spot(at(1, 1), data, 0, 0, 2, 3)
	p := pairOf(t, []int{4}, s)
	want := s
	s.Place, s.Head.Counter, s.Order.Epoch = at(3, 3), 99, 99
	got, _ := p.m.Get(0, 1)
	got.Place, got.Head.Kind, got.Order = at(4, 4), trim, order(9)
	in := p.m.In(1)
	in[0].Place, in[0].Head.Kind = at(5, 5), trim
	if got, ok := p.m.Get(0, 1); !ok || got != want {
		t.Errorf("Get = %+v, %t, want %+v", got, ok, want)
	}
	if again := p.m.In(1); len(again) != 1 || again[0] != want || in[0] == want {
		t.Errorf("In = %+v, want %+v", again, want)
	}
	p.is()
}

func TestNewer(t *testing.T) {
	of := func(n ...uint64) Spot {
		return Spot{Head: api.Head{Epoch: n[0], Counter: n[1]}, Order: api.Head{Epoch: n[2], Counter: n[3]}}
	}
	rows := []struct {
		a, b Spot
		want bool
	}{
		{of(0, 0, 0, 0), of(0, 0, 0, 0), false},
		{of(1, 0, 0, 0), of(0, 9, 9, 9), true},
		{of(0, 9, 9, 9), of(1, 0, 0, 0), false},
		{of(1, 5, 0, 0), of(1, 4, 9, 9), true},
		{of(1, 4, 9, 9), of(1, 5, 0, 0), false},
		{of(1, 5, 2, 0), of(1, 5, 1, 9), true},
		{of(1, 5, 1, 9), of(1, 5, 2, 0), false},
		{of(1, 5, 2, 7), of(1, 5, 2, 6), true},
		{of(1, 5, 2, 6), of(1, 5, 2, 7), false},
		{of(1, 5, 2, 6), of(1, 5, 2, 6), false},
		{of(math.MaxUint64, 0, 0, 0), of(1, 0, 0, 0), true},
		{of(1<<63, 0, 0, 0), of(1<<63-1, 0, 0, 0), true},
		{of(1<<32, 0, 0, 0), of(1, 0, 0, 0), true},
	}
	for _, r := range rows {
		if got := Newer(r.a, r.b); got != r.want {
			t.Errorf("Newer(%+v, %+v) = %t", r.a, r.b, got)
		}
	}
}

// All pairs of spots of which each number is at an edge, whatever else stands in them.
func TestNewerOfAllPairs(t *testing.T) {
	edges := []uint64{0, 1, math.MaxUint64}
	all := []Spot{}
	for i := range 81 {
		n := [4]uint64{edges[i%3], edges[i/3%3], edges[i/9%3], edges[i/27]}
		all = append(all, Spot{
			Place: at(80-i, i),
			Head:  api.Head{Kind: 81 - i, Ns: i, Count: -i, Lba: uint32(80 - i), Epoch: n[0], Counter: n[1]},
			Order: api.Head{Kind: i, Ns: 80 - i, Count: i, Lba: uint32(i), Epoch: n[2], Counter: n[3]},
		})
	}
	for _, a := range all {
		for _, b := range all {
			if got := Newer(a, b); got != plainNewer(a, b) || got && Newer(b, a) {
				t.Fatalf("Newer(%+v, %+v) = %t", a, b, got)
			}
			like := b
			like.Head.Epoch, like.Head.Counter, like.Order.Epoch, like.Order.Counter = a.Head.Epoch, a.Head.Counter, a.Order.Epoch, a.Order.Counter
			if Newer(a, like) || Newer(like, a) {
				t.Fatalf("%+v, and %+v", a, like)
			}
		}
	}
}

// Two spots of a sector, one behind the other: which one it has, and what is told.
func TestOneSpotBehindAnother(t *testing.T) {
	edges := []uint64{0, 1, math.MaxUint64}
	for i := range 81 * 81 {
		s := func(i int, place api.Place) Spot {
			return Spot{Place: place, Head: api.Head{Kind: data, Count: 1, Epoch: edges[i%3], Counter: edges[i/3%3]}, Order: api.Head{Epoch: edges[i/9%3], Counter: edges[i/27]}}
		}
		a, b := s(i%81, at(1, 1)), s(i/81, at(1, 2))
		p := pairOf(t, []int{1}, a)
		if plainNewer(b, a) {
			p.tells(putOf(b), at(1, 1))
			a = b
		} else {
			p.tells(putOf(b))
		}
		if got, ok := p.m.Get(0, 0); !ok || got != a {
			t.Fatalf("%s: %+v, %t, want %+v", p.last(), got, ok, a)
		}
	}
}

func TestHeadsAlike(t *testing.T) {
	of := func(page, kind, order int) Spot {
		s := spot(at(1, page), kind, 0, 1, 2, 4)
		s.Order.Counter = uint64(order)
		return s
	}
	// Unlike orders: the greater one, whichever comes first.
	for _, way := range orders(3) {
		p := pairOf(t, []int{4})
		for _, i := range way {
			p.must(putOf(of(i, data, i)))
			p.is()
		}
		if got, _ := p.m.Get(0, 1); got != of(2, data, 2) {
			t.Errorf("%v: %+v", way, got)
		}
	}
	// Orders alike: the one that came first, whatever its kind is.
	for _, kind := range []int{data, trim} {
		p := pairOf(t, []int{4}, of(1, kind, 7))
		for page := range 5 {
			for _, other := range []int{data, trim} {
				p.tells(putOf(of(page, other, 7)))
				p.tells(putOf(of(page, other, 6)))
			}
		}
		if got, _ := p.m.Get(0, 2); got != of(1, kind, 7) {
			t.Errorf("%+v", got)
		}
		p.is()
	}
}

// The same head may be at two places, as it is while a block is emptied.
func TestACopyInANewerBlock(t *testing.T) {
	p := pairOf(t, []int{4}, spot(at(1, 1), trim, 0, 0, 4, 2), spot(at(1, 2), data, 0, 3, 1, 3))
	for _, s := range p.m.In(1) {
		s.Place.Block, s.Order = 2, order(1)
		p.must(putOf(s))
		p.is()
	}
	if len(p.m.In(1)) != 0 || p.m.Refs(at(2, 1)) != 3 || p.m.Refs(at(2, 2)) != 1 {
		t.Errorf("In(1) = %v, In(2) = %v", p.m.In(1), p.m.In(2))
	}
}

// A spot whose sectors others take one by one: its place is told with the last of them.
func TestTakenSectorBySector(t *testing.T) {
	for _, way := range orders(4) {
		p := pairOf(t, []int{6}, spot(at(1, 1), trim, 0, 1, 4, 1))
		for i, lba := range way {
			if p.m.Refs(at(1, 1)) != 4-i {
				t.Errorf("%v, %d: Refs = %d", way, i, p.m.Refs(at(1, 1)))
			}
			if d := putOf(spot(at(2, lba), data, 0, 1+lba, 1, 2)); i < 3 {
				p.tells(d)
			} else {
				p.tells(d, at(1, 1))
			}
			p.is()
		}
	}
}

// One that takes sectors of several spots: those places are told that no other sector has.
func TestTakenFromSeveral(t *testing.T) {
	p := pairOf(t, []int{10, 2},
		spot(at(3, 1), data, 0, 0, 1, 9), spot(at(2, 8), data, 0, 1, 1, 1), spot(at(2, 7), trim, 0, 2, 2, 1),
		spot(at(1, 9), data, 0, 4, 1, 9), spot(at(0, 4), trim, 0, 5, 3, 1), spot(at(-1, 3), data, 0, 8, 1, 1),
		spot(at(2, 7), data, 1, 0, 1, 1), spot(at(2, 6), data, 1, 1, 1, 1))
	p.is()
	p.tells(putOf(spot(at(0, 0), trim, 0, 1, 6, 5)), at(2, 8))
	p.is()
	p.tells(putOf(spot(at(7, 7), trim, 0, 0, 10, 10)), at(-1, 3), at(0, 0), at(0, 4), at(1, 9), at(3, 1))
	p.is()
	p.tells(putOf(spot(at(7, 8), trim, 1, 0, 2, 2)), at(2, 6), at(2, 7))
	p.is()
}

func TestPutTellsPlacesInOrder(t *testing.T) {
	places := edgePlaces()
	p := pairOf(t, []int{len(places)})
	for i, place := range places {
		p.must(putOf(spot(place, data, 0, i, 1, 1)))
	}
	p.tells(putOf(spot(at(9, 9), trim, 0, 0, len(places), 2)),
		at(math.MinInt, math.MinInt), at(math.MinInt, math.MaxInt), at(-1<<32, 0), at(-1, -2), at(-1, 2),
		at(0, math.MinInt), at(0, 0), at(0, 1), at(0, math.MaxInt), at(1, -1), at(1, 0), at(1, 1<<32), at(2, 4), at(2, 5),
		at(63, 31), at(64, 32), at(1<<32, 1), at(1<<32+1, 0), at(math.MaxInt, math.MinInt), at(math.MaxInt, math.MaxInt))
	p.is()
}

// A place at which a newer spot is put stays live: it is not told.
func TestANewerSpotAtTheSamePlace(t *testing.T) {
	p := pairOf(t, []int{4}, spot(at(1, 1), trim, 0, 0, 4, 1))
	p.tells(putOf(spot(at(1, 1), data, 0, 2, 1, 2)))
	p.is()
	p.tells(putOf(spot(at(1, 1), trim, 0, 0, 4, 3)))
	p.is()
	if p.m.Refs(at(1, 1)) != 4 {
		t.Errorf("Refs = %d", p.m.Refs(at(1, 1)))
	}
	p.tells(putOf(spot(at(1, 2), trim, 0, 0, 4, 4)), at(1, 1))
	p.is()
}

func TestLiveNoMoreAndLiveAgain(t *testing.T) {
	p := pairOf(t, []int{4})
	for i := range 10 {
		was, is := at(1, 1+(i+1)%2), at(1, 1+i%2)
		if d := putOf(spot(is, data, 0, 2, 1, i+1)); i == 0 {
			p.tells(d)
		} else {
			p.tells(d, was)
		}
		if p.m.Refs(is) != 1 || p.m.Refs(was) != 0 || len(p.m.In(1)) != 1 {
			t.Errorf("%d: Refs %d and %d, In %v", i, p.m.Refs(is), p.m.Refs(was), p.m.In(1))
		}
		p.is()
	}
}

// P22.3

func TestRefs(t *testing.T) {
	p := pairOf(t, []int{6, 3, 1, 2},
		spot(at(2, 3), trim, 0, 1, 4, 1), spot(at(2, 3), trim, 3, 0, 2, 1), spot(at(3, 2), data, 1, 0, 1, 1))
	for place, want := range map[api.Place]int{at(2, 3): 6, at(3, 2): 1, at(2, 2): 0, at(3, 3): 0, at(-2, 3): 0, at(2, -3): 0, {}: 0} {
		if got := p.m.Refs(place); got != want {
			t.Errorf("Refs(%+v) = %d, want %d", place, got, want)
		}
	}
	p.is()
}

func TestMove(t *testing.T) {
	s := []Spot{spot(at(1, 1), trim, 0, 0, 3, 1), spot(at(1, 2), data, 0, 3, 1, 2), spot(at(1, 1), data, 2, 0, 2, 3), spot(at(2, 1), data, 1, 0, 1, 4)}
	for _, to := range []api.Place{at(1, 3), at(2, 2), at(-1, -1), at(math.MaxInt, math.MinInt), at(0, 0)} {
		p := pairOf(t, []int{4, 1, 3}, s...)
		p.tells(moveOf(at(1, 1), to, order(9)))
		for lba := range 3 {
			if got, ok := p.m.Get(0, lba); !ok || got != (Spot{Place: to, Head: s[0].Head, Order: order(9)}) {
				t.Errorf("to %+v: Get(0, %d) = %+v, %t", to, lba, got, ok)
			}
		}
		if got, ok := p.m.Get(2, 1); !ok || got != (Spot{Place: to, Head: s[2].Head, Order: order(9)}) {
			t.Errorf("to %+v: Get(2, 1) = %+v, %t", to, got, ok)
		}
		if got, ok := p.m.Get(0, 3); !ok || got != s[1] {
			t.Errorf("to %+v: Get(0, 3) = %+v, %t", to, got, ok)
		}
		if p.m.Refs(at(1, 1)) != 0 || p.m.Refs(to) != 5 {
			t.Errorf("to %+v: Refs %d and %d", to, p.m.Refs(at(1, 1)), p.m.Refs(to))
		}
		p.is()
		// And back again.
		p.tells(moveOf(to, at(1, 1), order(0)))
		p.is()
	}
}

// From each of these places to each: live ones, and such as are not.
func TestMoveOfAllPairs(t *testing.T) {
	live := []api.Place{at(0, 0), at(1, 1), at(1, 2), at(-1, math.MaxInt)}
	dead := []api.Place{at(0, 1), at(1, 0), at(2, 2), at(math.MinInt, -1)}
	for i, from := range slices.Concat(live, dead) {
		for j, to := range slices.Concat(live, dead) {
			p := pairOf(t, []int{8, 8})
			for k, place := range live {
				p.must(putOf(spot(place, trim, k%2, 2*(k/2), 2, k)))
			}
			if j < len(live) && j != i {
				p.errs(moveOf(from, to, order(5)), api.ErrShape)
			} else {
				p.tells(moveOf(from, to, order(5)))
			}
			p.is()
			refs := 0
			for _, place := range slices.Concat(live, dead) {
				refs += p.m.Refs(place)
			}
			if refs != 2*len(live) {
				t.Errorf("%s: places of %d sectors, want %d", p.last(), refs, 2*len(live))
			}
		}
	}
}

func TestMoveToItself(t *testing.T) {
	s := spot(at(1, 1), trim, 0, 1, 2, 3)
	p := pairOf(t, []int{4}, s)
	p.tells(moveOf(at(1, 1), at(1, 1), order(7)))
	s.Order = order(7)
	if got, ok := p.m.Get(0, 2); !ok || got != s || p.m.Refs(at(1, 1)) != 2 {
		t.Errorf("Get = %+v, %t, Refs %d", got, ok, p.m.Refs(at(1, 1)))
	}
	p.is()
	p.tells(moveOf(at(1, 2), at(1, 2), order(8)))
	if p.m.Refs(at(1, 2)) != 0 || len(p.m.In(1)) != 1 {
		t.Errorf("Refs = %d, In %v", p.m.Refs(at(1, 2)), p.m.In(1))
	}
	p.is()
}

// The order that a spot has behind a Move counts for what comes then.
func TestOrderBehindAMove(t *testing.T) {
	of := func(page int, counter int) Spot {
		s := spot(at(3, page), data, 0, 0, 1, 4)
		s.Order = order(counter)
		return s
	}
	p := pairOf(t, []int{1}, of(1, 5))
	p.must(moveOf(at(3, 1), at(4, 1), order(8)))
	p.tells(putOf(of(2, 7)))
	p.tells(putOf(of(3, 8)))
	p.tells(putOf(of(4, 9)), at(4, 1))
	p.is()
	p.must(moveOf(at(3, 4), at(4, 1), order(1)))
	p.tells(putOf(of(5, 2)), at(4, 1))
	p.is()
}

// What was moved is live no more where it was: another may be moved there, and what is put there is told of again.
func TestMoveIntoWhatWasLeft(t *testing.T) {
	p := pairOf(t, []int{4}, spot(at(1, 1), data, 0, 0, 1, 1), spot(at(1, 2), trim, 0, 1, 3, 1))
	p.errs(moveOf(at(1, 2), at(1, 1), order(2)), api.ErrShape)
	p.tells(moveOf(at(1, 1), at(2, 1), order(2)))
	p.tells(moveOf(at(1, 2), at(1, 1), order(2)))
	p.is()
	p.tells(putOf(spot(at(1, 2), trim, 0, 0, 4, 2)), at(1, 1), at(2, 1))
	p.tells(moveOf(at(1, 2), at(1, 1), order(2)))
	p.tells(dropOf(0), at(1, 1))
	p.is()
	p.tells(moveOf(at(1, 1), at(1, 2), order(2)))
	p.is()
}

func TestInByPage(t *testing.T) {
	pages := []int{7, -1, 0, math.MaxInt, 3, math.MinInt, 1 << 32, 1}
	p := pairOf(t, []int{10, 10})
	for i, page := range pages {
		p.must(putOf(spot(at(5, page), data, i%2, i/2, 1, i)))
		p.must(putOf(spot(at(6, page), trim, i%2, 4+i/2, 1, i)))
	}
	got := []int{}
	for _, s := range p.m.In(5) {
		got = append(got, s.Place.Page)
		if s.Place.Block != 5 || s.Head.Kind != data {
			t.Errorf("%+v", s)
		}
	}
	if want := []int{math.MinInt, -1, 0, 1, 3, 7, 1 << 32, math.MaxInt}; !slices.Equal(got, want) {
		t.Errorf("pages %v, want %v", got, want)
	}
	for _, block := range []int{4, 7, 0, -5, math.MaxInt, math.MinInt} {
		if in := p.m.In(block); len(in) != 0 {
			t.Errorf("In(%d) = %v", block, in)
		}
	}
	p.is()
}

// A place of more sectors is one spot, however they lie between others'.
func TestInOfPlacesOfMoreSectors(t *testing.T) {
	s := []Spot{spot(at(1, 5), trim, 0, 0, 9, 1), spot(at(1, 4), data, 0, 3, 1, 2), spot(at(1, 9), data, 0, 5, 1, 3), spot(at(1, 1), data, 0, 8, 1, 4)}
	p := pairOf(t, []int{9}, s...)
	if got := p.m.In(1); !slices.Equal(got, []Spot{s[3], s[1], s[0], s[2]}) {
		t.Errorf("In = %+v", got)
	}
	p.is()
}

// Unlike spots at one place are one, too: the first sector's.
func TestInOfUnlikeSpotsAtOnePlace(t *testing.T) {
	s := []Spot{spot(at(1, 5), data, 2, 0, 1, 9), spot(at(1, 5), trim, 1, 3, 2, 8), spot(at(1, 5), data, 1, 5, 1, 1), spot(at(1, 4), data, 3, 0, 1, 1)}
	for _, way := range orders(4) {
		p := pairOf(t, []int{6, 6, 6, 6})
		for _, i := range way {
			p.must(putOf(s[i]))
			p.is()
		}
		if got := p.m.In(1); !slices.Equal(got, []Spot{s[3], s[1]}) {
			t.Errorf("%v: In = %+v", way, got)
		}
		if p.m.Refs(at(1, 5)) != 4 {
			t.Errorf("%v: Refs = %d", way, p.m.Refs(at(1, 5)))
		}
	}
}

func TestData(t *testing.T) {
	p := pairOf(t, []int{8, 8})
	steps := []struct{ kind, ns, lba, count, counter, first, second int }{
		{data, 0, 2, 1, 1, 1, 0},
		{data, 0, 3, 1, 2, 2, 0},
		{data, 1, 3, 1, 2, 2, 1},
		{data, 0, 3, 1, 3, 2, 1},
		{trim, 0, 0, 3, 4, 1, 1},
		{trim, 0, 3, 1, 2, 1, 1},
		{trim, 0, 7, 1, 5, 1, 1},
		{data, 0, 0, 8, 9, 8, 1},
		{trim, 0, 0, 8, 10, 0, 1},
		{data, 1, 0, 8, 1, 0, 8},
	}
	for i, s := range steps {
		p.must(putOf(spot(at(1, i), s.kind, s.ns, s.lba, s.count, s.counter)))
		if p.m.Data(0) != s.first || p.m.Data(1) != s.second {
			t.Errorf("%d: %d and %d, want %d and %d", i, p.m.Data(0), p.m.Data(1), s.first, s.second)
		}
		p.is()
	}
	for _, ns := range append(noNamespaces(), 2, 3) {
		if p.m.Data(ns) != 0 {
			t.Errorf("Data(%d) = %d", ns, p.m.Data(ns))
		}
	}
	p.must(dropOf(1))
	if p.m.Data(1) != 0 {
		t.Errorf("dropped: Data = %d", p.m.Data(1))
	}
}

// What is asked changes nothing, and is answered alike again.
func TestAskedAgain(t *testing.T) {
	p := pairOf(t, []int{4, 3}, spot(at(2, 2), trim, 0, 0, 4, 1), spot(at(2, 1), data, 1, 1, 1, 2))
	for range 3 {
		p.is()
	}
}

// P22.4

// unlike are spots of which no two heads are alike, and which speak of the same sectors here and there.
func unlike() []Spot {
	s := []Spot{
		spot(at(1, 1), data, 0, 3, 1, 5),
		spot(at(1, 2), trim, 0, 2, 3, 7),
		spot(at(2, 1), data, 0, 3, 1, 6),
		spot(at(2, 2), trim, 0, 0, 6, 1),
		spot(at(3, 1), data, 0, 4, 1, 8),
	}
	s[0].Order, s[1].Order, s[2].Order = order(9), order(1), order(5)
	s[3].Head.Epoch, s[3].Order.Epoch = 1, 9
	return s
}

// All orders of five spots, each of them once more anywhere: the newest of each sector, as found without putting one behind the other.
func TestAnyOrderAndTwice(t *testing.T) {
	s := unlike()
	first := pairOf(t, []int{6}, s...)
	for _, way := range orders(len(s)) {
		for again := range s {
			for where := range len(s) + 1 {
				p := pairOf(t, []int{6})
				for _, i := range slices.Insert(slices.Clone(way), where, again) {
					p.must(putOf(s[i]))
				}
				p.same(first)
			}
		}
	}
	for lba := range 6 {
		speaking := slices.DeleteFunc(unlike(), func(x Spot) bool {
			return lba < int(x.Head.Lba) || lba >= int(x.Head.Lba)+x.Head.Count
		})
		want := slices.MaxFunc(speaking, func(a, b Spot) int {
			return slices.Compare([]uint64{a.Head.Epoch, a.Head.Counter}, []uint64{b.Head.Epoch, b.Head.Counter})
		})
		if got, ok := first.m.Get(0, lba); !ok || got != want {
			t.Errorf("Get(0, %d) = %+v, %t, want %+v", lba, got, ok, want)
		}
	}
}

// Spots drawn at random, of which no two heads are alike, shuffled, some of them twice.
func TestRandomSpotsInAnyOrder(t *testing.T) {
	r := newRandom(224)
	for range 200 {
		spots := []Spot{}
		for counter := range 1 + r.Intn(12) {
			lba := r.Intn(8)
			s := spot(r.place(), 1+r.Intn(2), r.Intn(2), lba, 1+r.Intn(8-lba), counter/2)
			s.Head.Epoch = uint64(counter % 2)
			s.Order = api.Head{Epoch: r.number(), Counter: r.number()}
			spots = append(spots, s)
		}
		first := pairOf(t, []int{8, 8}, spots...)
		for range 5 {
			others := append(slices.Clone(spots), of(r, spots), of(r, spots))
			r.Shuffle(len(others), func(i, j int) { others[i], others[j] = others[j], others[i] })
			first.same(pairOf(t, []int{8, 8}, others...))
		}
	}
}

// What is put again changes nothing, and tells nothing.
func TestPutTwice(t *testing.T) {
	p := pairOf(t, []int{6})
	for _, s := range unlike() {
		p.must(putOf(s))
		p.tells(putOf(s))
		p.is()
	}
	for _, s := range unlike() {
		p.tells(putOf(s))
		p.is()
	}
}

// P22.5

// Each spot of a sector of its own has as many places live as there are sectors; each spot of more, fewer.
func TestAsManyPlacesAsSectors(t *testing.T) {
	count := func(p *pair) (live, with int) {
		for block := range 8 {
			live += len(p.m.In(block))
		}
		for ns := range maxSlots {
			for lba := range p.m.Size(ns) {
				if _, ok := p.m.Get(ns, lba); ok {
					with++
				}
			}
		}
		return live, with
	}
	p := pairOf(t, []int{8, 8, 8, 8})
	for i := range 32 {
		p.must(putOf(spot(at(i%8, i/8), data, i%4, i/4, 1, 1)))
		if live, with := count(p); live != i+1 || with != i+1 {
			t.Errorf("%d places live, %d sectors, want %d", live, with, i+1)
		}
	}
	for i := range 4 {
		p.must(putOf(spot(at(i, 9), trim, i, 0, 8, 2)))
		if live, with := count(p); live != 32-7*(i+1) || with != 32 {
			t.Errorf("%d places live, %d sectors, want %d and 32", live, with, 32-7*(i+1))
		}
	}
	for i := range 4 {
		p.must(dropOf(i))
		if live, with := count(p); live != 3-i || with != 8*(3-i) {
			t.Errorf("%d places live, %d sectors, want %d and %d", live, with, 3-i, 8*(3-i))
		}
	}
	p.is()
}

// All changes at their edges, one behind the other.
func TestEdgesOneBehindTheOther(t *testing.T) {
	for _, size := range []int{1, 2, 5} {
		p := pairOf(t, []int{3, size})
		for _, d := range edgeDeeds(size) {
			p.does(d)
			if p.m.Size(3) < maxSize {
				p.is()
			} else {
				p.must(dropOf(3))
			}
		}
	}
}

func TestAtRandom(t *testing.T) {
	r := newRandom(22)
	for range 300 {
		p := newPair(t)
		for range 80 {
			p.does(r.deed(p))
			p.is()
		}
	}
}

// A device's way with its map: sectors written and trimmed, blocks emptied into others, namespaces dropped now and then.
func TestAsADeviceDoes(t *testing.T) {
	r := newRandom(2222)
	for range 20 {
		p := pairOf(t, []int{9, 5, 12})
		counter, page := 0, 0
		for range 150 {
			counter++
			page++
			ns := r.Intn(3)
			if _, there := p.plain.sizes[ns]; !there {
				p.must(addOf(ns, 5+r.Intn(9)))
			}
			lba := r.Intn(p.plain.sizes[ns])
			switch r.Intn(8) {
			case 0:
				p.must(putOf(spot(at(page/8, page%8), trim, ns, lba, 1+r.Intn(p.plain.sizes[ns]-lba), counter)))
			case 1:
				p.empties(r.Intn(1+page/8), 1000+counter, counter)
			case 2:
				if r.Intn(6) == 0 {
					p.must(dropOf(ns))
				}
			default:
				p.must(putOf(spot(at(page/8, page%8), data, ns, lba, 1, counter)))
			}
			p.is()
		}
	}
}

// empties moves what is live in a block to the pages of another one, in order.
func (p *pair) empties(block, to, counter int) {
	p.t.Helper()
	for i, s := range p.m.In(block) {
		p.must(moveOf(s.Place, at(to, 1+i), order(counter)))
	}
	if in := p.m.In(block); len(in) != 0 {
		p.t.Errorf("%s: In(%d) = %v", p.last(), block, in)
	}
}
