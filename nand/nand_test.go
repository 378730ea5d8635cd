package nand

import (
	"bytes"
	"fmt"
	"math"
	"math/rand"
	"reflect"
	"slices"
	"testing"

	"nepenthe/api"
)

// small is about the smallest array that may be: pages of 248 bytes, blocks of 992.
func small() api.Geometry {
	return api.Geometry{Blocks: 7, Pages: 4, Sector: 160, Wear: 1, Rounds: 1}
}

// pageBytes is how many bytes a page of small has.
const pageBytes = 248

func at(block, page int) api.Place {
	return api.Place{Block: block, Page: page}
}

// filled is a page of small that has one byte all over.
func filled(x byte) []byte {
	return all(x, pageBytes)
}

func newChip(t *testing.T, g api.Geometry, plan []api.Fault) *Chip {
	t.Helper()
	c, err := New(g, plan)
	if err != api.OK || c == nil {
		t.Fatalf("New(%+v) = %v, %v", g, c, err)
	}
	return c
}

func ask(t *testing.T, name string, got, want api.Errno) {
	t.Helper()
	if got != want {
		t.Fatalf("%s: %v, want %v", name, got, want)
	}
}

func askPage(t *testing.T, c *Chip, p api.Place, want []byte) {
	t.Helper()
	got, err := c.Read(p)
	if err != api.OK || !bytes.Equal(got, want) {
		t.Fatalf("Read(%v) = %s, %v, want %s", p, short(got), err, short(want))
	}
}

// manyGeometries are right ones, at the edges of what may be.
func manyGeometries() []api.Geometry {
	return []api.Geometry{
		small(),
		{Blocks: 7, Pages: 20, Sector: 32, Wear: 1000, Rounds: 1000},
		{Blocks: 8, Pages: 5, Sector: 128, Spare: 1, Wear: 2, Rounds: 3},
		{Blocks: 15, Pages: 32, Sector: 64, Spare: 8, Wear: 4, Rounds: 1},
		{Blocks: 64, Pages: 4, Sector: 176, Wear: 1, Rounds: 2},
		{Blocks: 7, Pages: 4, Sector: 4096, Wear: 1, Rounds: 1},
	}
}

// manyMasks are nil, empty, of one byte, of several, of 64, and of lengths that divide neither a page's nor a block's.
func manyMasks() [][]byte {
	source := rand.New(rand.NewSource(1301))
	masks := [][]byte{nil, {}, {0}, {0xff}, {1}, {0x80}, {0x30}, {0xf0}, {0x0f}, {0, 0xff}, {0xff, 0, 0}, {1, 0x80, 0x7e}}
	for _, n := range []int{1, 2, 3, 5, 7, 31, 62, 63, 64} {
		masks = append(masks, randomBytes(source, n))
	}
	return masks
}

// noPlaces are places of which there is no page in small.
func noPlaces() []api.Place {
	var out []api.Place
	for _, n := range []int{-1, math.MinInt, math.MaxInt, math.MaxInt32 + 1} {
		out = append(out, at(n, 0), at(0, n), at(n, n), at(6, n), at(n, 3))
	}
	// Among them such that, reckoned as one number, would be another page's.
	return append(out, at(7, 0), at(0, 4), at(6, 4), at(7, -1), at(7, -4), at(1, -1), at(-1, 4), at(-1, 5), at(0, 27), at(math.MinInt/2, 0), at(math.MaxInt/2+1, 2))
}

// noBlocks are numbers of which there is no block in small.
func noBlocks() []int {
	return []int{-1, 7, 8, math.MinInt, math.MinInt + 7, math.MinInt / 2, math.MaxInt, math.MaxInt/2 + 1}
}

// P13.1: New

func TestANewArray(t *testing.T) {
	for _, g := range manyGeometries() {
		c, size := newChip(t, g, nil), g.Sector+88
		if !c.On() || c.Ops() != 0 || len(c.Trace()) != 0 || c.Geometry() != g {
			t.Errorf("%+v: On %v, Ops %d, Trace %v, Geometry %+v", g, c.On(), c.Ops(), c.Trace(), c.Geometry())
		}
		if got := c.Image(); !bytes.Equal(got, all(0xff, g.Blocks*g.Pages*size)) {
			t.Errorf("%+v: the image is %s", g, short(got))
		}
		for block := range g.Blocks {
			if c.Erases(block) != 0 {
				t.Errorf("%+v: Erases(%d) = %d", g, block, c.Erases(block))
			}
			for page := range g.Pages {
				askPage(t, c, at(block, page), all(0xff, size))
			}
		}
	}
}

func TestGeometriesThatAreNotRight(t *testing.T) {
	wrong := func(name string, g api.Geometry) {
		t.Helper()
		for _, plan := range [][]api.Fault{nil, {{At: 1}}, {{At: -1}}} {
			if c, err := New(g, plan); c != nil || err != api.ErrShape {
				t.Errorf("%s: New(%+v) = %v, %v", name, g, c, err)
			}
		}
	}
	wrong("no geometry", api.Geometry{})
	for _, c := range []struct {
		name string
		put  func(g *api.Geometry, n int)
		nums []int
	}{
		{"Blocks", func(g *api.Geometry, n int) { g.Blocks = n }, []int{6, 65, 0, -7}},
		{"Pages", func(g *api.Geometry, n int) { g.Pages = n }, []int{3, 33, 0, -4}},
		{"Sector", func(g *api.Geometry, n int) { g.Sector = n }, []int{16, 4112, 31, 33, 4095, 4097, 159, 161, 168, 0, -160, 144, 32}},
		{"Spare", func(g *api.Geometry, n int) { g.Spare = n }, []int{-1, 9, 1}},
		{"Wear", func(g *api.Geometry, n int) { g.Wear = n }, []int{0, 1001, -1}},
		{"Rounds", func(g *api.Geometry, n int) { g.Rounds = n }, []int{0, 1001, -1}},
	} {
		for _, n := range append(c.nums, math.MinInt, math.MaxInt) {
			g := small()
			c.put(&g, n)
			wrong(fmt.Sprint(c.name, " ", n), g)
		}
	}
}

func TestGeometriesAtTheirEdges(t *testing.T) {
	right := func(g api.Geometry) {
		t.Helper()
		c := newChip(t, g, nil)
		last, page := at(g.Blocks-1, g.Pages-1), all(0x5a, g.Sector+88)
		ask(t, "a program of the last page", c.Program(last, page), api.OK)
		ask(t, "one behind", c.Program(at(g.Blocks-1, g.Pages), page), api.ErrShape)
		ask(t, "one of the block behind", c.Program(at(g.Blocks, 0), page), api.ErrShape)
		askPage(t, c, last, page)
		if image := c.Image(); !bytes.HasSuffix(image, page) || bytes.Count(image, []byte{0x5a}) != len(page) {
			t.Errorf("%+v: the last page is not the last one", g)
		}
	}
	for _, g := range manyGeometries() {
		right(g)
	}
	right(api.Geometry{Blocks: 64, Pages: 32, Sector: 4096, Spare: 8, Wear: 1000, Rounds: 1000})
}

func TestPlans(t *testing.T) {
	long := func(n int) []api.Fault {
		plan := make([]api.Fault, n)
		for i := range plan {
			plan[i] = api.Fault{At: i, Mask: counted(byte(i), 64)}
		}
		return plan
	}
	for name, plan := range map[string][]api.Fault{
		"nil": nil, "empty": {}, "one": {{At: 0}}, "MaxFaults": long(64), "the greatest number": {{At: math.MaxInt}},
		"64 bytes": {{Mask: make([]byte, 64)}}, "two of one number": {{At: 3}, {At: 3, Crash: true}}, "an empty mask": {{Mask: []byte{}}},
	} {
		if c, err := New(small(), plan); c == nil || err != api.OK {
			t.Errorf("%s: New = %v, %v", name, c, err)
		}
	}
	for name, plan := range map[string][]api.Fault{
		"MaxFaults and one": long(65), "many": long(1000), "below 0": {{At: -1}}, "the least number": {{At: math.MinInt}},
		"65 bytes": {{Mask: make([]byte, 65)}}, "one behind others": {{At: 1}, {At: 2}, {At: -3}}, "a mask behind others": {{At: 1}, {At: 2, Mask: make([]byte, 200)}},
	} {
		if c, err := New(small(), plan); c != nil || err != api.ErrShape {
			t.Errorf("%s: New = %v, %v", name, c, err)
		}
		if c, err := New(api.Geometry{}, plan); c != nil || err != api.ErrShape {
			t.Errorf("%s, and no geometry: New = %v, %v", name, c, err)
		}
	}
}

// TestAPlanOfMaxFaults has a fault at each of as many operations, and none behind them.
func TestAPlanOfMaxFaults(t *testing.T) {
	var plan []api.Fault
	for i := range 64 {
		plan = append(plan, api.Fault{At: 63 - i, Crash: i%3 == 0, Mask: counted(byte(i), i+1)})
	}
	p := newPair(t, small(), plan)
	for i := range 64 {
		want := api.ErrFail
		if (63-i)%3 == 0 {
			want = api.ErrPower
		}
		switch block := i % 7; i % 2 {
		case 0:
			ask(t, fmt.Sprint("scrub ", i), p.scrub(block), want)
		default:
			ask(t, fmt.Sprint("erase ", i), p.erase(block), want)
		}
		p.power(true)
	}
	ask(t, "an erase behind them", p.erase(0), api.OK)
	ask(t, "a program behind them", p.program(at(0, 0), filled(9)), api.OK)
}

// P13.1: programs

func TestExample(t *testing.T) {
	p := newPair(t, small(), nil)
	ask(t, "0f", p.program(at(2, 0), filled(0x0f)), api.OK)
	askPage(t, p.chip, at(2, 0), filled(0x0f))
	ask(t, "f3", p.program(at(2, 0), filled(0xf3)), api.OK)
	askPage(t, p.chip, at(2, 0), filled(0x03))
	ask(t, "a third time", p.program(at(2, 0), filled(0)), api.ErrTwice)
	askPage(t, p.chip, at(2, 0), filled(0x03))
}

// TestProgramsAreAnd goes over all pairs of bytes.
func TestProgramsAreAnd(t *testing.T) {
	g := api.Geometry{Blocks: 7, Pages: 4, Sector: 176, Wear: 1, Rounds: 1} // pages of 264 bytes
	c := newChip(t, g, nil)
	for was := range 256 {
		ask(t, "an erase", c.Erase(3), api.OK)
		ask(t, "a first program", c.Program(at(3, 1), all(byte(was), 264)), api.OK)
		ask(t, "a second program", c.Program(at(3, 1), counted(0, 264)), api.OK)
		got, _ := c.Read(at(3, 1))
		for to := range 264 {
			if got[to] != byte(was)&byte(to) {
				t.Fatalf("%02x with %02x: %02x", was, to, got[to])
			}
		}
	}
}

// TestEachPageIsItsOwn programs each page with other bytes: none lies in another one's place.
func TestEachPageIsItsOwn(t *testing.T) {
	for _, g := range manyGeometries() {
		c, size := newChip(t, g, nil), g.Sector+88
		source := rand.New(rand.NewSource(1302))
		var image []byte
		for block := range g.Blocks {
			for page := range g.Pages {
				b := randomBytes(source, size)
				ask(t, fmt.Sprintf("%+v: Program %d %d", g, block, page), c.Program(at(block, page), b), api.OK)
				image = append(image, b...)
			}
		}
		if !bytes.Equal(c.Image(), image) {
			t.Fatalf("%+v: the image is not what was programmed", g)
		}
		for block := range g.Blocks {
			for page := range g.Pages {
				askPage(t, c, at(block, page), image[(block*g.Pages+page)*size:][:size])
			}
		}
		if c.Ops() != g.Blocks*g.Pages {
			t.Errorf("%+v: Ops() = %d", g, c.Ops())
		}
	}
}

func TestPlacesThatThereAreNot(t *testing.T) {
	p := newPair(t, small(), nil)
	p.program(at(0, 0), filled(0x11))
	for _, none := range noPlaces() {
		ask(t, fmt.Sprint("Program ", none), p.program(none, filled(0)), api.ErrShape)
		b, err := p.read(none)
		ask(t, fmt.Sprint("Read ", none), err, api.ErrShape)
		if len(b) != 0 {
			t.Errorf("Read(%v) tells bytes beside its error", none)
		}
		p.power(false)
		ask(t, fmt.Sprint("Poke ", none), p.poke(none, 0, 0), api.ErrShape)
		p.power(true)
	}
	for _, none := range noBlocks() {
		ask(t, fmt.Sprint("Erase ", none), p.erase(none), api.ErrShape)
		ask(t, fmt.Sprint("Scrub ", none), p.scrub(none), api.ErrShape)
		if p.chip.Erases(none) != 0 {
			t.Errorf("Erases(%d) = %d", none, p.chip.Erases(none))
		}
	}
	for _, there := range []api.Place{at(0, 0), at(0, 3), at(6, 0), at(6, 3)} {
		ask(t, fmt.Sprint("Program ", there), p.program(there, filled(1)), api.OK)
		_, err := p.read(there)
		ask(t, fmt.Sprint("Read ", there), err, api.OK)
	}
	for _, there := range []int{0, 6} {
		ask(t, fmt.Sprint("Erase ", there), p.erase(there), api.OK)
		ask(t, fmt.Sprint("Scrub ", there), p.scrub(there), api.OK)
	}
}

func TestBytesOfAnotherLength(t *testing.T) {
	p := newPair(t, small(), nil)
	for _, n := range []int{0, 1, 160, pageBytes - 1, pageBytes + 1, 2 * pageBytes, 4 * pageBytes} {
		ask(t, fmt.Sprint(n, " bytes"), p.program(at(1, 1), make([]byte, n)), api.ErrShape)
		ask(t, fmt.Sprint(n, " bytes with room"), p.program(at(1, 1), make([]byte, n, n+pageBytes)), api.ErrShape)
	}
	ask(t, "nil", p.program(at(1, 1), nil), api.ErrShape)
	ask(t, "just as many", p.program(at(1, 1), filled(0)), api.OK)
	ask(t, "just as many, with room behind", p.program(at(1, 1), make([]byte, 1000)[:pageBytes]), api.OK)
}

func TestOnceTwiceAThirdTime(t *testing.T) {
	for page := range 4 {
		p := newPair(t, small(), nil)
		for i, want := range []api.Errno{api.OK, api.OK, api.ErrTwice, api.ErrTwice} {
			ask(t, fmt.Sprintf("page %d, time %d", page, i+1), p.program(at(5, page), filled(byte(0xff<<i))), want)
		}
		ask(t, "another block's page", p.program(at(4, page), filled(1)), api.OK)
		ask(t, "an erase of another block", p.erase(4), api.OK)
		ask(t, "a fifth time", p.program(at(5, page), filled(0)), api.ErrTwice)
		ask(t, "an erase", p.erase(5), api.OK)
		ask(t, "once, behind the erase", p.program(at(5, page), filled(1)), api.OK)
		ask(t, "twice, behind the erase", p.program(at(5, page), filled(1)), api.OK)
		ask(t, "a third time, behind the erase", p.program(at(5, page), filled(1)), api.ErrTwice)
	}
}

// TestProgramsThatClearNothingCount: with 0xff all over a page is as it was, but programmed.
func TestProgramsThatClearNothingCount(t *testing.T) {
	p := newPair(t, small(), nil)
	ask(t, "page 2", p.program(at(0, 2), filled(0xff)), api.OK)
	ask(t, "page 1", p.program(at(0, 1), filled(0xff)), api.ErrOrder)
	ask(t, "page 2, twice", p.program(at(0, 2), filled(0xff)), api.OK)
	ask(t, "page 2, a third time", p.program(at(0, 2), filled(0xff)), api.ErrTwice)
	if p.chip.Ops() != 2 || !bytes.Equal(p.chip.Image(), all(0xff, 7*4*pageBytes)) {
		t.Error("something was cleared")
	}
}

// TestAllOrdersOfPrograms programs two, three and four pages of a block in each order that there is, pages left out and twice among them.
func TestAllOrdersOfPrograms(t *testing.T) {
	for n := range 4 * 4 * 4 * 4 {
		p := newPair(t, small(), nil)
		for _, page := range []int{n % 4, n / 4 % 4, n / 16 % 4, n / 64} {
			p.program(at(3, page), filled(byte(n)))
			p.program(at(4, 3), filled(byte(n)))
		}
		for page := range 4 {
			p.program(at(3, page), filled(0))
		}
	}
}

func TestOrder(t *testing.T) {
	p := newPair(t, small(), nil)
	ask(t, "page 0", p.program(at(1, 0), filled(0x7f)), api.OK)
	ask(t, "page 2, with page 1 left out", p.program(at(1, 2), filled(0x7f)), api.OK)
	ask(t, "page 1, behind which one was", p.program(at(1, 1), filled(0x7f)), api.ErrOrder)
	ask(t, "page 0, that was programmed once, behind which one was", p.program(at(1, 0), filled(0x3f)), api.OK)
	ask(t, "page 0, that was programmed twice", p.program(at(1, 0), filled(0x1f)), api.ErrTwice)
	ask(t, "page 3", p.program(at(1, 3), filled(0x7f)), api.OK)
	ask(t, "page 2, twice", p.program(at(1, 2), filled(0x3f)), api.OK)
	ask(t, "page 1, still", p.program(at(1, 1), filled(0x7f)), api.ErrOrder)
	ask(t, "page 1 of the next block", p.program(at(2, 1), filled(0x7f)), api.OK)
	ask(t, "page 1 of the block ahead", p.program(at(0, 1), filled(0x7f)), api.OK)
	ask(t, "an erase", p.erase(1), api.OK)
	ask(t, "page 1, behind the erase", p.program(at(1, 1), filled(0x7f)), api.OK)
	ask(t, "page 0, behind the erase", p.program(at(1, 0), filled(0x7f)), api.ErrOrder)
	ask(t, "page 3, at last", p.program(at(1, 3), filled(0x7f)), api.OK)
}

// TestPagesOfOtherBlocks: what is programmed in one block says nothing of the order in another, the next to it too.
func TestPagesOfOtherBlocks(t *testing.T) {
	p := newPair(t, small(), nil)
	for block := 6; block >= 0; block-- {
		for page := range 4 {
			ask(t, fmt.Sprint(block, " ", page), p.program(at(block, page), filled(byte(block))), api.OK)
		}
	}
}

// P13.1: erases and scrubs

func TestErases(t *testing.T) {
	p := newPair(t, small(), nil)
	for block := range 7 {
		p.program(at(block, 0), filled(byte(block)))
		p.program(at(block, 3), filled(byte(0x80+block)))
	}
	ask(t, "an erase", p.erase(3), api.OK)
	ask(t, "an erase once more", p.erase(3), api.OK)
	ask(t, "an erase of a block in which nothing is", p.erase(3), api.OK)
	ask(t, "an erase of the first", p.erase(0), api.OK)
	ask(t, "an erase of the last", p.erase(6), api.OK)
	for block, want := range []int{1, 0, 0, 3, 0, 0, 1} {
		if got := p.chip.Erases(block); got != want {
			t.Errorf("Erases(%d) = %d, want %d", block, got, want)
		}
		b := all(0xff, 4*pageBytes)
		if want == 0 {
			b = slices.Concat(filled(byte(block)), filled(0xff), filled(0xff), filled(byte(0x80+block)))
		}
		if got := p.chip.Image()[block*4*pageBytes:][:4*pageBytes]; !bytes.Equal(got, b) {
			t.Errorf("block %d is %s", block, short(got))
		}
	}
	for page := range 4 {
		ask(t, "a program of what was erased", p.program(at(3, page), filled(5)), api.OK)
	}
}

func TestScrubs(t *testing.T) {
	p := newPair(t, small(), nil)
	p.program(at(1, 1), filled(0x55))
	p.program(at(2, 1), filled(0x55))
	p.program(at(3, 1), filled(0x55))
	ask(t, "a scrub", p.scrub(2), api.OK)
	for page := range 4 {
		askPage(t, p.chip, at(2, page), filled(0))
		ask(t, "a program of what was scrubbed", p.program(at(2, page), filled(0xff)), api.ErrTwice)
	}
	askPage(t, p.chip, at(1, 1), filled(0x55))
	askPage(t, p.chip, at(3, 1), filled(0x55))
	ask(t, "a scrub once more", p.scrub(2), api.OK)
	ask(t, "a program still", p.program(at(2, 3), filled(0)), api.ErrTwice)
	ask(t, "a program of another block", p.program(at(3, 1), filled(0)), api.OK)
	if p.chip.Erases(2) != 0 {
		t.Error("a scrub counts as an erase")
	}
	ask(t, "an erase", p.erase(2), api.OK)
	for page := range 4 {
		askPage(t, p.chip, at(2, page), filled(0xff))
		ask(t, "a program of what was erased", p.program(at(2, page), filled(7)), api.OK)
		ask(t, "a second program", p.program(at(2, page), filled(3)), api.OK)
	}
	ask(t, "a scrub of a full block", p.scrub(2), api.OK)
	ask(t, "a scrub of a block in which nothing was", p.scrub(6), api.OK)
	ask(t, "a program of it", p.program(at(6, 0), filled(0)), api.ErrTwice)
}

// P13.1: which error comes first

func TestWhichErrorComesFirst(t *testing.T) {
	p := newPair(t, small(), nil)
	p.program(at(0, 2), filled(1))
	p.program(at(0, 2), filled(1))
	p.program(at(1, 2), filled(1))
	p.scrub(1)

	ask(t, "a page programmed twice, too few bytes", p.program(at(0, 2), filled(1)[1:]), api.ErrShape)
	ask(t, "a page out of order, too many bytes", p.program(at(0, 1), make([]byte, pageBytes+1)), api.ErrShape)
	ask(t, "a page of a scrubbed block, no bytes", p.program(at(1, 0), nil), api.ErrShape)
	ask(t, "a page that there is not, of a scrubbed block", p.program(at(1, 4), filled(0)), api.ErrShape)
	ask(t, "a page out of order, of a scrubbed block", p.program(at(1, 1), filled(0)), api.ErrTwice)
	ask(t, "a page out of order", p.program(at(0, 1), filled(0)), api.ErrOrder)

	p.power(false)
	ask(t, "no power, twice", p.program(at(0, 2), filled(0)), api.ErrPower)
	ask(t, "no power, out of order", p.program(at(0, 1), filled(0)), api.ErrPower)
	ask(t, "no power, no such page", p.program(at(-1, 0), filled(0)), api.ErrPower)
	ask(t, "no power, no bytes", p.program(at(0, 3), nil), api.ErrPower)
	ask(t, "no power, no such page, no bytes", p.program(at(9, 9), nil), api.ErrPower)
	ask(t, "no power, an erase of no block", p.erase(7), api.ErrPower)
	ask(t, "no power, a scrub of no block", p.scrub(-1), api.ErrPower)
	b, err := p.read(at(7, 0))
	ask(t, "no power, a read of no page", err, api.ErrPower)
	if len(b) != 0 {
		t.Error("bytes beside an error")
	}
	p.power(true)
	ask(t, "power, a poke of no page", p.poke(at(7, 0), 0, 0), api.ErrPower)
	ask(t, "power, a poke of no byte", p.poke(at(0, 0), -1, 0), api.ErrPower)
}

// P13.1: faults

// fill programs some pages of some blocks with what is neither 0 nor 0xff all over: eight operations.
func fill(p *pair) {
	source := rand.New(rand.NewSource(1303))
	for _, place := range []api.Place{at(0, 0), at(2, 0), at(2, 1), at(2, 3), at(3, 0), at(3, 0), at(3, 1), at(6, 3)} {
		p.program(place, randomBytes(source, pageBytes))
	}
}

// TestFaultsOfEachKind has each kind of operation not done whole, with each mask, at a crash and at none.
func TestFaultsOfEachKind(t *testing.T) {
	source := rand.New(rand.NewSource(1304))
	for _, mask := range manyMasks() {
		for _, crash := range []bool{false, true} {
			want := api.ErrFail
			if crash {
				want = api.ErrPower
			}
			for name, op := range map[string]func(p *pair) api.Errno{
				"a program":                  func(p *pair) api.Errno { return p.program(at(0, 1), randomBytes(source, pageBytes)) },
				"a second program":           func(p *pair) api.Errno { return p.program(at(2, 1), randomBytes(source, pageBytes)) },
				"a program of 0":             func(p *pair) api.Errno { return p.program(at(2, 3), filled(0)) },
				"a program of ff":            func(p *pair) api.Errno { return p.program(at(2, 3), filled(0xff)) },
				"an erase":                   func(p *pair) api.Errno { return p.erase(2) },
				"an erase of the last block": func(p *pair) api.Errno { return p.erase(6) },
				"an erase of what is blank":  func(p *pair) api.Errno { return p.erase(5) },
				"a scrub":                    func(p *pair) api.Errno { return p.scrub(3) },
				"a scrub of what is blank":   func(p *pair) api.Errno { return p.scrub(5) },
			} {
				p := newPair(t, small(), []api.Fault{{At: 8, Crash: crash, Mask: mask}})
				fill(p)
				ask(t, fmt.Sprintf("%s with %s, crash %v", name, short(mask), crash), op(p), want)
				if p.chip.On() == crash || p.chip.Ops() != 9 {
					t.Fatalf("%s: On %v, Ops %d", name, p.chip.On(), p.chip.Ops())
				}
				p.power(true)
				for block := range 7 {
					for page := range 4 {
						p.program(at(block, page), randomBytes(source, pageBytes))
					}
					p.erase(block)
				}
			}
		}
	}
}

func TestFaultsWrittenOut(t *testing.T) {
	for _, crash := range []bool{false, true} {
		c := newChip(t, small(), []api.Fault{{At: 0, Crash: crash, Mask: []byte{0xf0}}, {At: 1, Crash: crash, Mask: []byte{0x30, 0x81}},
			{At: 2, Crash: crash, Mask: []byte{0x11, 0x22, 0x44}}, {At: 3, Crash: crash, Mask: []byte{0xff, 0, 0xff}}})
		c.Program(at(0, 0), filled(0x0f))
		c.Power(true)
		want := filled(0x0f)
		if !crash {
			want[pageBytes-1] = 0x8f
		}
		askPage(t, c, at(0, 0), want)

		c.Program(at(0, 1), filled(0))
		c.Power(true)
		want = bytes.Repeat([]byte{0xcf, 0x7e}, pageBytes/2)
		if !crash {
			want[pageBytes-1] = 0xfe
		}
		askPage(t, c, at(0, 1), want)

		// 248 is 2 more than a multiple of 3: the mask goes on from page to page.
		c.Scrub(1)
		c.Power(true)
		whole := bytes.Repeat([]byte{0xee, 0xdd, 0xbb}, 400)
		for page := range 4 {
			askPage(t, c, at(1, page), whole[page*pageBytes:][:pageBytes])
		}
		c.Erase(1)
		c.Power(true)
		whole = bytes.Repeat([]byte{0xff, 0xdd, 0xff}, 400)
		for page := range 4 {
			askPage(t, c, at(1, page), whole[page*pageBytes:][:pageBytes])
		}
	}
}

// TestScrubsThatFailAreTorn: of a scrub nothing but the mask leaves a bit, a crash or not.
func TestScrubsThatFailAreTorn(t *testing.T) {
	for _, mask := range [][]byte{nil, {}, {0xff}, all(0xff, 64)} {
		for _, crash := range []bool{false, true} {
			c := newChip(t, small(), []api.Fault{{At: 0, Crash: crash, Mask: mask}})
			if err := c.Scrub(0); err == api.OK {
				t.Error("a fault is answered OK")
			}
			if !bytes.Equal(c.Image()[:4*pageBytes], make([]byte, 4*pageBytes)) {
				t.Errorf("mask %x, crash %v: not all is nought", mask, crash)
			}
		}
	}
}

// TestWhereFaultsAre: at the first operation, at the last, at one that never comes, two at one number.
func TestWhereFaultsAre(t *testing.T) {
	play := func(plan []api.Fault, wants ...api.Errno) {
		t.Helper()
		p := newPair(t, small(), plan)
		for i, want := range wants {
			ask(t, fmt.Sprint("operation ", i), []func() api.Errno{
				func() api.Errno { return p.program(at(0, 0), filled(0x3c)) },
				func() api.Errno { return p.program(at(0, 2), filled(0x0f)) },
				func() api.Errno { return p.erase(0) },
				func() api.Errno { return p.scrub(0) },
			}[i](), want)
			p.power(true)
		}
	}
	half := []byte{0x55}
	play(nil, api.OK, api.OK, api.OK, api.OK)
	play([]api.Fault{{At: 0, Mask: half}}, api.ErrFail, api.OK, api.OK, api.OK)
	play([]api.Fault{{At: 0, Crash: true, Mask: half}}, api.ErrPower, api.OK, api.OK, api.OK)
	play([]api.Fault{{At: 3, Mask: half}}, api.OK, api.OK, api.OK, api.ErrFail)
	play([]api.Fault{{At: 3, Crash: true, Mask: half}}, api.OK, api.OK, api.OK, api.ErrPower)
	play([]api.Fault{{At: 4}, {At: math.MaxInt, Crash: true}}, api.OK, api.OK, api.OK, api.OK)
	play([]api.Fault{{At: 1, Mask: half}, {At: 1, Crash: true}}, api.OK, api.ErrFail, api.OK, api.OK)
	play([]api.Fault{{At: 1, Crash: true, Mask: half}, {At: 1}}, api.OK, api.ErrPower, api.OK, api.OK)
	play([]api.Fault{{At: 2, Mask: half}, {At: 0, Crash: true, Mask: half}, {At: 2, Crash: true}}, api.ErrPower, api.OK, api.ErrFail, api.OK)
	play([]api.Fault{{At: 0}, {At: 1}, {At: 2}, {At: 3}}, api.ErrFail, api.ErrFail, api.ErrFail, api.ErrFail)
}

// TestWhatIsRefusedIsNotCounted: the fault waits for the operation of its number, whatever is refused, read or poked ahead of it.
func TestWhatIsRefusedIsNotCounted(t *testing.T) {
	p := newPair(t, small(), []api.Fault{{At: 3, Mask: []byte{0x0f}}})
	p.program(at(0, 1), filled(0xfe))
	p.program(at(0, 1), filled(0xfd))
	p.scrub(1)
	for range 3 {
		ask(t, "twice", p.program(at(0, 1), filled(0)), api.ErrTwice)
		ask(t, "scrubbed", p.program(at(1, 0), filled(0)), api.ErrTwice)
		ask(t, "order", p.program(at(0, 0), filled(0)), api.ErrOrder)
		ask(t, "bytes", p.program(at(0, 2), nil), api.ErrShape)
		ask(t, "place", p.program(at(7, 0), filled(0)), api.ErrShape)
		ask(t, "erase", p.erase(7), api.ErrShape)
		ask(t, "scrub", p.scrub(-1), api.ErrShape)
		p.read(at(0, 1))
		p.read(at(7, 1))
		p.poke(at(0, 1), 0, 0)
		p.power(false)
		ask(t, "no power", p.program(at(0, 2), filled(0)), api.ErrPower)
		ask(t, "no power to erase", p.erase(0), api.ErrPower)
		ask(t, "no power to scrub", p.scrub(0), api.ErrPower)
		p.read(at(0, 1))
		p.poke(at(5, 1), 0, 0)
		p.power(true)
		if p.chip.Ops() != 3 {
			t.Fatalf("Ops() = %d", p.chip.Ops())
		}
	}
	ask(t, "operation 3", p.program(at(0, 2), filled(0)), api.ErrFail)
	ask(t, "operation 4", p.program(at(0, 3), filled(0)), api.OK)
}

// TestTornPrograms: the page counts as programmed, once more or for the first time, even if nothing of it was done.
func TestTornPrograms(t *testing.T) {
	for _, mask := range [][]byte{nil, {0}, {0x0f}} {
		for _, crash := range []bool{false, true} {
			p := newPair(t, small(), []api.Fault{{At: 0, Crash: crash, Mask: mask}, {At: 2, Crash: crash, Mask: mask}})
			p.program(at(4, 1), filled(0x5a))
			p.power(true)
			ask(t, "the page ahead", p.program(at(4, 0), filled(0)), api.ErrOrder)
			ask(t, "a second program", p.program(at(4, 1), filled(0x5a)), api.OK)
			ask(t, "a third one", p.program(at(4, 1), filled(0x5a)), api.ErrTwice)
			p.program(at(4, 2), filled(0x5a))
			p.power(true)
			ask(t, "a second program of the next", p.program(at(4, 2), filled(0x5a)), api.OK)
			ask(t, "a third one of the next", p.program(at(4, 2), filled(0x5a)), api.ErrTwice)
			if p.chip.Erases(4) != 0 || p.chip.Ops() != 4 {
				t.Errorf("Erases %d, Ops %d", p.chip.Erases(4), p.chip.Ops())
			}
		}
	}
}

// TestTornErases: the counts of programs and whether it was scrubbed stay, even if all bytes are 0xff behind it; it was erased once more.
func TestTornErases(t *testing.T) {
	for _, mask := range [][]byte{nil, {0xff}, {0}, {0x0f}} {
		for _, crash := range []bool{false, true} {
			p := newPair(t, small(), []api.Fault{{At: 4, Crash: crash, Mask: mask}, {At: 5, Crash: crash, Mask: mask}})
			p.program(at(0, 0), filled(0x5a))
			p.program(at(0, 2), filled(0x5a))
			p.program(at(0, 2), filled(0x5a))
			p.scrub(1)
			p.erase(0)
			p.power(true)
			p.erase(1)
			p.power(true)
			if p.chip.Erases(0) != 1 || p.chip.Erases(1) != 1 || p.chip.Ops() != 6 {
				t.Errorf("Erases %d, %d, Ops %d", p.chip.Erases(0), p.chip.Erases(1), p.chip.Ops())
			}
			if len(mask) == 0 && !bytes.Equal(p.chip.Image(), all(0xff, 28*pageBytes)) {
				t.Error("not all is 0xff")
			}
			ask(t, "a page programmed twice", p.program(at(0, 2), filled(1)), api.ErrTwice)
			ask(t, "a page behind which one was programmed", p.program(at(0, 1), filled(1)), api.ErrOrder)
			ask(t, "a page programmed once", p.program(at(0, 0), filled(1)), api.OK)
			ask(t, "that page, twice", p.program(at(0, 0), filled(1)), api.ErrTwice)
			ask(t, "the next page", p.program(at(0, 3), filled(1)), api.OK)
			ask(t, "a page of the scrubbed block", p.program(at(1, 3), filled(1)), api.ErrTwice)
			ask(t, "a whole erase", p.erase(0), api.OK)
			ask(t, "a whole erase of the scrubbed block", p.erase(1), api.OK)
			ask(t, "a program", p.program(at(0, 1), filled(1)), api.OK)
			ask(t, "a program of the scrubbed block", p.program(at(1, 0), filled(1)), api.OK)
			if p.chip.Erases(0) != 2 || p.chip.Erases(1) != 2 {
				t.Errorf("Erases %d, %d", p.chip.Erases(0), p.chip.Erases(1))
			}
		}
	}
}

// TestTornScrubs: it was scrubbed, even if nothing of it was done, and was not erased.
func TestTornScrubs(t *testing.T) {
	for _, mask := range [][]byte{nil, {0xff}, {0}, {0x0f}} {
		for _, crash := range []bool{false, true} {
			p := newPair(t, small(), []api.Fault{{At: 1, Crash: crash, Mask: mask}, {At: 2, Crash: crash, Mask: mask}})
			p.program(at(0, 1), filled(0x5a))
			p.scrub(0)
			p.power(true)
			p.scrub(3)
			p.power(true)
			for page := range 4 {
				ask(t, "a page of it", p.program(at(0, page), filled(1)), api.ErrTwice)
				ask(t, "a page of the other", p.program(at(3, page), filled(1)), api.ErrTwice)
			}
			if p.chip.Erases(0) != 0 || p.chip.Erases(3) != 0 || p.chip.Ops() != 3 {
				t.Errorf("Erases %d, %d, Ops %d", p.chip.Erases(0), p.chip.Erases(3), p.chip.Ops())
			}
			ask(t, "a whole scrub", p.scrub(0), api.OK)
			ask(t, "an erase", p.erase(0), api.OK)
			ask(t, "an erase of the other", p.erase(3), api.OK)
			ask(t, "a program", p.program(at(0, 0), filled(1)), api.OK)
			ask(t, "a program of the other", p.program(at(3, 1), filled(1)), api.OK)
		}
	}
}

// P13.1 and P13.2: power

func TestPower(t *testing.T) {
	p := newPair(t, small(), []api.Fault{{At: 3, Crash: true, Mask: []byte{0x0f}}})
	p.power(true)
	p.program(at(1, 1), filled(0x33))
	p.power(false)
	p.power(false)
	ask(t, "a program", p.program(at(1, 2), filled(0x33)), api.ErrPower)
	ask(t, "an erase", p.erase(1), api.ErrPower)
	ask(t, "a scrub", p.scrub(1), api.ErrPower)
	if b, err := p.read(at(1, 1)); err != api.ErrPower || len(b) != 0 {
		t.Errorf("a read: %s, %v", short(b), err)
	}
	ask(t, "a poke", p.poke(at(1, 1), 7, 0xcc), api.OK)
	p.power(true)
	ask(t, "a poke with power", p.poke(at(1, 1), 7, 0), api.ErrPower)
	if b, err := p.read(at(1, 1)); err != api.OK || b[6] != 0x33 || b[7] != 0xcc || b[8] != 0x33 {
		t.Errorf("a read: %s, %v", short(b), err)
	}
	ask(t, "the page ahead, with power once more", p.program(at(1, 0), filled(0)), api.ErrOrder)
	ask(t, "a second program", p.program(at(1, 1), filled(0)), api.OK)
	ask(t, "a scrub with power", p.scrub(2), api.OK)
	ask(t, "the crash", p.scrub(1), api.ErrPower)
	ask(t, "behind the crash", p.scrub(1), api.ErrPower)
	ask(t, "a poke behind the crash", p.poke(at(2, 2), 0, 1), api.OK)
	p.power(true)
	ask(t, "with power once more", p.scrub(1), api.OK)
	ask(t, "a program of a scrubbed block", p.program(at(2, 3), filled(0)), api.ErrTwice)
}

// TestFailuresLeaveThePower: only a crash takes it.
func TestFailuresLeaveThePower(t *testing.T) {
	p := newPair(t, small(), []api.Fault{{At: 0}, {At: 1}, {At: 2}, {At: 3, Crash: true}})
	ask(t, "a program", p.program(at(0, 0), filled(0)), api.ErrFail)
	ask(t, "an erase", p.erase(0), api.ErrFail)
	ask(t, "a scrub", p.scrub(0), api.ErrFail)
	if !p.chip.On() {
		t.Error("a failure took the power")
	}
	ask(t, "a crash", p.erase(0), api.ErrPower)
	if p.chip.On() {
		t.Error("a crash left the power")
	}
}

// P13.2: pokes

func TestPokes(t *testing.T) {
	p := newPair(t, small(), nil)
	p.program(at(2, 1), filled(0x0f))
	p.program(at(2, 1), filled(0x0f))
	p.scrub(5)
	p.power(false)
	for _, place := range []api.Place{at(0, 0), at(2, 1), at(2, 3), at(5, 0), at(6, 3)} {
		for i, x := range map[int]byte{0: 0xa5, 1: 0, 159: 0xff, 160: 1, pageBytes - 1: 0x5a} {
			ask(t, fmt.Sprint("byte ", i), p.poke(place, i, x), api.OK)
			if got := p.chip.Image()[(place.Block*4+place.Page)*pageBytes+i]; got != x {
				t.Fatalf("byte %d of %v is %02x, want %02x", i, place, got, x)
			}
		}
		for _, i := range []int{-1, pageBytes, pageBytes + 1, -pageBytes, 2 * pageBytes, math.MinInt, math.MaxInt} {
			ask(t, fmt.Sprint("byte ", i), p.poke(place, i, 0x77), api.ErrShape)
		}
	}
	if p.chip.Ops() != 3 || len(p.chip.Trace()) != 3 || p.chip.On() {
		t.Errorf("Ops %d, On %v", p.chip.Ops(), p.chip.On())
	}
}

// TestPokesSetBits: each byte becomes each other one, bits that are nought among it.
func TestPokesSetBits(t *testing.T) {
	c := newChip(t, small(), nil)
	c.Power(false)
	for was := range 256 {
		for to := range 256 {
			c.Poke(at(3, 3), 100, byte(was))
			ask(t, "a poke", c.Poke(at(3, 3), 100, byte(to)), api.OK)
			c.Power(true)
			if b, _ := c.Read(at(3, 3)); b[100] != byte(to) {
				t.Fatalf("%02x poked with %02x is %02x", was, to, b[100])
			}
			c.Power(false)
		}
	}
	if c.Ops() != 0 {
		t.Error("pokes are counted")
	}
}

// TestPokesLeaveTheCounts: no page is programmed by one, nor a block erased, or scrubbed no more.
func TestPokesLeaveTheCounts(t *testing.T) {
	p := newPair(t, small(), nil)
	p.program(at(0, 1), filled(0))
	p.program(at(0, 1), filled(0))
	p.scrub(1)
	p.power(false)
	for i := range pageBytes {
		p.poke(at(0, 1), i, 0xff)
		p.poke(at(1, 3), i, 0xff)
		p.poke(at(2, 3), i, 0)
	}
	p.power(true)
	ask(t, "a page that looks blank", p.program(at(0, 1), filled(1)), api.ErrTwice)
	ask(t, "the one ahead", p.program(at(0, 0), filled(1)), api.ErrOrder)
	ask(t, "one of a scrubbed block", p.program(at(1, 3), filled(1)), api.ErrTwice)
	ask(t, "one ahead of what was poked", p.program(at(2, 0), filled(1)), api.OK)
	ask(t, "what was poked", p.program(at(2, 3), filled(0xff)), api.OK)
	askPage(t, p.chip, at(2, 3), filled(0))
	ask(t, "what was poked, twice", p.program(at(2, 3), filled(1)), api.OK)
}

// P13.2: the trace

func TestTrace(t *testing.T) {
	c := newChip(t, small(), []api.Fault{{At: 1, Mask: []byte{1}}, {At: 3, Mask: []byte{2}}, {At: 5, Crash: true}, {At: 6, Crash: true, Mask: []byte{0}}})
	one, two, three := counted(1, pageBytes), counted(77, pageBytes), filled(0)
	c.Program(at(2, 1), one)
	c.Program(at(2, 1), two)
	c.Program(at(2, 1), three)
	c.Erase(6)
	c.Erase(5)
	c.Erase(7)
	c.Scrub(4)
	c.Scrub(3)
	c.Program(at(2, 2), three)
	c.Power(true)
	c.Poke(at(2, 2), 0, 0)
	c.Program(at(2, 3), three)
	want := []Op{
		{Kind: 1, Place: at(2, 1), Data: one},
		{Kind: 1, Place: at(2, 1), Data: two, E: api.ErrFail},
		{Kind: 2, Place: at(6, 0)},
		{Kind: 2, Place: at(5, 0), E: api.ErrFail},
		{Kind: 3, Place: at(4, 0)},
		{Kind: 3, Place: at(3, 0), E: api.ErrPower},
		{Kind: 1, Place: at(2, 3), Data: three, E: api.ErrPower},
	}
	got := c.Trace()
	if !slices.EqualFunc(got, want, sameOp) || c.Ops() != len(want) {
		t.Fatalf("Ops %d; %s", c.Ops(), lastOf(got))
	}
	if got[2].Data != nil || got[4].Data != nil {
		t.Error("an erase, or a scrub, has bytes")
	}
}

// A nil array, and one that New did not make

func TestANilArray(t *testing.T) {
	var c *Chip
	for range 2 {
		for _, place := range append(noPlaces(), at(0, 0), at(6, 3)) {
			ask(t, "Program", c.Program(place, filled(0)), api.ErrPower)
			ask(t, "Program of nil", c.Program(place, nil), api.ErrPower)
			b, err := c.Read(place)
			ask(t, "Read", err, api.ErrPower)
			ask(t, "Poke", c.Poke(place, 0, 1), api.ErrPower)
			if len(b) != 0 {
				t.Error("Read tells bytes")
			}
		}
		for _, block := range append(noBlocks(), 0, 6) {
			ask(t, "Erase", c.Erase(block), api.ErrPower)
			ask(t, "Scrub", c.Scrub(block), api.ErrPower)
			if c.Erases(block) != 0 {
				t.Errorf("Erases(%d) = %d", block, c.Erases(block))
			}
		}
		if c.On() || c.Ops() != 0 || len(c.Image()) != 0 || len(c.Trace()) != 0 || c.Geometry() != (api.Geometry{}) {
			t.Error("a nil array tells something")
		}
		c.Power(false)
		c.Power(true)
	}
}

// TestAnArrayThatNewDidNotMake: it has no page, and no call of it panics.
func TestAnArrayThatNewDidNotMake(t *testing.T) {
	c := &Chip{}
	ask(t, "Program", c.Program(at(0, 0), nil), api.ErrPower)
	ask(t, "Poke", c.Poke(at(0, 0), 0, 0), api.ErrShape)
	c.Power(true)
	ask(t, "Program with power", c.Program(at(0, 0), nil), api.ErrShape)
	ask(t, "Erase", c.Erase(0), api.ErrShape)
	ask(t, "Scrub", c.Scrub(0), api.ErrShape)
	_, err := c.Read(at(0, 0))
	ask(t, "Read", err, api.ErrShape)
	if c.Ops() != 0 || c.Erases(0) != 0 || len(c.Image()) != 0 || len(c.Trace()) != 0 || c.Geometry() != (api.Geometry{}) {
		t.Error("it tells something")
	}
}

// P13.3

// below tells whether each bit that is one in a is one in b.
func below(a, b []byte) bool {
	for i := range a {
		if a[i]&^b[i] != 0 {
			return false
		}
	}
	return len(a) == len(b)
}

// TestProgramsOnlyClear draws programs, with and without faults, and looks at the bytes alone: of other pages none changes.
func TestProgramsOnlyClear(t *testing.T) {
	source := rand.New(rand.NewSource(1305))
	for range 40 {
		c := newChip(t, small(), randomPlan(source, 40, 150))
		for range 200 {
			c.Power(true)
			place, b := at(source.Intn(7), source.Intn(4)), randomBytes(source, pageBytes)
			before, faulty := c.Image(), c.Ops()
			err := c.Program(place, b)
			after, from := c.Image(), (place.Block*4+place.Page)*pageBytes
			was, is := before[from:][:pageBytes], after[from:][:pageBytes]
			if !below(is, was) || !bytes.Equal(before[:from], after[:from]) || !bytes.Equal(before[from+pageBytes:], after[from+pageBytes:]) {
				t.Fatalf("operation %d: %v: a program sets a bit, or changes another page", faulty, err)
			}
			stays := slices.Clone(was)
			for i := range stays {
				stays[i] &= b[i]
			}
			if !below(stays, is) || err == api.OK && !bytes.Equal(stays, is) {
				t.Fatalf("operation %d: %v: a program clears what it was not to, or leaves something", faulty, err)
			}
			if err == api.ErrFail && bytes.Equal(stays, is) && !bytes.Equal(was, is) {
				t.Fatalf("operation %d: a program that fails is done whole", faulty)
			}
			if err == api.ErrTwice && source.Intn(4) == 0 {
				c.Erase(place.Block)
			}
		}
	}
}

// TestWhatIsRefusedChangesNothing looks at all that can be asked ahead of and behind each call that is refused, and at what the next calls answer.
func TestWhatIsRefusedChangesNothing(t *testing.T) {
	start := func() *Chip {
		c := newChip(t, small(), []api.Fault{{At: 6, Mask: []byte{0x33}}})
		c.Program(at(0, 0), filled(0x7e))
		c.Program(at(0, 2), filled(0x7e))
		c.Program(at(0, 2), filled(0x7e))
		c.Scrub(1)
		return c
	}
	rest := func(c *Chip) string {
		c.Power(true)
		var told []any
		for block := range 3 {
			for page := 3; page >= 0; page-- {
				told = append(told, c.Program(at(block, page), filled(0x3f)))
			}
			told = append(told, c.Erase(block), c.Erases(block))
		}
		return fmt.Sprint(told, c.Ops(), c.Image(), c.Trace())
	}
	want := rest(start())
	refused := map[string]func(c *Chip) api.Errno{
		"a program twice":             func(c *Chip) api.Errno { return c.Program(at(0, 2), filled(0)) },
		"a program of what is gone":   func(c *Chip) api.Errno { return c.Program(at(1, 0), filled(0)) },
		"a program out of order":      func(c *Chip) api.Errno { return c.Program(at(0, 1), filled(0)) },
		"a program of too few bytes":  func(c *Chip) api.Errno { return c.Program(at(0, 3), filled(0)[1:]) },
		"a program of too many bytes": func(c *Chip) api.Errno { return c.Program(at(2, 3), make([]byte, pageBytes+1)) },
		"a program of no page":        func(c *Chip) api.Errno { return c.Program(at(2, 4), filled(0)) },
		"an erase of no block":        func(c *Chip) api.Errno { return c.Erase(7) },
		"a scrub of no block":         func(c *Chip) api.Errno { return c.Scrub(-1) },
		"a poke":                      func(c *Chip) api.Errno { return c.Poke(at(2, 2), 2, 2) },
		"a program without power":     func(c *Chip) api.Errno { c.Power(false); return c.Program(at(2, 2), filled(0)) },
		"an erase without power":      func(c *Chip) api.Errno { c.Power(false); return c.Erase(0) },
		"a scrub without power":       func(c *Chip) api.Errno { c.Power(false); return c.Scrub(0) },
		"a poke of no byte":           func(c *Chip) api.Errno { c.Power(false); return c.Poke(at(2, 2), pageBytes, 2) },
		"a poke of no page":           func(c *Chip) api.Errno { c.Power(false); return c.Poke(at(2, -1), pageBytes, 2) },
	}
	for name, call := range refused {
		c := start()
		before := fmt.Sprint(c.Ops(), c.Image(), c.Trace(), c.Erases(0), c.Erases(1))
		if err := call(c); err == api.OK {
			t.Errorf("%s is not refused", name)
		}
		if after := fmt.Sprint(c.Ops(), c.Image(), c.Trace(), c.Erases(0), c.Erases(1)); after != before {
			t.Errorf("%s changes something", name)
		}
		if rest(c) != want {
			t.Errorf("%s: what comes behind is answered otherwise", name)
		}
	}
}

// P13.4

// checkOrder goes over a trace: between two whole erases the pages of a block are first programmed in rising order, each at most twice, and never behind a scrub.
func checkOrder(t *testing.T, trace []Op) {
	t.Helper()
	times, scrubbed := map[api.Place]int{}, map[int]int{}
	for i, op := range trace {
		block := op.Place.Block
		switch {
		case op.Kind == 1:
			if times[op.Place] == 0 {
				for page := range 32 {
					if page > op.Place.Page && times[at(block, page)] > 0 {
						t.Fatalf("operation %d: page %v is programmed behind page %d", i, op.Place, page)
					}
				}
			}
			times[op.Place]++
			if times[op.Place] > 2 || scrubbed[block] > 0 {
				t.Fatalf("operation %d: page %v is programmed %d times, scrubs %d", i, op.Place, times[op.Place], scrubbed[block])
			}
		case op.Kind == 3:
			scrubbed[block]++
		case op.E == api.OK:
			delete(scrubbed, block)
			for page := range 32 {
				delete(times, at(block, page))
			}
		}
	}
}

func TestPagesAreProgrammedInOrder(t *testing.T) {
	source := rand.New(rand.NewSource(1306))
	for range 60 {
		c := newChip(t, small(), randomPlan(source, source.Intn(65), 400))
		programs := 0
		for range 1500 {
			c.Power(true)
			switch source.Intn(30) {
			case 0:
				c.Erase(source.Intn(7))
			case 1:
				if source.Intn(3) == 0 {
					c.Scrub(source.Intn(7))
				}
			default:
				if c.Program(at(source.Intn(7), source.Intn(4)), filled(byte(source.Intn(256)))) == api.OK {
					programs++
				}
			}
		}
		checkOrder(t, c.Trace())
		if programs < 100 {
			t.Fatalf("%d programs: too few to tell", programs)
		}
	}
}

// Runs drawn at random

func TestRandomRuns(t *testing.T) {
	told := map[api.Errno]int{}
	for seed := range 150 {
		source := rand.New(rand.NewSource(int64(13000 + seed)))
		p := newPair(t, small(), randomPlan(source, source.Intn(65), 120))
		for range 200 {
			randomStep(p, source)
		}
		checkOrder(t, p.chip.Trace())
		for _, op := range p.chip.Trace() {
			told[op.E]++
		}
	}
	if told[api.OK] < 1000 || told[api.ErrFail] < 300 || told[api.ErrPower] < 300 {
		t.Errorf("%v: too few to tell", told)
	}
}

func TestRandomRunsOfManyGeometries(t *testing.T) {
	for i, g := range manyGeometries() {
		source := rand.New(rand.NewSource(int64(13500 + i)))
		p := newPair(t, g, randomPlan(source, 20, 60))
		for range 80 {
			randomStep(p, source)
		}
	}
}

// TestTheGreatestArray has torn erases and scrubs of the greatest blocks.
func TestTheGreatestArray(t *testing.T) {
	g := api.Geometry{Blocks: 64, Pages: 32, Sector: 4096, Spare: 8, Wear: 1, Rounds: 1}
	source := rand.New(rand.NewSource(1307))
	plan := []api.Fault{{At: 2, Mask: randomBytes(source, 63)}, {At: 3, Crash: true, Mask: randomBytes(source, 64)}, {At: 4, Mask: randomBytes(source, 7)}}
	p := newPair(t, g, plan)
	ask(t, "a program", p.program(at(63, 0), randomBytes(source, 4184)), api.OK)
	ask(t, "another", p.program(at(63, 31), randomBytes(source, 4184)), api.OK)
	ask(t, "a torn scrub", p.scrub(63), api.ErrFail)
	ask(t, "a torn erase", p.erase(63), api.ErrPower)
	p.power(true)
	ask(t, "a failing program", p.program(at(62, 31), randomBytes(source, 4184)), api.ErrFail)
	ask(t, "an erase", p.erase(63), api.OK)
}

// What is handed in, and what is answered

// spoil writes over all that a list has, what lies behind its end too.
func spoil(b []byte) {
	b = b[:cap(b)]
	for i := range b {
		b[i] = ^b[i]
	}
}

func TestNoBytesHandedInAreChangedOrKept(t *testing.T) {
	c := newChip(t, small(), []api.Fault{{At: 1, Mask: []byte{0x0f}}, {At: 2, Crash: true, Mask: []byte{0xf0, 1}}})
	for i, want := range []api.Errno{api.OK, api.ErrFail, api.ErrPower} {
		row := counted(byte(40*i), pageBytes+80)
		kept := slices.Clone(row)
		b := row[40 : 40+pageBytes]
		ask(t, "a program", c.Program(at(3, i), b), want)
		if !bytes.Equal(row, kept) {
			t.Fatal("bytes that were handed in, or what lies beside them, were changed")
		}
		image, trace := c.Image(), c.Trace()
		spoil(row)
		if !bytes.Equal(c.Image(), image) || !slices.EqualFunc(c.Trace(), trace, sameOp) || !bytes.Equal(trace[i].Data, kept[40:40+pageBytes]) {
			t.Fatal("bytes that were handed in are kept")
		}
		c.Power(true)
	}
	row := counted(9, pageBytes+1)
	c.Program(at(3, 3), row)
	c.Program(at(8, 8), row[1:])
	if !bytes.Equal(row, counted(9, pageBytes+1)) {
		t.Error("bytes that were refused were changed")
	}
}

func TestNoPlanHandedInIsChangedOrKept(t *testing.T) {
	masks := counted(3, 90)
	plan := []api.Fault{{At: 0, Mask: masks[:3]}, {At: 1, Crash: true, Mask: masks[20:40]}, {At: 2, Mask: masks[50:51]}, {At: 90}, {At: 91}}
	row, kept := plan, slices.Clone(plan)
	plan = plan[:3]
	p := newPair(t, small(), plan)
	if !reflect.DeepEqual(row, kept) || !bytes.Equal(masks, counted(3, 90)) {
		t.Fatal("a plan that was handed in was changed")
	}
	spoil(masks)
	for i := range row {
		row[i] = api.Fault{At: 3 + i, Crash: true}
	}
	ask(t, "a program", p.program(at(0, 0), filled(0)), api.ErrFail)
	ask(t, "an erase", p.erase(0), api.ErrPower)
	p.power(true)
	ask(t, "a scrub", p.scrub(0), api.ErrFail)
	for block := range 7 {
		ask(t, "what comes behind", p.erase(block), api.OK)
	}
	if bytes.Equal(masks, counted(3, 90)) || row[0].At != 3 || row[4].At != 7 {
		t.Error("a plan that was handed in was changed")
	}
}

func TestAnswersAreNewMemory(t *testing.T) {
	p := newPair(t, small(), []api.Fault{{At: 2, Mask: []byte{0x1f}}})
	for page := range 4 {
		p.program(at(1, page), counted(byte(page), pageBytes))
	}
	p.erase(4)
	p.scrub(5)

	first, _ := p.read(at(1, 2))
	second, _ := p.read(at(1, 2))
	kept := slices.Clone(second)
	spoil(first)
	if !bytes.Equal(second, kept) {
		t.Error("two reads have memory in common")
	}
	p.check("a change of what was read")
	p.read(at(1, 2))
	p.read(at(1, 3))

	image, other := p.chip.Image(), p.chip.Image()
	kept = slices.Clone(other)
	spoil(image)
	if !bytes.Equal(other, kept) {
		t.Error("two images have memory in common")
	}
	p.check("a change of an image")

	trace, again := p.chip.Trace(), p.chip.Trace()
	for i := range trace {
		spoil(trace[i].Data)
		trace[i] = Op{Kind: 9, E: api.ErrFull}
	}
	if trace = trace[:cap(trace)]; len(trace) > 0 {
		clear(trace)
	}
	if !slices.EqualFunc(again, p.want.ops, sameOp) {
		t.Error("two traces have memory in common")
	}
	p.check("a change of a trace")
	if a, b := append(again, Op{Kind: 7}), p.chip.Trace(); len(a) != len(b)+1 {
		t.Error("a trace that was appended to is the array's")
	}
	p.program(at(0, 0), filled(3))
	p.check("a program behind it")
}

// TestAnswersStayAsTheyAre: what was told does not follow what is done behind it.
func TestAnswersStayAsTheyAre(t *testing.T) {
	c := newChip(t, small(), nil)
	c.Program(at(0, 0), filled(0x7f))
	b, _ := c.Read(at(0, 0))
	image, trace := c.Image(), c.Trace()
	c.Program(at(0, 0), filled(0))
	c.Scrub(0)
	c.Power(false)
	c.Poke(at(0, 0), 0, 0x99)
	if !bytes.Equal(b, filled(0x7f)) || !bytes.Equal(image[:pageBytes], filled(0x7f)) || len(trace) != 1 || !bytes.Equal(trace[0].Data, filled(0x7f)) {
		t.Error("what was told changed")
	}
}

// TestWhatIsReadIsProgrammed: an array may be handed what it answered itself.
func TestWhatIsReadIsProgrammed(t *testing.T) {
	p := newPair(t, small(), []api.Fault{{At: 2, Mask: []byte{0x3f}}})
	p.program(at(0, 0), counted(0, pageBytes))
	b, _ := p.read(at(0, 0))
	ask(t, "a program", p.program(at(0, 1), b), api.OK)
	ask(t, "a failing program", p.program(at(0, 2), p.chip.Trace()[1].Data), api.ErrFail)
	ask(t, "a program of a piece of the image", p.program(at(0, 3), p.chip.Image()[:pageBytes]), api.OK)
}

func TestTwoArraysHaveNothingInCommon(t *testing.T) {
	plan := []api.Fault{{At: 3, Mask: []byte{0x3f}}, {At: 5, Crash: true, Mask: []byte{0x3f}}}
	source := rand.New(rand.NewSource(1308))
	a, b := newPair(t, small(), plan), newPair(t, small(), plan)
	for range 200 {
		one := []*pair{a, b}[source.Intn(2)]
		randomStep(one, source)
		a.check("a step of either")
		b.check("a step of either")
	}
}

// TestPlayedTwice: the same calls on a new array of the same geometry and plan are answered alike.
func TestPlayedTwice(t *testing.T) {
	for seed := range 20 {
		play := func() *Chip {
			source := rand.New(rand.NewSource(int64(13900 + seed)))
			p := newPair(t, small(), randomPlan(source, 30, 80))
			for range 120 {
				randomStep(p, source)
			}
			return p.chip
		}
		a, b := play(), play()
		if a.On() != b.On() || a.Ops() != b.Ops() || !bytes.Equal(a.Image(), b.Image()) || !slices.EqualFunc(a.Trace(), b.Trace(), sameOp) {
			t.Fatalf("run %d is played otherwise the second time", seed)
		}
	}
}
