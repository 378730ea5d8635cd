package geometry

import (
	"math"
	"math/rand"
	"slices"
	"testing"

	"nepenthe/api"
)

// theExample is the chapter's: 10 blocks of 16 pages, with Spare 1.
var theExample = api.Geometry{Blocks: 10, Pages: 16, Sector: 64, Spare: 1, Wear: 4, Rounds: 1}

// field is one of a geometry's numbers, with the least and the most that it may be.
type field struct {
	name        string
	of          func(g *api.Geometry) *int
	least, most int
}

// fields are the chapter's ranges, told once more.
func fields() []field {
	return []field{
		{"Blocks", func(g *api.Geometry) *int { return &g.Blocks }, 7, 64},
		{"Pages", func(g *api.Geometry) *int { return &g.Pages }, 4, 32},
		{"Sector", func(g *api.Geometry) *int { return &g.Sector }, 32, 4096},
		{"Spare", func(g *api.Geometry) *int { return &g.Spare }, 0, 8},
		{"Wear", func(g *api.Geometry) *int { return &g.Wear }, 1, 1000},
		{"Rounds", func(g *api.Geometry) *int { return &g.Rounds }, 1, 1000},
	}
}

// edges are the numbers at which a field might be told wrong, each once.
func (f field) edges() []int {
	all := []int{f.least, f.most, f.least - 1, f.most + 1, 0, -1, math.MinInt, math.MaxInt}
	slices.Sort(all)
	return slices.Compact(all)
}

// roomy is right, and stays so if one of its numbers is put at its least or its greatest.
func roomy() api.Geometry {
	return api.Geometry{Blocks: 32, Pages: 20, Sector: 256, Spare: 0, Wear: 10, Rounds: 10}
}

// sizesAtEdges are sizes at which a quota might be told wrong.
func sizesAtEdges(g api.Geometry) []int {
	sizes := []int{0, 1, 2, -1, -2, api.MaxSize, api.MaxSize - 1, api.MaxSize + 1, math.MinInt, math.MinInt + 1, math.MaxInt, math.MaxInt - 1}
	for blocks := 1; blocks <= 61; blocks++ {
		sizes = append(sizes, blocks*(g.Pages-1)-1, blocks*(g.Pages-1), blocks*(g.Pages-1)+1)
	}
	return sizes
}

// plainRight tells whether a geometry is right: the chapter's words, a record laid into sectors one by one.
func plainRight(g api.Geometry) bool {
	for _, f := range fields() {
		if n := *f.of(&g); n < f.least || n > f.most {
			return false
		}
	}
	for multiple := 0; multiple != g.Sector; multiple += 16 {
		if multiple > g.Sector {
			return false
		}
	}
	return plainChunks(g) <= g.Pages && g.Blocks >= 4+g.Spare+3
}

func plainChunks(g api.Geometry) int {
	chunks := 0
	for bytes := 624; bytes > 0; bytes -= g.Sector {
		chunks++
	}
	return chunks
}

// plainQuota goes on taking blocks till they hold the sectors.
func plainQuota(g api.Geometry, size int) (int, api.Errno) {
	if !plainRight(g) {
		return 0, api.ErrShape
	}
	if size < 1 || size > 65535 {
		return 0, api.ErrRange
	}
	blocks := 0
	for held := 0; held < size; held += g.Pages - 1 {
		blocks++
	}
	return blocks + 2, api.OK
}

// plainFit adds quotas up, with the errors in their order.
func plainFit(g api.Geometry, sizes []int) api.Errno {
	if !plainRight(g) {
		return api.ErrShape
	}
	taken := g.Spare
	for _, size := range sizes {
		quota, err := plainQuota(g, size)
		if err != api.OK {
			return err
		}
		taken += quota
	}
	if len(sizes) > 4 || taken > g.Blocks-4 {
		return api.ErrSpace
	}
	return api.OK
}

// plainRoom tries one size behind the other.
func plainRoom(g api.Geometry, sizes []int) int {
	size := 0
	for plainFit(g, slices.Concat(sizes, []int{size + 1})) == api.OK {
		size++
	}
	return size
}

// plainIndex counts the pages ahead of a place; -1 if there is no such page.
func plainIndex(g api.Geometry, p api.Place) int {
	n := 0
	for block := range g.Blocks {
		for page := range g.Pages {
			if p == (api.Place{Block: block, Page: page}) {
				return n
			}
			n++
		}
	}
	return -1
}

// checkNumbers holds the calls of a geometry alone against the chapter's words.
func checkNumbers(t *testing.T, g api.Geometry) {
	t.Helper()
	type answers struct {
		err                                   api.Errno
		data, unit, pageSize, chunks, mostOps int
	}
	want := answers{err: api.ErrShape}
	if plainRight(g) {
		want = answers{api.OK, g.Blocks - 4, g.Pages - 1, g.Sector + 88, plainChunks(g), 40 * g.Blocks * g.Blocks * g.Pages * g.Pages}
	}
	if got := (answers{Check(g), Data(g), Unit(g), PageSize(g), Chunks(g), Bound(g)}); got != want {
		t.Fatalf("%+v: told %+v, want %+v", g, got, want)
	}
}

// checkIndex holds a page's number against the count of those ahead.
func checkIndex(t *testing.T, g api.Geometry, p api.Place) {
	t.Helper()
	got, err := Index(g, p)
	want, wantErr := 0, api.ErrShape
	if plainRight(g) {
		if n := plainIndex(g, p); n >= 0 {
			want, wantErr = n, api.OK
		}
	}
	if got != want || err != wantErr {
		t.Fatalf("Index(%+v, %+v) = %d, %v, want %d, %v", g, p, got, err, want, wantErr)
	}
}

func checkQuota(t *testing.T, g api.Geometry, size int) {
	t.Helper()
	got, err := Quota(g, size)
	if want, wantErr := plainQuota(g, size); got != want || err != wantErr {
		t.Fatalf("Quota(%+v, %d) = %d, %v, want %d, %v", g, size, got, err, want, wantErr)
	}
}

// checkSizes holds what fits, and what room there is, against the chapter's words.
func checkSizes(t *testing.T, g api.Geometry, sizes []int) {
	t.Helper()
	if got, want := Fit(g, sizes), plainFit(g, sizes); got != want {
		t.Fatalf("Fit(%+v, %v) = %v, want %v", g, sizes, got, want)
	}
	if got, want := Room(g, sizes), plainRoom(g, sizes); got != want {
		t.Fatalf("Room(%+v, %v) = %d, want %d", g, sizes, got, want)
	}
}

// randomRight is a right geometry.
func randomRight(source *rand.Rand) api.Geometry {
	for {
		g := api.Geometry{
			Blocks: 7 + source.Intn(58),
			Pages:  4 + source.Intn(29),
			Sector: 16 * (2 + source.Intn(255)),
			Spare:  source.Intn(9),
			Wear:   1 + source.Intn(1000),
			Rounds: 1 + source.Intn(1000),
		}
		if source.Intn(2) == 0 {
			g.Sector = 16 * (2 + source.Intn(12))
		}
		if plainRight(g) {
			return g
		}
	}
}

// randomOther is a right geometry with one or more of its numbers put elsewhere: near their ranges, or anywhere.
func randomOther(source *rand.Rand) api.Geometry {
	g := randomRight(source)
	for _, f := range fields() {
		n := f.of(&g)
		switch source.Intn(8) {
		case 0:
			*n += source.Intn(41) - 20
		case 1:
			*n = int(source.Uint64())
		case 2:
			*n = f.edges()[source.Intn(len(f.edges()))]
		}
	}
	return g
}

// randomSizes are up to six sizes, small ones mostly, so that some fit; a few are none.
func randomSizes(source *rand.Rand, g api.Geometry) []int {
	var sizes []int
	for range source.Intn(7) {
		size := 1 + source.Intn(1<<source.Intn(11))
		switch source.Intn(40) {
		case 0:
			size = sizesAtEdges(g)[source.Intn(12)]
		case 1:
			size = int(source.Uint64())
		case 2:
			size = 1 + source.Intn(api.MaxSize)
		}
		sizes = append(sizes, size)
	}
	return sizes
}

// P11.1

func TestExampleNumbers(t *testing.T) {
	g := theExample
	if Check(g) != api.OK || Data(g) != 6 || Unit(g) != 15 || PageSize(g) != 152 || Chunks(g) != 10 || Bound(g) != 1024000 {
		t.Errorf("%v %d %d %d %d %d", Check(g), Data(g), Unit(g), PageSize(g), Chunks(g), Bound(g))
	}
	if n, err := Index(g, api.Place{Block: 2, Page: 3}); n != 35 || err != api.OK {
		t.Errorf("Index = %d, %v", n, err)
	}
}

func TestFieldsAloneAtTheirEdges(t *testing.T) {
	for _, f := range fields() {
		for _, n := range f.edges() {
			g := roomy()
			*f.of(&g) = n
			want := api.OK
			if n < f.least || n > f.most {
				want = api.ErrShape
			}
			if got := Check(g); got != want {
				t.Errorf("%s %d: %v, want %v", f.name, n, got, want)
			}
			checkNumbers(t, g)
		}
	}
}

func TestFieldsAtTheirEdgesWithOthers(t *testing.T) {
	all := fields()
	var vary func(g api.Geometry, i int)
	vary = func(g api.Geometry, i int) {
		if i == len(all) {
			checkNumbers(t, g)
			return
		}
		base := roomy()
		for _, n := range append(all[i].edges(), *all[i].of(&base)) {
			*all[i].of(&g) = n
			vary(g, i+1)
		}
	}
	vary(api.Geometry{}, 0)
}

func TestLeastAndGreatestGeometry(t *testing.T) {
	least := api.Geometry{Blocks: 7, Pages: 4, Sector: 160, Spare: 0, Wear: 1, Rounds: 1}
	if Check(least) != api.OK || Data(least) != 3 || Unit(least) != 3 || PageSize(least) != 248 || Chunks(least) != 4 || Bound(least) != 31360 {
		t.Errorf("least: %v %d %d %d %d %d", Check(least), Data(least), Unit(least), PageSize(least), Chunks(least), Bound(least))
	}
	most := api.Geometry{Blocks: 64, Pages: 32, Sector: 4096, Spare: 8, Wear: 1000, Rounds: 1000}
	if Check(most) != api.OK || Data(most) != 60 || Unit(most) != 31 || PageSize(most) != 4184 || Chunks(most) != 1 || Bound(most) != 167772160 {
		t.Errorf("most: %v %d %d %d %d %d", Check(most), Data(most), Unit(most), PageSize(most), Chunks(most), Bound(most))
	}
	if Check(api.Geometry{}) != api.ErrShape {
		t.Error("a geometry of nothing is right")
	}
}

func TestSectorsOfAnySize(t *testing.T) {
	for sector := -64; sector <= 4200; sector++ {
		for _, pages := range []int{4, 5, 16, 19, 20, 32} {
			g := roomy()
			g.Sector, g.Pages = sector, pages
			checkNumbers(t, g)
		}
	}
	g := roomy()
	for _, sector := range []int{33, 40, 47, 63, 65, 72, 248, 264, 4095, 4081} {
		if g.Sector = sector; Check(g) != api.ErrShape {
			t.Errorf("a sector of %d bytes is right", sector)
		}
	}
}

// TestRecordInABlock: as many sectors as a block has pages are not too many; one more are.
func TestRecordInABlock(t *testing.T) {
	sectorsOf := map[int]int{32: 20, 48: 13, 64: 10, 80: 8, 96: 7, 112: 6, 128: 5, 144: 5, 160: 4, 208: 3, 304: 3, 320: 2, 608: 2, 624: 1, 640: 1, 4096: 1}
	for sector, chunks := range sectorsOf {
		for pages := 4; pages <= 32; pages++ {
			g := roomy()
			g.Sector, g.Pages = sector, pages
			want, wantChunks := api.OK, chunks
			if pages < chunks {
				want, wantChunks = api.ErrShape, 0
			}
			if Check(g) != want || Chunks(g) != wantChunks {
				t.Errorf("sectors of %d bytes, %d pages: %v, %d chunks, want %v, %d", sector, pages, Check(g), Chunks(g), want, wantChunks)
			}
		}
	}
}

// TestSpareBlocks: Spare + 3 data blocks are enough, one fewer not.
func TestSpareBlocks(t *testing.T) {
	for spare := 0; spare <= 8; spare++ {
		for blocks := 7; blocks <= 64; blocks++ {
			g := roomy()
			g.Spare, g.Blocks = spare, blocks
			want, data := api.OK, blocks-4
			if blocks-4 < spare+3 {
				want, data = api.ErrShape, 0
			}
			if Check(g) != want || Data(g) != data {
				t.Errorf("%d blocks, %d spare: %v, %d data blocks, want %v, %d", blocks, spare, Check(g), Data(g), want, data)
			}
		}
	}
}

func TestIndexOfAllPages(t *testing.T) {
	source := rand.New(rand.NewSource(1111))
	for _, g := range []api.Geometry{theExample, roomy(), randomRight(source), randomRight(source)} {
		next := 0
		for block := range g.Blocks {
			for page := range g.Pages {
				if n, err := Index(g, api.Place{Block: block, Page: page}); n != next || err != api.OK {
					t.Fatalf("Index of block %d, page %d = %d, %v, want %d", block, page, n, err, next)
				}
				next++
			}
		}
	}
}

func TestIndexAtTheEdges(t *testing.T) {
	wrong := theExample
	wrong.Wear = 0
	for _, g := range []api.Geometry{theExample, roomy(), wrong, {}, {Blocks: math.MaxInt, Pages: math.MaxInt}} {
		ends := func(n int) []int {
			return []int{0, 1, -1, n - 2, n - 1, n, n + 1, 2 * n, math.MinInt, math.MinInt + 1, math.MaxInt, math.MaxInt - 1, math.MaxInt/2 + 1}
		}
		for _, block := range ends(theExample.Blocks) {
			for _, page := range ends(theExample.Pages) {
				if plainRight(g) {
					checkIndex(t, g, api.Place{Block: block, Page: page})
				} else if n, err := Index(g, api.Place{Block: block, Page: page}); n != 0 || err != api.ErrShape {
					t.Errorf("Index(%+v, %d, %d) = %d, %v", g, block, page, n, err)
				}
			}
		}
		if plainRight(g) {
			for _, p := range []api.Place{{Block: g.Blocks - 1, Page: g.Pages - 1}, {Block: g.Blocks, Page: 0}, {Block: 0, Page: g.Pages}, {Block: g.Blocks - 1, Page: g.Pages}, {Block: -1, Page: 2 * g.Pages}, {Block: 2, Page: -1}} {
				checkIndex(t, g, p)
			}
		}
	}
}

func TestNumbersAtRandom(t *testing.T) {
	source := rand.New(rand.NewSource(1112))
	for range 20000 {
		checkNumbers(t, randomRight(source))
		checkNumbers(t, randomOther(source))
	}
	for range 2000 {
		g := randomRight(source)
		checkIndex(t, g, api.Place{Block: source.Intn(g.Blocks+4) - 2, Page: source.Intn(g.Pages+4) - 2})
		checkIndex(t, g, api.Place{Block: int(source.Uint64()), Page: int(source.Uint64())})
	}
}

// P11.2

func TestExampleFits(t *testing.T) {
	g := theExample
	if quota, err := Quota(g, 45); quota != 5 || err != api.OK {
		t.Errorf("Quota = %d, %v, want 5", quota, err)
	}
	if err := Fit(g, []int{45}); err != api.OK {
		t.Errorf("Fit of 45 = %v", err)
	}
	if err := Fit(g, []int{46}); err != api.ErrSpace {
		t.Errorf("Fit of 46 = %v, want %v", err, api.ErrSpace)
	}
	if room := Room(g, nil); room != 45 {
		t.Errorf("Room = %d, want 45", room)
	}
	if room := Room(g, []int{15}); room != 0 {
		t.Errorf("Room beside 15 = %d, want 0", room)
	}
}

func TestQuotaAtTheEdges(t *testing.T) {
	wrong := roomy()
	wrong.Sector++
	for _, g := range []api.Geometry{theExample, roomy(), wrong, {}} {
		for _, size := range sizesAtEdges(g) {
			checkQuota(t, g, size)
		}
	}
	small := api.Geometry{Blocks: 7, Pages: 4, Sector: 160, Wear: 1, Rounds: 1}
	for size, want := range map[int]int{1: 3, 2: 3, 3: 3, 4: 4, 6: 4, 7: 5, 65533: 21847, 65534: 21847, 65535: 21847} {
		if quota, err := Quota(small, size); quota != want || err != api.OK {
			t.Errorf("Quota of %d = %d, %v, want %d", size, quota, err, want)
		}
	}
}

// TestQuotaOfWrongGeometry: the geometry is told ahead of the size.
func TestQuotaOfWrongGeometry(t *testing.T) {
	for _, f := range fields() {
		for _, n := range []int{f.least - 1, f.most + 1, math.MinInt, math.MaxInt} {
			g := roomy()
			*f.of(&g) = n
			for _, size := range []int{1, 0, -1, 65535, 65536, math.MinInt, math.MaxInt} {
				if quota, err := Quota(g, size); quota != 0 || err != api.ErrShape {
					t.Errorf("Quota(%+v, %d) = %d, %v", g, size, quota, err)
				}
				if err := Fit(g, []int{size}); err != api.ErrShape {
					t.Errorf("Fit(%+v, %d) = %v", g, size, err)
				}
				if room := Room(g, []int{size}); room != 0 {
					t.Errorf("Room(%+v, %d) = %d", g, size, room)
				}
			}
			if Fit(g, nil) != api.ErrShape || Room(g, nil) != 0 {
				t.Errorf("%+v: %v, %d", g, Fit(g, nil), Room(g, nil))
			}
		}
	}
}

func TestFitOfManyLists(t *testing.T) {
	g := api.Geometry{Blocks: 64, Pages: 4, Sector: 160, Wear: 1, Rounds: 1}
	hundred := slices.Repeat([]int{1}, 100)
	cases := []struct {
		name  string
		sizes []int
		err   api.Errno
		room  int
	}{
		{"nil", nil, api.OK, 174},
		{"none", []int{}, api.OK, 174},
		{"one", []int{1}, api.OK, 165},
		{"the greatest one", []int{174}, api.OK, 0},
		{"one too great", []int{175}, api.ErrSpace, 0},
		{"the greatest size", []int{65535}, api.ErrSpace, 0},
		{"four", []int{1, 1, 1, 1}, api.OK, 0},
		{"four that just fit", []int{39, 39, 39, 39}, api.OK, 0},
		{"four, one sector too many", []int{39, 40, 39, 39}, api.ErrSpace, 0},
		{"three that leave the least room", []int{51, 51, 51}, api.OK, 3},
		{"three that leave a block too few", []int{51, 51, 54}, api.OK, 0},
		{"three that leave no block", []int{51, 51, 60}, api.OK, 0},
		{"three that do not fit", []int{51, 51, 61}, api.ErrSpace, 0},
		{"five", []int{1, 1, 1, 1, 1}, api.ErrSpace, 0},
		{"a hundred", hundred, api.ErrSpace, 0},
		{"one of nothing", []int{0}, api.ErrRange, 0},
		{"one below", []int{-1}, api.ErrRange, 0},
		{"one above", []int{65536}, api.ErrRange, 0},
		{"the least int", []int{math.MinInt}, api.ErrRange, 0},
		{"the greatest int", []int{math.MaxInt}, api.ErrRange, 0},
		{"out of range behind what does not fit", []int{65535, 0}, api.ErrRange, 0},
		{"out of range ahead of what does not fit", []int{65536, 65535}, api.ErrRange, 0},
		{"five, the last out of range", []int{1, 1, 1, 1, 0}, api.ErrRange, 0},
		{"five, the first out of range", []int{-1, 1, 1, 1, 1}, api.ErrRange, 0},
		{"a hundred, the last out of range", append(slices.Repeat([]int{65535}, 99), 65536), api.ErrRange, 0},
		{"two of the greatest int", []int{math.MaxInt, math.MaxInt}, api.ErrRange, 0},
		{"one that would take away from another", []int{175, math.MinInt}, api.ErrRange, 0},
		{"one that would give back to another", []int{200, -60}, api.ErrRange, 0},
	}
	for _, c := range cases {
		if err := Fit(g, c.sizes); err != c.err {
			t.Errorf("%s: Fit = %v, want %v", c.name, err, c.err)
		}
		if room := Room(g, c.sizes); room != c.room {
			t.Errorf("%s: Room = %d, want %d", c.name, room, c.room)
		}
		checkSizes(t, g, c.sizes)
	}
}

// TestFitIsOneForTheSpare: each spare block is one that no namespace has.
func TestFitIsOneForTheSpare(t *testing.T) {
	for spare := 0; spare <= 8; spare++ {
		for blocks := 7 + spare; blocks <= 64; blocks++ {
			g := api.Geometry{Blocks: blocks, Pages: 16, Sector: 64, Spare: spare, Wear: 1, Rounds: 1}
			most := 15 * (blocks - 4 - spare - 2)
			if room := Room(g, nil); room != most {
				t.Errorf("%d blocks, %d spare: Room = %d, want %d", blocks, spare, room, most)
			}
			if Fit(g, []int{most}) != api.OK || Fit(g, []int{most + 1}) != api.ErrSpace {
				t.Errorf("%d blocks, %d spare: %d sectors %v, one more %v", blocks, spare, most, Fit(g, []int{most}), Fit(g, []int{most + 1}))
			}
		}
	}
}

// TestFitOfAllSmallLists goes through all lists of few sizes, of a few geometries.
func TestFitOfAllSmallLists(t *testing.T) {
	for _, blocks := range []int{7, 10, 13, 16, 17} {
		g := api.Geometry{Blocks: blocks, Pages: 4, Sector: 160, Spare: 0, Wear: 1, Rounds: 1}
		var longer func(sizes []int)
		longer = func(sizes []int) {
			checkSizes(t, g, sizes)
			if len(sizes) == 5 {
				return
			}
			for size := 0; size <= 7; size++ {
				if size != 2 && size != 5 {
					longer(append(slices.Clone(sizes), size))
				}
			}
		}
		longer(nil)
	}
}

func TestSizesAtRandom(t *testing.T) {
	source := rand.New(rand.NewSource(1121))
	fits := 0
	for range 6000 {
		g := randomRight(source)
		if source.Intn(8) == 0 {
			g = randomOther(source)
		}
		sizes := randomSizes(source, g)
		checkSizes(t, g, sizes)
		checkQuota(t, g, 1+source.Intn(api.MaxSize))
		checkQuota(t, g, int(source.Uint64()))
		for _, size := range sizes {
			checkQuota(t, g, size)
		}
		if plainFit(g, sizes) == api.OK {
			fits++
		}
	}
	if fits < 600 || fits > 5400 {
		t.Errorf("%d of 6000 lists fit: too few, or too many, to tell", fits)
	}
}

// P11.3

// checkRoom asks that what Room tells fits with the sizes, and one more does not; of sizes that do not fit it is nothing.
func checkRoom(t *testing.T, g api.Geometry, sizes []int) {
	t.Helper()
	room := Room(g, sizes)
	if room < 0 || room > api.MaxSize {
		t.Fatalf("Room(%+v, %v) = %d", g, sizes, room)
	}
	if room > 0 && Fit(g, slices.Concat(sizes, []int{room})) != api.OK {
		t.Fatalf("Room(%+v, %v) = %d, which does not fit", g, sizes, room)
	}
	if room < api.MaxSize && Fit(g, slices.Concat(sizes, []int{room + 1})) == api.OK {
		t.Fatalf("Room(%+v, %v) = %d, and one more fits", g, sizes, room)
	}
}

func TestRoomOfAllGeometries(t *testing.T) {
	for blocks := 7; blocks <= 64; blocks++ {
		for pages := 4; pages <= 32; pages++ {
			for spare := 0; spare <= 8 && spare <= blocks-7; spare++ {
				g := api.Geometry{Blocks: blocks, Pages: pages, Sector: 4096, Spare: spare, Wear: 1, Rounds: 1}
				if Room(g, nil) < pages-1 {
					t.Fatalf("%+v has no room", g)
				}
				for _, sizes := range [][]int{nil, {1}, {pages - 1, pages}, {1, 2, 3}, {1, 1, 1, 1}, {blocks, pages}} {
					checkRoom(t, g, sizes)
				}
			}
		}
	}
}

// TestRoomFilled goes on adding what Room tells, or less, till there is none.
func TestRoomFilled(t *testing.T) {
	source := rand.New(rand.NewSource(1131))
	for range 2000 {
		g := randomRight(source)
		var sizes []int
		for room := Room(g, sizes); room > 0; room = Room(g, sizes) {
			checkRoom(t, g, sizes)
			sizes = append(sizes, 1+source.Intn(room))
			if Fit(g, sizes) != api.OK {
				t.Fatalf("%+v: %v do not fit", g, sizes)
			}
			if len(sizes) > api.MaxSlots {
				t.Fatalf("%+v: room for %v, which are too many", g, sizes)
			}
		}
		if Fit(g, append(sizes, 1)) != api.ErrSpace {
			t.Fatalf("%+v: no room, but one more of one sector fits with %v", g, sizes)
		}
	}
}

func TestRoomAtRandom(t *testing.T) {
	source := rand.New(rand.NewSource(1132))
	for range 20000 {
		g := randomRight(source)
		checkRoom(t, g, randomSizes(source, g))
	}
}

// P11.4

// checkFewer asks that with a list that fits each shorter one, and each of smaller sizes, does.
func checkFewer(t *testing.T, source *rand.Rand, g api.Geometry, sizes []int) {
	t.Helper()
	for i := range sizes {
		if fewer := slices.Delete(slices.Clone(sizes), i, i+1); Fit(g, fewer) != api.OK {
			t.Fatalf("%+v: %v fit, but not %v", g, sizes, fewer)
		}
		for _, less := range []int{1, max(1, sizes[i]-1), 1 + source.Intn(sizes[i])} {
			smaller := slices.Clone(sizes)
			smaller[i] = less
			if Fit(g, smaller) != api.OK {
				t.Fatalf("%+v: %v fit, but not %v", g, sizes, smaller)
			}
		}
	}
	if Fit(g, nil) != api.OK {
		t.Fatalf("%+v: %v fit, but not none", g, sizes)
	}
}

// checkMore asks that with a list that does not fit no longer one, nor one of greater sizes, does.
func checkMore(t *testing.T, source *rand.Rand, g api.Geometry, sizes []int) {
	t.Helper()
	if more := slices.Insert(slices.Clone(sizes), source.Intn(len(sizes)+1), 1); Fit(g, more) != api.ErrSpace {
		t.Fatalf("%+v: %v do not fit, but %v: %v", g, sizes, more, Fit(g, more))
	}
	for i := range sizes {
		greater := slices.Clone(sizes)
		greater[i] += source.Intn(api.MaxSize - sizes[i] + 1)
		if Fit(g, greater) != api.ErrSpace {
			t.Fatalf("%+v: %v do not fit, but %v: %v", g, sizes, greater, Fit(g, greater))
		}
	}
}

func TestFewerAndSmallerFit(t *testing.T) {
	source := rand.New(rand.NewSource(1141))
	fit, not := 0, 0
	for range 20000 {
		g := randomRight(source)
		sizes := randomSizes(source, g)
		switch Fit(g, sizes) {
		case api.OK:
			fit++
			checkFewer(t, source, g, sizes)
		case api.ErrSpace:
			not++
			checkMore(t, source, g, sizes)
		}
	}
	if fit < 2000 || not < 2000 {
		t.Errorf("%d lists fit, %d do not: too few to tell", fit, not)
	}
}

// TestFewerAndSmallerFitAtTheEdge takes lists that fill the array to its last block.
func TestFewerAndSmallerFitAtTheEdge(t *testing.T) {
	source := rand.New(rand.NewSource(1142))
	for range 2000 {
		g := randomRight(source)
		var sizes []int
		for len(sizes) < api.MaxSlots && Room(g, sizes) > 0 {
			sizes = append(sizes, Room(g, sizes)/(1+source.Intn(3))+1)
			if Fit(g, sizes) != api.OK {
				sizes[len(sizes)-1] = Room(g, sizes[:len(sizes)-1])
			}
		}
		checkFewer(t, source, g, sizes)
		for i := range sizes {
			full := slices.Clone(sizes)
			full[i] = Room(g, slices.Delete(slices.Clone(sizes), i, i+1))
			checkFewer(t, source, g, full)
			full[i]++
			checkMore(t, source, g, full)
		}
	}
}

// Beside the promises: what is handed in, and what is answered.

func TestSizesStayAsTheyWere(t *testing.T) {
	source := rand.New(rand.NewSource(1151))
	for range 500 {
		g := randomRight(source)
		row := append(randomSizes(source, g), 7, -7, 70000, math.MaxInt)
		was := slices.Clone(row)
		for n := range len(row) + 1 {
			Fit(g, row[:n])
			Room(g, row[:n])
			if !slices.Equal(row, was) {
				t.Fatalf("%v became %v", was, row)
			}
		}
	}
}

// TestSizesBehindTheEnd: what lies in the room behind a list's end is none of its sizes.
func TestSizesBehindTheEnd(t *testing.T) {
	row := []int{15, 0, 65536, 15, 15, 15, 15}
	if Fit(theExample, row[:1]) != api.OK || Room(theExample, row[:0]) != 45 || Fit(theExample, row[:2]) != api.ErrRange {
		t.Errorf("%v %d %v", Fit(theExample, row[:1]), Room(theExample, row[:0]), Fit(theExample, row[:2]))
	}
}

// TestAskedAgain: the same call answers alike, whatever was asked between, and though the list that it was asked with has changed since.
func TestAskedAgain(t *testing.T) {
	source := rand.New(rand.NewSource(1152))
	for range 300 {
		g, other := randomRight(source), randomOther(source)
		sizes := randomSizes(source, g)
		wantFit, wantRoom := Fit(g, sizes), Room(g, sizes)
		handed := slices.Clone(sizes)
		for range 3 {
			Fit(g, handed)
			for i := range handed {
				handed[i] = source.Intn(1000) - 100
			}
			Room(other, handed)
			checkNumbers(t, other)
			checkNumbers(t, g)
			if Fit(g, sizes) != wantFit || Room(g, sizes) != wantRoom {
				t.Fatalf("Fit(%+v, %v) = %v, Room %d, before %v, %d", g, sizes, Fit(g, sizes), Room(g, sizes), wantFit, wantRoom)
			}
		}
	}
}
