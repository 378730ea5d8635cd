package page

import (
	"bytes"
	"encoding/binary"
	"fmt"
	"math"
	"math/rand"
	"slices"
	"testing"

	"nepenthe/api"
)

// The chapters' sizes, told once more.
const (
	headBytes   = 24
	bothBytes   = 48
	tagBytes    = 32
	markBytes   = 8
	endBytes    = 88
	recordBytes = 624
)

// theGeometry's pages are the chapter's example: 152 bytes.
var theGeometry = api.Geometry{Blocks: 7, Pages: 10, Sector: 64, Spare: 0, Wear: 1, Rounds: 1}

// theHead has unlike numbers.
var theHead = api.Head{Kind: 1, Ns: 2, Count: 1, Lba: 3, Epoch: 4, Counter: 5}

// plainRight tells whether a geometry is right, number by number.
func plainRight(g api.Geometry) bool {
	switch {
	case g.Blocks < 7, g.Blocks > 64, g.Pages < 4, g.Pages > 32, g.Spare < 0, g.Spare > 8:
		return false
	case g.Wear < 1, g.Wear > 1000, g.Rounds < 1, g.Rounds > 1000:
		return false
	}
	sectors := []int{}
	for n := 32; n <= 4096; n += 16 {
		sectors = append(sectors, n)
	}
	return slices.Contains(sectors, g.Sector) && g.Sector*g.Pages >= recordBytes && g.Blocks-4-g.Spare >= 3
}

// plainMayBe tells whether a page may have that head.
func plainMayBe(h api.Head) bool {
	isByte := func(n int) bool { return n == int(byte(n)) }
	return slices.Contains([]int{1, 2, 3, 4}, h.Kind) && isByte(h.Ns) && isByte(h.Count)
}

// plainMake lays a page out as the chapters say, by the library's means.
func plainMake(g api.Geometry, h api.Head, payload, tag []byte) ([]byte, api.Errno) {
	rightPayload := len(payload) == 0 || len(payload) == g.Sector
	rightTag := len(tag) == 0 || len(tag) == tagBytes
	if !plainRight(g) || !plainMayBe(h) || !rightPayload || !rightTag {
		return nil, api.ErrShape
	}
	b := bytes.Repeat([]byte{255}, g.Sector+endBytes)
	copy(b, payload)
	end := b[g.Sector:]
	end[0], end[1], end[2], end[3] = byte(h.Kind), byte(h.Ns), byte(h.Count), 0
	binary.BigEndian.PutUint32(end[4:], h.Lba)
	binary.BigEndian.PutUint64(end[8:], h.Epoch)
	binary.BigEndian.PutUint64(end[16:], h.Counter)
	for i := range headBytes {
		end[headBytes+i] = 255 - end[i]
	}
	copy(end[bothBytes:], tag)
	return b, api.OK
}

// plainCommit tells byte by byte how far it is from the page's end.
func plainCommit(g api.Geometry) ([]byte, api.Errno) {
	if !plainRight(g) {
		return nil, api.ErrShape
	}
	b := make([]byte, g.Sector+endBytes)
	for i := range b {
		if len(b)-i > markBytes {
			b[i] = 255
		}
	}
	return b, api.OK
}

// plainRead goes over a page byte by byte.
func plainRead(g api.Geometry, b []byte) (Page, api.Errno) {
	if !plainRight(g) || len(b)-g.Sector != endBytes {
		return Page{}, api.ErrShape
	}
	end := b[g.Sector:]
	for i := range headBytes {
		if int(end[i])+int(end[headBytes+i]) != 255 {
			return Page{}, api.ErrForm
		}
	}
	if end[0] < 1 || end[0] > 4 || end[3] != 0 {
		return Page{}, api.ErrForm
	}
	sum := 0
	for _, x := range end[80:] {
		sum += int(x)
	}
	h := api.Head{
		Kind:    int(end[0]),
		Ns:      int(end[1]),
		Count:   int(end[2]),
		Lba:     binary.BigEndian.Uint32(end[4:]),
		Epoch:   binary.BigEndian.Uint64(end[8:]),
		Counter: binary.BigEndian.Uint64(end[16:]),
	}
	return Page{Head: h, Payload: slices.Clone(b[:g.Sector]), Tag: slices.Clone(end[48:80]), Done: sum == 0}, api.OK
}

// plainDone asks plainRead, and no more.
func plainDone(g api.Geometry, b []byte, kind int) (Page, bool) {
	p, err := plainRead(g, b)
	if err == api.OK && p.Done && p.Head.Kind == kind {
		return p, true
	}
	return Page{}, false
}

// plainBlank counts the bytes that are 0xff.
func plainBlank(b []byte) bool {
	return bytes.Count(b, []byte{255}) == len(b)
}

// samePage tells whether both tell the same; a list that is nil and one that is empty do.
func samePage(a, b Page) bool {
	return a.Head == b.Head && bytes.Equal(a.Payload, b.Payload) && bytes.Equal(a.Tag, b.Tag) && a.Done == b.Done
}

// checkMake holds a page that is made against the chapter's words; it is not committed, and not blank.
func checkMake(t *testing.T, g api.Geometry, h api.Head, payload, tag []byte) {
	t.Helper()
	got, err := Make(g, h, payload, tag)
	want, wantErr := plainMake(g, h, payload, tag)
	if err != wantErr || !bytes.Equal(got, want) {
		t.Fatalf("Make(%+v, %+v, %x, %x) = %x, %v, want %x, %v", g, h, payload, tag, got, err, want, wantErr)
	}
	if err != api.OK {
		return
	}
	if p, _ := Read(g, got); p.Done || Blank(got) {
		t.Fatalf("Make(%+v, %+v, %x, %x) = %x is committed, or blank", g, h, payload, tag, got)
	}
}

// checkShape asks that no page is made.
func checkShape(t *testing.T, name string, g api.Geometry, h api.Head, payload, tag []byte) {
	t.Helper()
	if b, err := Make(g, h, payload, tag); err != api.ErrShape || len(b) != 0 {
		t.Fatalf("%s: Make(%+v, %+v, %x, %x) = %x, %v, want ErrShape", name, g, h, payload, tag, b, err)
	}
	checkMake(t, g, h, payload, tag)
}

func checkCommit(t *testing.T, g api.Geometry) {
	t.Helper()
	got, err := Commit(g)
	want, wantErr := plainCommit(g)
	if err != wantErr || !bytes.Equal(got, want) {
		t.Fatalf("Commit(%+v) = %x, %v, want %x, %v", g, got, err, want, wantErr)
	}
}

// checkRead holds all that is told of a page against the chapter's words.
func checkRead(t *testing.T, g api.Geometry, b []byte) {
	t.Helper()
	got, err := Read(g, b)
	want, wantErr := plainRead(g, b)
	if err != wantErr || !samePage(got, want) {
		t.Fatalf("Read(%+v, %x) = %+v, %v, want %+v, %v", g, b, got, err, want, wantErr)
	}
	for _, kind := range fewKinds() {
		got, ok := Done(g, b, kind)
		want, wantOK := plainDone(g, b, kind)
		if ok != wantOK || !samePage(got, want) {
			t.Fatalf("Done(%+v, %x, %d) = %+v, %v, want %+v, %v", g, b, kind, got, ok, want, wantOK)
		}
	}
	checkBlank(t, b)
}

// checkErr asks for that error of a page, with nothing beside it, of each kind.
func checkErr(t *testing.T, name string, g api.Geometry, b []byte, want api.Errno) {
	t.Helper()
	if p, err := Read(g, b); err != want || !samePage(p, Page{}) {
		t.Fatalf("%s: Read(%+v, %x) = %+v, %v, want %v", name, g, b, p, err, want)
	}
	for _, kind := range manyKinds() {
		if p, ok := Done(g, b, kind); ok || !samePage(p, Page{}) {
			t.Fatalf("%s: Done(%+v, %x, %d) = %+v, %v, want nothing", name, g, b, kind, p, ok)
		}
	}
	checkRead(t, g, b)
}

// checkTold asks that a page tells just this, to Done only if it is committed, and of its kind alone.
func checkTold(t *testing.T, name string, g api.Geometry, b []byte, want Page) {
	t.Helper()
	if p, err := Read(g, b); err != api.OK || !samePage(p, want) {
		t.Fatalf("%s: Read(%+v, %x) = %+v, %v, want %+v", name, g, b, p, err, want)
	}
	for _, kind := range fewKinds() {
		wantDone := Page{}
		wantOK := want.Done && kind == want.Head.Kind
		if wantOK {
			wantDone = want
		}
		if p, ok := Done(g, b, kind); ok != wantOK || !samePage(p, wantDone) {
			t.Fatalf("%s: Done(%+v, %x, %d) = %+v, %v, want %v", name, g, b, kind, p, ok, wantOK)
		}
	}
	checkRead(t, g, b)
}

func checkBlank(t *testing.T, b []byte) {
	t.Helper()
	if got, want := Blank(b), plainBlank(b); got != want {
		t.Fatalf("Blank of %d bytes = %v, want %v", len(b), got, want)
	}
}

// made is the page of a geometry, a head, a payload and a tag that may be.
func made(t *testing.T, g api.Geometry, h api.Head, payload, tag []byte) []byte {
	t.Helper()
	b, err := Make(g, h, payload, tag)
	if err != api.OK || len(b) != g.Sector+endBytes {
		t.Fatalf("Make(%+v, %+v, %x, %x) = %x, %v", g, h, payload, tag, b, err)
	}
	return b
}

// committed is a page, programmed with what Commit tells.
func committed(t *testing.T, g api.Geometry, b []byte) []byte {
	t.Helper()
	c, err := Commit(g)
	if err != api.OK || len(c) != len(b) {
		t.Fatalf("Commit(%+v) = %x, %v", g, c, err)
	}
	return programmed(b, c)
}

// programmed is what a program makes of bytes: each bit is set only if it was, and comes so.
func programmed(was, comes []byte) []byte {
	out := make([]byte, len(was))
	for i := range was {
		out[i] = was[i] & comes[i]
	}
	return out
}

// changed is b with one byte xored.
func changed(b []byte, at int, x byte) []byte {
	out := slices.Clone(b)
	out[at] ^= x
	return out
}

func all(x byte, n int) []byte {
	return bytes.Repeat([]byte{x}, n)
}

// counted is the bytes from first on, each one more than the one ahead.
func counted(first byte, n int) []byte {
	b := make([]byte, n)
	for i := range b {
		b[i] = first + byte(i)
	}
	return b
}

func randomBytes(source *rand.Rand, n int) []byte {
	b := make([]byte, n)
	source.Read(b)
	return b
}

// rightGeometries are the least and the greatest, and those at which a record, or the spare blocks, just fit.
func rightGeometries() []api.Geometry {
	return []api.Geometry{
		theGeometry,
		{Blocks: 7, Pages: 20, Sector: 32, Spare: 0, Wear: 1, Rounds: 1},
		{Blocks: 7, Pages: 4, Sector: 160, Spare: 0, Wear: 1, Rounds: 1},
		{Blocks: 64, Pages: 32, Sector: 4096, Spare: 8, Wear: 1000, Rounds: 1000},
		{Blocks: 64, Pages: 32, Sector: 32, Spare: 8, Wear: 1000, Rounds: 1000},
		{Blocks: 7, Pages: 4, Sector: 4096, Spare: 0, Wear: 1, Rounds: 1},
		{Blocks: 15, Pages: 16, Sector: 48, Spare: 8, Wear: 7, Rounds: 9},
		{Blocks: 10, Pages: 16, Sector: 4080, Spare: 1, Wear: 4, Rounds: 1},
	}
}

// wrongGeometries are such that each is wrong for one reason, just beside one that is right.
func wrongGeometries() map[string]api.Geometry {
	least := api.Geometry{Blocks: 7, Pages: 20, Sector: 32, Spare: 0, Wear: 1, Rounds: 1}
	most := api.Geometry{Blocks: 64, Pages: 32, Sector: 4096, Spare: 8, Wear: 1000, Rounds: 1000}
	of := func(g api.Geometry, change func(*api.Geometry)) api.Geometry {
		change(&g)
		return g
	}
	return map[string]api.Geometry{
		"nothing":           {},
		"Blocks too small":  of(least, func(g *api.Geometry) { g.Blocks-- }),
		"Blocks too great":  of(most, func(g *api.Geometry) { g.Blocks++ }),
		"Pages too small":   {Blocks: 7, Pages: 3, Sector: 4096, Spare: 0, Wear: 1, Rounds: 1},
		"Pages too great":   of(most, func(g *api.Geometry) { g.Pages++ }),
		"Sector too small":  {Blocks: 7, Pages: 32, Sector: 31, Spare: 0, Wear: 1, Rounds: 1},
		"Sector too great":  of(most, func(g *api.Geometry) { g.Sector++ }),
		"a step too small":  {Blocks: 7, Pages: 32, Sector: 16, Spare: 0, Wear: 1, Rounds: 1},
		"a step too great":  of(most, func(g *api.Geometry) { g.Sector += 16 }),
		"Sector no step":    {Blocks: 7, Pages: 32, Sector: 33, Spare: 0, Wear: 1, Rounds: 1},
		"Sector no step, 8": {Blocks: 7, Pages: 32, Sector: 72, Spare: 0, Wear: 1, Rounds: 1},
		"no sector":         of(least, func(g *api.Geometry) { g.Sector = 0 }),
		"Sector below 0":    of(least, func(g *api.Geometry) { g.Sector = -88 }),
		"the least sector":  of(least, func(g *api.Geometry) { g.Sector = math.MinInt }),
		"the most sector":   of(least, func(g *api.Geometry) { g.Sector = math.MaxInt }),
		"Spare too small":   of(least, func(g *api.Geometry) { g.Spare-- }),
		"Spare too great":   of(most, func(g *api.Geometry) { g.Spare++ }),
		"Wear too small":    of(least, func(g *api.Geometry) { g.Wear-- }),
		"Wear too great":    of(most, func(g *api.Geometry) { g.Wear++ }),
		"Rounds too small":  of(least, func(g *api.Geometry) { g.Rounds-- }),
		"Rounds too great":  of(most, func(g *api.Geometry) { g.Rounds++ }),
		"no record fits":    of(least, func(g *api.Geometry) { g.Pages-- }),
		"no record of four": {Blocks: 7, Pages: 4, Sector: 144, Spare: 0, Wear: 1, Rounds: 1},
		"too few blocks":    of(least, func(g *api.Geometry) { g.Spare++ }),
		"too few for eight": {Blocks: 14, Pages: 16, Sector: 48, Spare: 8, Wear: 7, Rounds: 9},
		"all too small":     {Blocks: 6, Pages: 3, Sector: 31, Spare: -1, Wear: 0, Rounds: 0},
		"all too great":     {Blocks: 65, Pages: 33, Sector: 4097, Spare: 9, Wear: 1001, Rounds: 1001},
	}
}

// wrongHeads are such that each is wrong for one reason, or, the last ones, for several.
func wrongHeads() map[string]api.Head {
	heads := map[string]api.Head{
		"no head":            {},
		"no kind":            {Kind: 0, Ns: 1, Count: 1},
		"a kind too great":   {Kind: 5},
		"a kind below 0":     {Kind: -1},
		"a kind in its byte": {Kind: 257},
		"a kind and 2^32":    {Kind: 1<<32 + 1},
		"Ns below 0":         {Kind: 1, Ns: -1},
		"Ns too great":       {Kind: 1, Ns: 256},
		"the least Ns":       {Kind: 2, Ns: math.MinInt},
		"the most Ns":        {Kind: 2, Ns: math.MaxInt},
		"Count below 0":      {Kind: 3, Count: -1},
		"Count too great":    {Kind: 4, Count: 256},
		"the least Count":    {Kind: 2, Count: math.MinInt},
		"the most Count":     {Kind: 2, Count: math.MaxInt},
		"Ns and Count":       {Kind: 1, Ns: 256, Count: -1},
		"all of them":        {Kind: 5, Ns: -1, Count: 256, Lba: 1, Epoch: 1, Counter: 1},
	}
	return heads
}

// fewKinds are all that there are, and some that there are not.
func fewKinds() []int {
	return []int{-1, 0, 1, 2, 3, 4, 5, 257, 1<<32 + 1}
}

// manyKinds are all numbers of a byte, and those that are a kind only in their low bytes, or nearly.
func manyKinds() []int {
	kinds := []int{math.MinInt, math.MinInt + 1, math.MaxInt, 1<<31 - 1, 1 << 32, 1<<32 + 1, 1<<32 + 4, 65537, -255, -252, -4, -2}
	for kind := -1; kind <= 260; kind++ {
		kinds = append(kinds, kind)
	}
	return kinds
}

// manyHeads are of each kind, with their numbers at their edges, and some at random.
func manyHeads() []api.Head {
	source := rand.New(rand.NewSource(1501))
	heads := []api.Head{theHead,
		{Kind: api.KindData}, {Kind: api.KindTrim}, {Kind: api.KindBlock}, {Kind: api.KindKey},
		{Kind: 4, Ns: 255, Count: 255, Lba: math.MaxUint32, Epoch: math.MaxUint64, Counter: math.MaxUint64},
		{Kind: 3, Lba: math.MaxUint32}, {Kind: 2, Epoch: math.MaxUint64}, {Kind: 1, Counter: math.MaxUint64},
		{Kind: 1, Ns: 255}, {Kind: 1, Count: 255}}
	for range 12 {
		heads = append(heads, randomHead(source))
	}
	return heads
}

// manyPayloads are of that length: noughts, 0xff, others, what looks like an end, and a random one.
func manyPayloads(n int) [][]byte {
	source := rand.New(rand.NewSource(1502))
	end, _ := plainMake(theGeometry, theHead, nil, nil)
	return [][]byte{all(0, n), all(255, n), all(5, n), counted(0, n), bytes.Repeat(end[64:], n/endBytes+1)[:n], randomBytes(source, n)}
}

// manyTags are noughts, 0xff, and others.
func manyTags() [][]byte {
	source := rand.New(rand.NewSource(1503))
	return [][]byte{all(0, tagBytes), all(255, tagBytes), counted(9, tagBytes), randomBytes(source, tagBytes)}
}

// orFull is a list, or, if it has no bytes, n times 0xff: what a page tells of one that was left out.
func orFull(b []byte, n int) []byte {
	if len(b) == 0 {
		return all(255, n)
	}
	return b
}

// randomHead is one that may be; of each number the first bytes may be nought.
func randomHead(source *rand.Rand) api.Head {
	number := func() uint64 {
		return source.Uint64() >> (8 * source.Intn(8))
	}
	return api.Head{
		Kind:    1 + source.Intn(4),
		Ns:      source.Intn(256),
		Count:   source.Intn(256),
		Lba:     uint32(number()),
		Epoch:   number(),
		Counter: number(),
	}
}

// randomRight is a geometry that is right; small sectors come more often.
func randomRight(source *rand.Rand) api.Geometry {
	for {
		g := api.Geometry{
			Blocks: 7 + source.Intn(58),
			Pages:  4 + source.Intn(29),
			Sector: 16 * (2 + source.Intn(1+source.Intn(255))),
			Spare:  source.Intn(9),
			Wear:   1 + source.Intn(1000),
			Rounds: 1 + source.Intn(1000),
		}
		if plainRight(g) {
			return g
		}
	}
}

// numbersOf are the geometry's, to be put elsewhere.
func numbersOf(g *api.Geometry) []*int {
	return []*int{&g.Blocks, &g.Pages, &g.Sector, &g.Spare, &g.Wear, &g.Rounds}
}

// randomGeometry is right mostly; at times one of its numbers is at an edge of its own or anywhere.
func randomGeometry(source *rand.Rand) api.Geometry {
	g := randomRight(source)
	edges := []int{math.MinInt, -16, -1, 0, 1, 3, 4, 6, 7, 8, 9, 16, 31, 32, 33, 64, 65, 1000, 1001, 4096, 4097, 4112, math.MaxInt}
	for _, n := range numbersOf(&g) {
		switch source.Intn(30) {
		case 0:
			*n = edges[source.Intn(len(edges))]
		case 1:
			*n = int(source.Uint64())
		case 2:
			*n += source.Intn(3) - 1
		}
	}
	return g
}

// randomOther is a head of which at times a number is put elsewhere.
func randomOther(source *rand.Rand) api.Head {
	h := randomHead(source)
	for _, n := range []*int{&h.Kind, &h.Ns, &h.Count} {
		switch source.Intn(12) {
		case 0:
			*n = source.Intn(600) - 200
		case 1:
			*n = int(source.Uint64())
		}
	}
	return h
}

// randomList is of the right length mostly; at times of none, or of another one.
func randomList(source *rand.Rand, right int) []byte {
	right = min(max(right, 0), 5000)
	switch source.Intn(9) {
	case 0:
		return nil
	case 1:
		return []byte{}
	case 2:
		return randomBytes(source, source.Intn(right+3))
	case 3:
		return randomBytes(source, right+1)
	}
	return randomBytes(source, right)
}

// partName names a byte of a page by the part in which it is.
func partName(g api.Geometry, at int) string {
	part := "the mark"
	switch in := at - g.Sector; {
	case in < 0:
		part = "the payload"
	case in < 24:
		part = "the head"
	case in < 48:
		part = "the complement"
	case in < 80:
		part = "the tag"
	}
	return fmt.Sprintf("byte %d, of %s", at, part)
}
