package page

import (
	"bytes"
	"encoding/hex"
	"fmt"
	"math/rand"
	"slices"
	"strings"
	"testing"

	"nepenthe/api"
	"nepenthe/fault"
	"nepenthe/nand"
)

// P15.1

func TestExample(t *testing.T) {
	b, err := Make(theGeometry, theHead, all(5, 64), all(6, 32))
	want := strings.Repeat("05", 64) +
		"01020100" + "00000003" + "0000000000000004" + "0000000000000005" +
		"fefdfeff" + "fffffffc" + "fffffffffffffffb" + "fffffffffffffffa" +
		strings.Repeat("06", 32) + "ffffffffffffffff"
	if err != api.OK || len(b) != 152 || hex.EncodeToString(b) != want {
		t.Fatalf("Make = %x, %v, want %s", b, err, want)
	}
	p, err := Read(theGeometry, b)
	if err != api.OK || p.Head != theHead || p.Done || !bytes.Equal(p.Payload, all(5, 64)) || !bytes.Equal(p.Tag, all(6, 32)) {
		t.Errorf("Read = %+v, %v", p, err)
	}
	c, err := Commit(theGeometry)
	if want := strings.Repeat("ff", 144) + strings.Repeat("00", 8); err != api.OK || hex.EncodeToString(c) != want {
		t.Errorf("Commit = %x, %v, want %s", c, err, want)
	}
}

func TestRightGeometries(t *testing.T) {
	for _, g := range rightGeometries() {
		if !plainRight(g) {
			t.Fatalf("%+v is not right", g)
		}
		for _, h := range manyHeads() {
			payload, tag := counted(1, g.Sector), counted(2, tagBytes)
			checkMake(t, g, h, payload, tag)
			b := made(t, g, h, payload, tag)
			checkTold(t, "made", g, b, Page{Head: h, Payload: payload, Tag: tag})
		}
		c, err := Commit(g)
		if n := g.Sector + endBytes; err != api.OK || len(c) != n || !bytes.Equal(c[:n-8], all(255, n-8)) || !bytes.Equal(c[n-8:], all(0, 8)) {
			t.Errorf("Commit(%+v) = %x, %v", g, c, err)
		}
		checkCommit(t, g)
	}
}

// Each with a payload, a head and a page that would do, were it right.
func TestWrongGeometries(t *testing.T) {
	for name, g := range wrongGeometries() {
		if plainRight(g) {
			t.Fatalf("%s: %+v is right", name, g)
		}
		n := min(max(g.Sector, 0), 5000)
		for _, payload := range [][]byte{all(1, n), nil, all(1, 64), all(1, 32), all(1, 4096)} {
			checkShape(t, name, g, theHead, payload, all(6, tagBytes))
			checkShape(t, name, g, theHead, payload, nil)
		}
		if c, err := Commit(g); err != api.ErrShape || len(c) != 0 {
			t.Errorf("%s: Commit(%+v) = %x, %v, want ErrShape", name, g, c, err)
		}
		checkCommit(t, g)
		end := committed(t, theGeometry, made(t, theGeometry, theHead, nil, nil))[64:]
		for _, b := range [][]byte{slices.Concat(all(1, n), end), end, nil, {}, all(255, n+endBytes), all(0, n+endBytes), slices.Concat(all(1, 64), end)} {
			checkErr(t, name, g, b, api.ErrShape)
		}
	}
}

// All geometries that are beside a right one in one number, or in two.
func TestGeometriesBesideRightOnes(t *testing.T) {
	for _, right := range rightGeometries()[:7] {
		for i := range 6 {
			for j := range 6 {
				for _, by := range []int{-16, -1, 1, 16} {
					g := right
					*numbersOf(&g)[i] += by
					*numbersOf(&g)[j] -= by / 2
					checkMake(t, g, theHead, all(3, max(g.Sector, 0)), nil)
					checkCommit(t, g)
					checkRead(t, g, committed(t, right, made(t, right, theHead, nil, nil)))
					checkRead(t, g, all(255, max(g.Sector, 0)+endBytes))
				}
			}
		}
	}
}

func TestPayloadsOfManyLengths(t *testing.T) {
	for _, g := range rightGeometries() {
		for _, n := range []int{0, 1, 8, 16, g.Sector - 16, g.Sector - 1, g.Sector, g.Sector + 1, g.Sector + 16, g.Sector + 80, g.Sector + 88, 2 * g.Sector, 5000, 70000} {
			for _, payload := range [][]byte{all(0, n), all(255, n), counted(7, n)} {
				if n != 0 && n != g.Sector {
					checkShape(t, fmt.Sprintf("a payload of %d bytes", n), g, theHead, payload, all(6, tagBytes))
					continue
				}
				checkMake(t, g, theHead, payload, all(6, tagBytes))
			}
		}
	}
	for n := range 300 {
		checkMake(t, theGeometry, theHead, counted(7, n), counted(8, tagBytes))
	}
}

func TestAPayloadWithoutBytesIsFull(t *testing.T) {
	for _, g := range rightGeometries() {
		for _, payload := range [][]byte{nil, {}, make([]byte, 0, 99)} {
			b := made(t, g, theHead, payload, all(6, tagBytes))
			if !bytes.Equal(b[:g.Sector], all(255, g.Sector)) {
				t.Errorf("%+v: a page without a payload: %x", g, b)
			}
			checkTold(t, "without a payload", g, b, Page{Head: theHead, Payload: all(255, g.Sector), Tag: all(6, tagBytes)})
			checkTold(t, "without a payload, committed", g, committed(t, g, b), Page{Head: theHead, Payload: all(255, g.Sector), Tag: all(6, tagBytes), Done: true})
		}
	}
}

func TestTagsOfManyLengths(t *testing.T) {
	for n := range 100 {
		for _, tag := range [][]byte{all(0, n), all(255, n), counted(3, n)} {
			if n != 0 && n != api.TagSize {
				checkShape(t, fmt.Sprintf("a tag of %d bytes", n), theGeometry, theHead, all(5, 64), tag)
				checkShape(t, fmt.Sprintf("a tag of %d bytes, no payload", n), theGeometry, theHead, nil, tag)
				continue
			}
			checkMake(t, theGeometry, theHead, all(5, 64), tag)
			checkMake(t, theGeometry, theHead, nil, tag)
		}
	}
	for _, tag := range [][]byte{nil, {}, make([]byte, 0, 99)} {
		b := made(t, theGeometry, theHead, all(5, 64), tag)
		checkTold(t, "without a tag", theGeometry, b, Page{Head: theHead, Payload: all(5, 64), Tag: all(255, 32)})
	}
}

func TestHeadsThatMayNotBe(t *testing.T) {
	for name, h := range wrongHeads() {
		if plainMayBe(h) {
			t.Fatalf("%s: %+v may be", name, h)
		}
		for _, payload := range [][]byte{nil, all(5, 64)} {
			for _, tag := range [][]byte{nil, all(6, tagBytes)} {
				checkShape(t, name, theGeometry, h, payload, tag)
			}
		}
	}
}

func TestEachKindNsAndCount(t *testing.T) {
	for _, kind := range manyKinds() {
		h := theHead
		h.Kind = kind
		checkMake(t, theGeometry, h, all(5, 64), nil)
	}
	for n := -2; n < 260; n++ {
		for _, h := range []api.Head{{Kind: 1, Ns: n}, {Kind: 2, Count: n}, {Kind: 3, Ns: n, Count: n}} {
			checkMake(t, theGeometry, h, all(5, 64), all(6, tagBytes))
		}
	}
}

// Each of the four things right or wrong: a page is made only if all are right.
func TestWrongForMoreThanOneReason(t *testing.T) {
	geometries := []api.Geometry{theGeometry}
	for _, g := range wrongGeometries() {
		geometries = append(geometries, g)
	}
	heads := []api.Head{theHead}
	for _, h := range wrongHeads() {
		heads = append(heads, h)
	}
	for _, g := range geometries {
		for _, h := range heads {
			for _, payload := range [][]byte{nil, {}, all(5, 63), all(5, 64), all(5, 65)} {
				for _, tag := range [][]byte{nil, {}, all(6, 31), all(6, 32), all(6, 33)} {
					right := plainRight(g) && plainMayBe(h) && len(payload)%64 == 0 && len(tag)%32 == 0
					b, err := Make(g, h, payload, tag)
					if right && (err != api.OK || len(b) != 152) || !right && (err != api.ErrShape || len(b) != 0) {
						t.Fatalf("Make(%+v, %+v, %x, %x) = %x, %v", g, h, payload, tag, b, err)
					}
				}
			}
		}
	}
}

func TestPagesOfManyLengths(t *testing.T) {
	for _, g := range rightGeometries() {
		right := committed(t, g, made(t, g, theHead, counted(4, g.Sector), all(6, tagBytes)))
		row := slices.Concat(right, right)
		for _, n := range []int{0, 1, 24, 87, 88, 89, g.Sector, g.Sector + 80, len(right) - 16, len(right) - 1, len(right) + 1, len(right) + 16, 2 * len(right)} {
			checkErr(t, fmt.Sprintf("%d bytes", n), g, row[:n:n], api.ErrShape)
			checkErr(t, fmt.Sprintf("%d bytes, with room behind", n), g, row[:n], api.ErrShape)
			checkErr(t, fmt.Sprintf("the last %d bytes", n), g, row[len(row)-n:], api.ErrShape)
			checkErr(t, fmt.Sprintf("%d times 0xff", n), g, all(255, n), api.ErrShape)
			checkErr(t, fmt.Sprintf("%d noughts", n), g, all(0, n), api.ErrShape)
		}
		checkErr(t, "nil", g, nil, api.ErrShape)
		checkErr(t, "empty", g, []byte{}, api.ErrShape)
	}
}

func TestPagesOfAnotherGeometry(t *testing.T) {
	for _, of := range rightGeometries() {
		b := committed(t, of, made(t, of, theHead, counted(4, of.Sector), all(6, tagBytes)))
		for _, g := range rightGeometries() {
			if g.Sector == of.Sector {
				checkTold(t, "as long", g, b, Page{Head: theHead, Payload: counted(4, g.Sector), Tag: all(6, tagBytes), Done: true})
				continue
			}
			checkErr(t, "of another geometry", g, b, api.ErrShape)
		}
	}
}

func TestPagesOfOneByteAgainAndAgain(t *testing.T) {
	for _, g := range rightGeometries()[:3] {
		for x := range 256 {
			checkErr(t, fmt.Sprintf("all %#x", x), g, all(byte(x), g.Sector+endBytes), api.ErrForm)
		}
	}
	for _, g := range rightGeometries() {
		checkErr(t, "noughts", g, all(0, g.Sector+endBytes), api.ErrForm)
		checkErr(t, "blank", g, all(255, g.Sector+endBytes), api.ErrForm)
	}
}

// One byte is any other one: of the head or its complement nothing is told any more, of the payload or the tag just that byte is another, of the mark it is not committed.
func TestOneByteIsAnother(t *testing.T) {
	for _, g := range []api.Geometry{theGeometry, {Blocks: 7, Pages: 20, Sector: 32, Wear: 1, Rounds: 1}} {
		bare := made(t, g, theHead, all(5, g.Sector), all(6, tagBytes))
		for _, right := range [][]byte{bare, committed(t, g, bare)} {
			done := right[len(right)-1] == 0
			for at := range right {
				for _, x := range []byte{1, 2, 3, 4, 8, 16, 32, 64, 128, 255, 5, 6} {
					b := changed(right, at, x)
					want := Page{Head: theHead, Payload: b[:g.Sector], Tag: b[g.Sector+48 : g.Sector+80], Done: done && at < g.Sector+80}
					if at >= g.Sector && at < g.Sector+bothBytes {
						checkErr(t, partName(g, at), g, b, api.ErrForm)
						continue
					}
					checkTold(t, partName(g, at), g, b, want)
				}
			}
		}
	}
}

// One byte of the head is any other one, and its complement fits: it's another head, or none.
func TestOneByteOfTheHeadIsAnotherAndItsComplementFits(t *testing.T) {
	right := committed(t, theGeometry, made(t, theGeometry, theHead, all(5, 64), all(6, tagBytes)))
	for at := range headBytes {
		for x := range 256 {
			b := slices.Clone(right)
			b[64+at], b[64+headBytes+at] = byte(x), ^byte(x)
			none := at == 3 && x != 0 || at == 0 && (x < 1 || x > 4)
			if _, err := Read(theGeometry, b); (err == api.ErrForm) != none {
				t.Fatalf("byte %d of the head is %#x: %v", at, x, err)
			}
			checkRead(t, theGeometry, b)
		}
	}
}

func TestMarks(t *testing.T) {
	source := rand.New(rand.NewSource(1511))
	for _, g := range rightGeometries() {
		bare := made(t, g, theHead, counted(4, g.Sector), all(6, tagBytes))
		told := Page{Head: theHead, Payload: counted(4, g.Sector), Tag: all(6, tagBytes)}
		with := func(mark []byte) []byte {
			return slices.Concat(bare[:g.Sector+80], mark)
		}
		for bit := range 8 * markBytes {
			nearlyNought, nearlyFull := all(0, markBytes), all(255, markBytes)
			nearlyNought[bit/8] |= 1 << (bit % 8)
			nearlyFull[bit/8] &^= 1 << (bit % 8)
			checkTold(t, "noughts but for one bit", g, with(nearlyNought), told)
			checkTold(t, "0xff but for one bit", g, with(nearlyFull), told)
		}
		for range 20 {
			checkTold(t, "a random mark", g, with(append(randomBytes(source, 7), 1)), told)
		}
		told.Done = true
		checkTold(t, "noughts", g, with(all(0, markBytes)), told)
	}
}

// The noughts of a payload, of a tag or of a head commit nothing.
func TestCommittedByTheMarkAlone(t *testing.T) {
	for _, g := range rightGeometries() {
		h := api.Head{Kind: 1}
		b := made(t, g, h, all(0, g.Sector), all(0, tagBytes))
		checkTold(t, "noughts but for the mark", g, b, Page{Head: h, Payload: all(0, g.Sector), Tag: all(0, tagBytes)})
		b = committed(t, g, made(t, g, h, all(255, g.Sector), all(255, tagBytes)))
		checkTold(t, "0xff but for the mark", g, b, Page{Head: h, Payload: all(255, g.Sector), Tag: all(255, tagBytes), Done: true})
	}
}

func TestRandomMakes(t *testing.T) {
	source := rand.New(rand.NewSource(1512))
	count := 0
	for range 8000 {
		g, h := randomGeometry(source), randomOther(source)
		payload, tag := randomList(source, g.Sector), randomList(source, tagBytes)
		checkMake(t, g, h, payload, tag)
		checkCommit(t, g)
		if _, err := Make(g, h, payload, tag); err == api.OK {
			count++
		}
	}
	if count < 800 || count > 7200 {
		t.Errorf("%d of 8000 were made", count)
	}
}

// Pages of which all may be, most of them made, and some changed then.
func TestRandomPages(t *testing.T) {
	source := rand.New(rand.NewSource(1513))
	told, form, shape := 0, 0, 0
	for range 8000 {
		g := randomRight(source)
		b := made(t, g, randomHead(source), randomBytes(source, g.Sector), randomBytes(source, tagBytes))
		if source.Intn(2) == 0 {
			b = committed(t, g, b)
		}
		switch source.Intn(9) {
		case 0:
			b = changed(b, source.Intn(len(b)), 1<<source.Intn(8))
		case 1:
			b = changed(b, g.Sector+source.Intn(endBytes), byte(1+source.Intn(255)))
		case 2:
			b = b[:source.Intn(len(b))]
		case 3:
			b = append(b, randomBytes(source, 1+source.Intn(3))...)
		case 4:
			b = randomBytes(source, len(b))
		case 5:
			b = all([]byte{0, 255}[source.Intn(2)], len(b))
		case 6:
			g = randomGeometry(source)
		}
		checkRead(t, g, b)
		switch _, err := Read(g, b); err {
		case api.OK:
			told++
		case api.ErrForm:
			form++
		default:
			shape++
		}
	}
	if told < 1000 || form < 1000 || shape < 1000 {
		t.Errorf("told %d, ErrForm %d, ErrShape %d", told, form, shape)
	}
}

// P15.2

func TestDoneOfEachKind(t *testing.T) {
	for kind := api.KindData; kind <= api.KindKey; kind++ {
		h := api.Head{Kind: kind, Ns: 2, Count: 3, Lba: 4, Epoch: 5, Counter: 6}
		bare := made(t, theGeometry, h, all(5, 64), all(6, tagBytes))
		done := committed(t, theGeometry, bare)
		for _, asked := range manyKinds() {
			p, ok := Done(theGeometry, done, asked)
			want := Page{}
			if asked == kind {
				want = Page{Head: h, Payload: all(5, 64), Tag: all(6, tagBytes), Done: true}
			}
			if ok != (asked == kind) || !samePage(p, want) {
				t.Errorf("a page of kind %d, asked for %d: %+v, %v", kind, asked, p, ok)
			}
			if p, ok := Done(theGeometry, bare, asked); ok || !samePage(p, Page{}) {
				t.Errorf("a page of kind %d that is not committed, asked for %d: %+v, %v", kind, asked, p, ok)
			}
		}
	}
}

// The kind is the head's: Ns or Count are none.
func TestDoneAsksForTheKindAlone(t *testing.T) {
	h := api.Head{Kind: 1, Ns: 2, Count: 3, Lba: 4, Epoch: 2, Counter: 3}
	done := committed(t, theGeometry, made(t, theGeometry, h, nil, nil))
	for _, kind := range []int{2, 3, 4} {
		if p, ok := Done(theGeometry, done, kind); ok || !samePage(p, Page{}) {
			t.Errorf("asked for %d: %+v, %v", kind, p, ok)
		}
	}
}

// Ends with a kind that there is not, whole otherwise, and committed.
func TestDoneOfAPageThatTellsNoHead(t *testing.T) {
	right := committed(t, theGeometry, made(t, theGeometry, theHead, all(5, 64), all(6, tagBytes)))
	for kind := range 256 {
		if kind >= 1 && kind <= 4 {
			continue
		}
		b := slices.Clone(right)
		b[64], b[64+headBytes] = byte(kind), ^byte(kind)
		checkErr(t, fmt.Sprintf("kind %d", kind), theGeometry, b, api.ErrForm)
	}
	for bit := range 8 * bothBytes {
		checkErr(t, fmt.Sprintf("bit %d", bit), theGeometry, changed(right, 64+bit/8, 1<<(bit%8)), api.ErrForm)
	}
}

func TestBlank(t *testing.T) {
	for _, b := range [][]byte{nil, {}, make([]byte, 0, 9), {255}, {255, 255}, all(255, 152)} {
		if !Blank(b) {
			t.Errorf("%x is not blank", b)
		}
	}
	for x := range 255 {
		for _, b := range [][]byte{{byte(x)}, {255, byte(x)}, {byte(x), 255}, {255, byte(x), 255}} {
			if Blank(b) {
				t.Errorf("%x is blank", b)
			}
		}
	}
}

// Each bit of each byte, cleared, in lists of many lengths; what lies beside the list is all one.
func TestBlankButForOneBit(t *testing.T) {
	for _, n := range []int{1, 2, 3, 7, 8, 9, 31, 32, 63, 64, 65, 120, 152, 200} {
		row := slices.Concat(all(0, 16), all(255, n), all(0, 16))
		b := row[16 : 16+n]
		if !Blank(b) {
			t.Errorf("%d bytes are not blank", n)
		}
		for bit := range 8 * n {
			b[bit/8] &^= 1 << (bit % 8)
			if Blank(b) {
				t.Errorf("%d bytes without bit %d are blank", n, bit)
			}
			b[bit/8] = 255
		}
	}
}

// No page is as long, but lists may be.
func TestBlankOfLongLists(t *testing.T) {
	for _, n := range []int{4183, 4184, 4185, 65535, 65536, 65537, 65536 + 152, 131072, 1 << 20} {
		b := all(255, n)
		if !Blank(b) {
			t.Errorf("%d bytes are not blank", n)
		}
		for _, at := range []int{0, 1, n / 2, n - 2, n - 1} {
			for _, x := range []byte{1, 16, 128} {
				b[at] ^= x
				if Blank(b) {
					t.Errorf("%d bytes are blank, of which byte %d is not", n, at)
				}
				b[at] ^= x
			}
		}
		if Blank(all(0, n)) {
			t.Errorf("%d noughts are blank", n)
		}
	}
}

func TestBlankOfRandomLists(t *testing.T) {
	source := rand.New(rand.NewSource(1521))
	for range 20000 {
		b := all(255, source.Intn(300))
		for range source.Intn(3) {
			if len(b) > 0 {
				b[source.Intn(len(b))] &= byte(source.Intn(256))
			}
		}
		checkBlank(t, b)
	}
}

// P15.3

func TestWhatWasMadeIsReadAsItWas(t *testing.T) {
	for _, g := range rightGeometries() {
		for _, h := range manyHeads() {
			for _, payload := range append(manyPayloads(g.Sector), nil) {
				for _, tag := range append(manyTags(), nil) {
					b := made(t, g, h, payload, tag)
					p, err := Read(g, b)
					want := Page{Head: h, Payload: orFull(payload, g.Sector), Tag: orFull(tag, tagBytes)}
					if err != api.OK || !samePage(p, want) {
						t.Fatalf("Read(%+v, %x) = %+v, %v, want %+v", g, b, p, err, want)
					}
					if again := made(t, g, p.Head, p.Payload, p.Tag); !bytes.Equal(again, b) {
						t.Fatalf("%x, made again: %x", b, again)
					}
				}
			}
		}
	}
}

func TestProgrammedWithACommit(t *testing.T) {
	for _, g := range rightGeometries() {
		for _, h := range manyHeads() {
			for _, payload := range manyPayloads(g.Sector)[2:] {
				tag := counted(byte(h.Ns), tagBytes)
				checkCommitted(t, g, h, payload, tag)
			}
		}
	}
}

// checkCommitted makes a page and commits it, once and twice.
func checkCommitted(t *testing.T, g api.Geometry, h api.Head, payload, tag []byte) {
	t.Helper()
	b := made(t, g, h, payload, tag)
	want := Page{Head: h, Payload: orFull(payload, g.Sector), Tag: orFull(tag, tagBytes)}
	checkTold(t, "made", g, b, want)
	want.Done = true
	once := committed(t, g, b)
	if n := len(b) - markBytes; !bytes.Equal(once[:n], b[:n]) || !bytes.Equal(once[n:], all(0, markBytes)) {
		t.Fatalf("%x, committed: %x", b, once)
	}
	checkTold(t, "committed", g, once, want)
	twice := committed(t, g, once)
	if !bytes.Equal(twice, once) {
		t.Fatalf("%x, committed twice: %x", once, twice)
	}
	checkTold(t, "committed twice", g, twice, want)
}

func TestRandomPagesProgrammedWithACommit(t *testing.T) {
	source := rand.New(rand.NewSource(1531))
	for range 2000 {
		g := randomRight(source)
		checkCommitted(t, g, randomHead(source), randomBytes(source, g.Sector), randomBytes(source, tagBytes))
	}
}

// Pages on an array: programmed, read, committed, and read again.
func TestPagesOfAnArray(t *testing.T) {
	for _, g := range rightGeometries()[:3] {
		c, err := nand.New(g, nil)
		if err != api.OK {
			t.Fatal(err)
		}
		mark, _ := Commit(g)
		for n, h := range manyHeads() {
			p := api.Place{Block: n % g.Blocks, Page: n / g.Blocks}
			payload, tag := counted(byte(n), g.Sector), counted(byte(3*n), tagBytes)
			want := Page{Head: h, Payload: payload, Tag: tag}
			if blank := onArray(t, c, p); !Blank(blank) {
				t.Fatalf("%+v is not blank at first", p)
			}
			if err := c.Program(p, made(t, g, h, payload, tag)); err != api.OK {
				t.Fatal(err)
			}
			checkTold(t, "on an array", g, onArray(t, c, p), want)
			if err := c.Program(p, mark); err != api.OK {
				t.Fatal(err)
			}
			want.Done = true
			checkTold(t, "committed on an array", g, onArray(t, c, p), want)
		}
	}
}

func onArray(t *testing.T, c *nand.Chip, p api.Place) []byte {
	t.Helper()
	b, err := c.Read(p)
	if err != api.OK {
		t.Fatal(err)
	}
	return b
}

// A commit that is torn changes nothing but whether it is committed; one that fails never commits.
func TestACommitThatIsTorn(t *testing.T) {
	source := rand.New(rand.NewSource(1532))
	for range 2000 {
		g := randomRight(source)
		h, payload, tag := randomHead(source), randomBytes(source, g.Sector), randomBytes(source, tagBytes)
		b := made(t, g, h, payload, tag)
		mark, _ := Commit(g)
		mask := randomBytes(source, 1+source.Intn(64))
		half, err := fault.Clear(b, mark, mask)
		if err != api.OK {
			t.Fatal(err)
		}
		failed, err := fault.Fail(b, mark, mask)
		if err != api.OK {
			t.Fatal(err)
		}
		checkTold(t, "torn", g, half, Page{Head: h, Payload: payload, Tag: tag, Done: bytes.Equal(half[len(b)-8:], all(0, 8))})
		checkTold(t, "failed", g, failed, Page{Head: h, Payload: payload, Tag: tag})
	}
}

// P15.4

func TestWhatWasMadeIsNotBlank(t *testing.T) {
	for _, g := range rightGeometries() {
		for _, h := range manyHeads() {
			for _, payload := range [][]byte{nil, all(255, g.Sector), all(0, g.Sector)} {
				for _, tag := range [][]byte{nil, all(255, tagBytes), all(0, tagBytes)} {
					b := made(t, g, h, payload, tag)
					if Blank(b) || Blank(committed(t, g, b)) {
						t.Fatalf("%x is blank", b)
					}
				}
			}
		}
	}
}

func TestWhatIsBlankTellsNothing(t *testing.T) {
	source := rand.New(rand.NewSource(1541))
	geometries := rightGeometries()
	for range 100 {
		geometries = append(geometries, randomRight(source))
	}
	for _, g := range geometries {
		b := all(255, g.Sector+endBytes)
		if !Blank(b) {
			t.Fatalf("%d bytes are not blank", len(b))
		}
		checkErr(t, "blank", g, b, api.ErrForm)
		checkErr(t, "blank, but for the mark", g, committed(t, g, b), api.ErrForm)
		if Blank(committed(t, g, b)) {
			t.Fatalf("%d bytes are blank, with a mark", len(b))
		}
	}
}

// Erased whole it is blank, scrubbed whole it is not; neither tells anything.
func TestWhatIsErasedOrScrubbedTellsNothing(t *testing.T) {
	for _, g := range rightGeometries()[:4] {
		b := committed(t, g, made(t, g, theHead, all(5, g.Sector), all(6, tagBytes)))
		erased := fault.Set(b, nil)
		if !Blank(erased) {
			t.Errorf("%x is not blank", erased)
		}
		checkErr(t, "erased", g, erased, api.ErrForm)
		scrubbed, err := fault.Clear(b, all(0, len(b)), nil)
		if err != api.OK || Blank(scrubbed) {
			t.Errorf("%x is blank, or %v", scrubbed, err)
		}
		checkErr(t, "scrubbed", g, scrubbed, api.ErrForm)
	}
}

// A page that was programmed half, or erased half, tells its own head, or nothing.
func TestTornProgramsAndErases(t *testing.T) {
	source := rand.New(rand.NewSource(1542))
	for range 2000 {
		g := randomRight(source)
		b := made(t, g, randomHead(source), randomBytes(source, g.Sector), randomBytes(source, tagBytes))
		mask := randomBytes(source, 1+source.Intn(64))
		begun, err := fault.Clear(all(255, len(b)), b, mask)
		if err != api.OK {
			t.Fatal(err)
		}
		for _, torn := range [][]byte{begun, fault.Set(b, mask)} {
			checkRead(t, g, torn)
			if _, err := Read(g, torn); (err == api.OK) != bytes.Equal(torn[g.Sector:g.Sector+bothBytes], b[g.Sector:g.Sector+bothBytes]) {
				t.Fatalf("%x, torn: %x, %v", b, torn, err)
			}
		}
	}
}

// What is handed in, and what is handed back.

// within is b in the midst of other bytes, with room behind it, and what tells whether any of all that was changed.
func within(b []byte) ([]byte, func() bool) {
	row := slices.Concat(all(0x5a, 40), b, all(0xa5, 200))
	was := slices.Clone(row)
	return row[40 : 40+len(b)], func() bool { return bytes.Equal(row, was) }
}

func TestNothingHandedInIsChanged(t *testing.T) {
	for _, n := range []int{0, 1, 63, 64, 65} {
		for _, m := range []int{0, 1, 31, 32, 33} {
			payload, samePayload := within(counted(1, n))
			tag, sameTag := within(counted(2, m))
			Make(theGeometry, theHead, payload, tag)
			if !samePayload() || !sameTag() {
				t.Errorf("Make changes a payload of %d bytes, a tag of %d, or what is beside them", n, m)
			}
		}
	}
	right := made(t, theGeometry, theHead, all(5, 64), all(6, tagBytes))
	for _, b := range [][]byte{right, committed(t, theGeometry, right), all(0, 152), all(255, 152), right[:151], append(slices.Clone(right), 1), nil} {
		b, same := within(b)
		Read(theGeometry, b)
		for _, kind := range fewKinds() {
			Done(theGeometry, b, kind)
		}
		Blank(b)
		if !same() {
			t.Errorf("%x is changed, or what is beside it", b)
		}
	}
}

func TestWhatLiesBehindAListIsAllOne(t *testing.T) {
	payload, _ := within(counted(1, 64))
	tag, _ := within(counted(2, tagBytes))
	none, _ := within(nil)
	checkMake(t, theGeometry, theHead, payload, tag)
	checkMake(t, theGeometry, theHead, none, none)
	b, _ := within(committed(t, theGeometry, made(t, theGeometry, theHead, payload, tag)))
	checkTold(t, "with room behind", theGeometry, b, Page{Head: theHead, Payload: counted(1, 64), Tag: counted(2, tagBytes), Done: true})
	if b, _ := within(all(255, 152)); !Blank(b) {
		t.Error("what lies behind a list makes it blank no more")
	}
}

// spoil changes all of a list's memory, the room behind it too.
func spoil(b []byte) {
	b = b[:cap(b)]
	for i := range b {
		b[i] ^= 0x99
	}
}

func TestWhatIsHandedInIsNotKept(t *testing.T) {
	payload, tag := counted(1, 64), counted(2, tagBytes)
	b := made(t, theGeometry, theHead, payload, tag)
	was := slices.Clone(b)
	spoil(payload)
	spoil(tag)
	if !bytes.Equal(b, was) {
		t.Error("a page changes with what it was made of")
	}
	b = committed(t, theGeometry, b)
	read, _ := Read(theGeometry, b)
	done, _ := Done(theGeometry, b, theHead.Kind)
	spoil(b)
	want := Page{Head: theHead, Payload: counted(1, 64), Tag: counted(2, tagBytes), Done: true}
	if !samePage(read, want) || !samePage(done, want) {
		t.Error("what a page told changes with it")
	}
}

func TestAnswersAreNewMemory(t *testing.T) {
	right := committed(t, theGeometry, made(t, theGeometry, theHead, counted(1, 64), counted(2, tagBytes)))
	was := slices.Clone(right)
	payload, tag := counted(1, 64), counted(2, tagBytes)
	calls := map[string]func() [][]byte{
		"Make":         func() [][]byte { b, _ := Make(theGeometry, theHead, payload, tag); return [][]byte{b} },
		"Make of none": func() [][]byte { b, _ := Make(theGeometry, theHead, nil, nil); return [][]byte{b} },
		"Commit":       func() [][]byte { b, _ := Commit(theGeometry); return [][]byte{b} },
		"Read":         func() [][]byte { p, _ := Read(theGeometry, right); return [][]byte{p.Payload, p.Tag} },
		"Done":         func() [][]byte { p, _ := Done(theGeometry, right, theHead.Kind); return [][]byte{p.Payload, p.Tag} },
	}
	for name, call := range calls {
		for i := range call() {
			first, second := call(), call()
			want := [][]byte{}
			for _, b := range first {
				want = append(want, slices.Clone(b))
			}
			if len(first[i]) == 0 {
				t.Fatalf("%s answers nothing", name)
			}
			spoil(first[i])
			for j := range want {
				if j != i && !bytes.Equal(first[j], want[j]) {
					t.Errorf("%s: one list of an answer changes with another one", name)
				}
				if !bytes.Equal(second[j], want[j]) || !bytes.Equal(call()[j], want[j]) {
					t.Errorf("%s: an answer changes with another one", name)
				}
			}
		}
	}
	if !bytes.Equal(right, was) || !bytes.Equal(payload, counted(1, 64)) || !bytes.Equal(tag, counted(2, tagBytes)) {
		t.Error("what was handed in changes with what was answered")
	}
}

// What is handed in may be pieces of a page, of one list, or of what was told.
func TestPiecesOfAPage(t *testing.T) {
	b := made(t, theGeometry, theHead, counted(1, 64), counted(2, tagBytes))
	was := slices.Clone(b)
	h := api.Head{Kind: 2, Ns: 3, Count: 4, Lba: 5, Epoch: 6, Counter: 7}
	next := made(t, theGeometry, h, b[:64], b[112:144])
	checkTold(t, "of pieces", theGeometry, next, Page{Head: h, Payload: counted(1, 64), Tag: counted(2, tagBytes)})
	spoil(next)
	if !bytes.Equal(b, was) {
		t.Error("a page changes with the one that was made of its pieces")
	}
	next = made(t, theGeometry, h, b[:64], b[:32])
	checkTold(t, "of one list", theGeometry, next, Page{Head: h, Payload: counted(1, 64), Tag: counted(1, tagBytes)})
}

func TestAskedAgain(t *testing.T) {
	source := rand.New(rand.NewSource(1551))
	for range 300 {
		g, h := randomGeometry(source), randomOther(source)
		payload, tag := randomList(source, g.Sector), randomList(source, tagBytes)
		checkMake(t, g, h, payload, tag)
		checkRead(t, theGeometry, randomBytes(source, 152))
		checkCommit(t, g)
		checkMake(t, g, h, payload, tag)
	}
}
