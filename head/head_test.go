package head

import (
	"bytes"
	"encoding/hex"
	"fmt"
	"math"
	"math/rand"
	"slices"
	"testing"

	"nepenthe/api"
	"nepenthe/fault"
	"nepenthe/nand"
)

// P14.1

func TestExample(t *testing.T) {
	want := "01020100" + "00000003" + "0000000000000004" + "0000000000000005"
	got, err := Bytes(theExample)
	if err != api.OK || hex.EncodeToString(got) != want {
		t.Errorf("Bytes = %x, %v, want %s", got, err, want)
	}
	want += "fefdfeff" + "fffffffc" + "fffffffffffffffb" + "fffffffffffffffa"
	want += "0707070707070707070707070707070707070707070707070707070707070707" + "ffffffffffffffff"
	end, err := End(theExample, all(7, 32))
	if err != api.OK || hex.EncodeToString(end) != want {
		t.Errorf("End = %x, %v, want %s", end, err, want)
	}
	checkTold(t, "the example", end, theExample, all(7, 32))
}

func TestEachNumberHasBytesOfItsOwn(t *testing.T) {
	h := api.Head{Kind: 4, Ns: 0xa1, Count: 0xb2, Lba: 0xc1c2c3c4, Epoch: 0xd1d2d3d4d5d6d7d8, Counter: 0xe1e2e3e4e5e6e7e8}
	want := "04a1b200" + "c1c2c3c4" + "d1d2d3d4d5d6d7d8" + "e1e2e3e4e5e6e7e8"
	got, err := Bytes(h)
	if err != api.OK || hex.EncodeToString(got) != want {
		t.Errorf("Bytes = %x, %v, want %s", got, err, want)
	}
	checkTold(t, "unlike numbers", endOf(t, h, counted(9, 32)), h, counted(9, 32))
}

func TestKinds(t *testing.T) {
	for kind := -2; kind <= 300; kind++ {
		h := api.Head{Kind: kind, Ns: 1, Count: 1, Lba: 1, Epoch: 1, Counter: 1}
		want := api.OK
		if kind < api.KindData || kind > api.KindKey {
			want = api.ErrShape
		}
		if b, err := Bytes(h); err != want || (len(b) == headBytes) != (want == api.OK) {
			t.Errorf("Bytes of kind %d = %x, %v, want %v", kind, b, err, want)
		}
		if end, err := End(h, all(1, tagBytes)); err != want || (len(end) == endBytes) != (want == api.OK) {
			t.Errorf("End of kind %d = %x, %v, want %v", kind, end, err, want)
		}
		checkBytes(t, h)
		checkEnd(t, h, nil)
	}
}

func TestNumbersOfAByteAtTheirEdges(t *testing.T) {
	for _, number := range oneByteNumbers() {
		for _, n := range intEdges() {
			h := theExample
			*number.of(&h) = n
			want := api.OK
			if n < 0 || n > 255 || number.name == "Kind" && (n < 1 || n > 4) {
				want = api.ErrShape
			}
			if b, err := Bytes(h); err != want || want != api.OK && len(b) != 0 {
				t.Errorf("%s %d: %x, %v, want %v", number.name, n, b, err, want)
			}
			checkBytes(t, h)
			checkEnd(t, h, counted(1, tagBytes))
			checkEnd(t, h, nil)
		}
	}
}

// Wrong for one reason, for two and for all three: it stays ErrShape, with a right tag and a wrong one.
func TestNumbersOfAByteAtTheirEdgesWithOthers(t *testing.T) {
	for _, kind := range intEdges() {
		for _, ns := range intEdges() {
			for _, count := range intEdges() {
				h := api.Head{Kind: kind, Ns: ns, Count: count, Lba: 7, Epoch: 8, Counter: 9}
				checkBytes(t, h)
				if kind > 0 && kind < 5 || ns == 256 {
					checkEnd(t, h, all(3, tagBytes))
					checkEnd(t, h, all(3, tagBytes-1))
				}
			}
		}
	}
}

func TestEachNsAndCount(t *testing.T) {
	for n := range 256 {
		for _, h := range []api.Head{{Kind: 1, Ns: n}, {Kind: 2, Count: n}, {Kind: 3, Ns: n, Count: 255 - n}} {
			checkBytes(t, h)
			checkTold(t, fmt.Sprintf("%+v", h), endOf(t, h, nil), h, all(255, tagBytes))
		}
	}
}

func TestLongNumbersAtTheirEdges(t *testing.T) {
	var heads []api.Head
	for _, lba := range lbaEdges() {
		heads = append(heads, api.Head{Kind: 1, Lba: lba}, api.Head{Kind: 4, Ns: 255, Count: 255, Lba: lba, Epoch: math.MaxUint64, Counter: math.MaxUint64})
	}
	for _, n := range longEdges() {
		heads = append(heads, api.Head{Kind: 1, Epoch: n}, api.Head{Kind: 1, Counter: n}, api.Head{Kind: 1, Epoch: n, Counter: ^n},
			api.Head{Kind: 4, Ns: 255, Count: 255, Lba: math.MaxUint32, Epoch: n, Counter: math.MaxUint64},
			api.Head{Kind: 4, Ns: 255, Count: 255, Lba: math.MaxUint32, Epoch: math.MaxUint64, Counter: n})
	}
	for _, h := range heads {
		checkBytes(t, h)
		checkEnd(t, h, nil)
		checkTold(t, fmt.Sprintf("%+v", h), endOf(t, h, counted(3, tagBytes)), h, counted(3, tagBytes))
	}
}

func TestTagsOfManyLengths(t *testing.T) {
	for n := range 200 {
		want := api.ErrShape
		if n == 0 || n == api.TagSize {
			want = api.OK
		}
		for _, tag := range [][]byte{all(0, n), all(255, n), counted(5, n)} {
			end, err := End(theExample, tag)
			if err != want || want != api.OK && len(end) != 0 {
				t.Errorf("a tag of %d bytes: %x, %v, want %v", n, end, err, want)
			}
			checkEnd(t, theExample, tag)
		}
	}
	if end, err := End(theExample, nil); err != api.OK || !bytes.Equal(end[48:80], all(255, 32)) {
		t.Errorf("a nil tag: %x, %v", end, err)
	}
	if end, err := End(theExample, []byte{}); err != api.OK || !bytes.Equal(end[48:80], all(255, 32)) {
		t.Errorf("an empty tag: %x, %v", end, err)
	}
}

func TestTagsStandAsTheyCome(t *testing.T) {
	for _, tag := range manyTags() {
		for _, h := range manyHeads() {
			checkEnd(t, h, tag)
			checkTold(t, "as it was", endOf(t, h, tag), h, tag)
		}
	}
}

func TestAWrongHeadWithAnyTag(t *testing.T) {
	for _, h := range []api.Head{{}, {Kind: 5}, {Kind: -1}, {Kind: 1, Ns: 256}, {Kind: 1, Count: -1}, {Kind: 0, Ns: -1, Count: 256}} {
		for _, n := range []int{0, 1, 31, 32, 33} {
			if end, err := End(h, all(9, n)); err != api.ErrShape || len(end) != 0 {
				t.Errorf("End(%+v, %d bytes) = %x, %v, want ErrShape", h, n, end, err)
			}
		}
	}
}

func TestEndsOfManyLengths(t *testing.T) {
	right := slices.Concat(endOf(t, theExample, all(7, tagBytes)), all(0, 200))
	copy(right[80:88], all(0, markBytes))
	for n := range len(right) {
		if n == endBytes {
			checkTold(t, "of an end's length", right[:n], theExample, all(7, tagBytes))
			continue
		}
		checkErr(t, fmt.Sprintf("of %d bytes", n), right[:n:n], api.ErrShape)
		checkErr(t, fmt.Sprintf("of %d bytes, with room behind", n), right[:n], api.ErrShape)
		checkErr(t, fmt.Sprintf("of %d bytes, all 0xff", n), all(255, n), api.ErrShape)
		checkErr(t, fmt.Sprintf("of %d noughts", n), all(0, n), api.ErrShape)
	}
	checkErr(t, "nil", nil, api.ErrShape)
	checkErr(t, "a page of 152 bytes", slices.Concat(all(1, 64), right[:88]), api.ErrShape)
}

func TestEndsOfOneByteAgainAndAgain(t *testing.T) {
	for x := range 256 {
		checkErr(t, fmt.Sprintf("all %#x", x), all(byte(x), endBytes), api.ErrForm)
	}
}

// One byte of the head's, or of its complement, is any other one.
func TestOneByteIsAnother(t *testing.T) {
	for _, h := range []api.Head{theExample, {Kind: 4, Ns: 255, Count: 255, Lba: math.MaxUint32, Epoch: math.MaxUint64, Counter: math.MaxUint64}} {
		right := endOf(t, h, all(7, tagBytes))
		for at := range bothBytes {
			for x := range 256 {
				end := slices.Clone(right)
				end[at] = byte(x)
				if end[at] == right[at] {
					checkTold(t, "the same byte", end, h, all(7, tagBytes))
					continue
				}
				checkErr(t, fmt.Sprintf("byte %d is %#x", at, x), end, api.ErrForm)
			}
		}
	}
}

// One byte of the head's is any other one, and its complement fits: it's another head, or none.
func TestOneByteIsAnotherAndItsComplementFits(t *testing.T) {
	for _, h := range manyHeads()[:12] {
		first, err := Bytes(h)
		if err != api.OK {
			t.Fatal(err)
		}
		for at := range headBytes {
			for x := range 256 {
				other := slices.Clone(first)
				other[at] = byte(x)
				end := wholeEnd(other, all(7, tagBytes), all(255, markBytes))
				checkRead(t, end)
				none := at == 3 && x != 0 || at == 0 && (x < 1 || x > 4)
				if _, _, err := Read(end); (err == api.ErrForm) != none {
					t.Fatalf("byte %d of %+v is %#x: %v", at, h, x, err)
				}
			}
		}
	}
}

func TestANoughtThatIsNone(t *testing.T) {
	for nought := 1; nought < 256; nought++ {
		for _, kind := range []byte{1, 2, 3, 4} {
			first := all(0, headBytes)
			first[0], first[3] = kind, byte(nought)
			checkErr(t, fmt.Sprintf("nought %#x", nought), wholeEnd(first, all(0, tagBytes), all(0, markBytes)), api.ErrForm)
		}
	}
}

func TestAKindThatIsNone(t *testing.T) {
	for kind := range 256 {
		if kind >= 1 && kind <= 4 {
			continue
		}
		for _, rest := range []byte{0, 1, 255} {
			first := all(rest, headBytes)
			first[0], first[3] = byte(kind), 0
			checkErr(t, fmt.Sprintf("kind %d", kind), wholeEnd(first, all(7, tagBytes), all(255, markBytes)), api.ErrForm)
		}
	}
}

func TestTheTagAndTheMarkDecideNothing(t *testing.T) {
	for _, h := range []api.Head{theExample, {Kind: 4}, {Kind: 2, Ns: 255, Count: 255, Lba: math.MaxUint32, Epoch: math.MaxUint64, Counter: math.MaxUint64}} {
		first, err := Bytes(h)
		if err != api.OK {
			t.Fatal(err)
		}
		for _, tag := range manyTags() {
			for _, mark := range manyMarks() {
				end := wholeEnd(first, tag, mark)
				checkTold(t, "whole", end, h, tag)
				end[30] ^= 4
				checkErr(t, "not whole", end, api.ErrForm)
			}
		}
	}
}

func TestRandomHeads(t *testing.T) {
	source := rand.New(rand.NewSource(1411))
	for range 20000 {
		h := randomHead(source)
		if source.Intn(2) == 0 {
			h = randomOther(source)
		}
		checkBytes(t, h)
		checkEnd(t, h, randomTag(source))
	}
}

// Ends of which all may be, many of them whole but for one thing.
func TestRandomEnds(t *testing.T) {
	source := rand.New(rand.NewSource(1412))
	for range 20000 {
		first := randomBytes(source, headBytes)
		first[0] %= 7
		if source.Intn(3) > 0 {
			first[3] = 0
		}
		end := wholeEnd(first, randomBytes(source, tagBytes), manyMarks()[source.Intn(8)])
		switch source.Intn(6) {
		case 0:
			end[source.Intn(endBytes)] ^= 1 << source.Intn(8)
		case 1:
			end = end[:source.Intn(endBytes)]
		case 2:
			end = append(end, randomBytes(source, source.Intn(3))...)
		case 3:
			end = randomBytes(source, endBytes)
		}
		checkRead(t, end)
	}
}

// P14.2

func TestCommittedByTheMarkAlone(t *testing.T) {
	source := rand.New(rand.NewSource(1421))
	ahead := [][]byte{all(0, 80), all(255, 80), endOf(t, theExample, nil)[:80], endOf(t, theExample, all(0, tagBytes))[:80], randomBytes(source, 80)}
	for _, b := range ahead {
		if !Committed(slices.Concat(b, all(0, markBytes))) {
			t.Errorf("%x with a mark of noughts is not committed", b)
		}
		if Committed(slices.Concat(b, all(255, markBytes))) {
			t.Errorf("%x with a mark of 0xff is committed", b)
		}
		for bit := range 8 * markBytes {
			nearlyNought, nearlyFull := all(0, markBytes), all(255, markBytes)
			nearlyNought[bit/8] |= 1 << (bit % 8)
			nearlyFull[bit/8] &^= 1 << (bit % 8)
			for _, mark := range [][]byte{nearlyNought, nearlyFull} {
				if Committed(slices.Concat(b, mark)) {
					t.Errorf("%x with the mark %x is committed", b, mark)
				}
			}
		}
		for _, mark := range manyMarks() {
			checkRead(t, slices.Concat(b, mark))
		}
	}
}

func TestCommittedOfAnotherLength(t *testing.T) {
	noughts := all(0, 5000)
	for n := range noughts {
		if got := Committed(noughts[:n]); got != (n == endBytes) {
			t.Errorf("%d noughts: %v", n, got)
		}
		if Committed(all(255, n)) {
			t.Errorf("%d times 0xff is committed", n)
		}
	}
	if Committed(nil) {
		t.Error("nil is committed")
	}
	whole := slices.Concat(all(1, 64), endOf(t, theExample, nil)[:80], all(0, markBytes))
	if Committed(whole) {
		t.Error("a whole page is committed, as if it were an end")
	}
}

func TestMarksOfAllLengths(t *testing.T) {
	for n := -300; n <= mostBytes+300; n++ {
		checkMark(t, n)
	}
}

func TestMarksAtTheEdges(t *testing.T) {
	for _, n := range []int{api.OobSize - 1, 0, -1, 8, 80, -88, -4184, api.MaxSector + api.OobSize + 1, 65536 + 88, 1 << 31, 1 << 32, 1<<32 + 88, 1<<62 + 88,
		math.MinInt, math.MinInt + 7, math.MinInt + 88, math.MaxInt, math.MaxInt - 7, -1 << 32, -1<<32 + 88} {
		if got := Mark(n); len(got) != 0 {
			t.Errorf("Mark(%d) has %d bytes", n, len(got))
		}
	}
	for _, n := range []int{api.OobSize, api.OobSize + 1, api.MinSector + api.OobSize, api.MaxSector + api.OobSize - 1, api.MaxSector + api.OobSize} {
		got := Mark(n)
		if len(got) != n || !bytes.Equal(got[n-8:], all(0, 8)) || !bytes.Equal(got[:n-8], all(255, n-8)) {
			t.Errorf("Mark(%d) = %x", n, got)
		}
	}
}

func TestLessWrittenOut(t *testing.T) {
	for _, c := range []struct {
		a, b api.Head
		want bool
	}{
		{theExample, theExample, false},
		{api.Head{}, api.Head{}, false},
		{api.Head{Epoch: 1}, api.Head{Epoch: 2}, true},
		{api.Head{Epoch: 2}, api.Head{Epoch: 1}, false},
		{api.Head{Counter: 1}, api.Head{Counter: 2}, true},
		{api.Head{Counter: 2}, api.Head{Counter: 1}, false},
		{api.Head{Epoch: 1, Counter: 1}, api.Head{Epoch: 2, Counter: 2}, true},
		{api.Head{Epoch: 2, Counter: 2}, api.Head{Epoch: 1, Counter: 1}, false},
		{api.Head{Epoch: 1, Counter: 9}, api.Head{Epoch: 2, Counter: 3}, true},
		{api.Head{Epoch: 2, Counter: 3}, api.Head{Epoch: 1, Counter: 9}, false},
		{api.Head{Epoch: 3, Counter: 9}, api.Head{Epoch: 3, Counter: 10}, true},
		{api.Head{Epoch: 3, Counter: 10}, api.Head{Epoch: 3, Counter: 9}, false},
		{api.Head{Kind: 1}, api.Head{Kind: 2}, false},
		{api.Head{Kind: 2}, api.Head{Kind: 1}, false},
		{api.Head{Ns: 1}, api.Head{Ns: 2}, false},
		{api.Head{Count: 1}, api.Head{Count: 2}, false},
		{api.Head{Lba: 1}, api.Head{Lba: 2}, false},
		{api.Head{Lba: 2}, api.Head{Lba: 1}, false},
		{api.Head{Kind: -5, Ns: math.MinInt, Count: 0}, api.Head{Kind: 9, Ns: math.MaxInt, Count: 999, Lba: math.MaxUint32}, false},
		{api.Head{Kind: 9, Ns: 9, Count: 9, Lba: 9, Epoch: 1}, api.Head{Epoch: 1, Counter: 1}, true},
		{api.Head{Epoch: math.MaxInt64}, api.Head{Epoch: math.MaxInt64 + 1}, true},
		{api.Head{Epoch: math.MaxUint64}, api.Head{}, false},
		{api.Head{}, api.Head{Epoch: math.MaxUint64}, true},
		{api.Head{Counter: math.MaxInt64}, api.Head{Counter: math.MaxInt64 + 1}, true},
		{api.Head{Counter: math.MaxUint64}, api.Head{}, false},
		{api.Head{Counter: math.MaxUint64}, api.Head{Epoch: 1}, true},
		{api.Head{Epoch: math.MaxUint64, Counter: math.MaxUint64}, api.Head{Epoch: math.MaxUint64, Counter: math.MaxUint64}, false},
	} {
		if got := Less(c.a, c.b); got != c.want {
			t.Errorf("Less(%+v, %+v) = %v", c.a, c.b, got)
		}
	}
}

func TestLessAtTheEdges(t *testing.T) {
	var heads []api.Head
	for _, epoch := range longEdges() {
		for _, counter := range longEdges() {
			heads = append(heads, api.Head{Epoch: epoch, Counter: counter})
		}
	}
	source := rand.New(rand.NewSource(1422))
	for _, a := range heads {
		for _, b := range heads {
			checkLess(t, a, b)
			other := randomOther(source)
			other.Epoch, other.Counter = b.Epoch, b.Counter
			checkLess(t, a, other)
		}
	}
}

func TestLessOfRandomHeads(t *testing.T) {
	source := rand.New(rand.NewSource(1423))
	for range 20000 {
		a, b := randomOther(source), randomOther(source)
		switch source.Intn(4) {
		case 0:
			b.Epoch = a.Epoch
		case 1:
			b.Counter = a.Counter
		case 2:
			b.Epoch, b.Counter = a.Epoch, a.Counter
		}
		checkLess(t, a, b)
		checkLess(t, b, a)
		if Less(a, a) || Less(a, b) && Less(b, a) {
			t.Fatalf("%+v, %+v: less both ways", a, b)
		}
	}
}

// P14.3

func TestWhatIsToldIsReadAsItWas(t *testing.T) {
	source := rand.New(rand.NewSource(1431))
	for range 20000 {
		h, tag := randomHead(source), randomBytes(source, tagBytes)
		end := endOf(t, h, tag)
		checkTold(t, "as it was", end, h, tag)
		got, gotTag, _ := Read(end)
		if again := endOf(t, got, gotTag); !bytes.Equal(again, end) {
			t.Fatalf("%x, told again: %x", end, again)
		}
	}
	for _, h := range manyHeads() {
		checkTold(t, "without a tag", endOf(t, h, nil), h, all(255, tagBytes))
	}
}

// Each bit, set and cleared: where that changes something, no head is told any more.
func TestEachBitSetAndCleared(t *testing.T) {
	for _, h := range manyHeads() {
		right := endOf(t, h, all(7, tagBytes))
		for bit := range 8 * bothBytes {
			set, cleared := slices.Clone(right), slices.Clone(right)
			set[bit/8] |= 1 << (bit % 8)
			cleared[bit/8] &^= 1 << (bit % 8)
			changed := 0
			for _, end := range [][]byte{set, cleared} {
				if bytes.Equal(end, right) {
					continue
				}
				changed++
				checkErr(t, bitName(bit), end, api.ErrForm)
			}
			if changed != 1 {
				t.Fatalf("%s of %x: set and cleared %d ends are others", bitName(bit), right, changed)
			}
		}
	}
}

// Each bit with the one of its complement: where both are set, or both cleared, no head is told.
func TestEachBitWithItsComplement(t *testing.T) {
	for _, h := range manyHeads() {
		right := endOf(t, h, nil)
		for bit := range 8 * headBytes {
			set, cleared := slices.Clone(right), slices.Clone(right)
			for _, at := range []int{bit / 8, headBytes + bit/8} {
				set[at] |= 1 << (bit % 8)
				cleared[at] &^= 1 << (bit % 8)
			}
			checkErr(t, bitName(bit)+", both set", set, api.ErrForm)
			checkErr(t, bitName(bit)+", both cleared", cleared, api.ErrForm)
		}
	}
}

// torn is an end of which several bits are set, or several cleared, as a mask says.
func torn(end, mask []byte, set bool) []byte {
	out := slices.Clone(end)
	for i := range out {
		if set {
			out[i] |= mask[i]
		} else {
			out[i] &^= mask[i]
		}
	}
	return out
}

// Several bits, all set or all cleared, the tag's and the mark's among them: a head is told only if none of its own was changed.
func TestSeveralBitsSetOrCleared(t *testing.T) {
	source := rand.New(rand.NewSource(1432))
	for range 20000 {
		h, tag := randomHead(source), randomBytes(source, tagBytes)
		right := endOf(t, h, tag)
		mask := all(0, endBytes)
		for range 1 + source.Intn(1<<source.Intn(9)) {
			bit := source.Intn(8 * endBytes)
			mask[bit/8] |= 1 << (bit % 8)
		}
		if source.Intn(4) == 0 {
			clear(mask[:bothBytes])
		}
		for _, set := range []bool{true, false} {
			end := torn(right, mask, set)
			if bytes.Equal(end[:bothBytes], right[:bothBytes]) {
				checkTold(t, "nothing of the head's was changed", end, h, end[48:80])
			} else {
				checkErr(t, "something of the head's was changed", end, api.ErrForm)
			}
		}
	}
}

// As layer 12 tears erases and programs, with masks that go over an end again and again.
func TestTornErasesAndPrograms(t *testing.T) {
	source := rand.New(rand.NewSource(1433))
	for range 5000 {
		h, tag := randomHead(source), randomBytes(source, tagBytes)
		right := endOf(t, h, tag)
		mask := randomBytes(source, 1+source.Intn(9))
		erased := fault.Set(right, mask)
		begun, err := fault.Clear(all(255, endBytes), right, mask)
		if err != api.OK {
			t.Fatal(err)
		}
		failed, err := fault.Fail(all(255, endBytes), right, mask)
		if err != api.OK {
			t.Fatal(err)
		}
		scrubbed, err := fault.Clear(right, all(0, endBytes), mask)
		if err != api.OK {
			t.Fatal(err)
		}
		for _, end := range [][]byte{erased, begun, failed, scrubbed} {
			if bytes.Equal(end[:bothBytes], right[:bothBytes]) {
				checkTold(t, "whole", end, h, end[48:80])
			} else {
				checkErr(t, "torn", end, api.ErrForm)
			}
		}
	}
}

func TestWhatIsErasedOrScrubbedWholeTellsNothing(t *testing.T) {
	for _, h := range manyHeads() {
		right := endOf(t, h, all(7, tagBytes))
		checkErr(t, "erased", fault.Set(right, nil), api.ErrForm)
		scrubbed, _ := fault.Clear(right, all(0, endBytes), nil)
		checkErr(t, "scrubbed", scrubbed, api.ErrForm)
	}
}

// P14.4

func TestAnEndWithAMarkIsCommitted(t *testing.T) {
	mark := Mark(endBytes)
	if len(mark) != endBytes {
		t.Fatalf("a mark of %d bytes", len(mark))
	}
	for _, h := range manyHeads() {
		for _, tag := range manyTags() {
			end := endOf(t, h, tag)
			if Committed(end) {
				t.Fatalf("%x is committed already", end)
			}
			once := programmed(end, mark)
			if !Committed(once) || !bytes.Equal(once[:80], end[:80]) {
				t.Fatalf("%x with a mark: %x", end, once)
			}
			checkTold(t, "with a mark", once, h, tag)
			twice := programmed(once, mark)
			if !bytes.Equal(twice, once) || !Committed(twice) {
				t.Fatalf("%x with a mark twice: %x", end, twice)
			}
			checkTold(t, "with a mark twice", twice, h, tag)
		}
	}
}

func TestAnEndWithAMarkOfRandomHeads(t *testing.T) {
	source := rand.New(rand.NewSource(1441))
	for range 10000 {
		h, tag := randomHead(source), randomBytes(source, tagBytes)
		end := programmed(endOf(t, h, tag), Mark(endBytes))
		if !Committed(end) {
			t.Fatalf("%x is not committed", end)
		}
		checkTold(t, "with a mark", end, h, tag)
	}
}

// A mark that is torn commits nothing, but tells the same.
func TestAMarkThatIsTorn(t *testing.T) {
	source := rand.New(rand.NewSource(1442))
	for range 10000 {
		h, tag := randomHead(source), randomBytes(source, tagBytes)
		end := endOf(t, h, tag)
		mask := randomBytes(source, 1+source.Intn(20))
		if source.Intn(2) == 0 {
			mask = all(255, 64)
			mask[source.Intn(64)] ^= 1 << source.Intn(8)
		}
		half, err := fault.Clear(end, Mark(endBytes), mask)
		if err != api.OK {
			t.Fatal(err)
		}
		checkTold(t, "with a torn mark", half, h, tag)
		if failed, _ := fault.Fail(end, Mark(endBytes), mask); Committed(failed) {
			t.Fatalf("%x is committed by a program that failed", failed)
		}
	}
}

// Whole pages of an array, of the least sector, a middling and the greatest one.
func TestPagesOfAnArray(t *testing.T) {
	for _, sector := range []int{32, 64, 4096} {
		c, err := nand.New(api.Geometry{Blocks: 7, Pages: 32, Sector: sector, Wear: 1, Rounds: 1}, nil)
		if err != api.OK {
			t.Fatal(err)
		}
		for page, h := range manyHeads()[:32] {
			p := api.Place{Block: page % 7, Page: page / 7}
			payload, tag := counted(byte(page), sector), counted(byte(3*page), tagBytes)
			if err := c.Program(p, slices.Concat(payload, endOf(t, h, tag))); err != api.OK {
				t.Fatal(err)
			}
			b, err := c.Read(p)
			if err != api.OK || Committed(b[sector:]) {
				t.Fatalf("%+v: %v, or committed", p, err)
			}
			if err := c.Program(p, Mark(len(b))); err != api.OK {
				t.Fatal(err)
			}
			b, err = c.Read(p)
			if err != api.OK || !Committed(b[sector:]) || !bytes.Equal(b[:sector], payload) {
				t.Fatalf("%+v: %v, or not committed, or another payload", p, err)
			}
			checkTold(t, "on an array", b[sector:], h, tag)
		}
	}
}

// What is handed in, and what is handed back.

// within is b in the midst of other bytes, with room behind it, and what tells whether any of all that was changed.
func within(b []byte) ([]byte, func() bool) {
	row := slices.Concat(all(0x5a, 40), b, all(0xa5, 200))
	was := slices.Clone(row)
	return row[40 : 40+len(b)], func() bool { return bytes.Equal(row, was) }
}

func TestNothingHandedInIsChanged(t *testing.T) {
	for _, n := range []int{0, 1, 31, 32, 33} {
		tag, same := within(counted(2, n))
		End(theExample, tag)
		if !same() {
			t.Errorf("End changes a tag of %d bytes, or what is beside it", n)
		}
	}
	ends := [][]byte{endOf(t, theExample, all(7, tagBytes)), programmed(endOf(t, theExample, nil), Mark(endBytes)), all(0, endBytes), all(255, endBytes), all(1, 87), all(1, 89)}
	for _, b := range ends {
		end, same := within(b)
		Read(end)
		Committed(end)
		if !same() {
			t.Errorf("%x is changed, or what is beside it", b)
		}
	}
}

func TestWhatLiesBehindAListIsAllOne(t *testing.T) {
	tag, _ := within(counted(2, tagBytes))
	none, _ := within(nil)
	if got := endOf(t, theExample, tag); !bytes.Equal(got, endOf(t, theExample, counted(2, tagBytes))) {
		t.Errorf("%x", got)
	}
	if got := endOf(t, theExample, none); !bytes.Equal(got, endOf(t, theExample, nil)) {
		t.Errorf("%x", got)
	}
	end, _ := within(endOf(t, theExample, counted(2, tagBytes)))
	checkTold(t, "with room behind", end, theExample, counted(2, tagBytes))
	end, _ = within(all(0, endBytes))
	if !Committed(end) {
		t.Error("noughts with room behind are not committed")
	}
}

func spoil(b []byte) {
	b = b[:cap(b)]
	for i := range b {
		b[i] ^= 0x99
	}
}

func TestWhatIsHandedInIsNotKept(t *testing.T) {
	tag := counted(2, tagBytes)
	end := endOf(t, theExample, tag)
	want := slices.Clone(end)
	spoil(tag)
	if !bytes.Equal(end, want) {
		t.Error("an end changes with the tag that it was told of")
	}
	_, told, _ := Read(end)
	spoil(end)
	if !bytes.Equal(told, counted(2, tagBytes)) {
		t.Error("a tag changes with the end that told it")
	}
}

func TestAnswersAreNewMemory(t *testing.T) {
	right := endOf(t, theExample, counted(2, tagBytes))
	calls := map[string]func() []byte{
		"Bytes":             func() []byte { b, _ := Bytes(theExample); return b },
		"End":               func() []byte { b, _ := End(theExample, counted(2, tagBytes)); return b },
		"End without a tag": func() []byte { b, _ := End(theExample, nil); return b },
		"Read":              func() []byte { _, b, _ := Read(right); return b },
		"Mark":              func() []byte { return Mark(endBytes) },
		"Mark of most":      func() []byte { return Mark(mostBytes) },
	}
	for name, call := range calls {
		first := call()
		second := call()
		want := slices.Clone(first)
		if len(want) == 0 {
			t.Fatalf("%s answers nothing", name)
		}
		spoil(first)
		if !bytes.Equal(second, want) {
			t.Errorf("%s: an answer changes with another one", name)
		}
		if !bytes.Equal(call(), want) {
			t.Errorf("%s: asked again, another answer", name)
		}
	}
	if !bytes.Equal(right, endOf(t, theExample, counted(2, tagBytes))) {
		t.Error("an end changes with the tag that it told")
	}
}

// The tag that is handed in may be a piece of an end, or of what was told.
func TestATagOutOfAnEnd(t *testing.T) {
	end := endOf(t, theExample, counted(2, tagBytes))
	was := slices.Clone(end)
	h := api.Head{Kind: 2, Ns: 3, Count: 4, Lba: 5, Epoch: 6, Counter: 7}
	next := endOf(t, h, end[48:80])
	checkTold(t, "a tag out of an end", next, h, counted(2, tagBytes))
	spoil(next)
	if !bytes.Equal(end, was) {
		t.Error("an end changes with the one that was made of its tag")
	}
}

func TestAskedAgain(t *testing.T) {
	source := rand.New(rand.NewSource(1451))
	for range 500 {
		h, tag := randomOther(source), randomTag(source)
		checkEnd(t, h, tag)
		checkRead(t, randomBytes(source, endBytes))
		checkMark(t, source.Intn(5000))
		checkEnd(t, h, tag)
	}
}
