package mac

import (
	"bytes"
	"crypto/hmac"
	"crypto/sha256"
	"fmt"
	"math/rand"
	"slices"
	"strings"
	"testing"

	"nepenthe/octet"
)

const fox = "The quick brown fox jumps over the lazy dog"

// keyLengths are those around a block, those around a sum, and much longer ones.
var keyLengths = []int{0, 1, 3, 16, 31, 32, 33, 63, 64, 65, 66, 127, 128, 129, 1000, 65536}

// textLengths are those at which a text fills a block, behind the key's block too, those beside them, and several blocks.
var textLengths = []int{0, 1, 31, 32, 54, 55, 56, 57, 63, 64, 65, 118, 119, 120, 127, 128, 129, 1000, 4096}

func randomBytes(source *rand.Rand, n int) []byte {
	b := make([]byte, n)
	source.Read(b)
	return b
}

func libraryTag(key, text []byte) []byte {
	h := hmac.New(sha256.New, key)
	h.Write(text)
	return h.Sum(nil)
}

// plainTag goes word by word along the document, on the library's sums.
func plainTag(key, text []byte) []byte {
	block := make([]byte, 64)
	if len(key) > 64 {
		sum := sha256.Sum256(key)
		copy(block, sum[:])
	} else {
		copy(block, key)
	}
	var inner, outer []byte
	for _, x := range block {
		inner, outer = append(inner, x^0x36), append(outer, x^0x5c)
	}
	sum := sha256.Sum256(append(inner, text...))
	tag := sha256.Sum256(append(outer, sum[:]...))
	return tag[:]
}

// wrongTags are what a tag is not: off by one bit at any place, too short, too long, and others.
func wrongTags(tag []byte) [][]byte {
	wrong := [][]byte{nil, {}, make([]byte, 32), append(slices.Clone(tag), 0), append([]byte{0}, tag...), slices.Concat(tag, tag), octet.Invert(tag)}
	for n := range len(tag) {
		wrong = append(wrong, slices.Clone(tag[:n]))
		if n > 0 {
			wrong = append(wrong, slices.Clone(tag[n:]))
		}
	}
	for bit := range 8 * len(tag) {
		off := slices.Clone(tag)
		off[bit/8] ^= 1 << (bit % 8)
		wrong = append(wrong, off)
	}
	return wrong
}

// cut answers the text in parts that end at these places.
func cut(text []byte, ends ...int) [][]byte {
	var parts [][]byte
	from := 0
	for _, end := range append(ends, len(text)) {
		parts = append(parts, text[from:end])
		from = end
	}
	return parts
}

// P3.1

func TestBlockOfShortKeyIsTheKeyAndZeros(t *testing.T) {
	source := rand.New(rand.NewSource(31))
	for n := range 65 {
		key := randomBytes(source, n)
		want := append(slices.Clone(key), make([]byte, 64-n)...)
		if got := Block(key); !bytes.Equal(got, want) {
			t.Errorf("Block of %d bytes = %x, want %x", n, got, want)
		}
	}
	if got := Block(nil); !bytes.Equal(got, make([]byte, 64)) {
		t.Errorf("Block(nil) = %x", got)
	}
}

func TestBlockOfLongKeyIsItsSumAndZeros(t *testing.T) {
	source := rand.New(rand.NewSource(32))
	for _, n := range []int{65, 66, 96, 127, 128, 129, 1000, 65536, 1 << 20} {
		key := randomBytes(source, n)
		sum := sha256.Sum256(key)
		want := append(sum[:], make([]byte, 32)...)
		if got := Block(key); !bytes.Equal(got, want) {
			t.Errorf("Block of %d bytes = %x, want %x", n, got, want)
		}
	}
}

func TestTagOfKnownTexts(t *testing.T) {
	counted := func(n int) string {
		b := make([]byte, n)
		for i := range b {
			b[i] = byte(i + 1)
		}
		return string(b)
	}
	// The document's example, and what is published with RFC 4231 (but the case that cuts the tag).
	cases := []struct{ key, text, want string }{
		{"key", fox, "f7bc83f430538424b13298e6aa6fb143ef4d59a14946175997479dbc2d1a3cd8"},
		{"", "", "b613679a0814d9ec772f95d778c35fc5ff1697c493715653c6c712144292c5ad"},
		{strings.Repeat("\x0b", 20), "Hi There", "b0344c61d8db38535ca8afceaf0bf12b881dc200c9833da726e9376c2e32cff7"},
		{"Jefe", "what do ya want for nothing?", "5bdcc146bf60754e6a042426089575c75a003f089d2739839dec58b964ec3843"},
		{strings.Repeat("\xaa", 20), strings.Repeat("\xdd", 50), "773ea91e36800e46854db8ebd09181a72959098b3ef8c122d9635514ced565fe"},
		{counted(25), strings.Repeat("\xcd", 50), "82558a389a443c0ea4cc819899f2083a85f0faa3e578f8077a2e3ff46729665b"},
		{strings.Repeat("\xaa", 131), "Test Using Larger Than Block-Size Key - Hash Key First", "60e431591ee0b67f0d8a26aacbf5b77f8e0bc6213728c5140546040f0ee37f54"},
		{strings.Repeat("\xaa", 131), "This is a test using a larger than block-size key and a larger than block-size data. The key needs to be hashed before being used by the HMAC algorithm.", "9b09ffa71b942fcb27635fbcd5b0e944bfdc63644f0713938a7f51535c3a35e2"},
	}
	for _, c := range cases {
		if got := octet.Hex(Tag([]byte(c.key), []byte(c.text))); got != c.want {
			t.Errorf("Tag(%x, %q) = %s, want %s", c.key, c.text, got, c.want)
		}
		if !Fits([]byte(c.key), []byte(c.text), Tag([]byte(c.key), []byte(c.text))) {
			t.Errorf("the tag of %q doesn't fit", c.text)
		}
	}
}

func TestTagOfKeysAndTextsOfAllLengths(t *testing.T) {
	source := rand.New(rand.NewSource(33))
	for _, k := range keyLengths {
		for _, n := range textLengths {
			key, text := randomBytes(source, k), randomBytes(source, n)
			got := Tag(key, text)
			if !bytes.Equal(got, libraryTag(key, text)) || !bytes.Equal(got, plainTag(key, text)) {
				t.Errorf("Tag under %d bytes of %d bytes = %x", k, n, got)
			}
			if !Fits(key, text, got) {
				t.Errorf("the tag under %d bytes of %d bytes doesn't fit", k, n)
			}
		}
	}
}

func TestNilIsAsEmpty(t *testing.T) {
	want := libraryTag(nil, nil)
	for _, key := range [][]byte{nil, {}} {
		for _, text := range [][]byte{nil, {}} {
			if got := Tag(key, text); !bytes.Equal(got, want) {
				t.Errorf("Tag(%v, %v) = %x", key, text, got)
			}
			if !Fits(key, text, want) {
				t.Errorf("the tag of %v under %v doesn't fit", text, key)
			}
		}
	}
	if got, want := Tag(nil, []byte(fox)), libraryTag(nil, []byte(fox)); !bytes.Equal(got, want) {
		t.Errorf("Tag(nil, fox) = %x", got)
	}
	if got, want := Tag([]byte("key"), nil), libraryTag([]byte("key"), nil); !bytes.Equal(got, want) {
		t.Errorf("Tag(key, nil) = %x", got)
	}
}

func TestWrongTagsDoNotFit(t *testing.T) {
	source := rand.New(rand.NewSource(34))
	for _, k := range []int{0, 3, 63, 64, 65, 200} {
		for _, n := range []int{0, 1, 64, 100} {
			key, text := randomBytes(source, k), randomBytes(source, n)
			for _, wrong := range wrongTags(libraryTag(key, text)) {
				if Fits(key, text, wrong) {
					t.Errorf("%x fits %d bytes under %d", wrong, n, k)
				}
				if New(key).Fits(wrong, text) {
					t.Errorf("%x fits %d bytes under a made key of %d", wrong, n, k)
				}
			}
		}
	}
}

func TestTagOfAnotherTextOrKeyDoesNotFit(t *testing.T) {
	key, text := []byte("key"), []byte(fox)
	tag := Tag(key, text)
	others := [][]byte{nil, text[1:], text[:len(text)-1], append(slices.Clone(text), 0), append([]byte{0}, text...)}
	for _, other := range others {
		if Fits(key, other, tag) {
			t.Errorf("the tag fits %q", other)
		}
	}
	for _, other := range [][]byte{nil, []byte("kez"), []byte("keykey"), []byte("\x00key"), text} {
		if Fits(other, text, tag) {
			t.Errorf("the tag fits under %q", other)
		}
	}
}

// P3.2

func TestMadeKeyTagsPartsBehindOneAnother(t *testing.T) {
	source := rand.New(rand.NewSource(35))
	for _, n := range keyLengths {
		key := randomBytes(source, n)
		k := New(key)
		a, b, c := randomBytes(source, 7), randomBytes(source, 64), randomBytes(source, 130)
		cases := [][][]byte{{}, {nil}, {{}}, {a}, {b}, {a, b}, {b, a}, {a, b, c}, {nil, a, nil, {}, b, nil}, {a, a, a}}
		for _, parts := range cases {
			want := libraryTag(key, slices.Concat(parts...))
			if got := k.Tag(parts...); !bytes.Equal(got, want) {
				t.Errorf("key of %d bytes, %d parts: %x, want %x", n, len(parts), got, want)
			}
			if !k.Fits(want, parts...) {
				t.Errorf("key of %d bytes, %d parts: the tag doesn't fit", n, len(parts))
			}
			for _, wrong := range wrongTags(want) {
				if k.Fits(wrong, parts...) {
					t.Errorf("key of %d bytes, %d parts: %x fits", n, len(parts), wrong)
				}
			}
		}
		if k.Fits(k.Tag(a, b), b, a) {
			t.Errorf("key of %d bytes: the order of the parts is all one", n)
		}
	}
}

func TestKeyOfNoBytes(t *testing.T) {
	var none *Key
	for name, k := range map[string]*Key{"nil": none, "New(nil)": New(nil), "New of no bytes": New([]byte{}), "not made": {}} {
		for _, parts := range [][][]byte{{}, {nil}, {[]byte(fox)}, {[]byte(fox[:9]), []byte(fox[9:])}} {
			want := libraryTag(nil, slices.Concat(parts...))
			if got := k.Tag(parts...); !bytes.Equal(got, want) {
				t.Errorf("%s, %d parts: %x, want %x", name, len(parts), got, want)
			}
			if !k.Fits(want, parts...) {
				t.Errorf("%s, %d parts: the tag doesn't fit", name, len(parts))
			}
			if k.Fits(libraryTag([]byte("key"), slices.Concat(parts...)), parts...) || k.Fits(nil, parts...) {
				t.Errorf("%s, %d parts: another tag fits", name, len(parts))
			}
		}
	}
}

func TestKeyAskedAgain(t *testing.T) {
	key := []byte("key")
	k := New(key)
	one, two := []byte(fox), []byte(strings.Repeat("another text, ", 20))
	for i := range 3 {
		if !bytes.Equal(k.Tag(one), libraryTag(key, one)) || !bytes.Equal(k.Tag(one), libraryTag(key, one)) {
			t.Errorf("turn %d: the first text's tag is another one", i)
		}
		if !k.Fits(libraryTag(key, two), two) || k.Fits(libraryTag(key, one), two) {
			t.Errorf("turn %d: the second text's tag is another one", i)
		}
		if !bytes.Equal(k.Tag(), libraryTag(key, nil)) || !bytes.Equal(k.Tag(two), libraryTag(key, two)) {
			t.Errorf("turn %d: a text's tag hangs on those asked ahead", i)
		}
	}
}

func TestKeysAreApart(t *testing.T) {
	a, b := New([]byte("a")), New([]byte("b"))
	for range 2 {
		if !bytes.Equal(a.Tag([]byte(fox)), libraryTag([]byte("a"), []byte(fox))) || !bytes.Equal(b.Tag([]byte(fox)), libraryTag([]byte("b"), []byte(fox))) {
			t.Error("one key's tags hang on the other")
		}
	}
}

// P3.3

func TestPartsAreAllOne(t *testing.T) {
	source := rand.New(rand.NewSource(36))
	key, text := randomBytes(source, 32), randomBytes(source, 200)
	k, want := New(key), libraryTag(key, text)
	check := func(name string, parts [][]byte) {
		if !bytes.Equal(k.Tag(parts...), want) || !k.Fits(want, parts...) {
			t.Errorf("%s: another tag", name)
		}
	}
	check("whole", cut(text))
	check("a byte each", slices.Collect(slices.Chunk(text, 1)))
	check("blocks", slices.Collect(slices.Chunk(text, 64)))
	check("ends of blocks and the midst", cut(text, 0, 0, 1, 55, 56, 63, 64, 64, 65, 127, 128, 129, 192, 200, 200))
	for i := range len(text) + 1 {
		check(fmt.Sprint("cut at ", i), cut(text, i))
		check(fmt.Sprint("cut at ", i, " with empty parts"), [][]byte{nil, text[:i], {}, nil, text[i:], {}})
	}
	for range 200 {
		var ends []int
		for range source.Intn(8) {
			ends = append(ends, source.Intn(len(text)+1))
		}
		slices.Sort(ends)
		check(fmt.Sprint("cut at ", ends), cut(text, ends...))
	}
	if !bytes.Equal(Tag(key, text), want) {
		t.Error("Tag: another tag")
	}
}

// P3.4

func TestKeyAndItsBlockHaveTheSameTags(t *testing.T) {
	source := rand.New(rand.NewSource(37))
	for n := range 65 {
		key := randomBytes(source, n)
		for _, size := range []int{0, 1, 64, 100} {
			text := randomBytes(source, size)
			tag := Tag(key, text)
			if !bytes.Equal(Tag(Block(key), text), tag) || !Fits(Block(key), text, tag) || !New(Block(key)).Fits(tag, text) {
				t.Errorf("key of %d bytes, text of %d: its block has another tag", n, size)
			}
		}
		if !bytes.Equal(Block(Block(key)), Block(key)) {
			t.Errorf("key of %d bytes: its block's block is another one", n)
		}
	}
}

// Beside the promises: what is handed in, and what is answered.

func TestNothingHandedInIsChanged(t *testing.T) {
	for _, n := range []int{0, 3, 63, 64, 65, 200} {
		room := bytes.Repeat([]byte{7}, n+100)
		key, text, tag := room[:n], []byte(fox), Tag(room[:n], []byte(fox))
		behind := append(text, "behind"...)
		parts := [][]byte{behind[:9], behind[9:len(fox)], nil}
		kept, keptTag := slices.Clone(behind), slices.Clone(tag)
		Block(key)
		Tag(key, behind[:len(fox)])
		Fits(key, behind[:len(fox)], tag)
		New(key).Tag(parts...)
		New(key).Fits(tag, parts...)
		if !bytes.Equal(room, bytes.Repeat([]byte{7}, n+100)) || !bytes.Equal(behind, kept) || !bytes.Equal(tag, keptTag) {
			t.Errorf("key of %d bytes: what was handed in was changed", n)
		}
		if len(parts) != 3 || !bytes.Equal(parts[0], kept[:9]) || !bytes.Equal(parts[1], kept[9:len(fox)]) || parts[2] != nil {
			t.Errorf("key of %d bytes: the list of parts was changed", n)
		}
	}
}

func TestKeyHandedInIsNotKept(t *testing.T) {
	for _, n := range []int{1, 63, 64, 65} {
		key := bytes.Repeat([]byte{1}, n)
		want := libraryTag(key, []byte(fox))
		k := New(key)
		clear(key)
		if !k.Fits(want, []byte(fox)) {
			t.Errorf("key of %d bytes: the list is kept", n)
		}
	}
}

func TestAnswersAreNewMemory(t *testing.T) {
	key := bytes.Repeat([]byte{1}, 64)
	block := Block(key)
	clear(block)
	if !bytes.Equal(key, bytes.Repeat([]byte{1}, 64)) || !bytes.Equal(Block(key), key) {
		t.Error("Block shares memory")
	}
	k := New(key)
	for range 2 {
		tag := k.Tag([]byte(fox))
		if len(tag) != 32 || !bytes.Equal(tag, libraryTag(key, []byte(fox))) {
			t.Errorf("Tag = %x", tag)
		}
		clear(tag[:cap(tag)])
	}
}
