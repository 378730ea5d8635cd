package seal

import (
	"bytes"
	"encoding/hex"
	"fmt"
	"math/rand"
	"slices"
	"testing"

	"nepenthe/api"
	"nepenthe/head"
	"nepenthe/mac"
	"nepenthe/page"
)

// Sectors, sealed under the keys 00 .. 5f: what they are sealed to, and their tags, were worked out with OpenSSL.
var vectors = []struct {
	head                api.Head
	sector, sealed, tag string
}{
	{
		head:   api.Head{Kind: 1, Ns: 2, Count: 1, Lba: 3, Epoch: 4, Counter: 5},
		sector: "000102030405060708090a0b0c0d0e0f101112131415161718191a1b1c1d1e1f202122232425262728292a2b2c2d2e2f303132333435363738393a3b3c3d3e3f",
		sealed: "58270ed19c578fb47dada7dd221d39643e3d14706770dae53757e104a31bb355ffe5e3847b2944c13f286570440e28bcb7ca0fc1b8d9f6e898f15ba2bb971a9f",
		tag:    "837fa7c0d8b9656af774046277aee8c312ec0a363159794c75ce433901e5c907",
	},
	{
		head:   api.Head{Kind: 1},
		sector: "00000000000000000000000000000000",
		sealed: "cd6b103236fbd87dba93e9001e29bc3d",
		tag:    "257634126689c15903f8e70406e722fba6a401f62824a651d596553db6815f4c",
	},
	{
		head:   api.Head{Kind: 4, Ns: 255, Count: 255, Lba: 1<<32 - 1, Epoch: 1<<64 - 1, Counter: 1<<64 - 1},
		sector: "ffffffffffffffffffffffffffffffffffffffffffffffffffffffffffffffff",
		sealed: "cdfd4de9c83d586186c5fc83af8a94ee4b8bd3c2c4ed393f2b0373a150eaa6ed",
		tag:    "b3c8166896e2e028c0059bb20fa944c4b98a0d162baa63b954af673482c96f54",
	},
	{
		head:   api.Head{Kind: 1, Ns: 1, Count: 1, Epoch: 1, Counter: 2},
		sector: "6465666768696a6b6c6d6e6f707172737475767778797a7b7c7d7e7f808182838485868788898a8b8c8d8e8f90919293",
		sealed: "b609d93c1cb69a140cba0286b7c8847477166cf0b840fbfcf965a59b8383e18b9a9863d47ef01ad8bcca496c3e24e120",
		tag:    "0982400b73176ea3ea5d5da7c61ba54789e84c4fb463c29d5fec3480d17d42fd",
	},
}

// P16.1

func TestTweakOfTheExample(t *testing.T) {
	if got := hex.EncodeToString(Tweak(api.Head{Epoch: 1, Counter: 2})); got != "0000000000000001"+"0000000000000002" {
		t.Errorf("Tweak = %s", got)
	}
}

func TestTweaksAtTheEdges(t *testing.T) {
	for _, epoch := range edges() {
		for _, counter := range edges() {
			h := api.Head{Kind: 1, Ns: 2, Count: 3, Lba: 4, Epoch: epoch, Counter: counter}
			want := fmt.Sprintf("%016x%016x", epoch, counter)
			if got := hex.EncodeToString(Tweak(h)); got != want {
				t.Errorf("Tweak(%+v) = %s, want %s", h, got, want)
			}
		}
	}
}

// A tweak is told of each head, and hangs on its Epoch and its Counter alone.
func TestTweaksOfHeadsThatMayNotBe(t *testing.T) {
	for name, h := range wrongHeads() {
		for _, epoch := range edges() {
			h.Epoch, h.Counter = epoch, ^epoch
			if got, want := Tweak(h), plainTweak(h); len(got) != tweakBytes || !bytes.Equal(got, want) {
				t.Errorf("%s: Tweak(%+v) = %x, want %x", name, h, got, want)
			}
			if got, want := Tweak(h), Tweak(api.Head{Kind: 1, Epoch: epoch, Counter: ^epoch}); !bytes.Equal(got, want) {
				t.Errorf("%s: Tweak(%+v) = %x, want %x", name, h, got, want)
			}
		}
	}
}

func TestNewOfManyLengths(t *testing.T) {
	lists := [][]byte{nil, {}, make([]byte, 0, keyBytes), counted(0, keyBytes)[:keyBytes-1], all(0, 4096), all(0, 70000)}
	for n := range 300 {
		lists = append(lists, counted(0, n), all(0, n))
	}
	for _, b := range lists {
		k, err := New(b)
		if len(b) == api.KeySize && (err != api.OK || k == nil) {
			t.Errorf("New(%x) = %v, %v", b, k, err)
		}
		if len(b) != api.KeySize && (err != api.ErrShape || k != nil) {
			t.Errorf("New of %d bytes = %v, %v, want ErrShape", len(b), k, err)
		}
	}
}

// Each byte of the keys is one for data, for tweaks or for tags, and for nothing else.
func TestWhatEachByteOfTheKeysIsFor(t *testing.T) {
	right := counted(0, keyBytes)
	sector := counted(50, 48)
	sealed, tag := sealedBy(t, made(t, right), theHead, sector)
	for at := range keyBytes {
		p := made(t, changed(right, at, 1<<(at%8)))
		other, otherTag := sealedBy(t, p, theHead, sector)
		if bytes.Equal(other, sealed) != (at >= 64) {
			t.Errorf("byte %d of the keys is another: sealed to %x", at, other)
		}
		if bytes.Equal(otherTag, tag) {
			t.Errorf("byte %d of the keys is another: the tag is the same", at)
		}
		headTag, _ := p.keys.Tag(theHead, sealed)
		if bytes.Equal(headTag, tag) != (at < 64) {
			t.Errorf("byte %d of the keys is another: the tag of the same bytes is %x", at, headTag)
		}
		checkAll(t, p, theHead, sector)
		want := api.ErrIntegrity
		if at < 64 {
			want = api.OK
		}
		if got, err := p.keys.Open(theHead, sealed, tag); err != want || bytes.Equal(got, sector) {
			t.Errorf("byte %d of the keys is another: opened to %x, %v", at, got, err)
		}
	}
}

func TestTagsWorkedOutWithOpenSSL(t *testing.T) {
	cases := map[string]api.Head{
		"aa2ce41ae8e6b1426de07743320bd037d4f8ee4b5e569a3d5435ed35b25093db": {Kind: 2, Ns: 3, Count: 4, Lba: 5, Epoch: 6, Counter: 7},
		"590ae6931d66ac8989cb77fc18f4c50d0201a56b8aa6a15334412d8fd989346c": {Kind: 1},
	}
	p := theKeys(t)
	for want, h := range cases {
		for _, behind := range [][]byte{nil, {}, make([]byte, 0, 64)} {
			if tag, err := p.keys.Tag(h, behind); err != api.OK || hex.EncodeToString(tag) != want {
				t.Errorf("Tag(%+v) = %x, %v, want %s", h, tag, err, want)
			}
		}
	}
}

func TestTagsOfManyLengths(t *testing.T) {
	p := theKeys(t)
	for n := range 300 {
		checkTag(t, p, theHead, counted(3, n))
	}
	for _, n := range []int{1000, 4080, 4095, 4096, 4097, 4112, 8192, 65535, 65536, 65537, 70000} {
		for _, b := range [][]byte{all(0, n), counted(3, n)} {
			checkTag(t, p, theHead, b)
		}
	}
}

func TestTagsOfManyKeysAndHeads(t *testing.T) {
	for _, b := range manyKeys() {
		p := made(t, b)
		for _, h := range manyHeads() {
			for _, behind := range [][]byte{nil, {}, {0}, all(255, 15), counted(0, 16), counted(1, 100)} {
				checkTag(t, p, h, behind)
				if tag, err := p.keys.Tag(h, behind); err != api.OK || len(tag) != api.TagSize {
					t.Fatalf("Tag(%+v, %x) = %x, %v", h, behind, tag, err)
				}
			}
		}
	}
}

// A tag is that of the head's bytes (layer 14) with the others behind, under the last 32 bytes of the keys (layer 3).
func TestTagIsThatOfTheLayersBelow(t *testing.T) {
	p := theKeys(t)
	for _, h := range manyHeads() {
		for _, behind := range [][]byte{nil, counted(0, 64)} {
			told, _ := head.Bytes(h)
			want := mac.Tag(p.bytes[64:], slices.Concat(told, behind))
			if tag, err := p.keys.Tag(h, behind); err != api.OK || !bytes.Equal(tag, want) {
				t.Errorf("Tag(%+v, %x) = %x, %v, want %x", h, behind, tag, err, want)
			}
		}
	}
}

func TestTagsOfUnlikeHeadsAreUnlike(t *testing.T) {
	p := theKeys(t)
	for _, h := range manyHeads() {
		for _, behind := range [][]byte{nil, counted(0, 64)} {
			tag, _ := p.keys.Tag(h, behind)
			for name, other := range unlikeHeads(h) {
				checkTag(t, p, other, behind)
				if otherTag, err := p.keys.Tag(other, behind); err != api.OK || bytes.Equal(tag, otherTag) {
					t.Errorf("%s than %+v: the same tag %x, %v", name, h, otherTag, err)
				}
			}
		}
	}
}

func TestTagsOfUnlikeBytesAreUnlike(t *testing.T) {
	p := theKeys(t)
	seen := map[string]string{}
	see := func(name string, behind []byte) {
		tag, err := p.keys.Tag(theHead, behind)
		if ahead, twice := seen[string(tag)]; err != api.OK || twice {
			t.Errorf("%s: %x, %v, that of %s", name, tag, err, ahead)
		}
		seen[string(tag)] = name
	}
	for n := range 140 {
		see(fmt.Sprintf("%d noughts", n), all(0, n))
	}
	for bit := range 8 * 64 {
		see(fmt.Sprintf("bit %d", bit), changed(all(0, 64), bit/8, 1<<(bit%8)))
	}
	see("a head's bytes", plainHead(theHead))
}

func TestEachKindNsAndCount(t *testing.T) {
	p := theKeys(t)
	for n := -2; n < 260; n++ {
		for _, h := range []api.Head{{Kind: n}, {Kind: 1, Ns: n}, {Kind: 2, Count: n}, {Kind: 3, Ns: n, Count: n}} {
			checkAll(t, p, h, counted(5, 16))
		}
	}
}

// Each with a sector and a tag that would do.
func TestHeadsThatMayNotBe(t *testing.T) {
	p := theKeys(t)
	for name, h := range wrongHeads() {
		if plainMayBe(h) {
			t.Fatalf("%s: %+v may be", name, h)
		}
		for _, b := range [][]byte{counted(5, 16), counted(5, 64), all(0, mostBytes)} {
			checkSealErr(t, name, p, h, b)
			checkTagErr(t, name, p, h, b)
			checkTagErr(t, name, p, h, nil)
			// The tag of the head's low bytes: what would fit, were they all that is looked at.
			low := mac.Tag(p.bytes[64:], slices.Concat(plainHead(h), b))
			checkOpenErr(t, name, p, h, b, low, api.ErrShape)
			checkOpenErr(t, name, p, h, b, all(6, tagBytes), api.ErrShape)
		}
	}
}

// Nil keys, and those that New did not make: with all else right, and with all else wrong.
func TestKeysThatNewDidNotMake(t *testing.T) {
	var none *Keys
	for name, k := range map[string]*Keys{"nil": none, "not made": {}, "new": new(Keys)} {
		p := pair{keys: k}
		for _, h := range []api.Head{theHead, {Kind: 1}, {}, {Kind: 5, Ns: -1, Count: 256}} {
			for _, b := range [][]byte{counted(5, 16), counted(5, 64), all(0, mostBytes), nil, {}, counted(5, 15), all(0, mostBytes+16)} {
				checkSealErr(t, name, p, h, b)
				checkTagErr(t, name, p, h, b)
				// Tags under a key of no bytes, and under one of noughts.
				text := slices.Concat(plainHead(h), b)
				for _, tag := range [][]byte{mac.Tag(nil, text), mac.Tag(all(0, 32), text), nil, all(0, tagBytes)} {
					checkOpenErr(t, name, p, h, b, tag, api.ErrShape)
				}
			}
		}
	}
}

func TestKeysThatErredAreNilKeys(t *testing.T) {
	k, _ := New(counted(0, keyBytes-1))
	checkSealErr(t, "of 95 bytes", pair{keys: k}, theHead, counted(5, 16))
	checkTagErr(t, "of 95 bytes", pair{keys: k}, theHead, nil)
	checkOpenErr(t, "of 95 bytes", pair{keys: k}, theHead, counted(5, 16), all(0, tagBytes), api.ErrShape)
}

// P16.2

func TestSectorsWorkedOutWithOpenSSL(t *testing.T) {
	p := theKeys(t)
	for _, v := range vectors {
		sector := unhex(t, v.sector)
		sealed, tag, err := p.keys.Seal(v.head, sector)
		if err != api.OK || hex.EncodeToString(sealed) != v.sealed || hex.EncodeToString(tag) != v.tag {
			t.Errorf("Seal(%+v, %s) = %x, %x, %v, want %s, %s", v.head, v.sector, sealed, tag, err, v.sealed, v.tag)
		}
		got, err := p.keys.Open(v.head, unhex(t, v.sealed), unhex(t, v.tag))
		if err != api.OK || !bytes.Equal(got, sector) {
			t.Errorf("Open(%+v, %s, %s) = %x, %v, want %s", v.head, v.sealed, v.tag, got, err, v.sector)
		}
		checkAll(t, p, v.head, sector)
	}
}

func TestSectorsOfAllLengths(t *testing.T) {
	p := theKeys(t)
	for n := blockBytes; n <= mostBytes; n += blockBytes {
		sector := counted(byte(n/blockBytes), n)
		sealed, tag := sealedBy(t, p, theHead, sector)
		wantSealed, wantTag, _ := plainSeal(p.bytes, theHead, sector)
		if !bytes.Equal(sealed, wantSealed) || !bytes.Equal(tag, wantTag) {
			t.Errorf("%d bytes: sealed to %x, %x, want %x, %x", n, sealed, tag, wantSealed, wantTag)
		}
		if bytes.Equal(sealed, sector) || bytes.Equal(sealed[:16], sector[:16]) || bytes.Equal(sealed[n-16:], sector[n-16:]) {
			t.Errorf("%d bytes: not encrypted", n)
		}
		if got := openedBy(t, p, theHead, sealed, tag); !bytes.Equal(got, sector) {
			t.Errorf("%d bytes: opened to another sector", n)
		}
	}
}

func TestSectorsOfManyKeysAndHeads(t *testing.T) {
	for _, b := range manyKeys() {
		p := made(t, b)
		for _, h := range manyHeads() {
			for _, sector := range [][]byte{all(0, 16), all(255, 32), counted(0, 48)} {
				checkAll(t, p, h, sector)
				sealedBy(t, p, h, sector)
			}
		}
	}
}

func TestEpochAndCounterAtTheEdges(t *testing.T) {
	p := theKeys(t)
	for _, epoch := range edges() {
		for _, counter := range edges() {
			h := api.Head{Kind: 1, Ns: 1, Count: 1, Lba: 7, Epoch: epoch, Counter: counter}
			checkAll(t, p, h, counted(9, 32))
		}
	}
}

// Each with a tag that would fit, were it a sector.
func TestBytesThatAreNoSector(t *testing.T) {
	p := theKeys(t)
	for _, b := range wrongSectors() {
		if plainSector(b) {
			t.Fatalf("%d bytes are a sector", len(b))
		}
		name := fmt.Sprintf("%d bytes", len(b))
		tag, err := p.keys.Tag(theHead, b)
		if err != api.OK {
			t.Fatalf("%s: no tag, %v", name, err)
		}
		checkSealErr(t, name, p, theHead, b)
		checkOpenErr(t, name, p, theHead, b, tag, api.ErrShape)
		checkOpenErr(t, name+", another tag", p, theHead, b, all(6, tagBytes), api.ErrShape)
		checkOpenErr(t, name+", no tag", p, theHead, b, nil, api.ErrShape)
	}
}

func TestOnlyWholeBlocksAreSealedAndOpened(t *testing.T) {
	p := theKeys(t)
	row := counted(4, 300)
	for n := range len(row) {
		tag, _ := plainTag(p.bytes, theHead, row[:n])
		checkSeal(t, p, theHead, row[:n])
		checkOpen(t, p, theHead, row[:n], tag)
		checkOpen(t, p, theHead, row[:n], nil)
	}
	for n := mostBytes - 33; n <= mostBytes+33; n++ {
		b := counted(4, n)
		tag, _ := plainTag(p.bytes, theHead, b)
		checkSeal(t, p, theHead, b)
		checkOpen(t, p, theHead, b, tag)
	}
}

// A tag of another length is none that fits, not one of another shape.
func TestTagsThatDoNotFit(t *testing.T) {
	p := theKeys(t)
	for _, h := range manyHeads()[:6] {
		for _, n := range []int{16, 64} {
			sealed, tag := sealedBy(t, p, h, counted(8, n))
			for _, wrong := range wrongTags(tag) {
				checkOpenErr(t, "a wrong tag", p, h, sealed, wrong, api.ErrIntegrity)
			}
			openedBy(t, p, h, sealed, tag)
		}
	}
	sealed, tag := sealedBy(t, p, theHead, counted(8, mostBytes))
	for _, at := range []int{0, 13, tagBytes - 1} {
		checkOpenErr(t, "one bit of the tag is another", p, theHead, sealed, changed(tag, at, 1), api.ErrIntegrity)
	}
	checkOpenErr(t, "one byte too short", p, theHead, sealed, tag[:tagBytes-1], api.ErrIntegrity)
	checkOpenErr(t, "one byte too long", p, theHead, sealed, append(slices.Clone(tag), 0), api.ErrIntegrity)
}

// Tags of something else: of the head alone, of the sector as it was, of the bytes alone, of a sum.
func TestTagsOfSomethingElse(t *testing.T) {
	p := theKeys(t)
	sector := counted(8, 64)
	sealed, right := sealedBy(t, p, theHead, sector)
	ofHead, _ := p.keys.Tag(theHead, nil)
	ofSector, _ := p.keys.Tag(theHead, sector)
	told := plainHead(theHead)
	tagKey := p.bytes[64:]
	others := map[string][]byte{
		"of the head alone":           ofHead,
		"of the sector as it was":     ofSector,
		"of the bytes alone":          mac.Tag(tagKey, sealed),
		"of the head behind":          mac.Tag(tagKey, slices.Concat(sealed, told)),
		"of the tweak and the bytes":  mac.Tag(tagKey, slices.Concat(Tweak(theHead), sealed)),
		"under the key for data":      mac.Tag(p.bytes[:32], slices.Concat(told, sealed)),
		"under the key for tweaks":    mac.Tag(p.bytes[32:64], slices.Concat(told, sealed)),
		"under all keys":              mac.Tag(p.bytes, slices.Concat(told, sealed)),
		"under no bytes":              mac.Tag(nil, slices.Concat(told, sealed)),
		"of a part of the bytes":      mac.Tag(tagKey, slices.Concat(told, sealed[:48])),
		"of the bytes, and one more":  mac.Tag(tagKey, slices.Concat(told, sealed, []byte{0})),
		"of the head, without a part": mac.Tag(tagKey, slices.Concat(told[:16], sealed)),
	}
	for name, tag := range others {
		checkOpenErr(t, name, p, theHead, sealed, tag, api.ErrIntegrity)
	}
	openedBy(t, p, theHead, sealed, right)
}

func TestSealedBytesThatWereChanged(t *testing.T) {
	p := theKeys(t)
	sealed, tag := sealedBy(t, p, theHead, counted(8, 64))
	for bit := range 8 * len(sealed) {
		checkOpenErr(t, fmt.Sprintf("bit %d", bit), p, theHead, changed(sealed, bit/8, 1<<(bit%8)), tag, api.ErrIntegrity)
	}
	checkOpenErr(t, "a block less", p, theHead, sealed[:48], tag, api.ErrIntegrity)
	checkOpenErr(t, "the first block is gone", p, theHead, sealed[16:], tag, api.ErrIntegrity)
	checkOpenErr(t, "a block more", p, theHead, slices.Concat(sealed, all(0, 16)), tag, api.ErrIntegrity)
	checkOpenErr(t, "blocks in another order", p, theHead, slices.Concat(sealed[16:], sealed[:16]), tag, api.ErrIntegrity)
	checkOpenErr(t, "noughts", p, theHead, all(0, 64), tag, api.ErrIntegrity)
	checkOpenErr(t, "the sector as it was", p, theHead, counted(8, 64), tag, api.ErrIntegrity)
	long, longTag := sealedBy(t, p, theHead, counted(8, mostBytes))
	for _, at := range []int{0, 15, 16, 2000, mostBytes - 16, mostBytes - 1} {
		checkOpenErr(t, fmt.Sprintf("byte %d", at), p, theHead, changed(long, at, 128), longTag, api.ErrIntegrity)
	}
	openedBy(t, p, theHead, sealed, tag)
}

// Each byte is right while it is sealed under one head; under another one, unlike in one number alone, it does not fit.
func TestOpenedUnderAnotherHead(t *testing.T) {
	p := theKeys(t)
	for _, h := range manyHeads() {
		sector := counted(8, 32)
		sealed, tag := sealedBy(t, p, h, sector)
		for name, other := range unlikeHeads(h) {
			checkOpenErr(t, name, p, other, sealed, tag, api.ErrIntegrity)
			_, otherTag := sealedBy(t, p, other, sector)
			if bytes.Equal(tag, otherTag) {
				t.Errorf("%s than %+v: the same tag", name, h)
			}
			checkOpenErr(t, name+", its tag", p, h, sealed, otherTag, api.ErrIntegrity)
		}
		swapped := h
		swapped.Epoch, swapped.Counter = h.Counter, h.Epoch
		if swapped != h {
			checkOpenErr(t, "Epoch and Counter swapped", p, swapped, sealed, tag, api.ErrIntegrity)
		}
	}
}

func TestOpenedUnderOtherKeys(t *testing.T) {
	sector := counted(8, 32)
	for i, b := range manyKeys() {
		sealed, tag := sealedBy(t, made(t, b), theHead, sector)
		for j, other := range manyKeys() {
			want := api.OK
			if i != j {
				want = api.ErrIntegrity
			}
			got, err := made(t, other).keys.Open(theHead, sealed, tag)
			if err != want || (err == api.OK) != bytes.Equal(got, sector) {
				t.Errorf("sealed under keys %d, opened under %d: %x, %v", i, j, got, err)
			}
		}
	}
}

// A tag that fits is enough: what was tagged by Tag is opened, whoever encrypted it.
func TestWhatWasTaggedIsOpened(t *testing.T) {
	p := theKeys(t)
	for _, b := range [][]byte{all(0, 16), all(255, 64), counted(3, mostBytes)} {
		tag, _ := p.keys.Tag(theHead, b)
		checkOpen(t, p, theHead, b, tag)
		openedBy(t, p, theHead, b, tag)
	}
}

// Keys, head, sector and tag, each right or wrong: what is wrong in its shape is told ahead of a tag that does not fit.
func TestWrongForMoreThanOneReason(t *testing.T) {
	heads := []api.Head{theHead}
	for _, h := range wrongHeads() {
		heads = append(heads, h)
	}
	for _, p := range []pair{theKeys(t), {}, {keys: &Keys{}}} {
		for _, h := range heads {
			for _, b := range [][]byte{nil, {}, counted(1, 15), counted(1, 16), counted(1, 17), counted(1, mostBytes), counted(1, mostBytes+1), counted(1, mostBytes+16)} {
				want := api.ErrShape
				if p.bytes != nil && h == theHead && (len(b) == 16 || len(b) == mostBytes) {
					want = api.ErrIntegrity
				}
				for _, tag := range [][]byte{nil, {}, all(0, 31), all(0, 32), all(0, 33)} {
					checkOpenErr(t, "a wrong tag, and more", p, h, b, tag, want)
				}
				checkSeal(t, p, h, b)
				checkTag(t, p, h, b)
			}
		}
	}
}

func TestRandomCalls(t *testing.T) {
	source := rand.New(rand.NewSource(1621))
	counts := map[api.Errno]int{}
	for range 2000 {
		p, h, sector := randomPair(t, source), randomOther(source), randomSector(source)
		checkAll(t, p, h, sector)
		sealed, tag, _ := plainSeal(p.bytes, h, sector)
		switch source.Intn(8) {
		case 0:
			if len(sealed) > 0 {
				sealed = changed(sealed, source.Intn(len(sealed)), 1<<source.Intn(8))
			}
		case 1:
			if len(tag) > 0 {
				tag = changed(tag, source.Intn(len(tag)), 1<<source.Intn(8))
			}
		case 2:
			tag = randomBytes(source, source.Intn(40))
		case 3:
			h = randomOther(source)
		case 4:
			p = randomPair(t, source)
		}
		checkOpen(t, p, h, sealed, tag)
		_, err := p.keys.Open(h, sealed, tag)
		counts[err]++
	}
	if counts[api.OK] < 300 || counts[api.ErrIntegrity] < 300 || counts[api.ErrShape] < 300 {
		t.Errorf("answers: %v", counts)
	}
}

func TestRandomTags(t *testing.T) {
	source := rand.New(rand.NewSource(1622))
	for range 5000 {
		checkTag(t, randomPair(t, source), randomOther(source), randomBytes(source, source.Intn(1+source.Intn(400))))
	}
}

// P16.3

func TestWhatWasSealedIsOpenedAsItWas(t *testing.T) {
	source := rand.New(rand.NewSource(1631))
	for _, b := range manyKeys() {
		p := made(t, b)
		for _, h := range manyHeads() {
			for _, n := range []int{16, 32, 512} {
				sector := randomBytes(source, n)
				sealed, tag := sealedBy(t, p, h, sector)
				if got := openedBy(t, p, h, sealed, tag); !bytes.Equal(got, sector) {
					t.Fatalf("Seal(%+v, %x), opened: %x", h, sector, got)
				}
			}
		}
	}
}

// Keys of the same bytes, made apart, open each other's.
func TestOpenedByKeysMadeAgain(t *testing.T) {
	source := rand.New(rand.NewSource(1632))
	for range 500 {
		b, h, sector := randomBytes(source, keyBytes), randomHead(source), randomBytes(source, blockBytes*(1+source.Intn(8)))
		sealed, tag := sealedBy(t, made(t, b), h, sector)
		if got := openedBy(t, made(t, b), h, sealed, tag); !bytes.Equal(got, sector) {
			t.Fatalf("keys %x: Seal(%+v, %x), opened: %x", b, h, sector, got)
		}
	}
}

// What is sealed lies on a page with its head and its tag, and is opened with what the page tells.
func TestOpenedFromAPage(t *testing.T) {
	p := theKeys(t)
	for _, size := range []int{32, 64, 4096} {
		g := api.Geometry{Blocks: 7, Pages: 20, Sector: size, Spare: 0, Wear: 1, Rounds: 1}
		sector := counted(8, size)
		sealed, tag := sealedBy(t, p, theHead, sector)
		b, err := page.Make(g, theHead, sealed, tag)
		if err != api.OK {
			t.Fatal(err)
		}
		told, err := page.Read(g, b)
		if err != api.OK {
			t.Fatal(err)
		}
		if got := openedBy(t, p, told.Head, told.Payload, told.Tag); !bytes.Equal(got, sector) {
			t.Errorf("opened from a page: %x", got)
		}
		for _, at := range []int{0, 15, 16, size - 1, size + 48, size + 60, size + 79} {
			told, _ = page.Read(g, changed(b, at, 1<<(at%8)))
			checkOpenErr(t, fmt.Sprintf("byte %d of the page", at), p, told.Head, told.Payload, told.Tag, api.ErrIntegrity)
		}
	}
}

// P16.4

func TestWhatIsOpenedIsSealedAgainAsItWas(t *testing.T) {
	source := rand.New(rand.NewSource(1641))
	for _, b := range manyKeys() {
		p := made(t, b)
		for _, h := range manyHeads() {
			// Any bytes, tagged: not only those that a sector was sealed to.
			sealed := randomBytes(source, blockBytes*(1+source.Intn(20)))
			tag, err := p.keys.Tag(h, sealed)
			if err != api.OK {
				t.Fatal(err)
			}
			again, againTag := sealedBy(t, p, h, openedBy(t, p, h, sealed, tag))
			if !bytes.Equal(again, sealed) || !bytes.Equal(againTag, tag) {
				t.Fatalf("keys %x: Open(%+v, %x, %x), sealed again: %x, %x", b, h, sealed, tag, again, againTag)
			}
		}
	}
	p := theKeys(t)
	for _, sealed := range [][]byte{all(0, mostBytes), all(255, mostBytes), counted(0, mostBytes)} {
		tag, _ := p.keys.Tag(theHead, sealed)
		again, againTag := sealedBy(t, p, theHead, openedBy(t, p, theHead, sealed, tag))
		if !bytes.Equal(again, sealed) || !bytes.Equal(againTag, tag) {
			t.Error("a whole sector, opened, is sealed to another")
		}
	}
}

// P16.5

func TestUnlikeHeadsHaveUnlikeTweaks(t *testing.T) {
	heads := manyHeads()
	for _, h := range manyHeads() {
		for _, other := range unlikeHeads(h) {
			heads = append(heads, other)
		}
		heads = append(heads, api.Head{Kind: h.Kind, Ns: h.Ns, Count: h.Count, Lba: h.Lba, Epoch: h.Counter, Counter: h.Epoch})
	}
	for _, epoch := range edges() {
		heads = append(heads, api.Head{Kind: 1, Epoch: epoch}, api.Head{Kind: 1, Counter: epoch})
	}
	for _, a := range heads {
		for _, b := range heads {
			same := a.Epoch == b.Epoch && a.Counter == b.Counter
			if bytes.Equal(Tweak(a), Tweak(b)) != same {
				t.Fatalf("Tweak(%+v) = %x, Tweak(%+v) = %x", a, Tweak(a), b, Tweak(b))
			}
		}
	}
}

// What a sector is sealed to hangs, of its head, on the tweak alone; its tag on all of it.
func TestUnlikeHeadsSealUnlike(t *testing.T) {
	p := theKeys(t)
	for _, h := range manyHeads() {
		sector := counted(8, 32)
		sealed, tag := sealedBy(t, p, h, sector)
		for name, other := range unlikeHeads(h) {
			same := h.Epoch == other.Epoch && h.Counter == other.Counter
			otherSealed, otherTag := sealedBy(t, p, other, sector)
			if bytes.Equal(sealed, otherSealed) != same {
				t.Errorf("%s than %+v: sealed to %x and %x", name, h, sealed, otherSealed)
			}
			if bytes.Equal(tag, otherTag) {
				t.Errorf("%s than %+v: the same tag", name, h)
			}
		}
	}
}

func TestRandomHeadsHaveUnlikeTweaks(t *testing.T) {
	source := rand.New(rand.NewSource(1651))
	seen := map[string][2]uint64{}
	for range 20000 {
		h := randomOther(source)
		h.Epoch, h.Counter = h.Epoch%9<<(8*source.Intn(8)), h.Counter%9<<(8*source.Intn(8))
		numbers := [2]uint64{h.Epoch, h.Counter}
		if was, there := seen[string(Tweak(h))]; there && was != numbers {
			t.Fatalf("%v and %v have one tweak, %x", was, numbers, Tweak(h))
		}
		seen[string(Tweak(h))] = numbers
	}
}

// Beside the promises: what is handed in, and what is answered.

// within is a list in the midst of a greater one, and the greater one.
func within(b []byte) ([]byte, []byte) {
	room := slices.Concat(all(0x77, 40), b, all(0x77, 200))
	return room[40 : 40+len(b)], room
}

// spoil changes all of a list's memory, the room behind it too.
func spoil(b []byte) {
	b = b[:cap(b)]
	for i := range b {
		b[i] ^= 0x99
	}
}

func TestNothingHandedInIsChanged(t *testing.T) {
	for _, n := range []int{0, 95, 96, 97} {
		b, room := within(counted(0, n))
		was := slices.Clone(room)
		New(b)
		if !bytes.Equal(room, was) {
			t.Errorf("New of %d bytes changes them, or what is beside them", n)
		}
	}
	p := theKeys(t)
	for _, k := range []*Keys{p.keys, nil, {}} {
		for _, h := range []api.Head{theHead, {}} {
			for _, n := range []int{0, 15, 16, 64, mostBytes, mostBytes + 16} {
				right, _ := plainTag(p.bytes, theHead, counted(1, n))
				for _, someTag := range [][]byte{right, all(0, tagBytes), nil, right[:31]} {
					sector, room := within(counted(1, n))
					tag, tagRoom := within(someTag)
					was, tagWas := slices.Clone(room), slices.Clone(tagRoom)
					k.Seal(h, sector)
					k.Tag(h, sector)
					k.Open(h, sector, tag)
					if !bytes.Equal(room, was) || !bytes.Equal(tagRoom, tagWas) {
						t.Fatalf("%d bytes, or a tag, or what is beside them, were changed", n)
					}
				}
			}
		}
	}
}

func TestWhatLiesBehindAListIsAllOne(t *testing.T) {
	b, _ := within(counted(0, keyBytes))
	p := made(t, b)
	sector, _ := within(counted(1, 64))
	checkAll(t, p, theHead, sector)
	sealed, tag := sealedBy(t, p, theHead, sector)
	roomySealed, _ := within(sealed)
	roomyTag, _ := within(tag)
	if got := openedBy(t, p, theHead, roomySealed, roomyTag); !bytes.Equal(got, sector) {
		t.Errorf("opened to %x", got)
	}
	none, _ := within(nil)
	checkTag(t, p, theHead, none)
	checkOpenErr(t, "no tag, with room behind", p, theHead, sealed, tag[:0], api.ErrIntegrity)
	checkOpenErr(t, "a short tag, with the rest behind", p, theHead, sealed, tag[:31], api.ErrIntegrity)
}

func TestKeysHandedInAreNotKept(t *testing.T) {
	b := counted(0, keyBytes)
	p := made(t, b)
	spoil(b)
	checkAll(t, p, theHead, counted(1, 64))
	p = made(t, b)
	clear(b)
	checkAll(t, p, theHead, counted(1, 64))
}

func TestWhatIsHandedInIsNotKept(t *testing.T) {
	p := theKeys(t)
	sector := counted(1, 64)
	wantSealed, wantTag, _ := plainSeal(p.bytes, theHead, sector)
	sealed, tag := sealedBy(t, p, theHead, sector)
	spoil(sector)
	if !bytes.Equal(sealed, wantSealed) || !bytes.Equal(tag, wantTag) {
		t.Error("what was sealed changes with the sector")
	}
	opened := openedBy(t, p, theHead, sealed, tag)
	again, _ := p.keys.Tag(theHead, sealed)
	spoil(sealed)
	spoil(tag)
	if !bytes.Equal(opened, counted(1, 64)) || !bytes.Equal(again, wantTag) {
		t.Error("what was opened, or tagged, changes with what it was opened from")
	}
	checkAll(t, p, theHead, counted(1, 64))
}

func TestAnswersAreNewMemory(t *testing.T) {
	p := theKeys(t)
	sector := counted(1, 64)
	sealed, tag := sealedBy(t, p, theHead, sector)
	sealedWas, tagWas := slices.Clone(sealed), slices.Clone(tag)
	calls := map[string]func() [][]byte{
		"Seal":           func() [][]byte { s, g, _ := p.keys.Seal(theHead, sector); return [][]byte{s, g} },
		"Open":           func() [][]byte { s, _ := p.keys.Open(theHead, sealed, tag); return [][]byte{s} },
		"Tag":            func() [][]byte { g, _ := p.keys.Tag(theHead, sealed); return [][]byte{g} },
		"Tag of nothing": func() [][]byte { g, _ := p.keys.Tag(theHead, nil); return [][]byte{g} },
		"Tweak":          func() [][]byte { return [][]byte{Tweak(theHead)} },
	}
	for name, call := range calls {
		for i := range call() {
			first, second := call(), call()
			want := [][]byte{}
			for _, b := range first {
				want = append(want, slices.Clone(b))
			}
			if len(first[i]) == 0 {
				t.Fatalf("%s answers nothing", name)
			}
			spoil(first[i])
			for j := range want {
				if j != i && !bytes.Equal(first[j], want[j]) {
					t.Errorf("%s: one list of an answer changes with another one", name)
				}
				if !bytes.Equal(second[j], want[j]) || !bytes.Equal(call()[j], want[j]) {
					t.Errorf("%s: an answer changes with another one", name)
				}
			}
		}
	}
	if !bytes.Equal(sector, counted(1, 64)) || !bytes.Equal(sealed, sealedWas) || !bytes.Equal(tag, tagWas) {
		t.Error("what was handed in changes with what was answered")
	}
}

// One list as keys, as a sector and as a tag.
func TestOneListForAll(t *testing.T) {
	b := counted(0, keyBytes)
	p := made(t, b)
	checkAll(t, p, theHead, b)
	checkOpen(t, p, theHead, b, b)
	checkOpen(t, p, theHead, b, b[:tagBytes])
	// A sector and its tag, one behind the other in one list.
	sealed, tag := sealedBy(t, p, theHead, b)
	row := slices.Concat(sealed, tag)
	if got := openedBy(t, p, theHead, row[:keyBytes], row[keyBytes:]); !bytes.Equal(got, b) || !bytes.Equal(row, slices.Concat(sealed, tag)) {
		t.Errorf("opened from one list: %x", got)
	}
}

func TestKeysAskedAgain(t *testing.T) {
	source := rand.New(rand.NewSource(1661))
	p, q := theKeys(t), made(t, counted(100, keyBytes))
	for range 200 {
		h, sector := randomOther(source), randomSector(source)
		checkAll(t, p, theHead, counted(1, 32))
		checkAll(t, q, h, sector)
		checkAll(t, p, h, sector)
		checkOpenErr(t, "a wrong tag", p, theHead, counted(1, 32), nil, api.ErrIntegrity)
		checkAll(t, q, theHead, counted(1, 32))
	}
}

// A copy of keys that New made is as good as they are.
func TestCopiedKeys(t *testing.T) {
	p := theKeys(t)
	twin := *p.keys
	p.keys = &twin
	checkAll(t, p, theHead, counted(1, 64))
}
