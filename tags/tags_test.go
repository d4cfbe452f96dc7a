package tags_test

import (
	"encoding/hex"
	"math"
	"slices"
	"strings"
	"sync"
	"testing"

	"casemate/api"
	"casemate/bytes"
	"casemate/tags"
)

// P17.1: the chapter's examples, and one of each other call.
func TestTextsOfTheChapter(t *testing.T) {
	s := strings.Repeat("\x00", 64)
	for _, x := range []struct {
		call string
		got  []byte
		want string
	}{
		{"LeafText(258, 64 bytes 0)", tags.LeafText(258, api.Sector{}), "\x4c\x02\x00\x00\x00\x08\x00\x00\x00\x00\x00\x00\x01\x02\x00\x00\x00\x40" + s},
		{"NodeText(258, 64 bytes 0)", tags.NodeText(258, api.Sector{}), "\x4e\x02\x00\x00\x00\x08\x00\x00\x00\x00\x00\x00\x01\x02\x00\x00\x00\x40" + s},
		{"RootText(nothing)", tags.RootText(nil), "\x52\x01\x00\x00\x00\x00"},
		{"RootText(no bytes)", tags.RootText([]byte{}), "\x52\x01\x00\x00\x00\x00"},
		{"HeadText(nothing)", tags.HeadText(nil), "\x48\x01\x00\x00\x00\x00"},
		{"BodyText(nothing)", tags.BodyText(nil), "\x42\x01\x00\x00\x00\x00"},
		{"RootText(ab)", tags.RootText([]byte("ab")), "\x52\x01\x00\x00\x00\x02ab"},
		{"HeadText(ab)", tags.HeadText([]byte("ab")), "\x48\x01\x00\x00\x00\x02ab"},
		{"BodyText(ab)", tags.BodyText([]byte("ab")), "\x42\x01\x00\x00\x00\x02\x61\x62"},
	} {
		if string(x.got) != x.want {
			t.Errorf("%s: %x, want %x", x.call, x.got, x.want)
		}
	}
}

// P17.1: numbers below 0 are laid as their bits stand.
func TestTextsOfNumbersBelowZero(t *testing.T) {
	for number, want := range map[int]string{
		-1:              "\xff\xff\xff\xff\xff\xff\xff\xff",
		-2:              "\xff\xff\xff\xff\xff\xff\xff\xfe",
		-256:            "\xff\xff\xff\xff\xff\xff\xff\x00",
		-257:            "\xff\xff\xff\xff\xff\xff\xfe\xff",
		math.MinInt:     "\x80\x00\x00\x00\x00\x00\x00\x00",
		math.MinInt + 1: "\x80\x00\x00\x00\x00\x00\x00\x01",
	} {
		for _, kind := range sectorKinds() {
			if got := kind.text(number, api.Sector{}); string(got[6:14]) != want || len(got) != 82 {
				t.Errorf("%c, %d: %x, want %x in it", kind.domain, number, got, want)
			}
		}
	}
}

// P17.2, P9: tags that were found outside of the project, by Python's HMAC; that of the node 1 by OpenSSL's too.
func TestTagsFoundElsewhere(t *testing.T) {
	zero, counting, full := api.Key{}, countingKey(), fullKey()
	all := rising(0, 256)
	for _, x := range []struct {
		call string
		got  api.Tag
		want string
	}{
		{"Of, none", tags.Of(zero, nil), "b613679a0814d9ec772f95d778c35fc5ff1697c493715653c6c712144292c5ad"},
		{"Of, abc", tags.Of(counting, []byte("abc")), "f0133729c4163dede81e21cd47839256da58171238c8a0d874397c73b14e1e47"},
		{"Leaf 0", tags.Leaf(zero, 0, api.Sector{}), "7b595ba816a1b2787d1c7a6eb1cef0052fcafb4276117c525067ed9967a4e458"},
		{"Leaf 258", tags.Leaf(counting, 258, countingSector()), "7a4d28e7eedf836ddcdc4a55eece65b604eaea1fbd68d9a516cccb723848d25b"},
		{"Leaf -1", tags.Leaf(counting, -1, countingSector()), "beb9f20c96bc53d82b46a65508c7926d8d701e8756e8ad17ff098ad143c581e6"},
		{"Leaf 4095", tags.Leaf(full, 4095, fullSector()), "6f44a32bf55ed1d287e3c3c57d12c5c3bd17e941b5274557a16067c7baca018b"},
		{"Node 0", tags.Node(zero, 0, api.Sector{}), "20a1c87dc38ae457ea08f12c10e173900324f0c5ec3cc0a24c7e108d55d1fd17"},
		{"Node 1", tags.Node(counting, 1, countingSector()), "2b31c4bfeca516891a829b8e519e0fe7cb97b2f6cfd7ae5f0db709297eb4b480"},
		{"Node -2^63", tags.Node(counting, math.MinInt, countingSector()), "a9b9ce66ff752f159afe61ab931555f7e58daf209bef91f41be09f712308bf24"},
		{"Node 2^63 - 1", tags.Node(full, math.MaxInt, fullSector()), "084b8e0d00c5a54b505d5e57d7e64002da8fc742b348b16e298f83db252433a4"},
		{"Label, none", tags.Label(zero, nil), "ce221a49d0d48ac4aedea0fb94410baa0899b0bfa2f8520f6af520b225c5ee50"},
		{"Label, ab", tags.Label(counting, []byte("ab")), "535600147e248f06febd23505cf12fa2a230f0ff74e94a26a70b4990c4adf79d"},
		{"Label, all", tags.Label(full, all), "be96e4bca9f7cbd396359e14efd6318ac86c60ad4e76f9749dd206e9bbe0992c"},
		{"Head, none", tags.Head(zero, nil), "53839bc8991d838855794b231368e10cd4cb13698798c4139bbc15430ff76f18"},
		{"Head, ab", tags.Head(counting, []byte("ab")), "9bd9a115e953c439bb61d9a3990a9d800e986c0847dc01ff51352a7bc5c1abbb"},
		{"Head, all", tags.Head(full, all), "639774dbeca7641a5d494e87be14b3b4b28385ef9e8229a7784a5b22b4c38f7f"},
		{"Body, none", tags.Body(zero, nil), "68fb2d2d710cb9f2c47ca8576a7776da4f99dac21068b136f8f20b08c329b222"},
		{"Body, ab", tags.Body(counting, []byte("ab")), "823b3fa20eb7f8dcd694e7660f6140700bcc41c15d16e184129fb1ffd1e9d825"},
		{"Body, all", tags.Body(full, all), "a35331f3f1d9d22960205866452dc7340dc05bdc5fbab0862f7c001c4cffea0f"},
	} {
		if hex.EncodeToString(x.got[:]) != x.want {
			t.Errorf("%s: %x, want %s", x.call, x.got, x.want)
		}
	}
}

// P17.1, P17.2: numbers of all sizes, on both sides of 0.
func TestNumberedByAllNumbers(t *testing.T) {
	for _, number := range numbers() {
		checkNumbered(t, countingKey(), number, countingSector())
		checkNumbered(t, api.Key{}, number, api.Sector{})
	}
}

// P17.1, P17.2: sectors of which each bit is set alone, and others.
func TestNumberedOfAllSectors(t *testing.T) {
	for i, s := range sectors() {
		checkNumbered(t, countingKey(), i, s)
		checkNumbered(t, fullKey(), -i, s)
	}
}

// P17.1, P17.2: bytes of whatever kind.
func TestPlainOfAnyBytes(t *testing.T) {
	for _, b := range byteLists() {
		checkPlain(t, countingKey(), b)
		checkPlain(t, fullKey(), b)
	}
	checkPlain(t, countingKey(), nil)
}

// P17.1, P17.2: of all lengths around the blocks' ends, and where each byte of the number of bytes begins anew.
func TestPlainOfAllLengths(t *testing.T) {
	from := source(3)
	for n := range 400 {
		checkPlain(t, drawnKey(from), drawn(from, n))
	}
	for _, n := range []int{1<<16 - 1, 1 << 16, 1<<16 + 1, 1<<24 - 1, 1 << 24, 1<<24 + 258} {
		checkPlain(t, drawnKey(from), drawn(from, n))
	}
}

// P17.2: all bits of a key count.
func TestTagsUnderAllKeys(t *testing.T) {
	found := map[api.Tag]bool{}
	for _, k := range keys() {
		checkNumbered(t, k, 7, countingSector())
		checkPlain(t, k, []byte("ab"))
		found[tags.Of(k, []byte("ab"))] = true
	}
	if len(found) != len(keys()) {
		t.Errorf("%d keys have %d tags", len(keys()), len(found))
	}
}

// P17.2: Of is the tag of a text as it stands, whether it is a message or not.
func TestOfAnyText(t *testing.T) {
	from := source(4)
	texts := append(byteLists(), nil, []byte(paperNumbered('L', 1, countingSector())))
	for n := range 300 {
		texts = append(texts, drawn(from, n))
	}
	for _, text := range texts {
		k := drawnKey(from)
		if got, want := tags.Of(k, text), published(k, string(text)); got != want {
			t.Errorf("under %x, of %x: %x, want %x", k, text, got, want)
		}
	}
}

// P17.2: each tag is Of of its own message.
func TestTagsAreOfTheirMessages(t *testing.T) {
	from := source(5)
	for n := range 200 {
		k, s, b, number := drawnKey(from), drawnSector(from), drawn(from, n), int(from.Uint64())
		for _, kind := range sectorKinds() {
			if kind.tag(k, number, s) != tags.Of(k, kind.text(number, s)) {
				t.Errorf("%c, %d, %x: the tag is not that of the message", kind.domain, number, s)
			}
		}
		for _, kind := range bytesKinds() {
			if kind.tag(k, b) != tags.Of(k, kind.text(b)) {
				t.Errorf("%c, %x: the tag is not that of the message", kind.domain, b)
			}
		}
	}
}

// P17.3: the left child's tag comes first.
func TestJoinAndSplit(t *testing.T) {
	left, right := countingTag(0), countingTag(32)
	s := tags.Join(left, right)
	if s != countingSector() {
		t.Errorf("Join: %x", s)
	}
	if l, r := tags.Split(s); l != left || r != right {
		t.Errorf("Split: %x, %x", l, r)
	}
	if tags.Join(right, left) == s {
		t.Error("left and right are the same")
	}
}

// P17.3: each bit is where it belongs, and what is joined is split again.
func TestJoinUndoesSplit(t *testing.T) {
	for _, s := range sectors() {
		left, right := tags.Split(s)
		if string(left[:])+string(right[:]) != string(s[:]) {
			t.Errorf("Split(%x): %x, %x", s, left, right)
		}
		if got := tags.Join(left, right); got != s {
			t.Errorf("Join(%x, %x): %x", left, right, got)
		}
	}
	from := source(6)
	for range 100 {
		a, b := drawnTag(from), drawnTag(from)
		for _, x := range [][2]api.Tag{{a, b}, {b, a}, {a, a}, {a, {}}, {{}, a}} {
			if l, r := tags.Split(tags.Join(x[0], x[1])); l != x[0] || r != x[1] {
				t.Errorf("Split(Join(%x, %x)): %x, %x", x[0], x[1], l, r)
			}
		}
	}
}

// P17.2, P17.3: a node's tag is of both children's, each in its place.
func TestANodeIsOfItsChildren(t *testing.T) {
	k, left, right := countingKey(), countingTag(1), countingTag(100)
	own := tags.Node(k, 1, tags.Join(left, right))
	if want := published(k, row('N', laid(8, 1), append(left[:], right[:]...))); own != want {
		t.Errorf("%x, want %x", own, want)
	}
	for _, s := range []api.Sector{tags.Join(right, left), tags.Join(left, left), tags.Join(right, right), tags.Join(left, api.Tag{})} {
		if tags.Node(k, 1, s) == own {
			t.Errorf("the node of %x has that tag too", s)
		}
	}
}

// messages are those of many numbers, sectors and bytes, all unlike in their domains or in a part.
func messages() [][]byte {
	var l [][]byte
	some := numbers()
	slices.Sort(some)
	some = slices.Compact(some)
	for _, kind := range sectorKinds() {
		for _, number := range some {
			l = append(l, kind.text(number, api.Sector{}))
		}
		for _, s := range sectors() {
			l = append(l, kind.text(1<<40+1<<20, s))
		}
	}
	lists := byteLists()
	slices.SortFunc(lists, slices.Compare[[]byte])
	lists = slices.CompactFunc(lists, slices.Equal[[]byte])
	for _, kind := range bytesKinds() {
		for _, b := range lists {
			l = append(l, kind.text(b))
		}
	}
	return l
}

// P17.4: no two of many messages are the same, nor does one begin another one.
func TestMessagesAreApart(t *testing.T) {
	all := messages()
	slices.SortFunc(all, slices.Compare[[]byte])
	for i, m := range all[1:] {
		// Sorted, the bytes that one begins stand right behind it.
		if ahead := all[i]; len(m) >= len(ahead) && slices.Equal(m[:len(ahead)], ahead) {
			t.Errorf("%x begins with, or is, %x", m, ahead)
		}
	}
}

// P17.4: from each message its domain and its parts are read back: so unlike ones never have one message.
func TestMessagesAreReadBack(t *testing.T) {
	from := source(7)
	for _, number := range numbers() {
		s := drawnSector(from)
		for _, kind := range sectorKinds() {
			domain, parts, e := bytes.Parts(kind.text(number, s))
			if e != api.OK || domain != kind.domain || len(parts) != 2 || !slices.Equal(parts[0], laid(8, number)) || !slices.Equal(parts[1], s[:]) {
				t.Errorf("%c, %d, %x: %c, %x, %d", kind.domain, number, s, domain, parts, e)
			}
		}
	}
	for _, b := range byteLists() {
		for _, kind := range bytesKinds() {
			domain, parts, e := bytes.Parts(kind.text(b))
			if e != api.OK || domain != kind.domain || len(parts) != 1 || !slices.Equal(parts[0], b) {
				t.Errorf("%c, %x: %c, %x, %d", kind.domain, b, domain, parts, e)
			}
		}
	}
}

// P17.4: each byte of a sector, of a number and of bytes changes the message, and that in one place alone.
func TestEachBitIsInTheMessage(t *testing.T) {
	from := source(8)
	s, number, b := drawnSector(from), int(from.Uint64()), drawn(from, 70)
	for _, kind := range sectorKinds() {
		own := kind.text(number, s)
		for bit := range 64 {
			checkOneByteApart(t, own, kind.text(number^(1<<bit), s), 6+7-bit/8)
		}
		for i := range s {
			other := s
			other[i] ^= 1 << (i % 8)
			checkOneByteApart(t, own, kind.text(number, other), 18+i)
		}
	}
	for _, kind := range bytesKinds() {
		own := kind.text(b)
		for i := range b {
			other := slices.Clone(b)
			other[i] ^= 1 << (i % 8)
			checkOneByteApart(t, own, kind.text(other), 6+i)
		}
	}
}

// checkOneByteApart holds that two messages are unlike in the byte at a place alone.
func checkOneByteApart(t *testing.T, own, other []byte, place int) {
	t.Helper()
	if len(own) != len(other) {
		t.Fatalf("%x and %x are not of one length", own, other)
	}
	for i := range own {
		if (own[i] != other[i]) != (i == place) {
			t.Errorf("%x and %x: the byte %d", own, other, i)
		}
	}
}

// P17.5, R4: bytes that are handed in stay as they are, those behind them too.
func TestNothingHandedInIsChanged(t *testing.T) {
	room := rising(0, 200)
	for n := range 100 {
		b := room[50 : 50+n]
		checkPlain(t, countingKey(), b)
		tags.Of(countingKey(), b)
		if !slices.Equal(room, rising(0, 200)) {
			t.Fatalf("of %d bytes: these, or others, are now %x", n, room)
		}
	}
	k, s, left, right := countingKey(), countingSector(), countingTag(0), countingTag(32)
	checkNumbered(t, k, 5, s)
	tags.Split(s)
	tags.Join(left, right)
	if k != countingKey() || s != countingSector() || left != countingTag(0) || right != countingTag(32) {
		t.Error("a key, a sector or a tag is changed")
	}
}

// overwrite fills an answer's memory, as far as it goes.
func overwrite(b []byte) {
	b = b[:cap(b)]
	for i := range b {
		b[i] = 0xEE
	}
}

// P17.5, R4: what becomes of bytes that were handed in changes no message, and what becomes of a message changes neither these nor another message.
func TestMessagesAreNewMemory(t *testing.T) {
	b, s := []byte("casemate"), countingSector()
	for _, kind := range bytesKinds() {
		handed := slices.Clone(b)
		first, second := kind.text(handed), kind.text(handed)
		overwrite(handed)
		if want := row(kind.domain, b); string(first) != want || string(second) != want {
			t.Errorf("%c: with the bytes, a message has changed", kind.domain)
		}
		handed = slices.Clone(b)
		overwrite(kind.text(handed))
		overwrite(first)
		if string(second) != row(kind.domain, b) || !slices.Equal(handed, b) {
			t.Errorf("%c: with a message, the bytes or another message have changed", kind.domain)
		}
		checkPlain(t, countingKey(), b)
	}
	for _, kind := range sectorKinds() {
		first, second := kind.text(5, s), kind.text(5, s)
		overwrite(first)
		if string(second) != paperNumbered(kind.domain, 5, s) || s != countingSector() {
			t.Errorf("%c: with a message, the sector or another message have changed", kind.domain)
		}
		checkNumbered(t, countingKey(), 5, s)
	}
}

// answer is what several calls tell of a number.
type answer struct {
	texts       string
	a, b, c     api.Tag
	left, right api.Tag
}

// answers asks about many numbers, from the place start on, round.
func answers(start int) []answer {
	const many = 100
	told := make([]answer, many)
	for step := range many {
		n := (start + step) % many
		k, b := api.Key{byte(n), 31: byte(n % 3)}, rising(byte(n), n)
		s := tags.Join(tags.Leaf(k, n, api.Sector{byte(n)}), tags.Head(k, b))
		told[n] = answer{texts: string(slices.Concat(tags.LeafText(n, s), tags.NodeText(-n, s), tags.RootText(b), tags.HeadText(b), tags.BodyText(b)))}
		told[n].a, told[n].b, told[n].c = tags.Node(k, -n, s), tags.Label(k, b), tags.Body(k, b)
		told[n].left, told[n].right = tags.Split(s)
	}
	return told
}

// R6: what was asked ahead, or is asked meanwhile, changes no answer.
func TestAnswersHangOnArgumentsAlone(t *testing.T) {
	want := answers(0)
	told := make([][]answer, 4)
	var all sync.WaitGroup
	for i := range told {
		all.Go(func() { told[i] = answers(i*23 + 1) })
	}
	all.Wait()
	for i := range told {
		if !slices.Equal(told[i], want) {
			t.Errorf("asked in order %d the answers are others", i)
		}
	}
}

// P17.5, R1: no number, no sector and no bytes, be they none or many, make a call panic.
func TestNoCallPanics(t *testing.T) {
	from := source(9)
	many := drawn(from, 1<<25)
	for _, b := range [][]byte{nil, {}, many[:0:0], many[:1<<20], many} {
		for _, kind := range bytesKinds() {
			if got := kind.text(b); len(got) != 6+len(b) {
				t.Errorf("%c, %d bytes: %d bytes", kind.domain, len(b), len(got))
			}
			kind.tag(api.Key{}, b)
		}
		tags.Of(fullKey(), b)
	}
	for _, number := range numbers() {
		for _, kind := range sectorKinds() {
			kind.text(number, fullSector())
			kind.tag(api.Key{}, number, api.Sector{})
		}
	}
	tags.Split(tags.Join(api.Tag{}, api.Tag{}))
}

// R2, R3, R5, R7: the calls of tags have no error, are no methods, tell no whole numbers as texts, and no promise of it says that unlike messages have unlike tags; so there is nothing that these rules could be broken by. (That it hands out nothing else, and keeps nothing, is held in the folder layers.)
func TestCallsAreAsListed(t *testing.T) {
	var (
		_, _    func(number int, s api.Sector) []byte             = tags.LeafText, tags.NodeText
		_, _, _ func(b []byte) []byte                             = tags.RootText, tags.HeadText, tags.BodyText
		_       func(k api.Key, text []byte) api.Tag              = tags.Of
		_, _    func(k api.Key, number int, s api.Sector) api.Tag = tags.Leaf, tags.Node
		_, _, _ func(k api.Key, b []byte) api.Tag                 = tags.Label, tags.Head, tags.Body
		_       func(left, right api.Tag) api.Sector              = tags.Join
		_       func(s api.Sector) (left, right api.Tag)          = tags.Split
	)
}
