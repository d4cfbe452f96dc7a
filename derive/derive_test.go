package derive_test

import (
	library "crypto/hmac"
	"crypto/sha256"
	"encoding/binary"
	"encoding/hex"
	"math/rand/v2"
	"slices"
	"strings"
	"sync"
	"testing"

	"casemate/api"
	"casemate/bytes"
	"casemate/derive"
	"casemate/hmac"
)

// source draws the same keys and labels at each run.
func source(seed byte) *rand.ChaCha8 {
	return rand.NewChaCha8([32]byte{seed})
}

// drawKey is the next key of a source.
func drawKey(from *rand.ChaCha8) (k api.Key) {
	from.Read(k[:])
	return k
}

// drawLabel is the next n bytes of a source, as a label.
func drawLabel(from *rand.ChaCha8, n int) string {
	b := make([]byte, n)
	from.Read(b)
	return string(b)
}

// counting is the key 00 01 02 .. 1f.
func counting() (k api.Key) {
	for i := range k {
		k[i] = byte(i)
	}
	return k
}

// full is the key of 32 bytes ff.
func full() (k api.Key) {
	for i := range k {
		k[i] = 0xFF
	}
	return k
}

// message is a label's message by the chapters' words: a row of the domain D with one part.
func message(label string) []byte {
	row := binary.BigEndian.AppendUint32([]byte{0x44, 1}, uint32(len(label)))
	return append(row, label...)
}

// published is the tag by Go's own library, as a key.
func published(k api.Key, message []byte) (tag api.Key) {
	mac := library.New(sha256.New, k[:])
	mac.Write(message)
	copy(tag[:], mac.Sum(nil))
	return tag
}

// paper is the key of a label by the chapter's words, by Go's own library.
func paper(k api.Key, label string) api.Key {
	return published(k, message(label))
}

// paperSet is the keys of an array likewise.
func paperSet(k api.Key) derive.Set {
	return derive.Set{Tree: paper(k, "tree"), Root: paper(k, "root"), Head: paper(k, "head")}
}

// keys are those of bytes 0, 1 and ff, of unlike bytes, of one bit alone, of bytes 0 at an end, and drawn ones.
func keys() []api.Key {
	l := []api.Key{{}, counting(), full(), {5, 31: 6}, {1, 2, 3}, {29: 3, 30: 2, 31: 1}}
	for bit := range 256 {
		var one api.Key
		one[bit/8] = 1 << (bit % 8)
		l = append(l, one)
	}
	from := source(1)
	for range 50 {
		l = append(l, drawKey(from))
	}
	return l
}

// likeOnes are labels that are easily taken for each other: by case, by ends, by bytes 0, by how many they are, and by what looks like a row, or a part of one.
func likeOnes() []string {
	l := []string{
		"tree", "root", "head", "data", "tweak", "Tree", "TREE", "tre", "trees", "ree", " tree", "tree ", "tree\n", "\"tree\"", "treeroot", "roothead", "tr\x00ee",
		"slot", "slot pad 0", "slot pad 1", "slot pad 10", "slot pad 00", "slot pad", "slot seal 0", "volume pad 0", "slotpad 0", "slot  pad 0",
		"é", "e\u0301", "\xc3", "\xa9", "\xff\xfe", "\ufffd", "\xed\xa0\x80",
		"D", "\x44\x01", "\x44\x00", "\x44\x02", "\x4c\x01\x00\x00\x00\x00",
		string(message("")), string(message("tree")), string(message("tree"))[2:], string(message("tree"))[:6], string(message(string(message("")))),
	}
	for n := range 70 {
		l = append(l, strings.Repeat("\x00", n), "tree"+strings.Repeat("\x00", n+1), strings.Repeat("a", n+1))
	}
	slices.Sort(l)
	return slices.Compact(l)
}

// shortOnes are all labels of one byte, and those of two of some bytes.
func shortOnes() []string {
	var l []string
	some := []byte{0, 1, 2, 4, 'D', 'L', 'a', 0x7F, 0x80, 0xFF}
	for c := range 256 {
		l = append(l, string([]byte{byte(c)}))
	}
	for _, a := range some {
		for _, b := range some {
			l = append(l, string([]byte{a, b}))
		}
	}
	return l
}

// checkSub holds what Sub tells against the paper.
func checkSub(t *testing.T, k api.Key, label string) {
	t.Helper()
	if got, want := derive.Sub(k, label), paper(k, label); got != want {
		t.Errorf("under %x, of %.40q, %d bytes: %x, want %x", k, label, len(label), got, want)
	}
}

// checkSets holds what Of and Pair tell against the paper.
func checkSets(t *testing.T, k api.Key) {
	t.Helper()
	if got, want := derive.Of(k), paperSet(k); got != want {
		t.Errorf("Of(%x): %x, want %x", k, got, want)
	}
	data, tweak := derive.Pair(k)
	if data != paper(k, "data") || tweak != paper(k, "tweak") {
		t.Errorf("Pair(%x): %x and %x", k, data, tweak)
	}
}

// fixed are keys of labels that were found outside of the project, by Python's HMAC; the first one by OpenSSL's too.
func fixed() []struct {
	k           api.Key
	label, want string
} {
	return []struct {
		k           api.Key
		label, want string
	}{
		{api.Key{}, "", "74670097ebef0df1d444373675f31aef79b277bc85b230a3aa275b467e118a30"},
		{api.Key{}, "tree", "26da88fc4524d643c47936f54b90337a39c59522e511c5499ffa3af60f53c9da"},
		{api.Key{}, strings.Repeat("a", 256), "00dc3d63f144852920f41df2ff658f541683b93f498a93193f0bc99b53359ff7"},
		{counting(), "", "bc376076a484ec78c4bfb1609c80ebe1e9845d76800034690c59f0f27acac0e8"},
		{counting(), "tree", "8bc8c905cb357702e753f55e0f1d981264ebb43264da6ad98275c8ced8bfa2fe"},
		{counting(), "root", "9e7b6a0ad5f36dbc76663b2c48dd9c60472b4a00501931ed087c16ff8f0f9eca"},
		{counting(), "head", "f576aa451bfc14931cc2c235f201a5b3dade1c065c7a624d8213b4552b0eeb9a"},
		{counting(), "data", "5e4eb352bc6dcce9c67124f9f182b3aa6798860e74acf94a829693782d32359e"},
		{counting(), "tweak", "57046028aeb664270ecd3b995b55d2eeb8483241ca5575af7376976332601d44"},
		{counting(), "slot pad 0", "c72fdc0317a27c04385b6f7f1b625e1cdb1e0ad7b866ea1f4a0d543e4066c246"},
		{full(), "", "a24240a538eadf2b3b835a25b454a3eb591430cc1b735e618484d1ae23b82d37"},
		{full(), "root", "af2f46b464d5f8d90b091874a6f7c12cf130b1487a4530e35a030be3daac1e0a"},
	}
}

// P9.1
func TestSubExamples(t *testing.T) {
	for _, x := range fixed() {
		got := derive.Sub(x.k, x.label)
		if hex.EncodeToString(got[:]) != x.want {
			t.Errorf("under %x, of %.40q: %x, want %s", x.k, x.label, got, x.want)
		}
	}
}

// P9.1: the chapter's example: of nothing, the tag of 44 01 00 00 00 00.
func TestSubOfNothing(t *testing.T) {
	for _, k := range keys() {
		want := api.Key(hmac.Of(k[:], []byte{0x44, 1, 0, 0, 0, 0}))
		if got := derive.Sub(k, ""); got != want {
			t.Errorf("under %x: %x, want %x", k, got, want)
		}
	}
}

// P9.1: under keys of all kinds.
func TestSubUnderAllKeys(t *testing.T) {
	for _, k := range keys() {
		for _, label := range []string{"", "a", "tree", "slot seal 1", "\x00"} {
			checkSub(t, k, label)
		}
	}
}

// P9.1: a label's bytes are whatever they are.
func TestSubOfAnyBytes(t *testing.T) {
	for _, label := range slices.Concat(likeOnes(), shortOnes()) {
		checkSub(t, counting(), label)
		checkSub(t, api.Key{}, label)
	}
}

// P9.1: of all lengths around the blocks' ends, and where each byte of the number of bytes begins anew.
func TestSubOfAllLengths(t *testing.T) {
	from := source(2)
	k := drawKey(from)
	for n := range 600 {
		checkSub(t, k, drawLabel(from, n))
	}
	for _, n := range []int{1<<16 - 1, 1 << 16, 1<<16 + 1, 1<<24 - 1, 1 << 24, 1<<24 + 258} {
		checkSub(t, k, drawLabel(from, n))
	}
}

// P9.2: the chapter's examples.
func TestOfAndPairExamples(t *testing.T) {
	k := counting()
	set := derive.Of(k)
	data, tweak := derive.Pair(k)
	for _, x := range []struct {
		label string
		got   api.Key
		want  string
	}{
		{"tree", set.Tree, "8bc8c905cb357702e753f55e0f1d981264ebb43264da6ad98275c8ced8bfa2fe"},
		{"root", set.Root, "9e7b6a0ad5f36dbc76663b2c48dd9c60472b4a00501931ed087c16ff8f0f9eca"},
		{"head", set.Head, "f576aa451bfc14931cc2c235f201a5b3dade1c065c7a624d8213b4552b0eeb9a"},
		{"data", data, "5e4eb352bc6dcce9c67124f9f182b3aa6798860e74acf94a829693782d32359e"},
		{"tweak", tweak, "57046028aeb664270ecd3b995b55d2eeb8483241ca5575af7376976332601d44"},
	} {
		if hex.EncodeToString(x.got[:]) != x.want {
			t.Errorf("%s: %x, want %s", x.label, x.got, x.want)
		}
		if sub := derive.Sub(k, x.label); x.got != sub {
			t.Errorf("%s: %x, but Sub tells %x", x.label, x.got, sub)
		}
	}
}

// P9.2
func TestOfAndPairUnderAllKeys(t *testing.T) {
	for _, k := range keys() {
		checkSets(t, k)
	}
}

// P9.2: the five keys of one key, and those of keys that differ in one bit, are five and five unlike ones.
func TestKeysForUnlikeUsesAreUnlike(t *testing.T) {
	found := map[api.Key]bool{}
	all := keys()
	for _, k := range all {
		set := derive.Of(k)
		data, tweak := derive.Pair(k)
		for _, sub := range []api.Key{k, set.Tree, set.Root, set.Head, data, tweak} {
			found[sub] = true
		}
	}
	if len(found) != 6*len(all) {
		t.Errorf("%d unlike ones of %d", len(found), 6*len(all))
	}
}

// P9.3: the messages of unlike labels are unlike, so are their keys here; and from its message a label is read back.
func TestLabelsAreNeverMixedUp(t *testing.T) {
	labels := slices.Concat(likeOnes(), shortOnes())
	slices.Sort(labels)
	labels = slices.Compact(labels)
	messages, told := map[string]bool{}, map[api.Key]bool{}
	k := counting()
	for _, label := range labels {
		m := message(label)
		messages[string(m)] = true
		sub := derive.Sub(k, label)
		told[sub] = true
		if sub != api.Key(hmac.Of(k[:], m)) {
			t.Errorf("of %q: its key is not the tag of its message", label)
		}
		domain, parts, e := bytes.Parts(m)
		if e != api.OK || domain != 'D' || len(parts) != 1 || string(parts[0]) != label {
			t.Errorf("the message of %q is read as %q, %q, %d", label, domain, parts, e)
		}
	}
	if len(messages) != len(labels) || len(told) != len(labels) {
		t.Errorf("%d labels have %d messages, %d keys", len(labels), len(messages), len(told))
	}
}

// P9.3: the message of no row of another domain, or of the domain D with other parts, is a label's.
func TestNoOtherRowIsALabels(t *testing.T) {
	k := counting()
	own := derive.Sub(k, "tree")
	for domain := range 256 {
		for many := range 4 {
			parts := slices.Repeat([][]byte{[]byte("tree")}, many)
			row, e := bytes.Row(byte(domain), parts...)
			if e != api.OK {
				t.Fatalf("a row of %d parts: %d", many, e)
			}
			isLabels := domain == 'D' && many == 1
			if (string(row) == string(message("tree"))) != isLabels || (published(k, row) == own) != isLabels {
				t.Errorf("the row of the domain %d with %d parts is taken for the label's, or the label's is not", domain, many)
			}
		}
	}
	if own == published(k, []byte("tree")) {
		t.Error("the label's bytes alone are its message")
	}
}

// P9.4, R1: labels of any bytes, of none, and of many.
func TestNoCallPanics(t *testing.T) {
	from := source(3)
	for n := range 300 {
		k := drawKey(from)
		derive.Sub(k, drawLabel(from, n))
		derive.Of(k)
		derive.Pair(k)
	}
	derive.Sub(api.Key{}, strings.Repeat("\xff", 1<<26))
	derive.Sub(full(), drawLabel(from, 1<<20)[1<<19:])
}

// R4: what becomes of a key, or of what was told, changes no answer.
func TestNothingIsKept(t *testing.T) {
	k := counting()
	sub, set := derive.Sub(k, "tree"), derive.Of(k)
	data, tweak := derive.Pair(k)
	if k != counting() {
		t.Errorf("the key is now %x", k)
	}
	clear(k[:])
	if sub != paper(counting(), "tree") || set != paperSet(counting()) || data != paper(counting(), "data") || tweak != paper(counting(), "tweak") {
		t.Error("with the key, what was told ahead has changed")
	}
	for _, told := range []*api.Key{&sub, &set.Tree, &set.Root, &set.Head, &data, &tweak} {
		clear(told[:])
	}
	checkSub(t, counting(), "tree")
	checkSets(t, counting())
	checkSets(t, k)
}

// answers asks for the keys of many keys, from the place start on, round.
func answers(start int) [][4]api.Key {
	const many = 120
	told := make([][4]api.Key, many)
	for step := range many {
		n := (start + step) % many
		k := api.Key{byte(n), 31: byte(n % 3)}
		data, tweak := derive.Pair(k)
		set := derive.Of(k)
		told[n] = [4]api.Key{derive.Sub(k, strings.Repeat("x", n)), data, tweak, derive.Sub(set.Tree, string(append(set.Root[:], set.Head[:]...)))}
	}
	return told
}

// R6: what was asked ahead, or is asked meanwhile, changes no answer.
func TestAnswersHangOnArgumentsAlone(t *testing.T) {
	want := answers(0)
	told := make([][][4]api.Key, 4)
	var all sync.WaitGroup
	for i := range told {
		all.Go(func() { told[i] = answers(i*29 + 1) })
	}
	all.Wait()
	for i := range told {
		if !slices.Equal(told[i], want) {
			t.Errorf("asked in order %d the answers are others", i)
		}
	}
}

// R2, R3, R5, R7: derive's calls have no error, are no methods, tell no whole numbers as texts, and no promise of it says that unlike labels have unlike keys (their messages are unlike); so there is nothing that these rules could be broken by. (That it hands out nothing else, and keeps nothing, is held in the folder layers.)
func TestCallsAreOnKeysAndLabels(t *testing.T) {
	var (
		_ func(k api.Key, label string) api.Key      = derive.Sub
		_ func(array api.Key) derive.Set             = derive.Of
		_ func(volume api.Key) (data, tweak api.Key) = derive.Pair
		_ struct{ Tree, Root, Head api.Key }         = derive.Set{}
	)
}
