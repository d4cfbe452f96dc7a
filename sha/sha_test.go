package sha_test

import (
	"bytes"
	"crypto/hmac"
	"crypto/sha256"
	"encoding"
	"encoding/binary"
	"encoding/hex"
	"math/rand/v2"
	"slices"
	"strings"
	"sync"
	"testing"

	"casemate/api"
	"casemate/sha"
)

// mixed is n bytes of all kinds, the same ones for the same n and seed.
func mixed(n int, seed uint64) []byte {
	draw := rand.New(rand.NewPCG(seed, uint64(n)))
	b := make([]byte, n)
	for i := range b {
		b[i] = byte(draw.Uint32())
	}
	return b
}

// published is the digest by Go's own library.
func published(b []byte) api.Tag {
	return sha256.Sum256(b)
}

// ahead is the prefix of b, which is whole blocks.
func ahead(t *testing.T, b []byte) sha.Prefix {
	t.Helper()
	p, e := sha.Ahead(b)
	if e != api.OK {
		t.Fatalf("Ahead of %d bytes: %d", len(b), e)
	}
	return p
}

// more is the prefix of p's bytes and b, which is whole blocks.
func more(t *testing.T, p sha.Prefix, b []byte) sha.Prefix {
	t.Helper()
	longer, e := p.More(b)
	if e != api.OK {
		t.Fatalf("More of %d bytes: %d", len(b), e)
	}
	return longer
}

// P3.1, P9: the chapter's examples, and those that are published with the standard.
func TestSumExamples(t *testing.T) {
	for _, x := range []struct{ b, want string }{
		{"", "e3b0c442 98fc1c14 9afbf4c8 996fb924 27ae41e4 649b934c a495991b 7852b855"},
		{"abc", "ba7816bf 8f01cfea 414140de 5dae2223 b00361a3 96177a9c b410ff61 f20015ad"},
		{"abcdbcdecdefdefgefghfghighijhijkijkljklmklmnlmnomnopnopq", "248d6a61 d20638b8 e5c02693 0c3e6039 a33ce459 64ff2167 f6ecedd4 19db06c1"},
		{"abcdefghbcdefghicdefghijdefghijkefghijklfghijklmghijklmnhijklmnoijklmnopjklmnopqklmnopqrlmnopqrsmnopqrstnopqrstu", "cf5b16a7 78af8380 036ce59e 7b049237 0b249b11 e8f07a51 afac4503 7afee9d1"},
		{strings.Repeat("a", 1000000), "cdc76e5c 9914fb92 81a1c7e2 84d73e67 f1809a48 a497200e 046d39cc c7112cd0"},
	} {
		if got, want := sha.Text(sha.Sum([]byte(x.b))), strings.ReplaceAll(x.want, " ", ""); got != want {
			t.Errorf("of %d bytes: %s, want %s", len(x.b), got, want)
		}
	}
}

// P3.1, P9: all lengths around many blocks' ends, where the tail takes one block or two.
func TestSumOfAllLengths(t *testing.T) {
	for n := range 600 {
		for seed := range uint64(4) {
			b := mixed(n, seed)
			if got, want := sha.Sum(b), published(b); got != want {
				t.Fatalf("of %d bytes: %x, want %x", n, got, want)
			}
		}
		for _, c := range []byte{0, 0x80, 0xff} {
			b := bytes.Repeat([]byte{c}, n)
			if got, want := sha.Sum(b), published(b); got != want {
				t.Fatalf("of %d bytes %d: %x, want %x", n, c, got, want)
			}
		}
	}
}

// P3.1: so many bits that their number takes two, three and four bytes.
func TestSumOfLongBytes(t *testing.T) {
	for _, n := range []int{1<<13 - 1, 1 << 13, 1<<13 + 1, 1 << 16, 1<<21 - 1, 1 << 21, 1<<21 + 55, 1<<21 + 56, 3000001} {
		b := mixed(n, 1)
		if got, want := sha.Sum(b), published(b); got != want {
			t.Errorf("of %d bytes: %x, want %x", n, got, want)
		}
	}
}

// resumed is the published digest of size bytes, passes over which told these numbers, and rest.
func resumed(t *testing.T, told [8]uint32, size int, rest []byte) (digest api.Tag) {
	state := []byte("sha\x03")
	for _, n := range told {
		state = binary.BigEndian.AppendUint32(state, n)
	}
	state = append(state, make([]byte, 64)...)
	state = binary.BigEndian.AppendUint64(state, uint64(size))
	h := sha256.New()
	if err := h.(encoding.BinaryUnmarshaler).UnmarshalBinary(state); err != nil {
		t.Fatal(err)
	}
	h.Write(rest)
	copy(digest[:], h.Sum(nil))
	return digest
}

// P3.1, P3.2: sizes up to the greatest one that is promised, at which the number of bits takes more than four bytes.
func TestSumBehindHugeSizes(t *testing.T) {
	told := [8]uint32{1, 2, 3, 1 << 31, 5, 6, 7, 1<<32 - 1}
	for _, size := range []int{64, 1 << 13, 1 << 21, 1<<28 - 64, 1 << 28, 1<<29 - 64, 1 << 29, 1 << 30, 1<<31 - 192, 0x12345640} {
		p := sha.Resumed(told, size)
		for _, n := range []int{0, 1, 55, 56, 63, 64, 119, 127} {
			rest := mixed(n, 2)
			if got, want := p.Sum(rest), resumed(t, told, size, rest); got != want {
				t.Errorf("of %d bytes behind %d: %x, want %x", n, size, got, want)
			}
		}
		longer := more(t, p, mixed(64, 3))
		rest := mixed(63, 4)
		if got, want := longer.Sum(rest), resumed(t, told, size, append(mixed(64, 3), rest...)); got != want || longer.Size() != size+64 {
			t.Errorf("of a block more behind %d: %x, want %x", size, got, want)
		}
	}
}

// P3.1: no bytes are no bytes, whether the list is nil or empty.
func TestNilIsNoBytes(t *testing.T) {
	if sha.Sum(nil) != sha.Sum([]byte{}) {
		t.Error("Sum")
	}
	one, e := sha.Ahead(nil)
	other, f := sha.Ahead([]byte{})
	if one != other || e != api.OK || f != api.OK {
		t.Errorf("Ahead: %d, %d", e, f)
	}
	if one.Sum(nil) != published(nil) || one.Size() != 0 {
		t.Error("Sum or Size of the prefix of none")
	}
}

// P3.2
func TestAheadExamples(t *testing.T) {
	if p, e := sha.Ahead(mixed(63, 1)); e != api.ErrArg || p != (sha.Prefix{}) {
		t.Errorf("of 63 bytes: %d", e)
	}
	p := ahead(t, mixed(64, 1))
	if p.Size() != 64 {
		t.Errorf("of 64 bytes: Size %d", p.Size())
	}
	if longer := more(t, p, mixed(64, 2)); longer.Size() != 128 {
		t.Errorf("of 64 bytes more: Size %d", longer.Size())
	}
	if ahead(t, nil).Sum([]byte("abc")) != sha.Sum([]byte("abc")) {
		t.Error("of nothing: its Sum of abc")
	}
}

// P3.2, R2: whole blocks alone have a prefix; beside the error there is none.
func TestAheadAndMoreOfAllLengths(t *testing.T) {
	some := ahead(t, mixed(128, 1))
	for n := range 300 {
		b := mixed(n, 2)
		p, e := sha.Ahead(b)
		longer, f := some.More(b)
		if n%64 != 0 {
			if e != api.ErrArg || f != api.ErrArg || p != (sha.Prefix{}) || longer != (sha.Prefix{}) {
				t.Errorf("of %d bytes: %d, %d, or a prefix", n, e, f)
			}
			continue
		}
		if e != api.OK || p.Size() != n || p.Sum(nil) != published(b) {
			t.Errorf("Ahead of %d bytes: %d, size %d", n, e, p.Size())
		}
		if f != api.OK || longer.Size() != n+128 || longer.Sum(nil) != published(append(mixed(128, 1), b...)) {
			t.Errorf("More of %d bytes: %d, size %d", n, f, longer.Size())
		}
	}
}

// P3.2: the rest, of whatever length, behind whatever prefix.
func TestSumOfAPrefixAndTheRest(t *testing.T) {
	all := mixed(700, 3)
	for n := 0; n <= 320; n += 64 {
		p := ahead(t, all[:n])
		for k := n; k <= len(all); k++ {
			if got, want := p.Sum(all[n:k]), published(all[:k]); got != want {
				t.Fatalf("%d bytes, cut at %d: %x, want %x", k, n, got, want)
			}
		}
	}
}

// P3.2, R3: what neither Ahead nor More told, be it what they answer beside an error; ErrNil is named ahead of ErrArg.
func TestNoPrefix(t *testing.T) {
	short, _ := sha.Ahead(mixed(1, 1))
	torn, _ := ahead(t, mixed(64, 1)).More(mixed(65, 1))
	ofNone, _ := sha.Prefix{}.More(mixed(64, 1))
	for i, p := range []sha.Prefix{{}, *new(sha.Prefix), short, torn, ofNone} {
		for _, n := range []int{0, 1, 63, 64, 65, 128} {
			b := mixed(n, 2)
			if longer, e := p.More(b); e != api.ErrNil || longer != (sha.Prefix{}) {
				t.Errorf("%d: More of %d bytes: %d", i, n, e)
			}
			if got := p.Sum(b); got != (api.Tag{}) {
				t.Errorf("%d: Sum of %d bytes: %x", i, n, got)
			}
		}
		if p.Size() != 0 {
			t.Errorf("%d: Size %d", i, p.Size())
		}
	}
}

// P3.3
func TestText(t *testing.T) {
	for seed := range uint64(100) {
		tag := api.Tag(mixed(32, seed))
		if got, want := sha.Text(tag), hex.EncodeToString(tag[:]); got != want {
			t.Errorf("%s, want %s", got, want)
		}
	}
	if got := sha.Text(api.Tag{}); got != strings.Repeat("0", 64) {
		t.Errorf("of noughts: %s", got)
	}
	if got := sha.Text(api.Tag{0: 0x01, 1: 0x23, 2: 0x45, 3: 0x67, 4: 0x89, 5: 0xab, 6: 0xcd, 7: 0xef, 31: 0xf0}); got != "0123456789abcdef"+strings.Repeat("0", 46)+"f0" {
		t.Errorf("of all digits: %s", got)
	}
}

// P3.3
func TestOf(t *testing.T) {
	for seed := range uint64(100) {
		want := api.Tag(mixed(32, seed))
		if got, ok := sha.Of(hex.EncodeToString(want[:])); got != want || !ok {
			t.Errorf("%x, %t, want %x", got, ok, want)
		}
	}
	if got, ok := sha.Of(strings.Repeat("0", 64)); got != (api.Tag{}) || !ok {
		t.Errorf("of noughts: %x, %t", got, ok)
	}
}

// P3.3, R2: texts of other lengths; an error's tag is the zero one.
func TestOfOtherLengths(t *testing.T) {
	for n := range 200 {
		got, ok := sha.Of(strings.Repeat("7", n))
		if n != 64 && (ok || got != (api.Tag{})) {
			t.Errorf("of %d digits: %x, %t", n, got, ok)
		}
	}
	for _, s := range []string{" " + strings.Repeat("7", 64), strings.Repeat("7", 64) + "\n", "0x" + strings.Repeat("7", 64), "0x" + strings.Repeat("7", 62), strings.Repeat("7", 1<<20)} {
		if got, ok := sha.Of(s); ok || got != (api.Tag{}) {
			t.Errorf("of %d bytes: %x, %t", len(s), got, ok)
		}
	}
}

// P3.3, R2: at each place, each byte that is no digit of this text.
func TestOfOtherDigits(t *testing.T) {
	for place := range 64 {
		for c := range 256 {
			text := []byte(strings.Repeat("7", 64))
			text[place] = byte(c)
			got, ok := sha.Of(string(text))
			digit := c >= '0' && c <= '9' || c >= 'a' && c <= 'f'
			if ok != digit {
				t.Errorf("byte %d at %d: %t", c, place, ok)
			}
			if !digit && got != (api.Tag{}) {
				t.Errorf("byte %d at %d: %x", c, place, got)
			}
		}
	}
	if got, ok := sha.Of(strings.Repeat("7", 63) + "X"); ok || got != (api.Tag{}) {
		t.Errorf("with an X: %x, %t", got, ok)
	}
	// As many bytes, or as many letters, but no digits.
	for _, s := range []string{strings.Repeat("é", 32), strings.Repeat("é", 64), strings.Repeat("\x00", 64), strings.ToUpper(strings.Repeat("a", 64))} {
		if got, ok := sha.Of(s); ok || got != (api.Tag{}) {
			t.Errorf("%q: %x, %t", s, got, ok)
		}
	}
}

// P3.4: what a prefix is asked changes nothing about it.
func TestAPrefixIsUsedOften(t *testing.T) {
	all := mixed(1000, 4)
	p := ahead(t, all[:192])
	before := p
	for round := range 3 {
		for _, n := range []int{800, 0, 1, 64, 63, 400, 128} {
			if p.Sum(all[192:192+n]) != published(all[:192+n]) {
				t.Errorf("time %d: Sum of %d", round, n)
			}
			p.More(all[192 : 192+n])
		}
		if p != before || p.Size() != 192 {
			t.Fatalf("time %d: the prefix is another one", round)
		}
	}
	// Two that go on from it in unlike ways know nothing of each other.
	one, other := more(t, p, all[:64]), more(t, p, all[64:128])
	if one.Sum(nil) != published(append(slices.Clone(all[:192]), all[:64]...)) || other.Sum(nil) != published(append(slices.Clone(all[:192]), all[64:128]...)) {
		t.Error("two that go on from one prefix")
	}
}

// P3.4
func TestTwoMoreAreOneOfBoth(t *testing.T) {
	all := mixed(10*64, 5)
	for i := 0; i <= 10; i++ {
		for k := i; k <= 10; k++ {
			first, second, third := all[:64*i], all[64*i:64*k], all[64*k:]
			whole := ahead(t, all)
			steps := more(t, more(t, ahead(t, first), second), third)
			both := more(t, ahead(t, first), all[64*i:])
			if steps != whole || both != whole {
				t.Fatalf("cut at %d and %d: the prefixes are unlike", i, k)
			}
			for _, n := range []int{0, 5, 64, 77} {
				rest := mixed(n, 6)
				want := published(append(slices.Clone(all), rest...))
				if steps.Sum(rest) != want || both.Sum(rest) != want {
					t.Fatalf("cut at %d and %d: Sum of %d", i, k, n)
				}
			}
		}
	}
}

// keyed is a key's block, each byte added to c.
func keyed(key []byte, c byte) []byte {
	block := bytes.Repeat([]byte{c}, 64)
	for i := range key {
		block[i] ^= key[i]
	}
	return block
}

// P3.5: keys of at most a block, and their tags by Go's own library.
func TestAKeysBlocks(t *testing.T) {
	for size := range 65 {
		key := mixed(size, 7)
		inner, outer := ahead(t, keyed(key, 0x36)), ahead(t, keyed(key, 0x5c))
		for _, n := range []int{0, 1, 8, 55, 56, 64, 500} {
			message := mixed(n, 8)
			mac := hmac.New(sha256.New, key)
			mac.Write(message)
			of := inner.Sum(message)
			if got := outer.Sum(of[:]); !bytes.Equal(got[:], mac.Sum(nil)) {
				t.Errorf("a key of %d bytes, a message of %d: %x", size, n, got)
			}
		}
	}
}

// P3.5: what stands published for keys and messages.
func TestAKeysBlocksExamples(t *testing.T) {
	for _, x := range []struct{ key, message, want string }{
		{"", "", "b613679a0814d9ec772f95d778c35fc5ff1697c493715653c6c712144292c5ad"},
		{"key", "The quick brown fox jumps over the lazy dog", "f7bc83f430538424b13298e6aa6fb143ef4d59a14946175997479dbc2d1a3cd8"},
		{strings.Repeat("\x0b", 20), "Hi There", "b0344c61d8db38535ca8afceaf0bf12b881dc200c9833da726e9376c2e32cff7"},
	} {
		inner, outer := ahead(t, keyed([]byte(x.key), 0x36)), ahead(t, keyed([]byte(x.key), 0x5c))
		of := inner.Sum([]byte(x.message))
		if got := sha.Text(outer.Sum(of[:])); got != x.want {
			t.Errorf("%s: %s", x.message, got)
		}
	}
}

// P3.6
func TestTextAndOfGoBack(t *testing.T) {
	for n := range 300 {
		tag := sha.Sum(mixed(n, 9))
		if got, ok := sha.Of(sha.Text(tag)); got != tag || !ok {
			t.Errorf("%x came back as %x, %t", tag, got, ok)
		}
		s := hex.EncodeToString(mixed(32, uint64(n)))
		if back, ok := sha.Of(s); sha.Text(back) != s || !ok {
			t.Errorf("%s came back as %s, %t", s, sha.Text(back), ok)
		}
	}
	for place := range 32 {
		for c := range 256 {
			var tag api.Tag
			tag[place] = byte(c)
			if got, ok := sha.Of(sha.Text(tag)); got != tag || !ok {
				t.Fatalf("%x came back as %x, %t", tag, got, ok)
			}
		}
	}
}

// P3.7, R4: what is handed in is not changed, neither what lies behind it in its memory.
func TestNothingHandedInIsChanged(t *testing.T) {
	memory := mixed(1000, 10)
	before := slices.Clone(memory)
	for n := range 300 {
		sha.Sum(memory[:n])
		p, e := sha.Ahead(memory[:n])
		if e == api.OK {
			p.Sum(memory[:n])
			p.More(memory[:n])
			p.More(memory[:n+1])
		}
		sha.Prefix{}.Sum(memory[:n])
		sha.Prefix{}.More(memory[:n])
	}
	if !bytes.Equal(memory, before) {
		t.Error("the bytes are changed")
	}
}

// P3.7, R4: what becomes of the bytes, or of an answer, later on changes no prefix.
func TestNothingHandedInIsKept(t *testing.T) {
	first, second, rest := mixed(128, 11), mixed(64, 12), mixed(33, 13)
	p := ahead(t, first)
	longer := more(t, p, second)
	want, wantLonger := p.Sum(rest), longer.Sum(rest)
	clear(first)
	clear(second)
	answered := p.Sum(rest)
	clear(answered[:])
	if p.Sum(rest) != want || longer.Sum(rest) != wantLonger {
		t.Error("the bytes are kept")
	}
	s := []byte(sha.Text(want))
	of, _ := sha.Of(string(s))
	clear(s)
	if of != want {
		t.Error("the text is kept")
	}
}

// P3.7, R1: bytes of all lengths and any texts; a panic would end the test.
func TestNoCallPanics(t *testing.T) {
	made, _ := sha.Ahead(nil)
	for n := range 300 {
		b := mixed(n, 14)
		sha.Sum(b)
		sha.Ahead(b)
		sha.Of(string(b))
		for _, p := range []sha.Prefix{{}, made} {
			p.Sum(b)
			p.More(b)
			p.Size()
		}
	}
	sha.Text(api.Tag{})
}

// answer is what all calls tell of some bytes.
type answer struct {
	sum, longer api.Tag
	size        int
	text        string
	back        api.Tag
}

// answers asks of many bytes, from the place start on, round.
func answers(start int, shared sha.Prefix) []answer {
	const many = 300
	told := make([]answer, many)
	for step := range many {
		n := (start + step) % many
		b := mixed(n, 15)
		a := &told[n]
		a.sum = sha.Sum(b)
		p, _ := shared.More(b[:n-n%64])
		a.longer, a.size = p.Sum(b), p.Size()
		a.text = sha.Text(a.sum)
		a.back, _ = sha.Of(a.text)
	}
	return told
}

// R6: what was asked ahead, or is asked meanwhile, changes no answer.
func TestAnswersHangOnArgumentsAlone(t *testing.T) {
	shared := ahead(t, mixed(64, 16))
	want := answers(0, shared)
	told := make([][]answer, 4)
	var all sync.WaitGroup
	for i := range told {
		all.Go(func() { told[i] = answers(i*71+1, shared) })
	}
	all.Wait()
	for i := range told {
		if !slices.Equal(told[i], want) {
			t.Errorf("asked in order %d the answers are others", i)
		}
	}
}

// R5, R7: sha's calls tell no whole numbers as texts, and no promise of it says that unlike bytes have unlike digests; so there is nothing that these rules could be broken by. (That it hands out nothing else, and keeps tables alone, is held in the folder layers.)
func TestCallsAreOnBytesTagsAndTexts(t *testing.T) {
	var (
		_ func(b []byte) (sha.Prefix, api.Errno)               = sha.Ahead
		_ func(p sha.Prefix, rest []byte) api.Tag              = sha.Prefix.Sum
		_ func(p sha.Prefix, b []byte) (sha.Prefix, api.Errno) = sha.Prefix.More
		_ func(p sha.Prefix) int                               = sha.Prefix.Size
		_ func(b []byte) api.Tag                               = sha.Sum
		_ func(t api.Tag) string                               = sha.Text
		_ func(s string) (api.Tag, bool)                       = sha.Of
	)
}
