package hmac_test

import (
	"bytes"
	"crypto/hkdf"
	library "crypto/hmac"
	"crypto/sha256"
	"encoding/hex"
	"go/ast"
	"go/parser"
	"go/token"
	"math"
	"math/rand/v2"
	"runtime"
	"slices"
	"strings"
	"sync"
	"testing"

	"casemate/api"
	"casemate/hmac"
	"casemate/sha"
)

// mixed is n bytes of all kinds, the same ones for the same n and seed.
func mixed(n int, seed uint64) []byte {
	draw := rand.New(rand.NewPCG(seed, uint64(n)))
	b := make([]byte, n)
	for i := range b {
		b[i] = byte(draw.Uint32())
	}
	return b
}

// published is the tag by Go's own library.
func published(key []byte, parts ...[]byte) (tag api.Tag) {
	mac := library.New(sha256.New, key)
	for _, part := range parts {
		mac.Write(part)
	}
	copy(tag[:], mac.Sum(nil))
	return tag
}

// unhex is the bytes of digits to the base 16, blanks between them left out.
func unhex(t *testing.T, digits string) []byte {
	t.Helper()
	b, err := hex.DecodeString(strings.ReplaceAll(digits, " ", ""))
	if err != nil {
		t.Fatal(err)
	}
	return b
}

// stretched is the answer of Stretch for a size that may be.
func stretched(t *testing.T, key, b []byte, size int) []byte {
	t.Helper()
	got, e := hmac.Stretch(key, b, size)
	if e != api.OK {
		t.Fatalf("Stretch to %d: %d", size, e)
	}
	return got
}

// P4.1, P9: the chapter's examples, and those that are published with the standard (RFC 4231).
func TestOfExamples(t *testing.T) {
	for _, x := range []struct{ key, message, want string }{
		{"", "", "b613679a0814d9ec772f95d778c35fc5ff1697c493715653c6c712144292c5ad"},
		{"key", "The quick brown fox jumps over the lazy dog", "f7bc83f430538424b13298e6aa6fb143ef4d59a14946175997479dbc2d1a3cd8"},
		{strings.Repeat("\x0b", 20), "Hi There", "b0344c61d8db38535ca8afceaf0bf12b881dc200c9833da726e9376c2e32cff7"},
		{"Jefe", "what do ya want for nothing?", "5bdcc146bf60754e6a042426089575c75a003f089d2739839dec58b964ec3843"},
		{strings.Repeat("\xaa", 20), strings.Repeat("\xdd", 50), "773ea91e36800e46854db8ebd09181a72959098b3ef8c122d9635514ced565fe"},
		{"\x01\x02\x03\x04\x05\x06\x07\x08\x09\x0a\x0b\x0c\x0d\x0e\x0f\x10\x11\x12\x13\x14\x15\x16\x17\x18\x19", strings.Repeat("\xcd", 50), "82558a389a443c0ea4cc819899f2083a85f0faa3e578f8077a2e3ff46729665b"},
		{strings.Repeat("\xaa", 131), "Test Using Larger Than Block-Size Key - Hash Key First", "60e431591ee0b67f0d8a26aacbf5b77f8e0bc6213728c5140546040f0ee37f54"},
		{strings.Repeat("\xaa", 131), "This is a test using a larger than block-size key and a larger than block-size data. The key needs to be hashed before being used by the HMAC algorithm.", "9b09ffa71b942fcb27635fbcd5b0e944bfdc63644f0713938a7f51535c3a35e2"},
	} {
		got := hmac.Of([]byte(x.key), []byte(x.message))
		if sha.Text(got) != x.want {
			t.Errorf("under %q, of %q: %x", x.key, x.message, got)
		}
		if hmac.Parts([]byte(x.key), []byte(x.message)) != got {
			t.Errorf("under %q, of the one part %q: another tag", x.key, x.message)
		}
	}
}

// P4.1, P9: keys of all lengths around a block's and its digest's, messages around the blocks' ends.
func TestOfAllLengths(t *testing.T) {
	for size := range 200 {
		key := mixed(size, 1)
		for _, n := range []int{0, 1, 31, 32, 54, 55, 56, 57, 63, 64, 65, 119, 120, 127, 128, 129, 300} {
			b := mixed(n, 2)
			if got := hmac.Of(key, b); got != published(key, b) {
				t.Errorf("a key of %d bytes, a message of %d: %x", size, n, got)
			}
		}
	}
	key := mixed(32, 3)
	for n := range 400 {
		b := mixed(n, 4)
		if got := hmac.Of(key, b); got != published(key, b) {
			t.Errorf("a message of %d bytes: %x", n, got)
		}
	}
}

// P4.1: long keys, long messages.
func TestOfLongBytes(t *testing.T) {
	for _, n := range []int{1 << 13, 1<<16 + 1, 1<<21 + 55, 3000001} {
		b, short := mixed(n, 5), mixed(32, 6)
		if hmac.Of(short, b) != published(short, b) {
			t.Errorf("a message of %d bytes", n)
		}
		if hmac.Of(b, short) != published(b, short) {
			t.Errorf("a key of %d bytes", n)
		}
	}
}

// P4.1: no bytes are no bytes, whether a list is nil or empty, or there is no part at all.
func TestNilIsNoBytes(t *testing.T) {
	key := mixed(32, 7)
	want := published(key)
	for i, got := range []api.Tag{
		hmac.Of(key, nil), hmac.Of(key, []byte{}), hmac.Parts(key), hmac.Parts(key, nil), hmac.Parts(key, nil, []byte{}, nil), hmac.Parts(key, [][]byte{}...),
	} {
		if got != want {
			t.Errorf("%d, of nothing: %x", i, got)
		}
	}
	for i, got := range []api.Tag{hmac.Of(nil, key), hmac.Of([]byte{}, key), hmac.Parts(nil, key), hmac.Parts([]byte{}, key)} {
		if got != published(nil, key) {
			t.Errorf("%d, under nothing: %x", i, got)
		}
	}
}

// P4.1, P4.5: two cuts at any places, so that parts end ahead of, at and behind the blocks' ends, or are empty.
func TestPartsCutTwice(t *testing.T) {
	for _, size := range []int{20, 64, 131} {
		key, b := mixed(size, 8), mixed(200, 9)
		want := published(key, b)
		for i := 0; i <= len(b); i++ {
			for k := i; k <= len(b); k++ {
				if got := hmac.Parts(key, b[:i], b[i:k], b[k:]); got != want {
					t.Fatalf("a key of %d bytes, cut at %d and %d: %x", size, i, k, got)
				}
			}
		}
	}
}

// P4.1, P4.5: any number of cuts, at places drawn by a rule.
func TestPartsCutOften(t *testing.T) {
	draw := rand.New(rand.NewPCG(10, 11))
	for round := range 300 {
		key, b := mixed(draw.IntN(100), 12), mixed(draw.IntN(1000), 13)
		var parts [][]byte
		for left := b; len(left) > 0; {
			n := min(len(left), draw.IntN(1+draw.IntN(200)))
			parts = append(parts, left[:n])
			left = left[n:]
		}
		if hmac.Parts(key, parts...) != published(key, b) {
			t.Errorf("round %d: %d bytes, %d parts", round, len(b), len(parts))
		}
	}
}

// P4.5: parts of one length each, down to single bytes.
func TestPartsOfOneLength(t *testing.T) {
	key, b := mixed(32, 14), mixed(777, 15)
	for n := 1; n <= len(b); n++ {
		parts := slices.Collect(slices.Chunk(b, n))
		if hmac.Parts(key, parts...) != published(key, b) {
			t.Errorf("parts of %d bytes", n)
		}
	}
}

// P4.1: where one part ends counts for nothing, but which comes first does.
func TestPartsInTheirOrder(t *testing.T) {
	key, one, other := mixed(32, 16), mixed(70, 17), mixed(70, 18)
	if hmac.Parts(key, one, other) != published(key, one, other) || hmac.Parts(key, other, one) != published(key, other, one) {
		t.Error("two parts")
	}
	if hmac.Parts(key, one, one) != published(key, one, one) {
		t.Error("one part twice")
	}
}

// made is how many bytes of memory are made while do runs.
func made(do func()) uint64 {
	var before, after runtime.MemStats
	runtime.ReadMemStats(&before)
	do()
	runtime.ReadMemStats(&after)
	return after.TotalAlloc - before.TotalAlloc
}

// R1: parts that share memory may be much longer together than all the memory there is; so no memory is made that they would fit in.
func TestPartsAreNotLaidTogether(t *testing.T) {
	key, b := mixed(32, 19), mixed(1<<16-1, 20)
	parts := slices.Repeat([][]byte{b}, 64)
	if hmac.Parts(key, parts...) != published(key, parts...) {
		t.Error("64 parts of 65535 bytes")
	}
	if n := made(func() { hmac.Parts(key, parts...) }); n >= 1<<16 {
		t.Errorf("for 64 parts of 65535 bytes, %d bytes of memory are made", n)
	}
}

// P4.2: one bit is unlike, at each place.
func TestSameOfOneBit(t *testing.T) {
	for _, a := range []api.Tag{{}, published(nil), api.Tag(bytes.Repeat([]byte{255}, 32))} {
		if !hmac.Same(a, a) {
			t.Errorf("%x is not the same as itself", a)
		}
		for i := range a {
			for bit := range 8 {
				b := a
				b[i] ^= 1 << bit
				if hmac.Same(a, b) || hmac.Same(b, a) {
					t.Errorf("bit %d of byte %d is unlike", bit, i)
				}
				if !hmac.Same(b, b) {
					t.Errorf("%x is not the same as itself", b)
				}
			}
		}
	}
}

// P4.2: all values of a byte, and many bytes unlike at once, also where the differences would cancel each other out.
func TestSameOfMoreBytes(t *testing.T) {
	a := published([]byte("a"))
	for i := range a {
		for c := range 256 {
			b := a
			b[i] = byte(c)
			if hmac.Same(a, b) != (byte(c) == a[i]) {
				t.Errorf("byte %d being %d, not %d", i, c, a[i])
			}
		}
		for k := range i {
			b := a
			b[i], b[k] = b[i]^128, b[k]^128
			if hmac.Same(a, b) {
				t.Errorf("bytes %d and %d are unlike by the same bit", k, i)
			}
			b[i], b[k] = a[i]+1, a[k]-1
			if hmac.Same(a, b) {
				t.Errorf("bytes %d and %d are unlike, one up, one down", k, i)
			}
		}
	}
	var reversed, inverted api.Tag
	for i := range a {
		reversed[len(a)-1-i], inverted[i] = a[i], ^a[i]
	}
	if hmac.Same(a, reversed) || hmac.Same(a, inverted) || hmac.Same(a, api.Tag{}) {
		t.Error("all bytes are unlike")
	}
}

// sameCode is the text of Same, as Go reads it.
func sameCode(t *testing.T) *ast.FuncDecl {
	file, err := parser.ParseFile(token.NewFileSet(), "hmac.go", nil, 0)
	if err != nil {
		t.Fatal(err)
	}
	for _, d := range file.Decls {
		if f, ok := d.(*ast.FuncDecl); ok && f.Name.Name == "Same" {
			return f
		}
	}
	t.Fatal("there is no Same in hmac.go")
	return nil
}

// P4.2: all bytes are looked at. No answer shows that, so it is held by Same's code: its one loop goes over an argument, and nothing in Same leaves it, or chooses; what it calls or compares arrays by might.
func TestSameLooksAtAllBytes(t *testing.T) {
	loops, returns, comparisons := 0, 0, 0
	ast.Inspect(sameCode(t).Body, func(n ast.Node) bool {
		switch x := n.(type) {
		case *ast.RangeStmt:
			loops++
			if over, ok := x.X.(*ast.Ident); !ok || over.Name != "a" && over.Name != "b" {
				t.Error("the loop is not over a tag")
			}
		case *ast.ReturnStmt:
			returns++
		case *ast.BinaryExpr:
			switch x.Op {
			case token.EQL, token.NEQ:
				comparisons++
				if zero, ok := x.Y.(*ast.BasicLit); !ok || zero.Value != "0" {
					t.Error("what is compared is not held against 0")
				}
			case token.LAND, token.LOR:
				t.Error("one of two things may not be looked at")
			}
		case *ast.IfStmt, *ast.BranchStmt, *ast.SwitchStmt, *ast.ForStmt, *ast.CallExpr, *ast.FuncLit, *ast.DeferStmt:
			t.Errorf("Same has a %T", x)
		}
		return true
	})
	if loops != 1 || returns != 1 || comparisons != 1 {
		t.Errorf("Same has %d loops, %d returns, %d comparisons", loops, returns, comparisons)
	}
}

// P4.3: the chapter's examples; beside the error there is nothing.
func TestStretchOfOtherSizes(t *testing.T) {
	for _, size := range []int{-1, 8161, -2, -32, 8162, 8192, 1 << 16, 1 << 31, 1 << 32, 1<<32 + 32, -1 << 32, math.MaxInt, math.MinInt, math.MinInt + 1} {
		for _, b := range [][]byte{nil, {}, mixed(100, 21)} {
			if got, e := hmac.Stretch(b, b, size); e != api.ErrArg || len(got) != 0 {
				t.Errorf("to %d: %x, %d", size, got, e)
			}
		}
	}
}

// P4.3: what is published with the standard that stretches keys so (RFC 5869).
func TestStretchExamples(t *testing.T) {
	for _, x := range []struct{ key, b, want string }{
		{
			"077709362c2e32df0ddc3f0dc47bba63 90b6c73bb50f9c3122ec844ad7c2b3e5",
			"f0f1f2f3f4f5f6f7f8f9",
			"3cb25f25faacd57a90434f64d0362f2a 2d2d0a90cf1a5a4c5db02d56ecc4c5bf 34007208d5b887185865",
		},
		{
			"06a6b88c5853361a06104c9ceb35b45c ef760014904671014a193f40c15fc244",
			"b0b1b2b3b4b5b6b7b8b9babbbcbdbebf c0c1c2c3c4c5c6c7c8c9cacbcccdcecf d0d1d2d3d4d5d6d7d8d9dadbdcdddedf e0e1e2e3e4e5e6e7e8e9eaebecedeeef f0f1f2f3f4f5f6f7f8f9fafbfcfdfeff",
			"b11e398dc80327a1c8e7f78c596a4934 4f012eda2d4efad8a050cc4c19afa97c 59045a99cac7827271cb41c65e590e09 da3275600c2f09b8367793a9aca3db71 cc30c58179ec3e87c14c01d5c1f3434f 1d87",
		},
		{
			"19ef24a32c717b167f33a91d6f648bdf 96596776afdb6377ac434c1c293ccb04",
			"",
			"8da4e775a563c18f715f802a063c5a31 b8a11f5c5ee1879ec3454e5f3c738d2d 9d201395faa4b61a96c8",
		},
	} {
		want := unhex(t, x.want)
		if got := stretched(t, unhex(t, x.key), unhex(t, x.b), len(want)); !bytes.Equal(got, want) {
			t.Errorf("of %s: %x", x.b, got)
		}
	}
}

// chained is T1, T2, .. T255 of the chapter, by Go's own library.
func chained(key, b []byte) []byte {
	one := published(key, b, []byte{1})
	all := slices.Clone(one[:])
	for number := 2; number <= 255; number++ {
		one = published(key, one[:], b, []byte{byte(number)})
		all = append(all, one[:]...)
	}
	return all
}

// P4.3, P4.5: sizes around the tags' ends, down to none and up to the greatest one; all of them are the beginning of one.
func TestStretchOfAllSizes(t *testing.T) {
	for _, size := range []int{0, 20, 32, 64, 65, 131} {
		key, b := mixed(size, 22), mixed(size*3, 23)
		want := chained(key, b)
		ends := []int{4096, 8127, 8128, 8129, 8158, 8159, 8160}
		for n := range 140 {
			ends = append(ends, n)
		}
		for _, n := range ends {
			if got := stretched(t, key, b, n); !bytes.Equal(got, want[:n]) {
				t.Errorf("a key of %d bytes, to %d: %x", size, n, got)
			}
		}
	}
}

// P4.3: as Go's own library stretches keys, the greatest size included.
func TestStretchByTheLibrary(t *testing.T) {
	for _, n := range []int{1, 32, 70, 1000, 8160} {
		key, b := mixed(32, 24), mixed(48, 25)
		want, err := hkdf.Expand(sha256.New, key, string(b), n)
		if err != nil {
			t.Fatal(err)
		}
		if got := stretched(t, key, b, n); !bytes.Equal(got, want) {
			t.Errorf("to %d: %x", n, got)
		}
	}
}

// P4.3: nothing at all may be stretched, and to nothing.
func TestStretchOfNothing(t *testing.T) {
	if got := stretched(t, nil, nil, 0); len(got) != 0 {
		t.Errorf("to nothing: %x", got)
	}
	want := published(nil, []byte{1})
	if got := stretched(t, nil, nil, 32); !bytes.Equal(got, want[:]) {
		t.Errorf("of nothing: %x", got)
	}
	if !bytes.Equal(stretched(t, []byte{}, []byte{}, 32), want[:]) {
		t.Error("of empty lists")
	}
}

// P4.5: a shorter one begins a longer one.
func TestAShorterStretchBeginsALongerOne(t *testing.T) {
	key, b := mixed(40, 26), mixed(11, 27)
	longest := stretched(t, key, b, 8160)
	for n := 0; n <= 8160; n += 97 {
		if got := stretched(t, key, b, n); len(got) != n || !bytes.Equal(got, longest[:n]) {
			t.Errorf("to %d bytes it does not begin that to 8160", n)
		}
	}
}

// P4.4: zeros at the end of a key, up to a block's size.
func TestKeysThatAreTheSameButForZeros(t *testing.T) {
	b := mixed(90, 28)
	for size := range 65 {
		key := mixed(size, 29)
		want, wantLong := hmac.Of(key, b), stretched(t, key, b, 70)
		for n := size; n <= 64; n++ {
			longer := append(slices.Clone(key), make([]byte, n-size)...)
			if hmac.Of(longer, b) != want || hmac.Parts(longer, b[:50], b[50:]) != want || !bytes.Equal(stretched(t, longer, b, 70), wantLong) {
				t.Errorf("a key of %d bytes, and zeros up to %d", size, n)
			}
		}
	}
	// One zero more, and the key is another one: that of its digest.
	longest := append(mixed(64, 30), 0)
	if hmac.Of(longest, b) != published(longest, b) || hmac.Of(longest, b) == hmac.Of(longest[:64], b) {
		t.Error("a key of 64 bytes and a zero")
	}
	if hmac.Of([]byte{0, 1}, b) != published([]byte{0, 1}, b) || hmac.Of([]byte{0, 1}, b) == hmac.Of([]byte{1}, b) {
		t.Error("a zero ahead of a key")
	}
}

// P4.4: a key of more than 64 bytes, and its digest.
func TestALongKeyAndItsDigest(t *testing.T) {
	b := mixed(33, 31)
	for _, size := range []int{65, 66, 96, 127, 128, 129, 1000, 1 << 16} {
		key := mixed(size, 32)
		digest := sha.Sum(key)
		if hmac.Of(key, b) != hmac.Of(digest[:], b) || hmac.Parts(key, b) != hmac.Parts(digest[:], b) || !bytes.Equal(stretched(t, key, b, 100), stretched(t, digest[:], b, 100)) {
			t.Errorf("a key of %d bytes", size)
		}
	}
	// A key of 64 bytes is no long one.
	key := mixed(64, 33)
	digest := sha.Sum(key)
	if hmac.Of(key, b) != published(key, b) || hmac.Of(key, b) == hmac.Of(digest[:], b) {
		t.Error("a key of 64 bytes")
	}
}

// R4: what is handed in is not changed, neither what lies around it in its memory; nor is the list of parts.
func TestNothingHandedInIsChanged(t *testing.T) {
	memory := mixed(1000, 34)
	before := slices.Clone(memory)
	parts := [][]byte{memory[3:70], nil, memory[70:71], memory[71:300], {}}
	partsBefore := slices.Clone(parts)
	for n := range 200 {
		hmac.Of(memory[:n], memory[n:2*n])
		hmac.Parts(memory[:n], parts[:n%6]...)
		hmac.Stretch(memory[:n], memory[n:2*n], n)
		hmac.Stretch(memory[:n], memory[n:2*n], -1)
	}
	if !bytes.Equal(memory, before) {
		t.Error("the bytes are changed")
	}
	for i := range parts {
		if !bytes.Equal(parts[i], partsBefore[i]) || (parts[i] == nil) != (partsBefore[i] == nil) {
			t.Errorf("part %d is another one", i)
		}
	}
	a, b := published(nil), published([]byte{1})
	hmac.Same(a, b)
	if a != published(nil) || b != published([]byte{1}) {
		t.Error("the tags are changed")
	}
}

// R4: what becomes of the bytes, or of an answer, later on changes no other answer.
func TestNothingHandedInIsKept(t *testing.T) {
	key, b := mixed(32, 35), mixed(50, 36)
	tag := hmac.Of(key, b)
	one := stretched(t, key, b, 100)
	other := stretched(t, key, b, 100)
	want := slices.Clone(one)
	clear(one)
	clear(tag[:])
	if !bytes.Equal(other, want) || !bytes.Equal(stretched(t, key, b, 100), want) || hmac.Of(key, b) != published(key, b) {
		t.Error("two answers share their memory")
	}
	clear(key)
	clear(b)
	if !bytes.Equal(other, want) {
		t.Error("the answer shares memory with what was handed in")
	}
	if hmac.Of(key, b) != published(key, b) || !bytes.Equal(stretched(t, key, b, 8160), chained(key, b)) {
		t.Error("the key or the bytes are kept")
	}
}

// R4: one memory may be the key, the bytes and all parts.
func TestOneMemoryForAll(t *testing.T) {
	for _, size := range []int{1, 32, 64, 65, 100} {
		b := mixed(size, 37)
		if hmac.Of(b, b) != published(b, b) || hmac.Parts(b, b, b[:1], b) != published(b, b, b[:1], b) {
			t.Errorf("the tag of %d bytes under themselves", size)
		}
		if !bytes.Equal(stretched(t, b, b, 8160), chained(b, b)) {
			t.Errorf("%d bytes, stretched by themselves", size)
		}
	}
}

// R1: bytes of all lengths and any sizes; a panic would end the test.
func TestNoCallPanics(t *testing.T) {
	for n := range 300 {
		b := mixed(n, 38)
		hmac.Of(b, nil)
		hmac.Of(nil, b)
		hmac.Parts(b)
		hmac.Parts(nil, b, nil, b)
		for _, size := range []int{math.MinInt, -1, 0, n, 8161 + n, math.MaxInt} {
			hmac.Stretch(b, b, size)
			hmac.Stretch(nil, nil, size)
		}
	}
	hmac.Same(api.Tag{}, api.Tag{})
}

// answer is what all calls tell of some bytes.
type answer struct {
	of, parts api.Tag
	same      bool
	long      string
	e         api.Errno
}

// answers asks of many bytes, from the place start on, round.
func answers(start int) []answer {
	const many = 300
	told := make([]answer, many)
	for step := range many {
		n := (start + step) % many
		key, b := mixed(n, 39), mixed(2*n, 40)
		a := &told[n]
		a.of = hmac.Of(key, b)
		a.parts = hmac.Parts(b, key, b)
		a.same = hmac.Same(a.of, a.parts)
		long, e := hmac.Stretch(key, b, 100*(n-1))
		a.long, a.e = string(long), e
	}
	return told
}

// R6: what was asked ahead, or is asked meanwhile, changes no answer.
func TestAnswersHangOnArgumentsAlone(t *testing.T) {
	want := answers(0)
	told := make([][]answer, 4)
	var all sync.WaitGroup
	for i := range told {
		all.Go(func() { told[i] = answers(i*71 + 1) })
	}
	all.Wait()
	for i := range told {
		if !slices.Equal(told[i], want) {
			t.Errorf("asked in order %d the answers are others", i)
		}
	}
}

// R3, R5, R7: hmac's calls are no methods, tell no whole numbers as texts, and no promise of it says that unlike bytes have unlike tags; so there is nothing that these rules could be broken by. (That it hands out nothing else, and keeps nothing, is held in the folder layers.)
func TestCallsAreOnBytesAndTags(t *testing.T) {
	var (
		_ func(key, b []byte) api.Tag                              = hmac.Of
		_ func(key []byte, parts ...[]byte) api.Tag                = hmac.Parts
		_ func(a, b api.Tag) bool                                  = hmac.Same
		_ func(key, b []byte, size int) (list []byte, e api.Errno) = hmac.Stretch
	)
}
