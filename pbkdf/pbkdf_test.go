package pbkdf_test

import (
	"bytes"
	library "crypto/pbkdf2"
	"crypto/sha256"
	"encoding/hex"
	"math"
	"math/rand/v2"
	"slices"
	"strings"
	"sync"
	"testing"

	"casemate/api"
	"casemate/hmac"
	"casemate/pbkdf"
)

// mixed is n bytes of all kinds, the same ones for the same n and seed.
func mixed(n int, seed uint64) []byte {
	draw := rand.New(rand.NewPCG(seed, uint64(n)))
	b := make([]byte, n)
	for i := range b {
		b[i] = byte(draw.Uint32())
	}
	return b
}

// published is the key by Go's own library.
func published(t *testing.T, pass, salt []byte, rounds, size int) []byte {
	t.Helper()
	key, err := library.Key(sha256.New, string(pass), salt, rounds, size)
	if err != nil {
		t.Fatal(err)
	}
	return key
}

// keyOf is the answer of Key for rounds and a size that may be.
func keyOf(t *testing.T, pass, salt []byte, rounds, size int) []byte {
	t.Helper()
	key, e := pbkdf.Key(pass, salt, rounds, size)
	if e != api.OK {
		t.Fatalf("%d rounds, %d bytes: %d", rounds, size, e)
	}
	return key
}

// bytesOf is the answer of Pass for what is a passphrase.
func bytesOf(t *testing.T, s string) []byte {
	t.Helper()
	b, e := pbkdf.Pass(s)
	if e != api.OK {
		t.Fatalf("Pass(%q): %d", s, e)
	}
	return b
}

// P5.1: the chapter's examples, and all lengths from 0 on, beyond where a byte would begin anew.
func TestPassOfAllLengths(t *testing.T) {
	if got := bytesOf(t, "ab"); !bytes.Equal(got, []byte{2, 'a', 'b'}) {
		t.Errorf("of ab: %x", got)
	}
	for n := range 1100 {
		s := string(mixed(n, 1))
		got, e := pbkdf.Pass(s)
		if n == 0 || n > 48 {
			if e != api.ErrArg || len(got) != 0 {
				t.Errorf("of %d bytes: %x, %d", n, got, e)
			}
			continue
		}
		if want := append([]byte{byte(n)}, s...); e != api.OK || !bytes.Equal(got, want) {
			t.Errorf("of %d bytes: %x, %d", n, got, e)
		}
	}
	for _, n := range []int{1<<16 + 1, 1 << 20} {
		if got, e := pbkdf.Pass(strings.Repeat("a", n)); e != api.ErrArg || len(got) != 0 {
			t.Errorf("of %d bytes: %x, %d", n, got, e)
		}
	}
}

// P5.1: a passphrase's bytes are whatever they are; not its runes are counted, and none is taken for another one.
func TestPassOfAnyBytes(t *testing.T) {
	for c := range 256 {
		for _, n := range []int{1, 2, 47, 48} {
			s := strings.Repeat(string([]byte{byte(c)}), n)
			if got := bytesOf(t, s); got[0] != byte(n) || string(got[1:]) != s {
				t.Errorf("of %d bytes %x: %x", n, c, got)
			}
		}
	}
	for _, s := range []string{" ", "\n", "a ", " a", "\xff\xfe", "é", "e\u0301", strings.Repeat("é", 24), strings.Repeat("\U0001F511", 12)} {
		if got := bytesOf(t, s); int(got[0]) != len(s) || string(got[1:]) != s {
			t.Errorf("of %q: %x", s, got)
		}
	}
	// Runes few enough, but bytes too many.
	for _, s := range []string{strings.Repeat("é", 25), strings.Repeat("\U0001F511", 13)} {
		if got, e := pbkdf.Pass(s); e != api.ErrArg || len(got) != 0 {
			t.Errorf("of %q: %x, %d", s, got, e)
		}
	}
}

// P5.2, P9: the chapter's examples, and what is published for these keys (RFC 7914, and the vectors of RFC 6070 with this digest).
func TestKeyExamples(t *testing.T) {
	for _, x := range []struct {
		pass, salt string
		rounds     int
		want       string
	}{
		{"password", "salt", 1, "120fb6cf fcf8b32c 43e72252 56c4f837 a86548c9 2ccc3548 0805987c b70be17b"},
		{"password", "salt", 2, "ae4d0c95 af6b46d3 2d0adff9 28f06dd0 2a303f8e f3c251df d6e2d85a 95474c43"},
		{"password", "salt", 4096, "c5e478d5 9288c841 aa530db6 845c4c8d 962893a0 01ce4e11 a4963873 aa98134a"},
		{"passwordPASSWORDpassword", "saltSALTsaltSALTsaltSALTsaltSALTsalt", 4096, "348c89db cbd32b2f 32d814b8 116e84cf 2b17347e bc180018 1c4e2a1f b8dd53e1 c635518c 7dac47e9"},
		{"pass\x00word", "sa\x00lt", 4096, "89b69d05 16f82989 3c696226 650a8687"},
		{"passwd", "salt", 1, "55ac046e 56e3089f ec1691c2 2544b605 f9418521 6dde0465 e68b9d57 c20dacbc 49ca9ccc f179b645 991664b3 9d77ef31 7c71b845 b1e30bd5 09112041 d3a19783"},
	} {
		digits := strings.ReplaceAll(x.want, " ", "")
		want, err := hex.DecodeString(digits)
		if err != nil {
			t.Fatal(x.want, err)
		}
		if got := keyOf(t, []byte(x.pass), []byte(x.salt), x.rounds, len(want)); !bytes.Equal(got, want) {
			t.Errorf("%q, %q, %d rounds: %x", x.pass, x.salt, x.rounds, got)
		}
	}
}

// P5.2, P9: all sizes, so that keys end ahead of, at and behind the blocks' ends.
func TestKeyOfAllSizes(t *testing.T) {
	pass, salt := bytesOf(t, "a passphrase"), mixed(16, 2)
	for _, rounds := range []int{1, 2, 3, 10} {
		for size := 1; size <= 128; size++ {
			if got := keyOf(t, pass, salt, rounds, size); !bytes.Equal(got, published(t, pass, salt, rounds, size)) {
				t.Errorf("%d rounds, %d bytes: %x", rounds, size, got)
			}
		}
	}
}

// P5.2, P9: numbers of rounds from the least on, up to the greatest.
func TestKeyOfAllRounds(t *testing.T) {
	pass, salt := bytesOf(t, "another one"), mixed(16, 3)
	counts := []int{255, 256, 257, 1000, 1024, 4094, 4095, 4096}
	for rounds := 1; rounds <= 70; rounds++ {
		counts = append(counts, rounds)
	}
	for _, rounds := range counts {
		for _, size := range []int{32, 40} {
			if got := keyOf(t, pass, salt, rounds, size); !bytes.Equal(got, published(t, pass, salt, rounds, size)) {
				t.Errorf("%d rounds, %d bytes: %x", rounds, size, got)
			}
		}
	}
	if got := keyOf(t, pass, salt, 4096, 128); !bytes.Equal(got, published(t, pass, salt, 4096, 128)) {
		t.Errorf("the most of all: %x", got)
	}
}

// P5.2, P9: any bytes may be pass and salt, none too, and more than a block has.
func TestKeyOfAllLengths(t *testing.T) {
	for _, n := range []int{0, 1, 16, 31, 32, 33, 49, 63, 64, 65, 100, 127, 128, 129, 1000, 1 << 16} {
		for _, m := range []int{0, 1, 15, 16, 17, 50, 51, 52, 55, 56, 59, 60, 61, 64, 120, 1<<16 + 1} {
			pass, salt := mixed(n, 4), mixed(m, 5)
			for _, rounds := range []int{1, 3} {
				if got := keyOf(t, pass, salt, rounds, 70); !bytes.Equal(got, published(t, pass, salt, rounds, 70)) {
					t.Errorf("a pass of %d bytes, a salt of %d, %d rounds: %x", n, m, rounds, got)
				}
			}
		}
	}
}

// P5.2: no bytes are no bytes, whether a list is nil or empty.
func TestNilIsNoBytes(t *testing.T) {
	want := published(t, nil, nil, 5, 128)
	for i, got := range [][]byte{
		keyOf(t, nil, nil, 5, 128), keyOf(t, []byte{}, nil, 5, 128), keyOf(t, nil, []byte{}, 5, 128), keyOf(t, []byte{}, []byte{}, 5, 128),
	} {
		if !bytes.Equal(got, want) {
			t.Errorf("%d, of nothing: %x", i, got)
		}
	}
}

// P5.2: pass and salt, and each byte of them, make a difference as the standard has it; so does which is which.
func TestPassAndSaltAreWhatTheyAre(t *testing.T) {
	one, other := mixed(20, 6), mixed(20, 7)
	if bytes.Equal(published(t, one, other, 2, 32), published(t, other, one, 2, 32)) {
		t.Fatal("the library takes one for the other")
	}
	for _, pair := range [][2][]byte{{one, other}, {other, one}, {one, one}} {
		if got := keyOf(t, pair[0], pair[1], 2, 32); !bytes.Equal(got, published(t, pair[0], pair[1], 2, 32)) {
			t.Errorf("of %x and %x: %x", pair[0], pair[1], got)
		}
	}
	for i := range one {
		changed := slices.Clone(one)
		changed[i] ^= 1
		if got := keyOf(t, changed, other, 2, 32); !bytes.Equal(got, published(t, changed, other, 2, 32)) {
			t.Errorf("byte %d of the pass: %x", i, got)
		}
		if got := keyOf(t, other, changed, 2, 32); !bytes.Equal(got, published(t, other, changed, 2, 32)) {
			t.Errorf("byte %d of the salt: %x", i, got)
		}
	}
}

// wrongNumbers are below 0 and huge, also such as would be fit ones if they were cut to fewer bits.
func wrongNumbers() []int {
	return []int{math.MinInt, math.MinInt + 1, math.MinInt + 32, -1 << 32, -4096, -128, -32, -2, -1, 0, 1<<16 + 1, 1 << 31, 1 << 32, 1<<32 + 32, 1<<62 + 1, math.MaxInt - 1, math.MaxInt}
}

// P5.2: the chapter's examples, and more; beside the error there is nothing.
func TestKeyOfWrongNumbers(t *testing.T) {
	refused := func(pass, salt []byte, rounds, size int) {
		t.Helper()
		if got, e := pbkdf.Key(pass, salt, rounds, size); e != api.ErrArg || len(got) != 0 {
			t.Errorf("%d rounds, %d bytes: %x, %d", rounds, size, got, e)
		}
	}
	for _, b := range [][]byte{nil, {}, []byte("password"), mixed(100, 8)} {
		for _, rounds := range append(wrongNumbers(), 4097, 4098, 8192) {
			for _, size := range []int{1, 32, 128} {
				refused(b, b, rounds, size)
			}
		}
		for _, size := range append(wrongNumbers(), 129, 130, 160, 255, 256, 257, 288, 8160) {
			for _, rounds := range []int{1, 2, 4096} {
				refused(b, b, rounds, size)
			}
		}
		for _, wrong := range wrongNumbers() {
			refused(b, b, wrong, wrong)
		}
	}
	// The edges themselves may be.
	for _, rounds := range []int{1, 4096} {
		for _, size := range []int{1, 128} {
			if got := keyOf(t, nil, nil, rounds, size); len(got) != size {
				t.Errorf("%d rounds, %d bytes: there are %d", rounds, size, len(got))
			}
		}
	}
}

// P5.3
func TestAShorterKeyBeginsALongerOne(t *testing.T) {
	for _, rounds := range []int{1, 2, 7} {
		pass, salt := mixed(rounds*20, 9), mixed(rounds*3, 10)
		longest := keyOf(t, pass, salt, rounds, 128)
		for size := 1; size <= 128; size++ {
			if got := keyOf(t, pass, salt, rounds, size); len(got) != size || !bytes.Equal(got, longest[:size]) {
				t.Errorf("%d rounds: %d bytes do not begin 128", rounds, size)
			}
		}
	}
}

// keyBlock is the block of 64 bytes that a key of so many, or fewer, is to hmac (chapter 4): it, and bytes 0.
func keyBlock(t *testing.T, key []byte) [64]byte {
	t.Helper()
	if len(key) >= 64 {
		t.Fatalf("%x has not fewer bytes than a block", key)
	}
	var block [64]byte
	copy(block[:], key)
	return block
}

// alike are passphrases that are easily taken for each other: all short ones of bytes that might be a number of bytes, or nothing; and those of all lengths that end on such bytes.
func alike() []string {
	letters := []byte{0, 1, 2, 'a', 255}
	all, last := []string(nil), []string{""}
	for range 5 {
		var longer []string
		for _, s := range last {
			for _, c := range letters {
				longer = append(longer, s+string([]byte{c}))
			}
		}
		all, last = append(all, longer...), longer
	}
	for _, begin := range []string{"", "a", "ab", "\x02ab", "é"} {
		for _, c := range letters {
			for n := 6; len(begin)+n <= 48; n++ {
				all = append(all, begin+strings.Repeat(string([]byte{c}), n))
			}
		}
	}
	slices.Sort(all)
	return slices.Compact(all)
}

// P5.4
func TestUnlikePassphrasesHaveUnlikeBlocks(t *testing.T) {
	passOf := map[[64]byte]string{}
	bytesSeen := map[string]bool{}
	for _, s := range alike() {
		b := bytesOf(t, s)
		if bytesSeen[string(b)] {
			t.Errorf("%q has bytes that another one has", s)
		}
		bytesSeen[string(b)] = true
		block := keyBlock(t, b)
		if other, ok := passOf[block]; ok {
			t.Errorf("%q and %q have one block", s, other)
		}
		passOf[block] = s
	}
}

// P5.4: what the bytes are there for: bytes 0 at the end of a passphrase make another key; at the end of what is handed to Key they make none (chapter 4).
func TestZerosAtAPassphrasesEnd(t *testing.T) {
	salt := mixed(16, 11)
	plain, zero := bytesOf(t, "ab"), bytesOf(t, "ab\x00")
	if bytes.Equal(keyOf(t, plain, salt, 2, 32), keyOf(t, zero, salt, 2, 32)) {
		t.Error("a passphrase, and it with a byte 0 behind it, have one key")
	}
	if !bytes.Equal(keyOf(t, plain, salt, 2, 32), keyOf(t, append(plain, 0), salt, 2, 32)) {
		t.Error("the bytes of a passphrase, and they with a byte 0 behind them, have two keys")
	}
}

// P5.6: by hmac, as the chapter tells the first rounds.
func TestKeyOfOneRoundAndOfTwo(t *testing.T) {
	for n := range 100 {
		pass, salt := mixed(n, 12), mixed(n/2, 13)
		one := hmac.Of(pass, append(slices.Clone(salt), 0, 0, 0, 1))
		if got := keyOf(t, pass, salt, 1, 32); !bytes.Equal(got, one[:]) {
			t.Errorf("a pass of %d bytes, one round: %x", n, got)
		}
		two := hmac.Of(pass, one[:])
		for i := range two {
			two[i] ^= one[i]
		}
		if got := keyOf(t, pass, salt, 2, 32); !bytes.Equal(got, two[:]) {
			t.Errorf("a pass of %d bytes, two rounds: %x", n, got)
		}
	}
}

// P5.2: the blocks by hmac, each with its own number in four bytes, the highest first.
func TestBlocksAreNumbered(t *testing.T) {
	pass, salt := mixed(30, 14), mixed(16, 15)
	var want []byte
	for number := 1; number <= 4; number++ {
		u := hmac.Of(pass, append(slices.Clone(salt), 0, 0, 0, byte(number)))
		block := u
		for range 4 {
			u = hmac.Of(pass, u[:])
			for i := range block {
				block[i] ^= u[i]
			}
		}
		want = append(want, block[:]...)
	}
	if got := keyOf(t, pass, salt, 5, 128); !bytes.Equal(got, want) {
		t.Errorf("four blocks of five rounds: %x", got)
	}
}

// P5.5, R4: what is handed in is not changed, neither what lies around it in its memory.
func TestNothingHandedInIsChanged(t *testing.T) {
	memory := mixed(600, 16)
	before := slices.Clone(memory)
	for n := range 200 {
		pbkdf.Key(memory[:n], memory[n:2*n], 1+n%3, 1+n%128)
		pbkdf.Key(memory[n:2*n], memory[:n], 1+n%3, 1+n%128)
		pbkdf.Key(memory[:n], memory[n:2*n], n-200, 32)
		pbkdf.Key(memory[:n], memory[n:2*n], 1, 129+n)
	}
	if !bytes.Equal(memory, before) {
		t.Error("the bytes are changed")
	}
}

// P5.5, R4: what becomes of the bytes, or of an answer, later on changes no other answer.
func TestNothingHandedInIsKept(t *testing.T) {
	pass, salt := mixed(20, 17), mixed(16, 18)
	one, other := keyOf(t, pass, salt, 3, 100), keyOf(t, pass, salt, 3, 100)
	want := slices.Clone(one)
	clear(one[:cap(one)])
	if !bytes.Equal(other, want) || !bytes.Equal(keyOf(t, pass, salt, 3, 100), want) {
		t.Error("two keys share their memory")
	}
	clear(pass)
	clear(salt)
	if !bytes.Equal(other, want) {
		t.Error("the key shares memory with what was handed in")
	}
	if !bytes.Equal(keyOf(t, pass, salt, 3, 100), published(t, pass, salt, 3, 100)) {
		t.Error("the pass or the salt is kept")
	}
	first, second := bytesOf(t, "ab"), bytesOf(t, "ab")
	clear(first[:cap(first)])
	if !bytes.Equal(second, []byte{2, 'a', 'b'}) || !bytes.Equal(bytesOf(t, "ab"), second) {
		t.Error("the bytes of two passphrases share their memory")
	}
}

// R4: one memory may be pass and salt.
func TestOneMemoryForBoth(t *testing.T) {
	for _, size := range []int{1, 32, 64, 65, 100} {
		b := mixed(size, 19)
		if !bytes.Equal(keyOf(t, b, b, 4, 128), published(t, b, b, 4, 128)) {
			t.Errorf("%d bytes for both", size)
		}
	}
}

// P5.5, R1: bytes of all lengths and any numbers; a panic would end the test.
func TestNoCallPanics(t *testing.T) {
	for n := range 200 {
		b := mixed(n, 20)
		pbkdf.Pass(string(b))
		for _, number := range wrongNumbers() {
			pbkdf.Key(b, nil, number, n)
			pbkdf.Key(nil, b, n, number)
		}
		pbkdf.Key(b, b, n, n)
		pbkdf.Key(nil, nil, n, n)
	}
}

// answer is what both calls tell of some bytes.
type answer struct {
	pass, key   string
	passE, keyE api.Errno
}

// answers asks of many bytes, from the place start on, round.
func answers(start int) []answer {
	const many = 150
	told := make([]answer, many)
	for step := range many {
		n := (start + step) % many
		a := &told[n]
		b, passE := pbkdf.Pass(string(mixed(n, 21)))
		key, keyE := pbkdf.Key(mixed(n, 22), mixed(2*n, 23), n%7, n)
		*a = answer{pass: string(b), key: string(key), passE: passE, keyE: keyE}
	}
	return told
}

// R6: what was asked ahead, or is asked meanwhile, changes no answer.
func TestAnswersHangOnArgumentsAlone(t *testing.T) {
	want := answers(0)
	told := make([][]answer, 4)
	var all sync.WaitGroup
	for i := range told {
		all.Go(func() { told[i] = answers(i*37 + 1) })
	}
	all.Wait()
	for i := range told {
		if !slices.Equal(told[i], want) {
			t.Errorf("asked in order %d the answers are others", i)
		}
	}
}

// R3, R5, R7: pbkdf's calls are no methods, tell no whole numbers as texts, and no promise of it says that unlike passphrases have unlike keys; so there is nothing that these rules could be broken by. (That it hands out nothing else, and keeps nothing, is held in the folder layers.)
func TestCallsAreOnBytes(t *testing.T) {
	var (
		_ func(s string) ([]byte, api.Errno)                                  = pbkdf.Pass
		_ func(pass, salt []byte, rounds, size int) (key []byte, e api.Errno) = pbkdf.Key
	)
}
