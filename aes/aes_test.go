package aes_test

import (
	library "crypto/aes"
	"encoding/hex"
	"math/rand/v2"
	"runtime"
	"strings"
	"sync"
	"sync/atomic"
	"testing"

	"casemate/aes"
	"casemate/api"
)

// block is what Seal and Open take, and tell.
type block = [16]byte

// source draws the same keys and blocks at each run.
func source(seed uint64) *rand.ChaCha8 {
	return rand.NewChaCha8([32]byte{byte(seed), byte(seed >> 8)})
}

// drawKey is the next key of a source.
func drawKey(from *rand.ChaCha8) (k api.Key) {
	from.Read(k[:])
	return k
}

// drawBlock is the next block of a source.
func drawBlock(from *rand.ChaCha8) (b block) {
	from.Read(b[:])
	return b
}

// counting is the key 00 01 02 .. 1f.
func counting() (k api.Key) {
	for i := range k {
		k[i] = byte(i)
	}
	return k
}

// fill reads digits to the base 16 into all of to, blanks between them left out.
func fill(t *testing.T, to []byte, digits string) {
	t.Helper()
	b, err := hex.DecodeString(strings.ReplaceAll(digits, " ", ""))
	if err != nil || len(b) != len(to) {
		t.Fatalf("%q is not %d bytes", digits, len(to))
	}
	copy(to, b)
}

// published is the sealed block, and the opened one, by Go's own library.
func published(t *testing.T, k api.Key, b block) (sealed, opened block) {
	t.Helper()
	c, err := library.NewCipher(k[:])
	if err != nil {
		t.Fatal(err)
	}
	c.Encrypt(sealed[:], b[:])
	c.Decrypt(opened[:], b[:])
	return sealed, opened
}

// longProduct multiplies on paper: the whole product of 15 factors first, then the rest of its division by the polynomial.
func longProduct(a, b byte) byte {
	whole := 0
	for i := 0; i < 8; i++ {
		if b&(1<<i) != 0 {
			whole ^= int(a) << i
		}
	}
	for i := 14; i >= 8; i-- {
		if whole&(1<<i) != 0 {
			whole ^= 0x11B << (i - 8)
		}
	}
	return byte(whole)
}

// paperInverse looks for the inverse among all bytes.
func paperInverse(a byte) byte {
	for b := range 256 {
		if longProduct(a, byte(b)) == 1 {
			return byte(b)
		}
	}
	return 0
}

// paperBox makes the boxes of all bytes bit by bit.
func paperBox() (box [256]byte) {
	for a := range box {
		b := paperInverse(byte(a))
		for i := range 8 {
			bit := b>>i ^ b>>((i+4)%8) ^ b>>((i+5)%8) ^ b>>((i+6)%8) ^ b>>((i+7)%8) ^ 0x63>>i
			box[a] |= bit & 1 << i
		}
	}
	return box
}

// paperWords are the words of the round keys, by the chapter's words.
func paperWords(k api.Key, box *[256]byte) (w [60][4]byte) {
	for n := range 8 {
		w[n] = [4]byte(k[4*n : 4*n+4])
	}
	power := byte(1)
	for n := 8; n < 60; n++ {
		t := w[n-1]
		if n%8 == 0 {
			t[0], t[1], t[2], t[3] = t[1], t[2], t[3], t[0]
		}
		if n%4 == 0 {
			for i := range t {
				t[i] = box[t[i]]
			}
		}
		if n%8 == 0 {
			t[0] ^= power
			power = longProduct(power, 2)
		}
		for i := range t {
			w[n][i] = w[n-8][i] ^ t[i]
		}
	}
	return w
}

// paperSeal seals by the chapter's words, on a state that is columns of rows.
func paperSeal(w *[60][4]byte, box *[256]byte, b block) (sealed block) {
	var s [4][4]byte
	for n := range b {
		s[n/4][n%4] = b[n] ^ w[n/4][n%4]
	}
	factors := [4][4]byte{{2, 3, 1, 1}, {1, 2, 3, 1}, {1, 1, 2, 3}, {3, 1, 1, 2}}
	for r := 1; r <= 14; r++ {
		var turned, next [4][4]byte
		for c := range 4 {
			for i := range 4 {
				turned[c][i] = box[s[(c+i)%4][i]]
			}
		}
		next = turned
		for c := range 4 {
			for i := range 4 {
				if r < 14 {
					next[c][i] = 0
					for j := range 4 {
						next[c][i] ^= longProduct(factors[i][j], turned[c][j])
					}
				}
				next[c][i] ^= w[4*r+c][i]
			}
		}
		s = next
	}
	for n := range sealed {
		sealed[n] = s[n/4][n%4]
	}
	return sealed
}

// P7.1, P9: the chapter's examples (the first one is that of FIPS 197), and those of NIST SP 800-38A.
func TestExamples(t *testing.T) {
	const other = "603deb10 15ca71be 2b73aef0 857d7781 1f352c07 3b6108d7 2d9810a3 0914dff4"
	for _, x := range []struct{ key, block, sealed string }{
		{"000102030405060708090a0b0c0d0e0f 101112131415161718191a1b1c1d1e1f", "00112233445566778899aabbccddeeff", "8ea2b7ca516745bfeafc49904b496089"},
		{strings.Repeat("00", 32), strings.Repeat("00", 16), "dc95c078a2408989ad48a21492842087"},
		{other, "6bc1bee22e409f96e93d7e117393172a", "f3eed1bdb5d2a03c064b5a7e3db181f8"},
		{other, "ae2d8a571e03ac9c9eb76fac45af8e51", "591ccb10d410ed26dc5ba74a31362870"},
		{other, "30c81c46a35ce411e5fbc1191a0a52ef", "b6ed21b99ca6f4f9f153e7b1beafed1d"},
		{other, "f69f2445df4f9b17ad2b417be66c3710", "23304b7a39f9f3ff067d8d8f9e24ecc7"},
	} {
		var k api.Key
		var b, sealed block
		fill(t, k[:], x.key)
		fill(t, b[:], x.block)
		fill(t, sealed[:], x.sealed)
		c := aes.New(k)
		if got := c.Seal(b); got != sealed {
			t.Errorf("under %s, of %s: %x", x.key, x.block, got)
		}
		if got := c.Open(sealed); got != b {
			t.Errorf("under %s, back of %s: %x", x.key, x.sealed, got)
		}
	}
}

// P7.1: the paper's way is the chapter's, word by word; Open tells the block whose sealed one b is.
func TestSealAndOpenByTheChaptersWords(t *testing.T) {
	from, box := source(1), paperBox()
	keys := []api.Key{{}, counting(), {0: 1}, {31: 0x80}}
	for range 20 {
		keys = append(keys, drawKey(from))
	}
	for _, k := range keys {
		c, w := aes.New(k), paperWords(k, &box)
		for range 20 {
			b := drawBlock(from)
			if got, want := c.Seal(b), paperSeal(&w, &box, b); got != want {
				t.Fatalf("under %x, of %x: %x, want %x", k, b, got, want)
			}
			if opened := c.Open(b); paperSeal(&w, &box, opened) != b {
				t.Fatalf("under %x, back of %x: %x", k, b, opened)
			}
		}
	}
}

// P7.1, P9: each bit of a key, and each of a block, on bytes of 0 and on bytes of ff.
func TestPublishedForEachBit(t *testing.T) {
	for _, ground := range []byte{0, 0xFF} {
		var k api.Key
		var b block
		for i := range k {
			k[i] = ground
		}
		for i := range b {
			b[i] = ground
		}
		c := aes.New(k)
		for bit := range 8 * len(b) {
			turned := b
			turned[bit/8] ^= 1 << (bit % 8)
			checkPublished(t, c, k, turned)
		}
		for bit := range 8 * len(k) {
			turned := k
			turned[bit/8] ^= 1 << (bit % 8)
			checkPublished(t, aes.New(turned), turned, b)
		}
	}
}

// checkPublished holds what c tells of b, as a cipher of k, against Go's own library.
func checkPublished(t *testing.T, c *aes.Cipher, k api.Key, b block) {
	t.Helper()
	sealed, opened := published(t, k, b)
	if got := c.Seal(b); got != sealed {
		t.Fatalf("under %x, of %x: %x, want %x", k, b, got, sealed)
	}
	if got := c.Open(b); got != opened {
		t.Fatalf("under %x, back of %x: %x, want %x", k, b, got, opened)
	}
}

// P7.1, P9: each byte at each place.
func TestPublishedForEachByte(t *testing.T) {
	k := counting()
	c := aes.New(k)
	for at := range 16 {
		for value := range 256 {
			var b block
			b[at] = byte(value)
			checkPublished(t, c, k, b)
		}
	}
}

// P7.1, P9: a chain, each key and block of it made of what was told ahead.
func TestPublishedInAChain(t *testing.T) {
	var k api.Key
	var b block
	for range 2000 {
		c := aes.New(k)
		checkPublished(t, c, k, b)
		sealed, opened := c.Seal(b), c.Open(b)
		for i := range sealed {
			k[i] ^= sealed[i]
			k[16+i] ^= opened[i]
		}
		b = sealed
	}
}

// P7.2
func TestBack(t *testing.T) {
	from := source(2)
	for range 50 {
		c := aes.New(drawKey(from))
		for range 50 {
			b := drawBlock(from)
			if got := c.Open(c.Seal(b)); got != b {
				t.Fatalf("Open of Seal of %x: %x", b, got)
			}
			if got := c.Seal(c.Open(b)); got != b {
				t.Fatalf("Seal of Open of %x: %x", b, got)
			}
		}
	}
}

// P7.2: blocks that differ in two bytes alone, of one column, one row, or neither, in all ways.
func TestUnlikeBlocksHaveUnlikeSealedOnes(t *testing.T) {
	c := aes.New(counting())
	for _, at := range [][2]int{{0, 1}, {0, 4}, {6, 15}} {
		sealed, opened := map[block]bool{}, map[block]bool{}
		for n := range 1 << 16 {
			var b block
			b[at[0]], b[at[1]] = byte(n>>8), byte(n)
			sealed[c.Seal(b)] = true
			opened[c.Open(b)] = true
		}
		if len(sealed) != 1<<16 || len(opened) != 1<<16 {
			t.Errorf("at the places %v: %d sealed ones, %d opened ones", at, len(sealed), len(opened))
		}
	}
}

// P7.1, P7.3, R1, R3: of nil, and of what New did not make, the zero block, however often it is asked.
func TestWhatNewDidNotMake(t *testing.T) {
	var unset aes.Cipher
	for i, c := range []*aes.Cipher{nil, new(aes.Cipher), {}, &unset} {
		for range 2 {
			for _, b := range []block{{}, {1, 2, 3}, {15: 0xFF}, drawBlock(source(3))} {
				if got := c.Seal(b); got != (block{}) {
					t.Errorf("%d: Seal of %x: %x", i, b, got)
				}
				if got := c.Open(b); got != (block{}) {
					t.Errorf("%d: Open of %x: %x", i, b, got)
				}
			}
		}
	}
}

// P7.1: New makes one for each key, also that of bytes 0.
func TestNewMakesOne(t *testing.T) {
	for _, k := range []api.Key{{}, counting()} {
		first, second := aes.New(k), aes.New(k)
		if first == nil || second == nil || first == second {
			t.Fatalf("of %x: %p and %p", k, first, second)
		}
		if first.Seal(block{}) == (block{}) || first.Open(block{}) == (block{}) {
			t.Errorf("of %x: the zero block", k)
		}
	}
}

// R4: what becomes of a key, of a block, or of what was told, changes no cipher and no answer.
func TestWhatIsHandedInIsNotKept(t *testing.T) {
	k, b := counting(), block{1, 2, 3}
	wantSealed, wantOpened := published(t, k, b)
	c := aes.New(k)
	clear(k[:])
	sealed, opened := c.Seal(b), c.Open(b)
	if b != (block{1, 2, 3}) {
		t.Error("the block was changed")
	}
	clear(b[:])
	if sealed != wantSealed || opened != wantOpened {
		t.Errorf("%x and %x", sealed, opened)
	}
	clear(sealed[:])
	clear(opened[:])
	if c.Seal(block{1, 2, 3}) != wantSealed || c.Open(block{1, 2, 3}) != wantOpened {
		t.Error("asked once more, others")
	}
}

// R6: what ciphers were asked ahead, and which of them, changes no answer.
func TestAnswersHangOnKeyAndBlockAlone(t *testing.T) {
	from := source(4)
	var keys [6]api.Key
	var ciphers [len(keys)]*aes.Cipher
	for i := range keys {
		keys[i] = drawKey(from)
		ciphers[i] = aes.New(keys[i])
	}
	for range 2000 {
		i := int(from.Uint64() % uint64(len(keys)))
		b := drawBlock(from)
		sealed, opened := published(t, keys[i], b)
		if from.Uint64()%2 == 0 {
			if got := ciphers[i].Seal(b); got != sealed {
				t.Fatalf("the cipher %d, of %x: %x, want %x", i, b, got, sealed)
			}
		} else if got := ciphers[i].Open(b); got != opened {
			t.Fatalf("the cipher %d, back of %x: %x, want %x", i, b, got, opened)
		}
	}
}

// Ways: the other box is made when Open asks for it first, and then no more.
func TestTheOtherBoxIsMadeOnce(t *testing.T) {
	var none, want [256]byte
	for a, boxed := range paperBox() {
		want[boxed] = byte(a)
	}
	c := aes.New(counting())
	if aes.OtherBox(c) != none {
		t.Error("New makes the other box")
	}
	if c.Seal(block{}); aes.OtherBox(c) != none {
		t.Error("Seal makes the other box")
	}
	if c.Open(block{}); aes.OtherBox(c) != want {
		t.Errorf("behind Open the other box is %x", aes.OtherBox(c))
	}
	aes.SpoilBox(c)
	if c.Open(block{}); aes.OtherBox(c) != want {
		t.Error("Open makes the other box once more")
	}
}

// P7.1, P7.4: each goroutine asks many blocks of its own of one cipher.
func TestSeveralAskAtOneTime(t *testing.T) {
	const askers, each = 8, 500
	k := counting()
	c := aes.New(k)
	var sealed, opened [askers][each]block
	var all sync.WaitGroup
	for i := range askers {
		all.Go(func() {
			from := source(uint64(i))
			for n := range each {
				b := drawBlock(from)
				sealed[i][n], opened[i][n] = c.Seal(b), c.Open(b)
			}
		})
	}
	all.Wait()
	for i := range askers {
		from := source(uint64(i))
		for n := range each {
			wantSealed, wantOpened := published(t, k, drawBlock(from))
			if sealed[i][n] != wantSealed || opened[i][n] != wantOpened {
				t.Fatalf("the asker %d, its block %d: %x and %x", i, n, sealed[i][n], opened[i][n])
			}
		}
	}
}

// P7.1, P7.4: of each of many ciphers all ask Open for the first time at one time, while the other box is being made.
func TestSeveralAskFirstAtOneTime(t *testing.T) {
	const askers, many = 4, 5000
	from := source(6)
	b := drawBlock(from)
	var ciphers [many]*aes.Cipher
	var wants [many]block
	for n := range ciphers {
		k := drawKey(from)
		ciphers[n] = aes.New(k)
		_, wants[n] = published(t, k, b)
	}
	var ready [many]atomic.Int32
	var wrong atomic.Int32
	var all sync.WaitGroup
	for range askers {
		all.Go(func() {
			for n, c := range ciphers {
				// All go on at once, so that none has made the box before the others ask.
				for ready[n].Add(1); ready[n].Load() < askers; {
					runtime.Gosched()
				}
				if c.Open(b) != wants[n] {
					wrong.Add(1)
				}
			}
		})
	}
	all.Wait()
	if wrong.Load() != 0 {
		t.Errorf("%d wrong answers", wrong.Load())
	}
}
