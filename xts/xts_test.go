package xts_test

import (
	library "crypto/aes"
	"encoding/hex"
	"math"
	"math/big"
	"math/rand/v2"
	"slices"
	"testing"

	"casemate/aes"
	"casemate/api"
	"casemate/xts"
)

// block is a block of a sector, or a tweak.
type block = [16]byte

// source draws the same keys, numbers, blocks and sectors at each run.
func source(seed byte) *rand.ChaCha8 {
	return rand.NewChaCha8([32]byte{seed})
}

// drawKey is the next key of a source.
func drawKey(from *rand.ChaCha8) (k api.Key) {
	from.Read(k[:])
	return k
}

// drawBlock is the next block of a source.
func drawBlock(from *rand.ChaCha8) (b block) {
	from.Read(b[:])
	return b
}

// drawSector is the next sector of a source.
func drawSector(from *rand.ChaCha8) (s api.Sector) {
	from.Read(s[:])
	return s
}

// counting is the sector 00 01 02 .. 3f.
func counting() (s api.Sector) {
	for i := range s {
		s[i] = byte(i)
	}
	return s
}

// twoKeys are two unlike ones, none of them with two like bytes.
func twoKeys() (data, tweak api.Key) {
	for i := range data {
		data[i], tweak[i] = byte(i), byte(255-i)
	}
	return data, tweak
}

// numbers are such as lie around each power of 2, and some with eight unlike bytes.
func numbers() []uint64 {
	l := []uint64{0x0102030405060708, 0x8070605040302010, math.MaxUint64 - 1, math.MaxUint64}
	for bit := range 64 {
		l = append(l, 1<<bit-1, 1<<bit, 1<<bit+1)
	}
	return l
}

// fill reads digits to the base 16 into all of to.
func fill(t *testing.T, to []byte, digits string) {
	t.Helper()
	b, err := hex.DecodeString(digits)
	if err != nil || len(b) != len(to) {
		t.Fatalf("%q is not %d bytes", digits, len(to))
	}
	copy(to, b)
}

// toNumber reads a number whose least byte is the first one.
func toNumber(t block) *big.Int {
	slices.Reverse(t[:])
	return new(big.Int).SetBytes(t[:])
}

// fromNumber lays a number below 2^128, the least byte first.
func fromNumber(n *big.Int) (t block) {
	n.FillBytes(t[:])
	slices.Reverse(t[:])
	return t
}

// paperDouble doubles by the chapter's words, on one number.
func paperDouble(t block) block {
	n := new(big.Int).Lsh(toNumber(t), 1)
	fell := n.Bit(128) == 1
	n.SetBit(n, 128, 0)
	doubled := fromNumber(n)
	if fell {
		doubled[0] ^= 0x87
	}
	return doubled
}

// paperHalve is what undoes it: whatever a bit left behind is odd, and nothing else is.
func paperHalve(t block) block {
	odd := t[0]&1 == 1
	if odd {
		t[0] ^= 0x87
	}
	n := new(big.Int).Rsh(toNumber(t), 1)
	if odd {
		n.SetBit(n, 127, 1)
	}
	return fromNumber(n)
}

// paperTweaks are the tweaks of a sector's four blocks, by Go's own ciphers.
func paperTweaks(t *testing.T, tweak api.Key, number uint64) (tweaks [4]block) {
	t.Helper()
	c, err := library.NewCipher(tweak[:])
	if err != nil {
		t.Fatal(err)
	}
	b := fromNumber(new(big.Int).SetUint64(number))
	c.Encrypt(tweaks[0][:], b[:])
	for k := 1; k < 4; k++ {
		tweaks[k] = paperDouble(tweaks[k-1])
	}
	return tweaks
}

// paper is a sector enciphered and deciphered by the chapter's words, by Go's own ciphers.
func paper(t *testing.T, data, tweak api.Key, number uint64, s api.Sector) (sealed, opened api.Sector) {
	t.Helper()
	c, err := library.NewCipher(data[:])
	if err != nil {
		t.Fatal(err)
	}
	tweaks := paperTweaks(t, tweak, number)
	for k, plus := range tweaks {
		var in, enciphered, deciphered block
		for i := range in {
			in[i] = s[16*k+i] ^ plus[i]
		}
		c.Encrypt(enciphered[:], in[:])
		c.Decrypt(deciphered[:], in[:])
		for i := range in {
			sealed[16*k+i] = enciphered[i] ^ plus[i]
			opened[16*k+i] = deciphered[i] ^ plus[i]
		}
	}
	return sealed, opened
}

// checkPaper holds what m tells, as a mode of these keys, against the paper.
func checkPaper(t *testing.T, m *xts.Mode, data, tweak api.Key, number uint64, s api.Sector) {
	t.Helper()
	sealed, opened := paper(t, data, tweak, number, s)
	if got := m.Seal(number, s); got != sealed {
		t.Fatalf("keys %x and %x, Seal of %d, %x: %x, want %x", data, tweak, number, s, got, sealed)
	}
	if got := m.Open(number, s); got != opened {
		t.Fatalf("keys %x and %x, Open of %d, %x: %x, want %x", data, tweak, number, s, got, opened)
	}
}

// doubles are such blocks as are to be doubled: of one bit, of one byte, around the ends, and drawn ones.
func doubles() []block {
	var full block
	for i := range full {
		full[i] = 0xFF
	}
	l := []block{{}, full, {0: 0x87}, {0: 0x86}, {0: 0x43, 15: 0x80}, {0: 0xC3, 15: 0xC0}}
	for bit := range 128 {
		var one block
		allButOne := full
		one[bit/8] |= 1 << (bit % 8)
		allButOne[bit/8] ^= 1 << (bit % 8)
		l = append(l, one, allButOne)
	}
	for at := range 16 {
		for value := range 256 {
			var b block
			b[at] = byte(value)
			l = append(l, b)
		}
	}
	from := source(1)
	for range 2000 {
		l = append(l, drawBlock(from))
	}
	return l
}

// P8.1: the chapter's examples, and bits that go over from byte to byte.
func TestDoubleExamples(t *testing.T) {
	for _, x := range []struct{ t, want string }{
		{"01000000000000000000000000000000", "02000000000000000000000000000000"},
		{"00000000000000000000000000000080", "87000000000000000000000000000000"},
		{"00000000000000000000000000000000", "00000000000000000000000000000000"},
		{"80000000000000000000000000000000", "00010000000000000000000000000000"},
		{"00000000000000800000000000000000", "00000000000000000100000000000000"},
		{"00000000000000000000000000008000", "00000000000000000000000000000001"},
		{"00000000000000000000000000000040", "00000000000000000000000000000080"},
		{"430000000000000000000000000000c0", "01000000000000000000000000000080"},
		{"ffffffffffffffffffffffffffffffff", "79ffffffffffffffffffffffffffffff"},
	} {
		var b, want block
		fill(t, b[:], x.t)
		fill(t, want[:], x.want)
		if got := xts.Double(b); got != want {
			t.Errorf("of %s: %x, want %s", x.t, got, x.want)
		}
	}
}

// P8.1
func TestDoubleByTheChaptersWords(t *testing.T) {
	for _, b := range doubles() {
		if got, want := xts.Double(b), paperDouble(b); got != want {
			t.Errorf("of %x: %x, want %x", b, got, want)
		}
	}
}

// P8.3
func TestDoubleIsUndoneByHalving(t *testing.T) {
	for _, b := range doubles() {
		if got := paperHalve(xts.Double(b)); got != b {
			t.Errorf("the half of the double of %x: %x", b, got)
		}
		if got := xts.Double(paperHalve(b)); got != b {
			t.Errorf("the double of the half of %x: %x", b, got)
		}
	}
}

// P8.3: blocks that differ in two bytes alone, in all ways: in the first one and the last one too, where the bit that falls out comes in.
func TestUnlikeBlocksHaveUnlikeDoubles(t *testing.T) {
	for _, at := range [][2]int{{0, 15}, {0, 1}, {7, 8}, {14, 15}} {
		found := map[block]bool{}
		for n := range 1 << 16 {
			var b block
			b[at[0]], b[at[1]] = byte(n>>8), byte(n)
			found[xts.Double(b)] = true
		}
		if len(found) != 1<<16 {
			t.Errorf("at the places %v: %d doubles", at, len(found))
		}
	}
}

// P8.3
func TestDoubleOfASumIsTheSumOfTheDoubles(t *testing.T) {
	sum := func(a, b block) block {
		for i := range a {
			a[i] ^= b[i]
		}
		return a
	}
	all := doubles()
	for n, a := range all {
		for _, step := range []int{1, 2, 128, 2048} {
			b := all[(n+step)%len(all)]
			if got, want := xts.Double(sum(a, b)), sum(xts.Double(a), xts.Double(b)); got != want {
				t.Fatalf("of %x and %x: %x, want %x", a, b, got, want)
			}
		}
	}
}

// P8.1: the chapter's examples, both keys 32 bytes 0.
func TestExamples(t *testing.T) {
	var want block
	fill(t, want[:], "dc95c078a2408989ad48a21492842087")
	m, c := xts.New(api.Key{}, api.Key{}), aes.New(api.Key{})
	if got := c.Seal(block{}); got != want {
		t.Fatalf("16 bytes 0, enciphered: %x", got)
	}
	enciphered := c.Seal(want)
	for i := range enciphered {
		enciphered[i] ^= want[i]
	}
	sealed := m.Seal(0, api.Sector{})
	if [16]byte(sealed[:16]) != enciphered {
		t.Errorf("64 bytes 0, enciphered, begin with %x", sealed[:16])
	}
	for _, s := range []api.Sector{{}, {1, 2, 3}, counting()} {
		if got := m.Open(5, m.Seal(5, s)); got != s {
			t.Errorf("%x comes back as %x", s, got)
		}
	}
}

// P9: of units of the standard's own cases (IEEE 1619, those for two keys of 32 bytes), the first 64 bytes: as the blocks ahead hang on none behind, a sector of these is enciphered just so.
func TestPublished(t *testing.T) {
	var data, tweak api.Key
	fill(t, data[:], "2718281828459045235360287471352662497757247093699959574966967627")
	fill(t, tweak[:], "3141592653589793238462643383279502884197169399375105820974944592")
	m := xts.New(data, tweak)
	for _, x := range []struct {
		number uint64
		sealed string
	}{
		{0xFF, "1c3b3a102f770386e4836c99e370cf9bea00803f5e482357a4ae12d414a3e63b5d31e276f8fe4a8d66b317f9ac683f44680a86ac35adfc3345befecb4bb188fd"},
		{0xFFFF, "77a31251618a15e6b92d1d66dffe7b50b50bad552305ba0217a610688eff7e11e1d0225438e093242d6db274fde801d4cae06f2092c728b2478559df58e837c2"},
		{0xFFFFFF, "e387aaa58ba483afa7e8eb469778317ecf4cf573aa9d4eac23f2cdf914e4e200a8b490e42ee646802dc6ee2b471b278195d60918ececb44bf79966f83faba049"},
		{0xFFFFFFFF, "bf53d2dade78e822a4d949a9bc6766b01b06a8ef70d26748c6a7fc36d80ae4c5520f7c4ab0ac8544424fa405162fef5a6b7f229498063618d39f0003cb5fb8d1"},
		{0xFFFFFFFFFF, "64497e5a831e4a932c09be3e5393376daa599548b816031d224bbf50a818ed2350eae7e96087c8a0db51ad290bd00c1ac1620857635bf246c176ab463be30b80"},
	} {
		checkSealed(t, m, x.number, x.sealed)
	}
}

// P9: numbers of eight bytes, by OpenSSL's XTS.
func TestPublishedForLongNumbers(t *testing.T) {
	m := xts.New(twoKeys())
	for _, x := range []struct {
		number uint64
		sealed string
	}{
		{0x0102030405060708, "da352f9f34b6d9531f91768dce65a0a91c885f7fa4be7f5f7151517dcde1fa69e15d52203921e53f756f781528e3a1f70dd29d8a4cd0d3d60df77ffa8032b2bc"},
		{1 << 63, "dcda60df7478945ed9dbd109a5e68ec81216cc8ee0f3ce565263d0ffc1657c2fede6e9390600660dfaa952df32c077a97d27e6d4af01e13aa18ca5566318ec1d"},
		{math.MaxUint64, "bf765d31676e3d1022da894db70c4d784ef4f95eeca2179156a5f951cb83bdcaabf8a7436677e449a820294a851e9d6ab9e892cc60f954e10f997ccc143c4842"},
	} {
		checkSealed(t, m, x.number, x.sealed)
	}
}

// checkSealed holds what m tells of the sector 00 01 02 .. 3f, and back of it, against digits to the base 16.
func checkSealed(t *testing.T, m *xts.Mode, number uint64, digits string) {
	t.Helper()
	var sealed api.Sector
	fill(t, sealed[:], digits)
	if got := m.Seal(number, counting()); got != sealed {
		t.Errorf("by the number %d: %x", number, got)
	}
	if got := m.Open(number, sealed); got != counting() {
		t.Errorf("back by the number %d: %x", number, got)
	}
}

// P8.1: keys that are alike, unlike, and changed for one another; sectors of bytes 0, of bytes ff, and drawn ones.
func TestSealAndOpenByTheChaptersWords(t *testing.T) {
	from := source(2)
	data, tweak := twoKeys()
	var full api.Sector
	for i := range full {
		full[i] = 0xFF
	}
	pairs := [][2]api.Key{{}, {data, tweak}, {tweak, data}, {data, data}, {{0: 1}, {31: 2}}, {{31: 0x80}, {}}}
	for range 10 {
		pairs = append(pairs, [2]api.Key{drawKey(from), drawKey(from)})
	}
	for _, keys := range pairs {
		m := xts.New(keys[0], keys[1])
		for _, number := range []uint64{0, 1, 255, 256, 1<<32 - 1, math.MaxUint64, from.Uint64()} {
			for _, s := range []api.Sector{{}, full, counting(), drawSector(from)} {
				checkPaper(t, m, keys[0], keys[1], number, s)
			}
		}
	}
}

// P8.1
func TestSealAndOpenByEachBitOfTheNumber(t *testing.T) {
	data, tweak := twoKeys()
	m := xts.New(data, tweak)
	for _, number := range numbers() {
		checkPaper(t, m, data, tweak, number, counting())
	}
}

// P8.2
func TestBack(t *testing.T) {
	from := source(3)
	for range 20 {
		m := xts.New(drawKey(from), drawKey(from))
		for _, number := range append(numbers(), from.Uint64()) {
			s := drawSector(from)
			if got := m.Open(number, m.Seal(number, s)); got != s {
				t.Fatalf("Open of Seal of %d, %x: %x", number, s, got)
			}
			if got := m.Seal(number, m.Open(number, s)); got != s {
				t.Fatalf("Seal of Open of %d, %x: %x", number, s, got)
			}
		}
	}
}

// P8.2: sectors that differ in two bytes alone, of one block or of two, in all ways.
func TestUnlikeSectorsAreEncipheredToUnlikeOnes(t *testing.T) {
	m := xts.New(twoKeys())
	for _, at := range [][2]int{{0, 1}, {15, 16}, {5, 63}} {
		sealed, opened := map[api.Sector]bool{}, map[api.Sector]bool{}
		for n := range 1 << 14 {
			s := counting()
			s[at[0]], s[at[1]] = byte(n>>7), byte(n&0x7F)
			sealed[m.Seal(7, s)] = true
			opened[m.Open(7, s)] = true
		}
		if len(sealed) != 1<<14 || len(opened) != 1<<14 {
			t.Errorf("at the places %v: %d sealed ones, %d opened ones", at, len(sealed), len(opened))
		}
	}
}

// P8.2: with a bit of a sector, just the block changes in which it lies.
func TestNoBlockHangsOnTheOthers(t *testing.T) {
	m := xts.New(twoKeys())
	s := counting()
	for _, to := range []func(uint64, api.Sector) api.Sector{m.Seal, m.Open} {
		was := to(9, s)
		for bit := range 8 * len(s) {
			turned := s
			turned[bit/8] ^= 1 << (bit % 8)
			is := to(9, turned)
			for k := range 4 {
				changed := [16]byte(is[16*k:16*k+16]) != [16]byte(was[16*k:16*k+16])
				if changed != (bit/128 == k) {
					t.Fatalf("the bit %d turned: of the block %d, changed: %v", bit, k, changed)
				}
			}
		}
	}
}

// P8.1, R1, R3: of nil, and of what New did not make, the zero sector, however often it is asked.
func TestWhatNewDidNotMake(t *testing.T) {
	var unset xts.Mode
	for i, m := range []*xts.Mode{nil, new(xts.Mode), {}, &unset} {
		for range 2 {
			for _, number := range []uint64{0, 1, math.MaxUint64} {
				for _, s := range []api.Sector{{}, {1, 2, 3}, {63: 0xFF}, counting()} {
					if got := m.Seal(number, s); got != (api.Sector{}) {
						t.Errorf("%d: Seal of %d, %x: %x", i, number, s, got)
					}
					if got := m.Open(number, s); got != (api.Sector{}) {
						t.Errorf("%d: Open of %d, %x: %x", i, number, s, got)
					}
				}
			}
		}
	}
}

// P8.1: New makes one for each two keys, also for those of bytes 0.
func TestNewMakesOne(t *testing.T) {
	data, tweak := twoKeys()
	for _, keys := range [][2]api.Key{{}, {data, tweak}, {data, data}} {
		first, second := xts.New(keys[0], keys[1]), xts.New(keys[0], keys[1])
		if first == nil || second == nil || first == second {
			t.Fatalf("of %x: %p and %p", keys, first, second)
		}
		checkPaper(t, first, keys[0], keys[1], 0, api.Sector{})
		checkPaper(t, second, keys[0], keys[1], 0, api.Sector{})
	}
}

// R4: what becomes of keys, of a sector, or of what was told, changes no mode and no answer.
func TestWhatIsHandedInIsNotKept(t *testing.T) {
	data, tweak := twoKeys()
	s, b := counting(), block{15: 0x81}
	wantSealed, wantOpened := paper(t, data, tweak, 3, s)
	m := xts.New(data, tweak)
	clear(data[:])
	clear(tweak[:])
	sealed, opened, doubled := m.Seal(3, s), m.Open(3, s), xts.Double(b)
	if s != counting() || b != (block{15: 0x81}) {
		t.Error("the sector was changed, or the block")
	}
	clear(s[:])
	clear(b[:])
	if sealed != wantSealed || opened != wantOpened || doubled != (block{0: 0x87, 15: 0x02}) {
		t.Errorf("%x, %x and %x", sealed, opened, doubled)
	}
	clear(sealed[:])
	clear(opened[:])
	if m.Seal(3, counting()) != wantSealed || m.Open(3, counting()) != wantOpened {
		t.Error("asked once more, others")
	}
}

// R6: what modes were asked ahead, of what numbers, and which of them, changes no answer.
func TestAnswersHangOnKeysNumberAndSectorAlone(t *testing.T) {
	from := source(4)
	var keys [5][2]api.Key
	var modes [len(keys)]*xts.Mode
	for i := range keys {
		keys[i] = [2]api.Key{drawKey(from), drawKey(from)}
		modes[i] = xts.New(keys[i][0], keys[i][1])
	}
	for range 2000 {
		i := int(from.Uint64() % uint64(len(keys)))
		number, s := from.Uint64()%4, drawSector(from)
		sealed, opened := paper(t, keys[i][0], keys[i][1], number, s)
		if from.Uint64()%2 == 0 {
			if got := modes[i].Seal(number, s); got != sealed {
				t.Fatalf("the mode %d, of %d, %x: %x, want %x", i, number, s, got, sealed)
			}
		} else if got := modes[i].Open(number, s); got != opened {
			t.Fatalf("the mode %d, back of %d, %x: %x, want %x", i, number, s, got, opened)
		}
	}
}
