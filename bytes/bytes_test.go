package bytes_test

import (
	"encoding/binary"
	"math"
	"math/rand/v2"
	"slices"
	"strings"
	"sync"
	"testing"

	"casemate/api"
	"casemate/bytes"
)

// mixed is n bytes of all kinds, the same ones for the same n and seed.
func mixed(n int, seed uint64) []byte {
	draw := rand.New(rand.NewPCG(seed, uint64(n)))
	b := make([]byte, n)
	for i := range b {
		b[i] = byte(draw.Uint32())
	}
	return b
}

// number is n in w bytes by Go's own library.
func number(w int, n uint64) []byte {
	return binary.BigEndian.AppendUint64(nil, n)[8-w:]
}

// widths are those that numbers have.
func widths() []int {
	return []int{1, 2, 4, 8}
}

// most is the greatest number of width w.
func most(w int) uint64 {
	return math.MaxUint64 >> (64 - 8*w)
}

// wrongWidths are below 0 and huge, between the widths, and such as would be fit ones if they were cut to fewer bits.
func wrongWidths() []int {
	return []int{math.MinInt, math.MinInt + 1, math.MinInt + 8, -1 << 32, -256, -8, -4, -2, -1, 0, 3, 5, 6, 7, 9, 10, 12, 16, 32, 64, 255, 256, 257, 260, 1<<16 + 1, 1 << 31, 1 << 32, 1<<32 + 2, 1<<61 + 1, 1<<62 + 4, math.MaxInt - 1, math.MaxInt}
}

// numbers are such as lie around the edges of the widths.
func numbers() []uint64 {
	l := []uint64{0, 1, 2, 0x0102030405060708, 0x8070605040302010, math.MaxUint64}
	for bit := range 64 {
		l = append(l, 1<<bit-1, 1<<bit, 1<<bit+1)
	}
	return l
}

// numOf is the answer of Num for a number that fits.
func numOf(t *testing.T, b []byte, w int, n uint64) []byte {
	t.Helper()
	got, e := bytes.Num(b, w, n)
	if e != api.OK {
		t.Fatalf("%d in %d bytes: %d", n, w, e)
	}
	return got
}

// textOf is the answer of Text for a text that is short enough.
func textOf(t *testing.T, b []byte, s string) []byte {
	t.Helper()
	got, e := bytes.Text(b, s)
	if e != api.OK {
		t.Fatalf("a text of %d bytes: %d", len(s), e)
	}
	return got
}

// rowOf is the answer of Row for few enough parts.
func rowOf(t *testing.T, domain byte, parts ...[]byte) []byte {
	t.Helper()
	got, e := bytes.Row(domain, parts...)
	if e != api.OK {
		t.Fatalf("a row of %d parts: %d", len(parts), e)
	}
	return got
}

// sameParts tells whether two lists have the same parts, be these nil or empty.
func sameParts(a, b [][]byte) bool {
	return slices.EqualFunc(a, b, slices.Equal[[]byte])
}

// isRow holds that row is one of domain and parts.
func isRow(t *testing.T, row []byte, domain byte, parts [][]byte) {
	t.Helper()
	d, l, e := bytes.Parts(row)
	if e != api.OK || d != domain || !sameParts(l, parts) {
		t.Errorf("Parts of %d bytes: %c, %d parts, %d; want %c, %d parts", len(row), d, len(l), e, domain, len(parts))
	}
}

// isNoRow holds that these bytes are none, and that nothing is told of them.
func isNoRow(t *testing.T, b []byte) {
	t.Helper()
	if d, l, e := bytes.Parts(b); e != api.ErrForm || d != 0 || len(l) != 0 {
		t.Errorf("Parts of %x: %c, %x, %d", b[:min(len(b), 100)], d, l, e)
	}
}

// P6.1: the chapter's examples.
func TestNumAndTextExamples(t *testing.T) {
	if got, e := bytes.Num(nil, 2, 258); e != api.OK || string(got) != "\x01\x02" {
		t.Errorf("258 in 2 bytes: %x, %d", got, e)
	}
	if got, e := bytes.Num(nil, 1, 256); e != api.ErrArg || len(got) != 0 {
		t.Errorf("256 in 1 byte: %x, %d", got, e)
	}
	if got, e := bytes.Num(nil, 3, 1); e != api.ErrArg || len(got) != 0 {
		t.Errorf("1 in 3 bytes: %x, %d", got, e)
	}
	if got, e := bytes.Text([]byte{7}, "ab"); e != api.OK || string(got) != "\x07\x00\x02ab" {
		t.Errorf("ab behind 07: %x, %d", got, e)
	}
}

// P6.1, R2: at all edges of the widths, behind bytes of all kinds; what does not fit is refused, and nothing stands beside the error.
func TestNumAtTheEdges(t *testing.T) {
	for _, before := range [][]byte{nil, {}, {0}, {255, 254}, mixed(100, 1)} {
		for _, w := range widths() {
			for _, n := range append(numbers(), most(w)-1, most(w)) {
				got, e := bytes.Num(before, w, n)
				if n > most(w) {
					if e != api.ErrArg || len(got) != 0 {
						t.Errorf("%d in %d bytes: %x, %d", n, w, got, e)
					}
					continue
				}
				if want := append(slices.Clone(before), number(w, n)...); e != api.OK || !slices.Equal(got, want) {
					t.Errorf("%d in %d bytes: %x, %d, want %x", n, w, got, e, want)
				}
			}
		}
	}
}

// P6.1, R1, R2: no other width, whatever the number.
func TestNumOfWrongWidths(t *testing.T) {
	for _, w := range wrongWidths() {
		for _, n := range numbers() {
			for _, before := range [][]byte{nil, {1, 2}} {
				if got, e := bytes.Num(before, w, n); e != api.ErrArg || len(got) != 0 {
					t.Errorf("%d in %d bytes: %x, %d", n, w, got, e)
				}
			}
		}
	}
}

// P6.1: texts of all lengths, of any bytes, up to 65535; not their runes are counted.
func TestTextOfAllLengths(t *testing.T) {
	lengths := []int{511, 512, 1000, 1 << 12, 1<<15 - 1, 1 << 15, 65280, 65534, 65535}
	for n := range 300 {
		lengths = append(lengths, n)
	}
	for _, n := range lengths {
		s := string(mixed(n, 2))
		for _, before := range [][]byte{nil, {}, {7}, mixed(70, 3)} {
			want := string(before) + string(number(2, uint64(n))) + s
			if got := textOf(t, before, s); string(got) != want {
				t.Errorf("of %d bytes: %d bytes, that begin with %x", n, len(got), got[:min(len(got), 80)])
			}
		}
	}
	if got := textOf(t, nil, "é\x00\xff"); string(got) != "\x00\x04é\x00\xff" {
		t.Errorf("of runes: %x", got)
	}
}

// P6.1, R2: texts that are too long, also such as would be short if their length were cut to two bytes.
func TestTextThatIsTooLong(t *testing.T) {
	for _, s := range []string{strings.Repeat("a", 65536), strings.Repeat("a", 65537), strings.Repeat("a", 1<<17), strings.Repeat("a", 1<<20+5), strings.Repeat("é", 32768)} {
		for _, before := range [][]byte{nil, {7}} {
			if got, e := bytes.Text(before, s); e != api.ErrLong || len(got) != 0 {
				t.Errorf("of %d bytes: %d bytes, %d", len(s), len(got), e)
			}
		}
	}
	if got := textOf(t, nil, strings.Repeat("é", 32767)+"a"); len(got) != 65537 {
		t.Errorf("of 65535 bytes: %d bytes", len(got))
	}
}

// P6.2: the chapter's examples.
func TestRowExamples(t *testing.T) {
	if got := rowOf(t, 'L'); string(got) != "\x4c\x00" {
		t.Errorf("L without parts: %x", got)
	}
	if got := rowOf(t, 'L', nil, []byte("a")); string(got) != "\x4c\x02\x00\x00\x00\x00\x00\x00\x00\x01\x61" {
		t.Errorf("L, none and a: %x", got)
	}
	isRow(t, []byte("\x4c\x00"), 'L', nil)
	isNoRow(t, []byte("\x4c"))
	isNoRow(t, []byte("\x4c\x00\x00"))
	isNoRow(t, []byte("\x4c\x01\x00\x00\x00\x02\x61"))
}

// laid is the row of domain and parts by the chapter's words.
func laid(domain byte, parts [][]byte) []byte {
	row := []byte{domain, byte(len(parts))}
	for _, part := range parts {
		row = append(row, number(4, uint64(len(part)))...)
		row = append(row, part...)
	}
	return row
}

// P6.2: all domains, and all numbers of parts, of unlike lengths, empty ones among them.
func TestRowOfAllDomainsAndManyParts(t *testing.T) {
	for domain := range 256 {
		for many := range 17 {
			parts := make([][]byte, many)
			for i := range parts {
				parts[i] = mixed((domain*i)%40, uint64(i))
			}
			row := rowOf(t, byte(domain), parts...)
			if !slices.Equal(row, laid(byte(domain), parts)) {
				t.Fatalf("domain %d, %d parts: %x", domain, many, row)
			}
			isRow(t, row, byte(domain), parts)
		}
	}
}

// P6.2: parts so long that their lengths take two, three and four bytes.
func TestRowOfLongParts(t *testing.T) {
	for _, n := range []int{255, 256, 257, 65535, 65536, 65537, 1<<24 - 1, 1 << 24, 1<<24 + 1} {
		parts := [][]byte{[]byte("ahead"), mixed(n, 4), nil, []byte("behind")}
		row := rowOf(t, 'N', parts...)
		if !slices.Equal(row, laid('N', parts)) {
			t.Errorf("a part of %d bytes: the row is another one", n)
		}
		isRow(t, row, 'N', parts)
	}
}

// P6.2, R2: 16 parts may be, more may not; neither where they are asked for nor where they are read.
func TestRowOfTooManyParts(t *testing.T) {
	for _, many := range []int{0, 1, 15, 16} {
		parts := slices.Repeat([][]byte{[]byte("ab")}, many)
		isRow(t, rowOf(t, 'N', parts...), 'N', parts)
	}
	for _, many := range []int{17, 18, 255, 256, 257, 272, 512, 1 << 16, 1<<16 + 1} {
		for _, part := range [][]byte{nil, {}, []byte("ab")} {
			parts := slices.Repeat([][]byte{part}, many)
			if got, e := bytes.Row('N', parts...); e != api.ErrLong || len(got) != 0 {
				t.Errorf("%d parts: %d bytes, %d", many, len(got), e)
			}
			if many < 256 {
				isNoRow(t, laid('N', parts))
			}
		}
	}
	for many := 17; many < 256; many++ {
		isNoRow(t, []byte{'N', byte(many)})
	}
}

// P6.2: what is cut off a row, at each place, or longer than it; and each length that is another one.
func TestPartsOfTornRows(t *testing.T) {
	parts := [][]byte{[]byte("ab"), nil, mixed(300, 5), []byte("c")}
	row := rowOf(t, 'N', parts...)
	for n := range row {
		isNoRow(t, row[:n])
	}
	for c := range 256 {
		isNoRow(t, append(slices.Clone(row), byte(c)))
	}
	isNoRow(t, append(slices.Clone(row), row...))
	for many := range 256 {
		other := slices.Clone(row)
		other[1] = byte(many)
		if many != len(parts) {
			isNoRow(t, other)
		}
	}
	at := 2
	for _, part := range parts {
		for place := at; place < at+4; place++ {
			for c := range 256 {
				other := slices.Clone(row)
				other[place] = byte(c)
				if !slices.Equal(other, row) {
					isNoRow(t, other)
				}
			}
		}
		at += 4 + len(part)
	}
}

// P6.2, R1: parts that are said to be huge, also such as would come round if they were added up, or read as numbers below 0.
func TestPartsOfHugeLengths(t *testing.T) {
	for _, length := range []uint64{1<<31 - 1, 1 << 31, 1<<31 + 1, 1<<32 - 1, 1<<32 - 2, 1<<32 - 4, 1<<32 - 6, 1 << 30, 1 << 24} {
		for _, many := range []byte{1, 2, 16} {
			for _, behind := range []int{0, 1, 6, 300} {
				b := append([]byte{'N', many}, number(4, length)...)
				isNoRow(t, append(b, make([]byte, behind)...))
			}
		}
	}
}

// readRow is what a row's bytes are laid of, by the chapter's words, apart from the program.
func readRow(b []byte) (domain byte, parts [][]byte, ok bool) {
	if len(b) < 2 || b[1] > 16 {
		return 0, nil, false
	}
	domain, many, rest := b[0], int(b[1]), b[2:]
	for range many {
		if len(rest) < 4 {
			return 0, nil, false
		}
		length := uint64(binary.BigEndian.Uint32(rest))
		rest = rest[4:]
		if uint64(len(rest)) < length {
			return 0, nil, false
		}
		parts = append(parts, rest[:length])
		rest = rest[length:]
	}
	return domain, parts, len(rest) == 0
}

// readsAlike holds that Parts takes b just if it is a row, and that then it is the row of what Parts tells.
func readsAlike(t *testing.T, b []byte) (isOne bool) {
	t.Helper()
	domain, parts, ok := readRow(b)
	if !ok {
		isNoRow(t, b)
		return false
	}
	isRow(t, b, domain, parts)
	d, l, _ := bytes.Parts(b)
	if again := rowOf(t, d, l...); !slices.Equal(again, b) {
		t.Errorf("%x is laid again as %x", b, again)
	}
	return true
}

// P6.2, P6.5: all bytes 0, 1 and 2 of up to 11, which are rows of up to two parts, or none.
func TestPartsOfAllShortBytes(t *testing.T) {
	rows := 0
	for n := range 12 {
		b := make([]byte, n)
		for {
			if readsAlike(t, b) {
				rows++
			}
			place := 0
			for place < n && b[place] == 2 {
				b[place] = 0
				place++
			}
			if place == n {
				break
			}
			b[place]++
		}
	}
	// By each of three domains: no part; a part of 0, 1 or 2 bytes; two parts of 0 and 0, 0 and 1, 1 and 0 bytes.
	if want := 3 * (1 + (1 + 3 + 9) + (1 + 3 + 3)); rows != want {
		t.Errorf("%d rows, want %d", rows, want)
	}
}

// P6.2, P6.5: bytes that were rows till some of them were changed.
func TestPartsOfChangedRows(t *testing.T) {
	draw := rand.New(rand.NewPCG(6, 6))
	rows := 0
	for range 20000 {
		parts := make([][]byte, draw.IntN(18))
		for i := range parts {
			parts[i] = mixed(draw.IntN(6), draw.Uint64())
		}
		b := laid(byte(draw.Uint32()), parts)
		for range draw.IntN(4) {
			b[draw.IntN(len(b))] = byte(draw.IntN(8))
		}
		if readsAlike(t, b) {
			rows++
		}
	}
	if rows < 2000 || rows > 18000 {
		t.Errorf("%d of 20000 are rows: that tries little", rows)
	}
}

// partLists are all lists of up to three parts out of some that are easily taken for each other.
func partLists() [][][]byte {
	pool := [][]byte{nil, {0}, {0, 0}, {1}, {0, 0, 0, 0}, {0, 0, 0, 1}, {0, 0, 0, 0, 0}, {0, 0, 0, 1, 0}, []byte("ab"), []byte("a"), []byte("b")}
	lists := [][][]byte{{}}
	for from := 0; len(lists[from]) < 3; from++ {
		for _, part := range pool {
			lists = append(lists, append(slices.Clone(lists[from]), part))
		}
	}
	return lists
}

// P6.5: unlike domains, or unlike parts, unlike rows.
func TestUnlikeRows(t *testing.T) {
	type pair struct {
		domain byte
		parts  int
	}
	seen := map[string]pair{}
	for i, parts := range partLists() {
		for _, domain := range []byte{0, 1, 2, 'D', 'L', 'N', 255} {
			row := rowOf(t, domain, parts...)
			if other, ok := seen[string(row)]; ok {
				t.Errorf("%d, %x and %d, list %d have one row", domain, parts, other.domain, other.parts)
			}
			seen[string(row)] = pair{domain, i}
			isRow(t, row, domain, parts)
		}
	}
	if want := 7 * (1 + 11 + 11*11 + 11*11*11); len(seen) != want {
		t.Errorf("%d rows, want %d", len(seen), want)
	}
}

// P6.3: the chapter's examples.
func TestTapeExamples(t *testing.T) {
	b := []byte{0, 2, 'a', 'b', 'c'}
	p := bytes.Open(b)
	if s := p.Text(1); s != "" || !p.Torn() || p.Text(2) != "" {
		t.Errorf("Text(1): %q, torn %t", s, p.Torn())
	}
	p = bytes.Open(b)
	if p.Text(2) != "ab" || string(p.Bytes(1)) != "c" || !p.End() || p.Torn() {
		t.Error("Text(2), Bytes(1), End")
	}
}

// P6.3: numbers of all widths and at all their edges, behind others and ahead of others.
func TestTapeNum(t *testing.T) {
	for _, w := range widths() {
		for _, n := range append(numbers(), most(w)-1, most(w)) {
			n &= most(w)
			p := bytes.Open(slices.Concat([]byte{9}, number(w, n), []byte{200, 201}))
			if p.Num(1) != 9 || p.Num(w) != n || p.Torn() || p.End() || p.Num(2) != 200<<8+201 || p.Torn() || !p.End() {
				t.Errorf("%d of width %d", n, w)
			}
		}
	}
}

// P6.3: the next bytes, as many as one likes, till there are none.
func TestTapeBytes(t *testing.T) {
	b := mixed(200, 7)
	for step := 1; step <= 200; step++ {
		p := bytes.Open(b)
		for from := 0; from < len(b); from += step {
			many := min(step, len(b)-from)
			if got := p.Bytes(many); p.Torn() || !slices.Equal(got, b[from:from+many]) {
				t.Fatalf("%d bytes from %d on: %x", many, from, got)
			}
			if got := p.Bytes(0); p.Torn() || len(got) != 0 {
				t.Fatalf("no bytes behind %d: %x", from+many, got)
			}
			if p.End() != (from+many == len(b)) {
				t.Fatalf("behind %d: End %t", from+many, p.End())
			}
		}
	}
}

// P6.3: a text is taken if it has at most as many bytes as may be.
func TestTapeText(t *testing.T) {
	for _, n := range []int{0, 1, 2, 3, 48, 255, 256, 257, 1000, 65534, 65535} {
		s := string(mixed(n, 8))
		b := textOf(t, nil, s)
		for _, limit := range []int{n, n + 1, n + 256, 65535, 65536, 1 << 31, 1 << 32, math.MaxInt} {
			p := bytes.Open(append(slices.Clone(b), 5))
			if p.Text(limit) != s || p.Torn() || p.End() || p.Num(1) != 5 || !p.End() {
				t.Errorf("a text of %d bytes, if it may have %d", n, limit)
			}
		}
		for _, limit := range []int{n - 1, n - 2, n - 256, -1, -2, -65536, -1 << 32, math.MinInt} {
			p := bytes.Open(append(slices.Clone(b), 5))
			if p.Text(limit) != "" {
				t.Errorf("a text of %d bytes, if it may have %d", n, limit)
			}
			isTorn(t, p)
		}
	}
}

// isTorn holds that p is torn, and stays so, and that nothing is taken of it any more, whatever it is asked.
func isTorn(t *testing.T, p *bytes.Tape) {
	t.Helper()
	for range 2 {
		if !p.Torn() || p.End() {
			t.Fatalf("Torn %t, End %t", p.Torn(), p.End())
		}
		for _, w := range append(widths(), wrongWidths()...) {
			if n := p.Num(w); n != 0 || !p.Torn() || p.End() {
				t.Errorf("Num(%d): %d", w, n)
			}
		}
		for _, n := range []int{math.MinInt, -1, 0, 1, 2, 64, 1 << 32, math.MaxInt} {
			if b := p.Bytes(n); len(b) != 0 || !p.Torn() || p.End() {
				t.Errorf("Bytes(%d): %x", n, b)
			}
			if s := p.Text(n); s != "" || !p.Torn() || p.End() {
				t.Errorf("Text(%d): %q", n, s)
			}
		}
	}
}

// P6.3, R1: numbers of which some bytes, or all, are not there.
func TestTapeWithoutTheNumber(t *testing.T) {
	for _, w := range widths() {
		for there := range w {
			for _, ahead := range []int{0, 1, 10} {
				p := bytes.Open(slices.Repeat([]byte{255}, ahead+there))
				p.Bytes(ahead)
				if p.Torn() || p.Num(w) != 0 {
					t.Errorf("width %d, %d bytes", w, there)
				}
				isTorn(t, p)
			}
		}
	}
}

// P6.3, R1: widths that are none, whatever stands there.
func TestTapeWrongWidths(t *testing.T) {
	for _, w := range wrongWidths() {
		for _, n := range []int{0, 1, 3, 8, 100} {
			p := bytes.Open(slices.Repeat([]byte{255}, n))
			if p.Num(w) != 0 {
				t.Errorf("width %d, %d bytes", w, n)
			}
			isTorn(t, p)
		}
	}
}

// P6.3, R1: more bytes than are there, or less than none.
func TestTapeWrongNumbersOfBytes(t *testing.T) {
	for _, there := range []int{0, 1, 2, 64} {
		for _, n := range []int{math.MinInt, math.MinInt + 1, -1 << 32, -65, -64, -2, -1, there + 1, there + 2, 1 << 16, 1 << 31, 1 << 32, 1<<32 + 1, math.MaxInt - 1, math.MaxInt} {
			for _, ahead := range []int{0, 1, 10} {
				p := bytes.Open(mixed(ahead+there, 9))
				p.Bytes(ahead)
				if p.Torn() || len(p.Bytes(n)) != 0 {
					t.Errorf("%d bytes of %d", n, there)
				}
				isTorn(t, p)
			}
		}
	}
}

// P6.3: texts of which some bytes, or all, are not there.
func TestTapeWithoutTheText(t *testing.T) {
	for _, n := range []int{0, 1, 2, 255, 256, 300, 65535} {
		b := textOf(t, nil, strings.Repeat("a", n))
		for _, there := range []int{0, 1, 2, 3, n / 2, n, n + 1} {
			if there >= len(b) {
				continue
			}
			for _, limit := range []int{n, 65535, math.MaxInt} {
				p := bytes.Open(b[:there])
				if p.Text(limit) != "" {
					t.Errorf("%d bytes of a text of %d", there, n)
				}
				isTorn(t, p)
			}
		}
	}
}

// P6.3: what was taken ahead was there, and is told; a tape is torn from then on, even if there is enough for what is asked.
func TestTapeIsTornFromThenOn(t *testing.T) {
	for i, tear := range []func(p *bytes.Tape){
		func(p *bytes.Tape) { p.Num(3) },
		func(p *bytes.Tape) { p.Num(0) },
		func(p *bytes.Tape) { p.Num(8) },
		func(p *bytes.Tape) { p.Bytes(8) },
		func(p *bytes.Tape) { p.Bytes(-1) },
		func(p *bytes.Tape) { p.Text(1) },
		func(p *bytes.Tape) { p.Text(-1) },
	} {
		p := bytes.Open([]byte{7, 0, 2, 'a', 'b', 0, 0, 0})
		if p.Num(1) != 7 || p.Torn() || p.End() {
			t.Fatal("what stands first")
		}
		tear(p)
		if !p.Torn() {
			t.Errorf("%d: it is not torn", i)
		}
		isTorn(t, p)
	}
}

// P6.3: asking whether a tape is torn, or at its end, changes nothing.
func TestAskingATape(t *testing.T) {
	p := bytes.Open([]byte{1, 2})
	for range 3 {
		if p.Torn() || p.End() {
			t.Fatal("ahead of all")
		}
	}
	if p.Num(2) != 258 {
		t.Error("what stands there")
	}
	for range 3 {
		if p.Torn() || !p.End() {
			t.Fatal("behind all")
		}
	}
}

// P6.3: no bytes are a tape, too, which is at its end.
func TestTapeOfNoBytes(t *testing.T) {
	for _, b := range [][]byte{nil, {}} {
		p := bytes.Open(b)
		if p == nil || p.Torn() || !p.End() || len(p.Bytes(0)) != 0 || p.Torn() || !p.End() {
			t.Fatal("a tape of no bytes")
		}
		p.Num(1)
		isTorn(t, p)
	}
}

// P6.3, R3: nil, and what Open did not make.
func TestNoTape(t *testing.T) {
	isTorn(t, nil)
	isTorn(t, &bytes.Tape{})
	isTorn(t, new(bytes.Tape))
	var none bytes.Tape
	isTorn(t, &none)
	if none.Bytes(0); !none.Torn() {
		t.Error("no bytes of what Open did not make")
	}
}

// piece is something that is laid, and how it is taken back.
type piece struct {
	lay  func(b []byte) ([]byte, api.Errno)
	same func(p *bytes.Tape) bool
}

// pieceOf draws a number, a text, or bytes.
func pieceOf(draw *rand.Rand) piece {
	switch draw.IntN(3) {
	case 0:
		w := widths()[draw.IntN(4)]
		n := draw.Uint64() & most(w) >> draw.IntN(8*w)
		return piece{
			lay:  func(b []byte) ([]byte, api.Errno) { return bytes.Num(b, w, n) },
			same: func(p *bytes.Tape) bool { return p.Num(w) == n },
		}
	case 1:
		s := string(mixed(draw.IntN(1<<draw.IntN(11)), draw.Uint64()))
		limit := len(s) + draw.IntN(2)*draw.IntN(1000)
		return piece{
			lay:  func(b []byte) ([]byte, api.Errno) { return bytes.Text(b, s) },
			same: func(p *bytes.Tape) bool { return p.Text(limit) == s },
		}
	}
	part := mixed(draw.IntN(1<<draw.IntN(11)), draw.Uint64())
	return piece{
		lay:  func(b []byte) ([]byte, api.Errno) { return slices.Concat(b, part), api.OK },
		same: func(p *bytes.Tape) bool { return slices.Equal(p.Bytes(len(part)), part) },
	}
}

// P6.4: whatever is laid one behind the other is taken back just so, and only then the tape is at its end; without its last byte it is torn.
func TestWhatIsLaidIsTakenBack(t *testing.T) {
	draw := rand.New(rand.NewPCG(10, 10))
	for range 2000 {
		pieces := make([]piece, draw.IntN(12))
		var b []byte
		for i := range pieces {
			pieces[i] = pieceOf(draw)
			longer, e := pieces[i].lay(b)
			if e != api.OK || len(longer) < len(b) || !slices.Equal(longer[:len(b)], b) {
				t.Fatalf("%d bytes behind %d: %d", len(longer), len(b), e)
			}
			b = longer
		}
		whole, longer, shorter := bytes.Open(b), bytes.Open(append(slices.Clone(b), 0)), bytes.Open(b[:max(len(b)-1, 0)])
		for i := range pieces {
			if !pieces[i].same(whole) || !pieces[i].same(longer) {
				t.Fatalf("piece %d of %d is another one", i, len(pieces))
			}
			pieces[i].same(shorter)
		}
		if !whole.End() || whole.Torn() || longer.End() || longer.Torn() {
			t.Fatal("the end is at another place")
		}
		if len(b) > 0 && !shorter.Torn() {
			t.Fatal("a byte is missing, but the tape is not torn")
		}
	}
}

// R4: what is handed in is not changed, neither what lies behind it in its memory.
func TestNothingHandedInIsChanged(t *testing.T) {
	memory := mixed(1000, 11)
	before := slices.Clone(memory)
	for n := range 100 {
		b := memory[:n]
		bytes.Num(b, 8, math.MaxUint64)
		bytes.Num(b, 3, 1)
		bytes.Text(b, "text")
		bytes.Row('N', b, memory[n:2*n], b)
		bytes.Parts(b)
		p := bytes.Open(b)
		p.Bytes(n / 2)
		p.Num(1)
		p.Text(n)
	}
	parts := [][]byte{memory[:10], nil, memory[5:20]}
	bytes.Row('N', parts...)
	if !slices.Equal(memory, before) || len(parts) != 3 || parts[1] != nil {
		t.Error("what was handed in is changed")
	}
}

// overwrite changes all of an answer's memory, also what lies behind it.
func overwrite(b []byte) {
	b = b[:cap(b)]
	for i := range b {
		b[i] ^= 0xff
	}
}

// P6.1, P6.2, R4: what is answered is new memory: whatever becomes of it changes nothing else, nor does what becomes of what was handed in.
func TestAnswersAreNewMemory(t *testing.T) {
	memory := mixed(100, 12)
	b := memory[:10]
	for name, ask := range map[string]func() ([]byte, api.Errno){
		"Num":  func() ([]byte, api.Errno) { return bytes.Num(b, 8, 5) },
		"Text": func() ([]byte, api.Errno) { return bytes.Text(b, "text") },
		"none": func() ([]byte, api.Errno) { return bytes.Text(b, "") },
		"Row":  func() ([]byte, api.Errno) { return bytes.Row('N', b, nil, b) },
	} {
		kept := slices.Clone(memory)
		one, _ := ask()
		other, _ := ask()
		want := slices.Clone(one)
		overwrite(one)
		if !slices.Equal(other, want) || !slices.Equal(memory, kept) {
			t.Errorf("%s: the answer shares its memory", name)
		}
		overwrite(memory)
		if !slices.Equal(other, want) {
			t.Errorf("%s: the answer shares memory with what was handed in", name)
		}
	}
}

// R4: parts share no memory with the row, nor with one another, nor with what is laid behind one of them.
func TestPartsAreNewMemory(t *testing.T) {
	want := [][]byte{[]byte("ab"), nil, []byte("cde"), []byte("f"), nil}
	row := rowOf(t, 'N', want...)
	for i := range want {
		_, parts, _ := bytes.Parts(row)
		_, others, _ := bytes.Parts(row)
		longer := append(parts[i], "more than there was"...)
		overwrite(longer)
		for k := range want {
			if k != i && !slices.Equal(parts[k], want[k]) || !slices.Equal(others[k], want[k]) {
				t.Errorf("what is laid behind part %d changes part %d", i, k)
			}
		}
		overwrite(parts[i])
		for k := range want {
			if k != i && !slices.Equal(parts[k], want[k]) || !slices.Equal(others[k], want[k]) {
				t.Errorf("part %d shares memory with part %d", i, k)
			}
		}
	}
	_, parts, _ := bytes.Parts(row)
	if !slices.Equal(row, laid('N', want)) {
		t.Error("the row shares memory with its parts")
	}
	overwrite(row)
	if !sameParts(parts, want) {
		t.Error("the parts share memory with the row")
	}
}

// P6.3, R4: a tape keeps a copy of its bytes, and hands out none of what it keeps.
func TestATapeKeepsACopy(t *testing.T) {
	memory := mixed(20, 13)
	want := slices.Clone(memory)
	p := bytes.Open(memory[:10])
	overwrite(memory)
	first := p.Bytes(4)
	longer := append(first, "more"...)
	overwrite(longer)
	overwrite(first)
	second := p.Bytes(3)
	if !slices.Equal(second, want[4:7]) {
		t.Errorf("behind the first ones: %x, want %x", second, want[4:7])
	}
	if got := p.Bytes(3); !slices.Equal(got, want[7:10]) || !slices.Equal(second, want[4:7]) || !p.End() {
		t.Errorf("the last ones: %x, want %x", got, want[7:10])
	}
	p = bytes.Open(want)
	copied := *p
	overwrite(p.Bytes(4))
	if got := copied.Bytes(4); !slices.Equal(got, want[:4]) {
		t.Errorf("of the tape's copy: %x, want %x", got, want[:4])
	}
	text := textOf(t, nil, "ab")
	p = bytes.Open(text)
	s := p.Text(2)
	overwrite(text)
	if s != "ab" {
		t.Errorf("the text: %q", s)
	}
}

// R6: tapes of the same bytes know nothing of each other.
func TestTapesOfTheSameBytes(t *testing.T) {
	b := []byte{1, 2, 3, 4}
	one, other := bytes.Open(b), bytes.Open(b)
	one.Num(2)
	if other.Num(4) != 0x01020304 || !other.End() || one.End() {
		t.Error("one was taken of, and the other one is another")
	}
	other.Num(1)
	if one.Torn() || one.Num(2) != 0x0304 || !one.End() {
		t.Error("one was torn, and the other one is, too")
	}
}

// R1: bytes of all lengths and any numbers; a panic would end the test.
func TestNoCallPanics(t *testing.T) {
	tapes := []func(b []byte) *bytes.Tape{bytes.Open, func([]byte) *bytes.Tape { return nil }, func([]byte) *bytes.Tape { return new(bytes.Tape) }}
	for n := range 200 {
		b := mixed(n, 14)
		bytes.Parts(b)
		bytes.Row(byte(n), slices.Repeat([][]byte{b}, n)...)
		for _, number := range wrongWidths() {
			bytes.Num(b, number, uint64(number))
			for _, open := range tapes {
				for _, take := range []func(p *bytes.Tape){
					func(p *bytes.Tape) { p.Num(number) },
					func(p *bytes.Tape) { p.Bytes(number) },
					func(p *bytes.Tape) { p.Text(number) },
				} {
					p := open(b)
					take(p)
					p.Torn()
					p.End()
				}
			}
		}
	}
}

// answer is what the calls tell of some bytes.
type answer struct {
	num, text, row, parts, taken string
	first                        uint64
	torn, end                    bool
	numE, rowE, partsE           api.Errno
}

// answerTo is what the calls tell of n bytes.
func answerTo(n int) (a answer) {
	b := mixed(n, 15)
	num, numE := bytes.Num(b, n%9, uint64(n))
	text, _ := bytes.Text(b, string(b))
	row, rowE := bytes.Row(byte(n), slices.Repeat([][]byte{b}, n%20)...)
	if n%3 == 0 {
		row = append(row, 0)
	}
	_, parts, partsE := bytes.Parts(row)
	p := bytes.Open(text)
	a = answer{num: string(num), text: string(text), row: string(row), parts: string(slices.Concat(parts...)), numE: numE, rowE: rowE, partsE: partsE}
	a.first = p.Num(1 << (n % 4))
	a.taken = string(p.Bytes(n/2)) + p.Text(n)
	a.torn, a.end = p.Torn(), p.End()
	return a
}

// answers asks of many bytes, from the place start on, round.
func answers(start int) []answer {
	const many = 300
	told := make([]answer, many)
	for step := range many {
		n := (start + step) % many
		told[n] = answerTo(n)
	}
	return told
}

// R6: what was asked ahead, or is asked meanwhile, changes no answer.
func TestAnswersHangOnArgumentsAlone(t *testing.T) {
	want := answers(0)
	told := make([][]answer, 4)
	var all sync.WaitGroup
	for i := range told {
		all.Go(func() { told[i] = answers(i*71 + 1) })
	}
	all.Wait()
	for i := range told {
		if !slices.Equal(told[i], want) {
			t.Errorf("asked in order %d the answers are others", i)
		}
	}
}

// R5, R7: bytes' calls tell no whole numbers in decimal digits, and no promise of it speaks of digests, tags or keys; so there is nothing that these rules could be broken by. (That it hands out nothing else, and keeps nothing, is held in the folder layers.)
func TestCallsAreOnNumbersTextsAndBytes(t *testing.T) {
	var (
		_ func(b []byte, w int, n uint64) ([]byte, api.Errno)         = bytes.Num
		_ func(b []byte, s string) ([]byte, api.Errno)                = bytes.Text
		_ func(domain byte, parts ...[]byte) ([]byte, api.Errno)      = bytes.Row
		_ func(row []byte) (domain byte, parts [][]byte, e api.Errno) = bytes.Parts
		_ func(b []byte) *bytes.Tape                                  = bytes.Open
		_ func(t *bytes.Tape, w int) uint64                           = (*bytes.Tape).Num
		_ func(t *bytes.Tape, most int) string                        = (*bytes.Tape).Text
		_ func(t *bytes.Tape, n int) []byte                           = (*bytes.Tape).Bytes
		_ func(t *bytes.Tape) bool                                    = (*bytes.Tape).Torn
		_ func(t *bytes.Tape) bool                                    = (*bytes.Tape).End
	)
}
