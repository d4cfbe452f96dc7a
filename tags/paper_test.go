package tags_test

import (
	library "crypto/hmac"
	"crypto/sha256"
	"math"
	"math/big"
	"math/rand/v2"
	"strings"
	"testing"

	"casemate/api"
	"casemate/tags"
)

// ofSector is what is told of a sector by its number: a domain, its messages, and their tags.
type ofSector struct {
	domain byte
	text   func(number int, s api.Sector) []byte
	tag    func(k api.Key, number int, s api.Sector) api.Tag
}

// ofBytes is what is told of bytes.
type ofBytes struct {
	domain byte
	text   func(b []byte) []byte
	tag    func(k api.Key, b []byte) api.Tag
}

// sectorKinds are those of leaves and of nodes, by their domains to the base 16.
func sectorKinds() []ofSector {
	return []ofSector{{0x4C, tags.LeafText, tags.Leaf}, {0x4E, tags.NodeText, tags.Node}}
}

// bytesKinds are those of root records, of headers and of bodies.
func bytesKinds() []ofBytes {
	return []ofBytes{{0x52, tags.RootText, tags.Label}, {0x48, tags.HeadText, tags.Head}, {0x42, tags.BodyText, tags.Body}}
}

// laid is a number in so many bytes, the highest first; below 0 it is as far from the first number that has no room.
func laid(width, number int) []byte {
	n := big.NewInt(int64(number))
	if number < 0 {
		n.Add(n, new(big.Int).Lsh(big.NewInt(1), uint(8*width)))
	}
	return n.FillBytes(make([]byte, width))
}

// row is a domain and parts by the words of the chapter of bytes.
func row(domain byte, parts ...[]byte) string {
	l := []byte{domain, byte(len(parts))}
	for _, part := range parts {
		l = append(l, laid(4, len(part))...)
		l = append(l, part...)
	}
	return string(l)
}

// paperNumbered is the message of a sector and its number.
func paperNumbered(domain byte, number int, s api.Sector) string {
	return row(domain, laid(8, number), s[:])
}

// published is the tag by Go's own library.
func published(k api.Key, text string) api.Tag {
	mac := library.New(sha256.New, k[:])
	mac.Write([]byte(text))
	return api.Tag(mac.Sum(nil))
}

// source draws the same at each run.
func source(seed byte) *rand.ChaCha8 {
	return rand.NewChaCha8([32]byte{seed})
}

// drawn is the next n bytes of a source.
func drawn(from *rand.ChaCha8, n int) []byte {
	b := make([]byte, n)
	from.Read(b)
	return b
}

// drawnKey is the next key of a source.
func drawnKey(from *rand.ChaCha8) api.Key { return api.Key(drawn(from, api.KeySize)) }

// drawnTag is the next tag of a source.
func drawnTag(from *rand.ChaCha8) api.Tag { return api.Tag(drawn(from, api.TagSize)) }

// drawnSector is the next sector of a source.
func drawnSector(from *rand.ChaCha8) api.Sector { return api.Sector(drawn(from, api.SectorSize)) }

// rising is n bytes that count from c on.
func rising(c byte, n int) []byte {
	b := make([]byte, n)
	for i := range b {
		b[i] = c + byte(i)
	}
	return b
}

// countingKey, countingTag and countingSector have bytes that count, so that no two are the same.
func countingKey() api.Key       { return api.Key(rising(0, api.KeySize)) }
func countingTag(c byte) api.Tag { return api.Tag(rising(c, api.TagSize)) }
func countingSector() api.Sector { return api.Sector(rising(0, api.SectorSize)) }

// fullKey and fullSector have bytes ff alone.
func fullKey() api.Key       { return api.Key([]byte(strings.Repeat("\xff", api.KeySize))) }
func fullSector() api.Sector { return api.Sector([]byte(strings.Repeat("\xff", api.SectorSize))) }

// numbers are small ones, those around each bit on both sides of 0, huge ones, and such as have unlike bytes.
func numbers() []int {
	l := []int{3, 5, 6, 10, 100, 4095, 4096, 4097, math.MaxInt - 1, math.MaxInt, math.MinInt, math.MinInt + 1, 0x0102030405060708, -0x0102030405060708, 0x7060504030201000}
	for bit := range 63 {
		l = append(l, 1<<bit, 1<<bit-1, 1<<bit+1, -1<<bit, -1<<bit-1, -1<<bit+1)
	}
	return l
}

// blocks of size bytes are of bytes 0, of bytes ff, of bytes that count, of one bit alone, and drawn ones.
func blocks(size int, seed byte) [][]byte {
	l := [][]byte{make([]byte, size), []byte(strings.Repeat("\xff", size)), rising(0, size)}
	for bit := range 8 * size {
		one := make([]byte, size)
		one[bit/8] = 1 << (bit % 8)
		l = append(l, one)
	}
	from := source(seed)
	for range 20 {
		l = append(l, drawn(from, size))
	}
	return l
}

// sectors are of all those kinds.
func sectors() (l []api.Sector) {
	for _, b := range blocks(api.SectorSize, 1) {
		l = append(l, api.Sector(b))
	}
	return l
}

// keys are likewise.
func keys() (l []api.Key) {
	for _, b := range blocks(api.KeySize, 2) {
		l = append(l, api.Key(b))
	}
	return l
}

// byteLists are bytes that are easily taken for each other: none, short ones, bytes 0 at the ends, and what looks like a message, or a part of one.
func byteLists() [][]byte {
	l := [][]byte{{}}
	for c := range 256 {
		l = append(l, []byte{byte(c)})
	}
	for n := 2; n < 80; n++ {
		l = append(l, make([]byte, n), []byte(strings.Repeat("a", n)), append(make([]byte, n), 1), append([]byte{1}, make([]byte, n)...))
	}
	s := countingSector()
	for _, domain := range []byte("LNRHB") {
		plain, numbered := row(domain, []byte("ab")), paperNumbered(domain, 1, s)
		for _, text := range []string{row(domain), row(domain, nil), plain, plain[1:], plain[2:], row(domain, []byte(plain)), row(domain, nil, nil), numbered, numbered[1:], numbered[2:], numbered[:14], numbered[:18], numbered + "\x00"} {
			l = append(l, []byte(text))
		}
	}
	return append(l, []byte("ab"), []byte("ba"), laid(8, 1), s[:], append(laid(8, 1), s[:]...))
}

// checkNumbered holds the message of a sector and its number against the paper, and its tag under k.
func checkNumbered(t *testing.T, k api.Key, number int, s api.Sector) {
	t.Helper()
	for _, kind := range sectorKinds() {
		want := paperNumbered(kind.domain, number, s)
		if got := kind.text(number, s); string(got) != want {
			t.Errorf("%c, %d, %x: %x, want %x", kind.domain, number, s, got, want)
		}
		if got := kind.tag(k, number, s); got != published(k, want) {
			t.Errorf("%c under %x, %d, %x: %x, want %x", kind.domain, k, number, s, got, published(k, want))
		}
	}
}

// checkPlain holds the message of bytes against the paper, and its tag under k.
func checkPlain(t *testing.T, k api.Key, b []byte) {
	t.Helper()
	for _, kind := range bytesKinds() {
		want := row(kind.domain, b)
		if got := kind.text(b); string(got) != want {
			t.Errorf("%c, %d bytes, %.40x: %.60x, want %.60x", kind.domain, len(b), b, got, want)
		}
		if got := kind.tag(k, b); got != published(k, want) {
			t.Errorf("%c under %x, %d bytes, %.40x: %x, want %x", kind.domain, k, len(b), b, got, published(k, want))
		}
	}
}
