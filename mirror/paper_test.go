package mirror_test

import (
	library "crypto/hmac"
	"crypto/sha256"
	"encoding/binary"
	"math"
	"math/rand/v2"
	"testing"

	"casemate/api"
	"casemate/bus"
	"casemate/cell"
	"casemate/member"
)

// source draws the same at each run.
func source(seed byte) *rand.Rand {
	return rand.New(rand.NewChaCha8([32]byte{seed}))
}

// drawn is a sector of any bytes.
func drawn(from *rand.Rand) (s api.Sector) {
	for i := range s {
		s[i] = byte(from.Uint32())
	}
	return s
}

// drawnKey is a key of any bytes.
func drawnKey(from *rand.Rand) (k api.Key) {
	s := drawn(from)
	copy(k[:], s[:])
	return k
}

// filled is a sector of one byte alone.
func filled(c byte) (s api.Sector) {
	for i := range s {
		s[i] = c
	}
	return s
}

// countingKey has bytes that count, so that no two are the same.
func countingKey() (k api.Key) {
	for i := range k {
		k[i] = byte(i)
	}
	return k
}

// extremes are numbers of nothing, whatever the geometry: huge ones, and such as are below 0.
func extremes() []int {
	return []int{math.MinInt, math.MinInt + 1, math.MinInt + 2, math.MinInt64 / 2, math.MinInt32, -1 << 16, -4097, -4096, -256, -65, -64, -8, -4, -3, -2, -1, 1 << 13, 1<<16 + 1, math.MaxInt32, 1 << 32, 1<<32 + 1, 1<<32 + 3, 1 << 62, math.MaxInt - 2, math.MaxInt - 1, math.MaxInt}
}

// geometries are some of each size, the ends among them.
func geometries() (l []api.Geometry) {
	for _, members := range []int{4, 5, 6, 8, 9, 17, 32, 63, 64} {
		for _, rows := range []int{1, 2, 3, 8, 33, 64} {
			l = append(l, api.Geometry{Members: members, Rows: rows})
		}
	}
	return l
}

// noGeometries are what is none.
func noGeometries() []api.Geometry {
	return []api.Geometry{{}, {Members: 3, Rows: 1}, {Members: 65, Rows: 1}, {Members: 4}, {Members: 4, Rows: 65}, {Members: -4, Rows: 1}, {Members: 4, Rows: -1}, {Members: 1, Rows: 1}, {Rows: 1}, {Members: math.MaxInt, Rows: 1}, {Members: math.MinInt, Rows: 1}, {Members: 4, Rows: math.MaxInt}, {Members: 4, Rows: math.MinInt}, {Members: 1<<32 + 4, Rows: 1}}
}

// isGeometry tells whether g is one, by chapter 14.
func isGeometry(g api.Geometry) bool {
	return g.Members >= 4 && g.Members <= 64 && g.Rows >= 1 && g.Rows <= 64
}

// nodes is how many there are of a geometry: as many as a tree with a place for each leaf has.
func nodes(g api.Geometry) int {
	places := 1
	for places < g.Members*g.Rows {
		places *= 2
	}
	return places - 1
}

// journal is how many sectors both halves have.
func journal(g api.Geometry) int {
	leaves := max(6, g.Members)
	height := 0
	for nodes(g)>>height > 0 {
		height++
	}
	bytes := 69 * (leaves + min(leaves*height, nodes(g)) + 8)
	half := 2
	for bytes > 0 {
		half, bytes = half+1, bytes-64
	}
	return 2 * half
}

// sectors is how many a member has.
func sectors(g api.Geometry) int {
	return 8 + journal(g) + nodes(g) + g.Rows
}

// placeOf is where the sector of a region lies; -1, if there is none.
func placeOf(g api.Geometry, region, index int) int {
	if !isGeometry(g) || index < 0 {
		return -1
	}
	switch {
	case region == 1 && index < 8:
		return index
	case region == 2 && index < journal(g):
		return 8 + index
	case region == 3 && index >= 1 && index <= nodes(g):
		return 8 + journal(g) + index - 1
	case region == 4 && index < g.Rows:
		return 8 + journal(g) + nodes(g) + index
	}
	return -1
}

// writeOn is the members of a write, and its place, by the chapter's words; no members, if it has none.
func writeOn(g api.Geometry, w api.Write) (members []int, at int) {
	if !isGeometry(g) {
		return nil, -1
	}
	switch w.Region {
	case 1:
		at = placeOf(g, 1, w.Index)
		for m := range g.Members {
			members = append(members, m)
		}
	case 3:
		at = placeOf(g, 3, w.Index)
		if at >= 0 {
			members = []int{w.Index % g.Members, (w.Index + 1) % g.Members, (w.Index + 2) % g.Members}
		}
	case 4:
		if w.Index < 0 || w.Index >= g.Rows*g.Members {
			return nil, -1
		}
		members, at = []int{w.Index % g.Members}, placeOf(g, 4, w.Index/g.Members)
	default:
		at = -1
	}
	if at < 0 {
		return nil, -1
	}
	return members, at
}

// nodeTag is the tag of a node, by Go's own HMAC.
func nodeTag(k api.Key, number int, s api.Sector) api.Tag {
	return tagOf(k, 'N', number, s)
}

// leafTag is that of a leaf, of another domain.
func leafTag(k api.Key, number int, s api.Sector) api.Tag {
	return tagOf(k, 'L', number, s)
}

// tagOf is that of a sector and its number, in a domain.
func tagOf(k api.Key, domain byte, number int, s api.Sector) api.Tag {
	message := []byte{domain, 2, 0, 0, 0, 8}
	message = binary.BigEndian.AppendUint64(message, uint64(number))
	message = append(append(message, 0, 0, 0, 64), s[:]...)
	h := library.New(sha256.New, k[:])
	h.Write(message)
	return api.Tag(h.Sum(nil))
}

// answer is what a call tells; what it does not tell is zero.
type answer struct {
	s    api.Sector
	list []int
	e    api.Errno
}

// paper does by the chapter's words what mirror does, over a bus of its own.
type paper struct {
	b *bus.Bus
}

// fits is whether the bus is one, and has as many members.
func (p paper) fits(g api.Geometry) api.Errno {
	if p.b.Members() == 0 {
		return api.ErrNil
	}
	if p.b.Members() != g.Members {
		return api.ErrArg
	}
	return api.OK
}

// put is P19.2.
func (p paper) put(g api.Geometry, w api.Write) (told answer) {
	if e := p.fits(g); e != api.OK {
		return answer{e: e}
	}
	members, at := writeOn(g, w)
	if at < 0 {
		return answer{e: api.ErrArg}
	}
	for _, m := range members {
		e := p.b.Write(m, at, w.Data)
		if e == api.ErrOff {
			return answer{e: e}
		}
		if e == api.OK {
			told.list = append(told.list, m)
		}
	}
	return told
}

// flush is P19.2.
func (p paper) flush() (told answer) {
	if p.b.Members() == 0 {
		return answer{e: api.ErrNil}
	}
	for m := range p.b.Members() {
		e := p.b.Flush(m)
		if e == api.ErrOff {
			return answer{e: e}
		}
		if e == api.OK {
			told.list = append(told.list, m)
		}
	}
	return told
}

// readNode is P19.3.
func (p paper) readNode(g api.Geometry, node int, k api.Key, want api.Tag) answer {
	if e := p.fits(g); e != api.OK {
		return answer{e: e}
	}
	members, at := writeOn(g, api.Write{Region: 3, Index: node})
	if at < 0 {
		return answer{e: api.ErrArg}
	}
	errors := 0
	for i, m := range members {
		s, e := p.b.Read(m, at)
		if e == api.ErrOff {
			return answer{e: e}
		}
		if e != api.OK {
			errors++
		} else if nodeTag(k, node, s) == want {
			return answer{s: s, list: members[:i]}
		}
	}
	if errors == 3 {
		return answer{e: api.ErrIO}
	}
	return answer{e: api.ErrTamper}
}

// read is P19.4.
func (p paper) read(g api.Geometry, region, index, member int) (told answer) {
	if e := p.fits(g); e != api.OK {
		return answer{e: e}
	}
	at := placeOf(g, region, index)
	if at < 0 || member < 0 || member >= g.Members {
		return answer{e: api.ErrArg}
	}
	told.s, told.e = p.b.Read(member, at)
	return told
}

// disks are new members of so many sectors each.
func disks(t *testing.T, many, sectors int) (l []*member.Member) {
	t.Helper()
	for range many {
		m, e := member.New(sectors)
		if e != api.OK {
			t.Fatalf("member.New(%d): %d", sectors, e)
		}
		l = append(l, m)
	}
	return l
}

// over is a bus of the members, and of a new cell.
func over(t *testing.T, members []*member.Member, steps ...bus.Step) *bus.Bus {
	t.Helper()
	c, e := cell.New(api.Cell{})
	if e != api.OK {
		t.Fatalf("cell.New: %d", e)
	}
	b, e := bus.New(members, c, steps)
	if e != api.OK {
		t.Fatalf("bus.New: %d", e)
	}
	return b
}

// copies are members that are the same, and on their own.
func copies(members []*member.Member) (l []*member.Member) {
	for _, m := range members {
		l = append(l, m.Copy())
	}
	return l
}
