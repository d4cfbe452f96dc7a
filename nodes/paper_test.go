package nodes_test

import (
	library "crypto/hmac"
	"crypto/sha256"
	"encoding/binary"
	"encoding/hex"
	"maps"
	"math"
	"math/rand/v2"
	"slices"
	"testing"

	"casemate/api"
	"casemate/bus"
	"casemate/cell"
	"casemate/member"
	"casemate/nodes"
)

// source draws the same at each run.
func source(seed byte) *rand.Rand {
	return rand.New(rand.NewChaCha8([32]byte{seed}))
}

// drawnTag is a tag of any bytes.
func drawnTag(from *rand.Rand) (tag api.Tag) {
	for i := range tag {
		tag[i] = byte(from.Uint32())
	}
	return tag
}

// drawnTags is n tags of any bytes.
func drawnTags(from *rand.Rand, n int) (l []api.Tag) {
	for range n {
		l = append(l, drawnTag(from))
	}
	return l
}

// drawnKey is a key of any bytes.
func drawnKey(from *rand.Rand) api.Key {
	return api.Key(drawnTag(from))
}

// drawn is a sector of any bytes.
func drawn(from *rand.Rand) api.Sector {
	return joined(drawnTag(from), drawnTag(from))
}

// filled is a tag of one byte alone.
func filled(c byte) (tag api.Tag) {
	for i := range tag {
		tag[i] = c
	}
	return tag
}

// numbered are n tags of which the first bytes count from 1 on.
func numbered(n int) (l []api.Tag) {
	for i := range n {
		l = append(l, api.Tag{byte(i + 1), byte((i + 1) >> 8)})
	}
	return l
}

// countingKey has bytes that count, so that no two are the same.
func countingKey() (k api.Key) {
	for i := range k {
		k[i] = byte(i)
	}
	return k
}

// tagOfText is a tag that is told in digits.
func tagOfText(t *testing.T, text string) api.Tag {
	t.Helper()
	b, err := hex.DecodeString(text)
	if err != nil || len(b) != 32 {
		t.Fatalf("%s: %v", text, err)
	}
	return api.Tag(b)
}

// extremes are numbers of nothing, whatever the geometry: huge ones, and such as are below 0.
func extremes() []int {
	return []int{math.MinInt, math.MinInt + 1, math.MinInt + 2, math.MinInt64 / 2, math.MinInt32, -1 << 16, -8192, -4097, -4096, -256, -65, -64, -4, -3, -2, -1, 1 << 13, 1 << 16, math.MaxInt32, 1 << 32, 1<<32 + 1, 1<<32 + 3, 1 << 62, math.MaxInt - 4096, math.MaxInt - 1, math.MaxInt}
}

// geometries are some that are not too great, the least one among them; of 4 and 8 members there are as many leaves as places for them, and of one row of 5 and 9 members far less.
func geometries() []api.Geometry {
	return []api.Geometry{{Members: 4, Rows: 1}, {Members: 4, Rows: 2}, {Members: 4, Rows: 3}, {Members: 5, Rows: 1}, {Members: 5, Rows: 2}, {Members: 6, Rows: 4}, {Members: 8, Rows: 2}, {Members: 9, Rows: 1}, {Members: 17, Rows: 2}, {Members: 64, Rows: 1}}
}

// noGeometries are what is none.
func noGeometries() []api.Geometry {
	return []api.Geometry{{}, {Members: 3, Rows: 1}, {Members: 65, Rows: 1}, {Members: 4}, {Members: 4, Rows: 65}, {Members: -4, Rows: 1}, {Members: 4, Rows: -1}, {Members: 1, Rows: 1}, {Rows: 1}, {Members: math.MaxInt, Rows: 1}, {Members: math.MinInt, Rows: 1}, {Members: 4, Rows: math.MaxInt}, {Members: 4, Rows: math.MinInt}, {Members: 1<<32 + 4, Rows: 1}}
}

// leavesOf is how many there are.
func leavesOf(g api.Geometry) int {
	return g.Members * g.Rows
}

// placesOf is how many places for leaves there are: the first leaf's number too.
func placesOf(g api.Geometry) int {
	places := 1
	for places < leavesOf(g) {
		places *= 2
	}
	return places
}

// pathTo is the numbers of the nodes above a leaf, the top first.
func pathTo(g api.Geometry, leaf int) (l []int) {
	for number := (placesOf(g) + leaf) / 2; number > 0; number /= 2 {
		l = append([]int{number}, l...)
	}
	return l
}

// nodesAhead is how many sectors lie ahead of the nodes on a member: the header's and the journal's.
func nodesAhead(g api.Geometry) int {
	leaves := max(6, g.Members)
	bytes := 69 * (leaves + min(leaves*len(pathTo(g, 0)), placesOf(g)-1) + 8)
	half := 2
	for bytes > 0 {
		half, bytes = half+1, bytes-64
	}
	return 8 + 2*half
}

// placeOf is where a node lies on its members.
func placeOf(g api.Geometry, node int) int {
	return nodesAhead(g) + node - 1
}

// sectorsOf is how many a member has.
func sectorsOf(g api.Geometry) int {
	return nodesAhead(g) + placesOf(g) - 1 + g.Rows
}

// membersOf are those of a node, in order.
func membersOf(g api.Geometry, node int) []int {
	return []int{node % g.Members, (node + 1) % g.Members, (node + 2) % g.Members}
}

// joined is a sector of two tags.
func joined(left, right api.Tag) api.Sector {
	return api.Sector(slices.Concat(left[:], right[:]))
}

// halfOf is the tag that a node's sector has of a number below it.
func halfOf(s api.Sector, number int) api.Tag {
	at := number % 2 * 32
	return api.Tag(s[at : at+32])
}

// withHalf is s with another tag of a number below it.
func withHalf(s api.Sector, number int, tag api.Tag) api.Sector {
	copy(s[number%2*32:], tag[:])
	return s
}

// nodeTag is the tag of a node by the words of the chapters of bytes and tags, by Go's own library.
func nodeTag(k api.Key, number int, s api.Sector) api.Tag {
	text := []byte("N\x02\x00\x00\x00\x08")
	text = binary.BigEndian.AppendUint64(text, uint64(number))
	text = append(text, "\x00\x00\x00\x40"...)
	mac := library.New(sha256.New, k[:])
	mac.Write(append(text, s[:]...))
	return api.Tag(mac.Sum(nil))
}

// forest is a tree on paper: of a geometry, a key, and the tags of its leaves; places for leaves without one have the zero tag.
type forest struct {
	g      api.Geometry
	k      api.Key
	leaves []api.Tag
}

// sectors are those of all nodes, by their numbers, and the top's tag.
func (f forest) sectors() ([]api.Sector, api.Tag) {
	many := placesOf(f.g)
	tags := make([]api.Tag, 2*many)
	copy(tags[many:], f.leaves)
	s := make([]api.Sector, many)
	for node := many - 1; node > 0; node-- {
		s[node] = joined(tags[2*node], tags[2*node+1])
		tags[node] = nodeTag(f.k, node, s[node])
	}
	return s, tags[1]
}

// top is the top's tag.
func (f forest) top() api.Tag {
	_, top := f.sectors()
	return top
}

// with is the forest in which leaves have other tags.
func (f forest) with(l ...nodes.Change) forest {
	f.leaves = slices.Clone(f.leaves)
	for _, c := range l {
		f.leaves[c.Leaf] = c.Tag
	}
	return f
}

// writes are those that make another forest of this one, rising.
func (f forest) writes(other forest) (l []api.Write) {
	ahead, _ := f.sectors()
	behind, _ := other.sectors()
	for node, s := range behind {
		if s != ahead[node] {
			l = append(l, api.Write{Region: 3, Index: node, Data: s})
		}
	}
	return l
}

// lay has members hold all nodes of the forest, and nothing unflushed of them.
func (f forest) lay(members []*member.Member) {
	sectors, _ := f.sectors()
	for node := 1; node < len(sectors); node++ {
		for _, m := range membersOf(f.g, node) {
			members[m].Set(placeOf(f.g, node), sectors[node])
		}
	}
}

// forestOf is one of drawn leaves.
func forestOf(from *rand.Rand, g api.Geometry) forest {
	return forest{g, drawnKey(from), drawnTags(from, leavesOf(g))}
}

// disks are new members of so many sectors each.
func disks(t *testing.T, many, sectors int) (l []*member.Member) {
	t.Helper()
	for range many {
		m, e := member.New(sectors)
		if e != api.OK {
			t.Fatalf("member.New(%d): %d", sectors, e)
		}
		l = append(l, m)
	}
	return l
}

// copies are members that are the same, and on their own.
func copies(members []*member.Member) (l []*member.Member) {
	for _, m := range members {
		l = append(l, m.Copy())
	}
	return l
}

// over is a bus of the members, and of a new cell.
func over(t *testing.T, members []*member.Member, steps ...bus.Step) *bus.Bus {
	t.Helper()
	c, e := cell.New(api.Cell{})
	if e != api.OK {
		t.Fatalf("cell.New: %d", e)
	}
	b, e := bus.New(members, c, steps)
	if e != api.OK {
		t.Fatalf("bus.New: %d", e)
	}
	return b
}

// planted is new members that have the forest, and a bus of them.
func planted(t *testing.T, f forest, steps ...bus.Step) ([]*member.Member, *bus.Bus) {
	t.Helper()
	members := disks(t, f.g.Members, sectorsOf(f.g))
	f.lay(members)
	return members, over(t, members, steps...)
}

// fresh is what New makes of a bus that has the forest.
func fresh(t *testing.T, b *bus.Bus, f forest) *nodes.Nodes {
	t.Helper()
	n, e := nodes.New(b, f.g, f.k, f.top())
	if n == nil || e != api.OK {
		t.Fatalf("New: %v, %d", n, e)
	}
	return n
}

// crashAt takes the power away ahead of an I/O; nothing is lost by it.
func crashAt(at int) bus.Step {
	return bus.Step{At: at, Kind: bus.Crash, Picks: slices.Repeat([]byte{1}, 256)}
}

// paper does by the chapter's words what nodes does, over a bus of its own.
type paper struct {
	b     *bus.Bus
	g     api.Geometry
	k     api.Key
	top   api.Tag
	known map[int]api.Sector
	bad   []nodes.Bad
}

// paperOf is the paper of a forest.
func paperOf(b *bus.Bus, f forest) *paper {
	return &paper{b: b, g: f.g, k: f.k, top: f.top(), known: map[int]api.Sector{}}
}

// verify verifies a node that is not known; the one above it is.
func (p *paper) verify(node int) api.Errno {
	want := p.top
	if node != 1 {
		want = halfOf(p.known[node/2], node)
	}
	errors := 0
	on := membersOf(p.g, node)
	for i, m := range on {
		s, e := p.b.Read(m, placeOf(p.g, node))
		if e == api.ErrOff {
			return e
		}
		if e != api.OK {
			errors++
			continue
		}
		if nodeTag(p.k, node, s) != want {
			continue
		}
		p.known[node] = s
		for _, other := range on[:i] {
			if x := (nodes.Bad{Node: node, Member: other}); !slices.Contains(p.bad, x) {
				p.bad = append(p.bad, x)
			}
		}
		return api.OK
	}
	if errors == 3 {
		return api.ErrIO
	}
	return api.ErrTamper
}

// tag is P20.2.
func (p *paper) tag(leaf int) (api.Tag, api.Errno) {
	if leaf < 0 || leaf >= leavesOf(p.g) {
		return api.Tag{}, api.ErrArg
	}
	var lowest api.Sector
	for _, node := range pathTo(p.g, leaf) {
		if _, ok := p.known[node]; !ok {
			if e := p.verify(node); e != api.OK {
				return api.Tag{}, e
			}
		}
		lowest = p.known[node]
	}
	return halfOf(lowest, placesOf(p.g)+leaf), api.OK
}

// plan is P20.3.
func (p *paper) plan(l []nodes.Change) ([]api.Write, api.Tag, api.Errno) {
	last := map[int]api.Tag{}
	for _, c := range l {
		if c.Leaf < 0 || c.Leaf >= leavesOf(p.g) {
			return nil, api.Tag{}, api.ErrArg
		}
		last[placesOf(p.g)+c.Leaf] = c.Tag
	}
	above := map[int]bool{}
	for _, c := range l {
		if _, e := p.tag(c.Leaf); e != api.OK {
			return nil, api.Tag{}, e
		}
		for _, node := range pathTo(p.g, c.Leaf) {
			above[node] = true
		}
	}
	others := map[int]api.Sector{}
	top := p.top
	if tag, other := p.after(1, above, last, others); other {
		top = tag
	}
	var writes []api.Write
	for _, node := range slices.Sorted(maps.Keys(others)) {
		writes = append(writes, api.Write{Region: 3, Index: node, Data: others[node]})
	}
	return writes, top, api.OK
}

// after is the tag of a number, if it is another one, the leaves having these tags; the sectors that are others are laid down.
func (p *paper) after(number int, above map[int]bool, leaves map[int]api.Tag, others map[int]api.Sector) (api.Tag, bool) {
	if tag, ok := leaves[number]; ok {
		return tag, tag != halfOf(p.known[number/2], number)
	}
	if !above[number] {
		return api.Tag{}, false
	}
	s := p.known[number]
	for _, below := range []int{2 * number, 2*number + 1} {
		if tag, other := p.after(below, above, leaves, others); other {
			s = withHalf(s, below, tag)
		}
	}
	if s == p.known[number] {
		return api.Tag{}, false
	}
	others[number] = s
	return nodeTag(p.k, number, s), true
}

// take is P20.4's Take.
func (p *paper) take(l []api.Write, top api.Tag) {
	for _, w := range l {
		if w.Region == 3 && w.Index >= 1 && w.Index < placesOf(p.g) {
			p.known[w.Index] = w.Data
		}
	}
	p.top = top
}

// forget is P20.4's Forget.
func (p *paper) forget() {
	p.known, p.bad = map[int]api.Sector{}, nil
}

// repair is P20.4's Repair.
func (p *paper) repair() api.Errno {
	for _, x := range p.bad {
		s, ok := p.known[x.Node]
		if !ok {
			continue
		}
		e := p.b.Write(x.Member, placeOf(p.g, x.Node), s)
		if e == api.OK {
			e = p.b.Flush(x.Member)
		}
		if e == api.ErrOff {
			return e
		}
	}
	p.bad = nil
	return api.OK
}
