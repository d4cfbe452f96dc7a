package tree_test

import (
	library "crypto/hmac"
	"crypto/sha256"
	"encoding/binary"
	"math"
	"math/rand/v2"
	"slices"
	"strings"
	"testing"

	"casemate/api"
	"casemate/tree"
)

// source draws the same at each run.
func source(seed byte) *rand.Rand {
	return rand.New(rand.NewChaCha8([32]byte{seed}))
}

// drawnTag is a tag of any bytes.
func drawnTag(from *rand.Rand) (tag api.Tag) {
	for i := range tag {
		tag[i] = byte(from.Uint32())
	}
	return tag
}

// drawnTags is n tags of any bytes.
func drawnTags(from *rand.Rand, n int) []api.Tag {
	var l []api.Tag
	for range n {
		l = append(l, drawnTag(from))
	}
	return l
}

// drawnKey is a key of any bytes.
func drawnKey(from *rand.Rand) api.Key {
	return api.Key(drawnTag(from))
}

// filled is a tag of one byte alone.
func filled(c byte) (tag api.Tag) {
	for i := range tag {
		tag[i] = c
	}
	return tag
}

// countingKey has bytes that count, so that no two are the same.
func countingKey() (k api.Key) {
	for i := range k {
		k[i] = byte(i)
	}
	return k
}

// fullKey has bytes ff alone.
func fullKey() api.Key {
	return api.Key([]byte(strings.Repeat("\xff", api.KeySize)))
}

// numbered are n tags of which the first bytes count from 1 on.
func numbered(n int) []api.Tag {
	var l []api.Tag
	for i := range n {
		l = append(l, api.Tag{byte(i + 1), byte((i + 1) >> 8)})
	}
	return l
}

// extremes are numbers of nothing, whatever the tree: huge ones, and such as are below 0.
func extremes() []int {
	return []int{math.MinInt, math.MinInt + 1, math.MinInt + 2, math.MinInt64 / 2, math.MinInt32, -1 << 16, -8192, -4097, -4096, -64, -3, -2, -1, 8192, 8193, 1 << 16, math.MaxInt32, 1 << 32, 1<<32 + 1, 1<<32 + 2, 1 << 62, math.MaxInt - 4096, math.MaxInt - 1, math.MaxInt}
}

// joined is a sector of two tags.
func joined(left, right api.Tag) api.Sector {
	return api.Sector(slices.Concat(left[:], right[:]))
}

// nodeTag is the tag of a node by the words of the chapters of bytes and tags, by Go's own library.
func nodeTag(k api.Key, number int, s api.Sector) api.Tag {
	text := []byte("N\x02\x00\x00\x00\x08")
	text = binary.BigEndian.AppendUint64(text, uint64(number))
	text = append(text, "\x00\x00\x00\x40"...)
	mac := library.New(sha256.New, k[:])
	mac.Write(append(text, s[:]...))
	return api.Tag(mac.Sum(nil))
}

// paper is a tree by the chapter's words: a key, and the tags of all leaves, as many as a tree of its height has.
type paper struct {
	key    api.Key
	leaves []api.Tag
}

// paperOf is the paper of a tree of the height h, of which the first leaves have these tags.
func paperOf(k api.Key, h int, leaves []api.Tag) *paper {
	many := 1
	for range h {
		many *= 2
	}
	all := make([]api.Tag, many)
	copy(all, leaves)
	return &paper{k, all}
}

// tags are those of all numbers; the first one is of none.
func (p *paper) tags() []api.Tag {
	l := make([]api.Tag, 2*len(p.leaves))
	p.fill(l, 1)
	return l
}

// fill lays the tag of a number, and those of all below it.
func (p *paper) fill(l []api.Tag, number int) {
	if number >= len(p.leaves) {
		l[number] = p.leaves[number-len(p.leaves)]
		return
	}
	p.fill(l, 2*number)
	p.fill(l, 2*number+1)
	l[number] = nodeTag(p.key, number, joined(l[2*number], l[2*number+1]))
}

// sectors are those of all nodes; the first one is of none.
func (p *paper) sectors() []api.Sector {
	l := p.tags()
	s := make([]api.Sector, len(p.leaves))
	for number := range s[1:] {
		number++
		s[number] = joined(l[2*number], l[2*number+1])
	}
	return s
}

// set is what P18.2 says of Set: it looks at all nodes.
func (p *paper) set(leaf int, tag api.Tag) ([]int, api.Errno) {
	if leaf < 0 || leaf >= len(p.leaves) {
		return nil, api.ErrArg
	}
	ahead := p.sectors()
	p.leaves[leaf] = tag
	var changed []int
	for number, s := range p.sectors() {
		if s != ahead[number] {
			changed = append(changed, number)
		}
	}
	slices.Reverse(changed)
	return changed, api.OK
}

// proof is the sectors of the nodes above a leaf that is there.
func (p *paper) proof(leaf int) []api.Sector {
	var l []api.Sector
	s := p.sectors()
	for _, number := range pathTo(len(p.leaves), leaf) {
		l = append(l, s[number])
	}
	return l
}

// pathTo is the nodes above a leaf that is there, where there are so many leaves: found by looking for them.
func pathTo(leaves, leaf int) []int {
	var l []int
	for number := leaves + leaf; number != 1; {
		for node := range leaves {
			if 2*node == number || 2*node+1 == number {
				l, number = append(l, node), node
				break
			}
		}
	}
	return l
}

// halfOf is the tag that a sector has at the place of a number: the lesser one of two is the first.
func halfOf(s api.Sector, number int) api.Tag {
	at := number % 2 * 32
	return api.Tag(s[at : at+32])
}

// put is s with a tag at the place of a number.
func put(s api.Sector, number int, tag api.Tag) api.Sector {
	copy(s[number%2*32:], tag[:])
	return s
}

// led is any proof that leads from a leaf's tag to a top, and this top: what is beside the path is drawn.
func led(from *rand.Rand, k api.Key, h, leaf int, tag api.Tag) ([]api.Sector, api.Tag) {
	below := 1<<h + leaf
	var proof []api.Sector
	for _, node := range pathTo(1<<h, leaf) {
		s := put(joined(drawnTag(from), drawnTag(from)), below, tag)
		proof = append(proof, s)
		below, tag = node, nodeTag(k, node, s)
	}
	return proof, tag
}

// fresh is a tree that New made.
func fresh(t *testing.T, k api.Key, h int, leaves []api.Tag) *tree.Tree {
	t.Helper()
	x, e := tree.New(k, h, leaves)
	if x == nil || e != api.OK {
		t.Fatalf("New of the height %d and %d leaves: %v, %d", h, len(leaves), x, e)
	}
	return x
}

// checkIs holds all of a tree against the paper.
func checkIs(t *testing.T, x *tree.Tree, p *paper) {
	t.Helper()
	l, sectors := p.tags(), p.sectors()
	if got := x.Top(); got != l[1] {
		t.Fatalf("%d leaves: Top: %x, want %x", len(p.leaves), got, l[1])
	}
	for number := 1; number < len(l); number++ {
		if got, e := x.Tag(number); got != l[number] || e != api.OK {
			t.Fatalf("%d leaves: Tag(%d): %x, %d, want %x", len(p.leaves), number, got, e, l[number])
		}
	}
	for number := 1; number < len(sectors); number++ {
		if got, e := x.Node(number); got != sectors[number] || e != api.OK {
			t.Fatalf("%d leaves: Node(%d): %x, %d, want %x", len(p.leaves), number, got, e, sectors[number])
		}
	}
}

// checkSet sets in both, and holds what they tell against each other.
func checkSet(t *testing.T, x *tree.Tree, p *paper, leaf int, tag api.Tag) {
	t.Helper()
	want, wantError := p.set(leaf, tag)
	if got, e := x.Set(leaf, tag); !slices.Equal(got, want) || e != wantError {
		t.Fatalf("%d leaves: Set(%d, %x): %v, %d, want %v, %d", len(p.leaves), leaf, tag, got, e, want, wantError)
	}
}

// claim is what Check is asked about.
type claim struct {
	key   api.Key
	leaf  int
	tag   api.Tag
	proof []api.Sector
	top   api.Tag
}

// taken tells what Check says of it.
func (c claim) taken() bool {
	return tree.Check(c.key, c.leaf, c.tag, c.proof, c.top)
}

// copied is the same claim with a proof of its own.
func (c claim) copied() claim {
	c.proof = slices.Clone(c.proof)
	return c
}

// right is what P18.3 says of it.
func (c claim) right() bool {
	many := 1
	for range c.proof {
		if many > 4096 {
			return false
		}
		many *= 2
	}
	if len(c.proof) < 1 || len(c.proof) > 12 || c.leaf < 0 || c.leaf >= many {
		return false
	}
	path := pathTo(many, c.leaf)
	last := len(path) - 1
	holds := halfOf(c.proof[0], many+c.leaf) == c.tag
	for i := range last {
		holds = holds && halfOf(c.proof[i+1], path[i]) == nodeTag(c.key, path[i], c.proof[i])
	}
	return holds && nodeTag(c.key, path[last], c.proof[last]) == c.top
}
