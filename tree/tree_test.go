package tree_test

import (
	"encoding/hex"
	"math"
	"math/rand/v2"
	"slices"
	"sync"
	"testing"

	"casemate/api"
	"casemate/tags"
	"casemate/tree"
)

// P18.1: the first two lines of the chapter's examples.
func TestTheChaptersTree(t *testing.T) {
	k, a, b, c := countingKey(), filled(1), filled(2), filled(3)
	x := fresh(t, k, 2, []api.Tag{a, b, c})
	for _, y := range []struct {
		number int
		want   api.Tag
	}{
		{4, a}, {5, b}, {6, c}, {7, api.Tag{}},
		{2, tags.Node(k, 2, joined(a, b))},
		{3, tags.Node(k, 3, joined(c, api.Tag{}))},
	} {
		if got, e := x.Tag(y.number); got != y.want || e != api.OK {
			t.Errorf("Tag(%d): %x, %d, want %x", y.number, got, e, y.want)
		}
	}
	if s, e := x.Node(3); s != joined(c, api.Tag{}) || e != api.OK {
		t.Errorf("Node(3): %x, %d", s, e)
	}
	left, _ := x.Tag(2)
	right, _ := x.Tag(3)
	if got, want := x.Top(), tags.Node(k, 1, joined(left, right)); got != want {
		t.Errorf("Top: %x, want %x", got, want)
	}
}

// P18.2: the third line.
func TestTheChaptersSets(t *testing.T) {
	x := fresh(t, countingKey(), 2, []api.Tag{filled(1), filled(2), filled(3)})
	for i, y := range []struct {
		leaf int
		want []int
		e    api.Errno
	}{
		{3, []int{3, 1}, api.OK},
		{3, nil, api.OK},
		{4, nil, api.ErrArg},
	} {
		if got, e := x.Set(y.leaf, filled(4)); !slices.Equal(got, y.want) || e != y.e {
			t.Errorf("%d: %v, %d", i, got, e)
		}
	}
	if tag, e := x.Tag(7); tag != filled(4) || e != api.OK {
		t.Errorf("Tag(7): %x, %d", tag, e)
	}
}

// P18.3: the fourth line.
func TestTheChaptersPaths(t *testing.T) {
	for _, y := range []struct {
		h, leaf int
		want    []int
	}{
		{2, 3, []int{3, 1}}, {2, 4, nil}, {13, 0, nil},
	} {
		if got := tree.Path(y.h, y.leaf); !slices.Equal(got, y.want) {
			t.Errorf("Path(%d, %d): %v, want %v", y.h, y.leaf, got, y.want)
		}
	}
}

// P18.1, P9: tags that were found outside of the project, by Python's HMAC; that of two zero leaves by OpenSSL's too.
func TestTopsFoundElsewhere(t *testing.T) {
	three := []api.Tag{filled(1), filled(2), filled(3)}
	for _, x := range []struct {
		key    api.Key
		h      int
		leaves []api.Tag
		want   string
	}{
		{api.Key{}, 1, nil, "8e5042a3a679b0a49a3e31d330543cbf1911c31ea7716e598eae3544eb30804c"},
		{countingKey(), 1, []api.Tag{api.Tag(countingKey()), filled(0xFF)}, "569c14467ac7f8fb92521cedaa069c399a8967aa877fb5b21cf230aad4d2f88d"},
		{countingKey(), 2, three, "e6cb8265bdfe810a6be388ac435f40d310942ed7d97377eabe9163f2db6d3099"},
		{fullKey(), 2, nil, "5fdd46b5aaaf30f55f535d90fc4da399eacba13f5f4280b24b30344236d1609f"},
		{countingKey(), 7, numbered(100), "1e145db2df1a6d5f52631937c21f72172c34af17d5287234a5664bd23e667878"},
		{countingKey(), 12, numbered(4096), "a21bebe4ae09354b589e908e46c950b85afb6fd2d934910ddcf0b8172c14e8fb"},
		{api.Key{}, 12, nil, "e783c8cd0d4742422df542f8659467afa84e300d1b4f46fb044dc111396824fe"},
	} {
		top := fresh(t, x.key, x.h, x.leaves).Top()
		if got := hex.EncodeToString(top[:]); got != x.want {
			t.Errorf("the height %d, %d leaves: %s, want %s", x.h, len(x.leaves), got, x.want)
		}
	}
	y := fresh(t, countingKey(), 2, three)
	for number, want := range map[int]string{
		2: "f06ed610ea700cb7541474499989b3e751a8b52f880b540a6e1827997566496e",
		3: "dcce77dbebc7b303c47bd7ac8e9ba40fc7eda7dbd2f774191610b81f401b7a86",
	} {
		if tag, e := y.Tag(number); hex.EncodeToString(tag[:]) != want || e != api.OK {
			t.Errorf("Tag(%d): %x, %d, want %s", number, tag, e, want)
		}
	}
}

// P18.1: trees of each height, of no leaves, of some, and of all.
func TestNew(t *testing.T) {
	from := source(1)
	for h := 1; h <= 12; h++ {
		for _, many := range []int{0, 1, 2, 1<<h/2 + 1, 1<<h - 1, 1 << h} {
			k, leaves := drawnKey(from), drawnTags(from, many)
			checkIs(t, fresh(t, k, h, leaves), paperOf(k, h, leaves))
		}
	}
}

// P18.1: low trees of all numbers of leaves.
func TestNewOfAllNumbersOfLeaves(t *testing.T) {
	from := source(2)
	for h := 1; h <= 5; h++ {
		for many := range 1<<h + 1 {
			k, leaves := drawnKey(from), drawnTags(from, many)
			checkIs(t, fresh(t, k, h, leaves), paperOf(k, h, leaves))
		}
	}
}

// P18.1: a leaf that no tag was told of has the zero tag, as one has that was told it.
func TestLeavesWithoutTags(t *testing.T) {
	from := source(3)
	for h := 1; h <= 6; h++ {
		k := drawnKey(from)
		for many := range 1 << h {
			leaves := drawnTags(from, many)
			all := append(slices.Clone(leaves), make([]api.Tag, 1<<h-many)...)
			x, y := fresh(t, k, h, leaves), fresh(t, k, h, all)
			if x.Top() != y.Top() {
				t.Errorf("the height %d: of %d leaves, and the others zero: unlike tops", h, many)
			}
			for leaf := many; leaf < 1<<h; leaf++ {
				if tag, e := x.Tag(1<<h + leaf); tag != (api.Tag{}) || e != api.OK {
					t.Errorf("the height %d: the leaf %d of %d: %x, %d", h, leaf, many, tag, e)
				}
			}
		}
	}
}

// P18.1: no tree is of such a height.
func TestNewOfNoHeight(t *testing.T) {
	for _, h := range append(extremes(), 0, 13, 14, 31, 32, 33, 62, 63, 64, 65, 76, 128, 256, 257) {
		for _, leaves := range [][]api.Tag{nil, {}, {{1}}, numbered(2), numbered(4096)} {
			if x, e := tree.New(countingKey(), h, leaves); x != nil || e != api.ErrArg {
				t.Errorf("New of the height %d, %d leaves: %v, %d", h, len(leaves), x, e)
			}
		}
	}
}

// P18.1: no tree has more leaves than 2 to its height.
func TestNewOfTooManyLeaves(t *testing.T) {
	for h := 1; h <= 12; h++ {
		for _, many := range []int{1<<h + 1, 1<<h + 2, 2<<h - 1, 2 << h, 1 << 14} {
			if x, e := tree.New(countingKey(), h, make([]api.Tag, many)); x != nil || e != api.ErrArg {
				t.Errorf("New of the height %d, %d leaves: %v, %d", h, many, x, e)
			}
		}
	}
}

// P18.1, P18.2: numbers of nothing, at the ends and far away: below the top, behind the last leaf; of nodes, behind the last node.
func TestNumbersOfNothing(t *testing.T) {
	from := source(4)
	for h := 1; h <= 12; h++ {
		k, leaves := drawnKey(from), drawnTags(from, 1<<h)
		x := fresh(t, k, h, leaves)
		for _, n := range append(extremes(), 0, 2<<h, 2<<h+1) {
			if tag, e := x.Tag(n); tag != (api.Tag{}) || e != api.ErrArg {
				t.Errorf("the height %d: Tag(%d): %x, %d", h, n, tag, e)
			}
		}
		for _, n := range append(extremes(), 0, 1<<h, 1<<h+1, 2<<h-1, 2<<h) {
			if s, e := x.Node(n); s != (api.Sector{}) || e != api.ErrArg {
				t.Errorf("the height %d: Node(%d): %x, %d", h, n, s, e)
			}
		}
		for _, n := range append(extremes(), 1<<h, 1<<h+1, 2<<h-1, 2<<h) {
			if l, e := x.Set(n, filled(9)); len(l) != 0 || e != api.ErrArg {
				t.Errorf("the height %d: Set(%d): %v, %d", h, n, l, e)
			}
			if proof, e := x.Proof(n); len(proof) != 0 || e != api.ErrArg {
				t.Errorf("the height %d: Proof(%d): %x, %d", h, n, proof, e)
			}
		}
		checkIs(t, x, paperOf(k, h, leaves))
	}
}

// P18.1: all bits of a key, of the leaves and the node's number are in the top.
func TestTheTopIsOfAllBits(t *testing.T) {
	found := map[api.Tag]bool{}
	for bit := range 256 {
		var one api.Tag
		one[bit/8] = 1 << (bit % 8)
		found[fresh(t, api.Key(one), 2, nil).Top()] = true
		for leaf := range 4 {
			l := make([]api.Tag, 4)
			l[leaf] = one
			found[fresh(t, api.Key{}, 2, l).Top()] = true
		}
	}
	for h := 1; h <= 12; h++ {
		found[fresh(t, api.Key{}, h, nil).Top()] = true
	}
	if len(found) != 5*256+12 {
		t.Errorf("%d trees have %d tops", 5*256+12, len(found))
	}
}

// P18.1: nodes that have the same sector have tags of their own.
func TestNodesOfOneSector(t *testing.T) {
	x := fresh(t, countingKey(), 6, nil)
	found := map[api.Tag]bool{}
	for number := 32; number < 64; number++ {
		tag, _ := x.Tag(number)
		found[tag] = true
	}
	if len(found) != 32 {
		t.Errorf("32 nodes have %d tags", len(found))
	}
}

// P18.2: each leaf of a tree is set, set once more, and set back; all nodes above it are told, or none.
func TestSetOfEachLeaf(t *testing.T) {
	from := source(5)
	for h := 1; h <= 5; h++ {
		k, leaves := drawnKey(from), drawnTags(from, 1<<h)
		x, p := fresh(t, k, h, leaves), paperOf(k, h, leaves)
		for _, leaf := range from.Perm(1 << h) {
			tag := drawnTag(from)
			checkSet(t, x, p, leaf, tag)
			checkIs(t, x, p)
			checkSet(t, x, p, leaf, tag)
			checkSet(t, x, p, leaf^1, tag)
			checkSet(t, x, p, leaf, leaves[leaf])
			checkSet(t, x, p, leaf^1, leaves[leaf^1])
		}
		checkIs(t, x, paperOf(k, h, leaves))
	}
}

// P18.2: leaves of the highest trees: at the ends, in the middle, and others.
func TestSetInHighTrees(t *testing.T) {
	from := source(6)
	for h := 6; h <= 12; h++ {
		k, leaves := drawnKey(from), drawnTags(from, 1<<h-3)
		x, p := fresh(t, k, h, leaves), paperOf(k, h, leaves)
		for _, leaf := range []int{0, 1, 1<<h/2 - 1, 1 << h / 2, 1<<h - 4, 1<<h - 3, 1<<h - 1, from.IntN(1 << h)} {
			checkSet(t, x, p, leaf, drawnTag(from))
		}
		checkIs(t, x, p)
	}
}

// P18.2: one bit that is another one changes all nodes above; the same tag changes none; so it is on the left and on the right.
func TestSetOfEachBit(t *testing.T) {
	from := source(7)
	k, leaves := drawnKey(from), drawnTags(from, 8)
	x := fresh(t, k, 3, leaves)
	for bit := range 256 {
		for leaf, want := range [][]int{2: {5, 2, 1}, 3: {5, 2, 1}, 7: {7, 3, 1}} {
			if want == nil {
				continue
			}
			leaves[leaf][bit/8] ^= 1 << (bit % 8)
			if l, e := x.Set(leaf, leaves[leaf]); !slices.Equal(l, want) || e != api.OK {
				t.Fatalf("bit %d of the leaf %d: %v, %d", bit, leaf, l, e)
			}
			if l, e := x.Set(leaf, leaves[leaf]); len(l) != 0 || e != api.OK {
				t.Fatalf("bit %d of the leaf %d, once more: %v, %d", bit, leaf, l, e)
			}
		}
	}
	checkIs(t, x, paperOf(k, 3, leaves))
}

// P18.2: a leaf without a tag has the zero tag already; one that has one gets it.
func TestSetOfTheZeroTag(t *testing.T) {
	from := source(8)
	k, leaves := drawnKey(from), drawnTags(from, 5)
	x, p := fresh(t, k, 3, leaves), paperOf(k, 3, leaves)
	for leaf := range 8 {
		want := tree.Path(3, leaf)
		if leaf >= 5 {
			want = nil
		}
		if l, e := x.Set(leaf, api.Tag{}); !slices.Equal(l, want) || e != api.OK {
			t.Errorf("Set(%d): %v, %d, want %v", leaf, l, e, want)
		}
		p.set(leaf, api.Tag{})
		checkIs(t, x, p)
	}
	checkIs(t, x, paperOf(k, 3, nil))
}

// P18.2: a tag of a node, or of another leaf, is a leaf's like any other one.
func TestSetOfTagsOfTheTree(t *testing.T) {
	from := source(9)
	k, leaves := drawnKey(from), drawnTags(from, 8)
	x, p := fresh(t, k, 3, leaves), paperOf(k, 3, leaves)
	for number := 1; number < 16; number++ {
		tag, _ := x.Tag(number)
		checkSet(t, x, p, number%8, tag)
		checkIs(t, x, p)
	}
}

// P18.4: whatever is set, also what is no leaf's: the tree is that which New makes of its leaves.
func TestATreeIsTheOneOfItsLeaves(t *testing.T) {
	from := source(10)
	for play := range 40 {
		h := play%8 + 1
		k, leaves := drawnKey(from), make([]api.Tag, 1<<h)
		told := from.IntN(1<<h + 1)
		copy(leaves, drawnTags(from, told))
		x := fresh(t, k, h, leaves[:told])
		few := drawnTags(from, 3)
		for range 50 {
			leaf, tag := from.IntN(1<<h+4)-2, few[from.IntN(3)]
			if from.IntN(4) == 0 {
				tag = api.Tag{}
			}
			_, e := x.Set(leaf, tag)
			if (e == api.OK) != (leaf >= 0 && leaf < 1<<h) {
				t.Fatalf("the height %d: Set(%d): %d", h, leaf, e)
			}
			if e == api.OK {
				leaves[leaf] = tag
			}
		}
		checkIs(t, x, paperOf(k, h, leaves))
		if y := fresh(t, k, h, leaves); x.Top() != y.Top() {
			t.Errorf("the height %d: %x, of its leaves %x", h, x.Top(), y.Top())
		}
	}
}

// P18.2, P18.4: each set of drawn plays is as on paper; tags and leaves come again and again.
func TestDrawnSets(t *testing.T) {
	from := source(11)
	for play := range 60 {
		h := play%6 + 1
		k := drawnKey(from)
		few := append(drawnTags(from, 2), api.Tag{})
		x, p := fresh(t, k, h, few[:2]), paperOf(k, h, few[:2])
		for range 25 {
			checkSet(t, x, p, from.IntN(1<<h+2)-1, few[from.IntN(3)])
		}
		checkIs(t, x, p)
	}
}

// P18.2, P18.3: a proof of each leaf is the sectors of its path, and Check takes it with the leaf's tag.
func TestProofs(t *testing.T) {
	from := source(12)
	for h := 1; h <= 7; h++ {
		k, leaves := drawnKey(from), drawnTags(from, 1<<h-1)
		x, p := fresh(t, k, h, leaves), paperOf(k, h, leaves)
		for leaf := range 1 << h {
			proof, e := x.Proof(leaf)
			if !slices.Equal(proof, p.proof(leaf)) || e != api.OK {
				t.Fatalf("the height %d: Proof(%d): %x, %d, want %x", h, leaf, proof, e, p.proof(leaf))
			}
			if !tree.Check(k, leaf, p.leaves[leaf], proof, x.Top()) {
				t.Fatalf("the height %d: the leaf %d is not taken", h, leaf)
			}
		}
	}
}

// P18.2, P18.3, P18.5: proofs of the highest trees, ahead of sets and behind them; an old proof, or an old tag, is taken no more.
func TestProofsOfHighTrees(t *testing.T) {
	from := source(13)
	for h := 8; h <= 12; h++ {
		k, leaves := drawnKey(from), drawnTags(from, 1<<h)
		x, p := fresh(t, k, h, leaves), paperOf(k, h, leaves)
		old := claim{k, 0, leaves[0], p.proof(0), x.Top()}
		for _, leaf := range []int{0, 1, 1<<h/2 - 1, 1 << h / 2, 1<<h - 2, 1<<h - 1} {
			checkSet(t, x, p, leaf, drawnTag(from))
			proof, e := x.Proof(leaf)
			if !slices.Equal(proof, p.proof(leaf)) || e != api.OK {
				t.Fatalf("the height %d: Proof(%d): %d", h, leaf, e)
			}
			if !tree.Check(k, leaf, p.leaves[leaf], proof, x.Top()) {
				t.Fatalf("the height %d: the leaf %d is not taken", h, leaf)
			}
			if tree.Check(k, leaf, leaves[leaf], proof, x.Top()) {
				t.Errorf("the height %d: the old tag of the leaf %d is taken", h, leaf)
			}
			if tree.Check(k, 0, old.tag, old.proof, x.Top()) {
				t.Errorf("the height %d: an old proof is taken", h)
			}
		}
		if !old.taken() {
			t.Errorf("the height %d: the old proof is not taken for the old top", h)
		}
	}
}

// P18.3: the paths of all leaves of all trees.
func TestPaths(t *testing.T) {
	for h := 1; h <= 12; h++ {
		for leaf := range 1 << h {
			if h > 9 && leaf%37 > 1 && leaf < 1<<h-2 {
				continue
			}
			if got, want := tree.Path(h, leaf), pathTo(1<<h, leaf); !slices.Equal(got, want) || len(got) != h {
				t.Errorf("Path(%d, %d): %v, want %v", h, leaf, got, want)
			}
		}
	}
	if got := tree.Path(12, 4095); !slices.Equal(got, []int{4095, 2047, 1023, 511, 255, 127, 63, 31, 15, 7, 3, 1}) {
		t.Errorf("Path(12, 4095): %v", got)
	}
	if got := tree.Path(12, 0); !slices.Equal(got, []int{2048, 1024, 512, 256, 128, 64, 32, 16, 8, 4, 2, 1}) {
		t.Errorf("Path(12, 0): %v", got)
	}
}

// P18.3: where there is no leaf, or no height, there is no path.
func TestPathsOfNothing(t *testing.T) {
	for h := 1; h <= 12; h++ {
		for _, leaf := range append(extremes(), 1<<h, 1<<h+1, 2<<h-1, 2<<h) {
			if l := tree.Path(h, leaf); len(l) != 0 {
				t.Errorf("Path(%d, %d): %v", h, leaf, l)
			}
		}
	}
	for _, h := range append(extremes(), 0, 13, 14, 31, 32, 62, 63, 64, 65, 76) {
		for _, leaf := range append(extremes(), 0, 1, 2, 3, 4095, 4096) {
			if l := tree.Path(h, leaf); len(l) != 0 {
				t.Errorf("Path(%d, %d): %v", h, leaf, l)
			}
		}
	}
}

// claims are drawn claims of all heights that lead to their tops.
func claims(seed byte) []claim {
	from := source(seed)
	var l []claim
	for h := 1; h <= 12; h++ {
		for _, leaf := range []int{0, 1, 1<<h - 2, 1<<h - 1, from.IntN(1 << h), from.IntN(1 << h)} {
			k, tag := drawnKey(from), drawnTag(from)
			proof, top := led(from, k, h, leaf, tag)
			l = append(l, claim{k, leaf, tag, proof, top})
		}
	}
	return l
}

// P18.3: any proof that leads from a tag to a top is taken, whatever is beside the path; no tree has to be there.
func TestCheckTakesWhatLeads(t *testing.T) {
	for _, c := range claims(14) {
		if !c.right() || !c.taken() {
			t.Errorf("%d sectors, the leaf %d: right is %v, taken %v", len(c.proof), c.leaf, c.right(), c.taken())
		}
	}
}

// checkRefused holds that a claim is right by no words, and is not taken.
func checkRefused(t *testing.T, c claim, what string) {
	t.Helper()
	if c.right() || c.taken() {
		t.Errorf("%d sectors, the leaf %d, %s: right is %v, taken %v", len(c.proof), c.leaf, what, c.right(), c.taken())
	}
}

// P18.3: does the first sector have the tag at the leaf's place? All else leads to the top.
func TestCheckAsksForTheLeafsTag(t *testing.T) {
	from := source(15)
	for _, c := range claims(15) {
		own := c.tag
		other := halfOf(c.proof[0], c.leaf+1)
		for _, tag := range []api.Tag{{}, drawnTag(from), other, c.top} {
			c.tag = tag
			checkRefused(t, c, "another tag")
		}
		for bit := range 256 {
			c.tag = own
			c.tag[bit/8] ^= 1 << (bit % 8)
			checkRefused(t, c, "a tag with a bit turned")
		}
	}
}

// rebuilt is the claim with another sector at a level, and those above it, and the top, made to fit.
func (c claim) rebuilt(level int, s api.Sector) claim {
	c = c.copied()
	path := tree.Path(len(c.proof), c.leaf)
	c.proof[level] = s
	for i := level + 1; i < len(path); i++ {
		c.proof[i] = put(c.proof[i], path[i-1], nodeTag(c.key, path[i-1], c.proof[i-1]))
	}
	last := len(path) - 1
	c.top = nodeTag(c.key, path[last], c.proof[last])
	return c
}

// P18.3, P18.5: does each other sector have the tag of the one ahead? The others, ahead of it and behind it, lead on, to the top too.
func TestCheckAsksForEachTagBetween(t *testing.T) {
	from := source(16)
	for _, c := range claims(16) {
		path := tree.Path(len(c.proof), c.leaf)
		for level := 1; level < len(path); level++ {
			below := path[level-1]
			own := halfOf(c.proof[level], below)
			turned := own
			turned[from.IntN(32)] ^= 1 << from.IntN(8)
			for _, tag := range []api.Tag{{}, drawnTag(from), turned, c.tag} {
				checkRefused(t, c.rebuilt(level, put(c.proof[level], below, tag)), "a sector that has not the tag of the one ahead")
			}
			swapped := joined(halfOf(c.proof[level], 1), halfOf(c.proof[level], 0))
			checkRefused(t, c.rebuilt(level, swapped), "a sector with its tags in each other's places")
			// What is beside the path may be anything.
			if other := c.rebuilt(level, put(c.proof[level], below+1, drawnTag(from))); !other.right() || !other.taken() {
				t.Errorf("%d sectors, the leaf %d: another tag beside the path, at level %d: right is %v, taken %v", len(path), c.leaf, level, other.right(), other.taken())
			}
		}
		if other := c.rebuilt(0, put(c.proof[0], c.leaf+1, drawnTag(from))); !other.right() || !other.taken() {
			t.Errorf("%d sectors, the leaf %d: another tag beside the leaf", len(path), c.leaf)
		}
		checkRefused(t, c.rebuilt(0, joined(halfOf(c.proof[0], 1), halfOf(c.proof[0], 0))), "the leaf's tag in the other place")
	}
}

// P18.3: has the last sector the tag top? All ahead of it leads to it.
func TestCheckAsksForTheTop(t *testing.T) {
	from := source(17)
	for _, c := range claims(17) {
		own := c.top
		last := c.proof[len(c.proof)-1]
		for _, top := range []api.Tag{{}, drawnTag(from), c.tag, halfOf(last, 0), halfOf(last, 1), nodeTag(c.key, 0, last), nodeTag(c.key, 2, last)} {
			c.top = top
			checkRefused(t, c, "another top")
		}
		for bit := range 256 {
			c.top = own
			c.top[bit/8] ^= 1 << (bit % 8)
			checkRefused(t, c, "a top with a bit turned")
		}
	}
}

// P18.3, P18.5: each bit of each sector of a proof counts for a top.
func TestCheckSeesEachBit(t *testing.T) {
	for _, c := range claims(18) {
		for i := range c.proof {
			for bit := range 512 {
				if len(c.proof) > 4 && bit%37 != i {
					continue
				}
				other := c.copied()
				other.proof[i][bit/8] ^= 1 << (bit % 8)
				checkRefused(t, other, "a proof with a bit turned")
			}
		}
	}
}

// P18.3: key, leaf and the order of the sectors count.
func TestCheckOfOtherClaims(t *testing.T) {
	for _, c := range claims(19) {
		other := c
		other.key[len(c.proof)] ^= 1
		checkRefused(t, other, "another key")
		for bit := range len(c.proof) {
			other = c
			other.leaf ^= 1 << bit
			checkRefused(t, other, "another leaf")
		}
		for i := range len(c.proof) - 1 {
			other = c.copied()
			other.proof[i], other.proof[i+1] = other.proof[i+1], other.proof[i]
			checkRefused(t, other, "sectors in each other's places")
		}
		other = c.copied()
		slices.Reverse(other.proof)
		if len(c.proof) > 1 {
			checkRefused(t, other, "sectors from the top on")
		}
	}
}

// P18.3: a proof has 1 to 12 sectors; and one that is longer or shorter at either end is another one.
func TestCheckOfProofsOfOtherLengths(t *testing.T) {
	from := source(20)
	for _, c := range claims(20) {
		other := c
		for _, none := range [][]api.Sector{nil, {}, c.proof[:0]} {
			other.proof = none
			checkRefused(t, other, "no proof")
			other.tag = c.top
			checkRefused(t, other, "no proof, and the top as the leaf's tag")
			other.leaf = 0
			checkRefused(t, other, "no proof, the leaf 0")
		}
		other = c
		s := joined(drawnTag(from), drawnTag(from))
		for _, proof := range [][]api.Sector{c.proof[1:], c.proof[:len(c.proof)-1], slices.Concat(c.proof, []api.Sector{s}), slices.Concat([]api.Sector{s}, c.proof), slices.Concat(c.proof, c.proof)} {
			other.proof = proof
			checkRefused(t, other, "a proof of another length")
		}
		for _, many := range []int{13, 14, 32, 62, 63, 64, 65, 128, 1 << 12} {
			other.proof = make([]api.Sector, many)
			checkRefused(t, other, "a proof that is too long")
		}
	}
}

// P18.3: a proof of 13 sectors is not taken, though it leads to its top.
func TestCheckOfThirteenSectors(t *testing.T) {
	from := source(21)
	for _, leaf := range []int{0, 1, 4095, 4096, 8191} {
		k, tag := drawnKey(from), drawnTag(from)
		proof, top := led(from, k, 13, leaf, tag)
		checkRefused(t, claim{k, leaf, tag, proof, top}, "thirteen sectors")
	}
}

// P18.3: there is no such leaf, though the numbers above what it would be, and so all tags, fit.
func TestCheckOfNoLeaf(t *testing.T) {
	for _, c := range claims(22) {
		h, other := len(c.proof), c
		for _, leaf := range append(extremes(), 1<<h, 1<<h+1, 2<<h-1, c.leaf+1<<h, c.leaf+2<<h, c.leaf-1<<h, c.leaf-2<<h, c.leaf+1<<32, c.leaf+1<<52, c.leaf+math.MinInt) {
			if leaf < 0 || leaf >= 1<<h {
				other.leaf = leaf
				checkRefused(t, other, "no leaf")
			}
		}
		// The numbers from 2 to the h + 1 on would have paths too, a node longer.
		k, tag := c.key, c.tag
		proof, top := led(source(byte(h)), k, h+1, c.leaf, tag)
		checkRefused(t, claim{k, c.leaf + 1<<h, tag, proof[:h], top}, "no leaf of so low a tree")
		checkRefused(t, claim{k, c.leaf + 1<<h, tag, proof[:h], nodeTag(k, 2, proof[h-1])}, "no leaf of so low a tree, and the top of a part of it")
	}
}

// P18.3: how great the height is is what the number of sectors says: of a path's upper part a node is a leaf.
func TestCheckOfALowerTree(t *testing.T) {
	from := source(23)
	k := drawnKey(from)
	x := fresh(t, k, 4, drawnTags(from, 16))
	for leaf := range 16 {
		proof, _ := x.Proof(leaf)
		for level, node := range tree.Path(4, leaf)[:3] {
			tag, _ := x.Tag(node)
			c := claim{k, node - 8>>level, tag, proof[level+1:], x.Top()}
			if !c.right() || !c.taken() {
				t.Errorf("the node %d as a leaf: right is %v, taken %v", node, c.right(), c.taken())
			}
		}
	}
}

// P18.3: drawn claims, right ones and others, are taken just if they are right by the chapter's words.
func TestDrawnClaims(t *testing.T) {
	from := source(24)
	k := drawnKey(from)
	x := fresh(t, k, 3, drawnTags(from, 6))
	taken := 0
	for range 5000 {
		leaf := from.IntN(10) - 1
		tag, _ := x.Tag(8 + leaf + from.IntN(8)/7)
		proof, _ := x.Proof(min(max(leaf, 0), 7))
		c := claim{k, leaf, tag, proof, x.Top()}
		for range from.IntN(3) {
			c = turned(from, c)
		}
		if c.taken() != c.right() {
			t.Fatalf("%v: taken is %v", c, c.taken())
		}
		if c.taken() {
			taken++
		}
	}
	if taken < 500 || taken > 4500 {
		t.Errorf("%d of 5000 were taken", taken)
	}
}

// turned is a claim with something done to it, which may leave it right.
func turned(from *rand.Rand, c claim) claim {
	c = c.copied()
	i := from.IntN(max(len(c.proof), 1))
	switch from.IntN(6) {
	case 0:
		c.leaf ^= 1
	case 1:
		c.tag[from.IntN(32)] ^= byte(from.IntN(2))
	case 2:
		c.top[from.IntN(32)] ^= byte(from.IntN(2))
	case 3:
		if len(c.proof) > 0 {
			c.proof[i][from.IntN(64)] ^= 1
		}
	case 4:
		if len(c.proof) > 0 {
			c = c.rebuiltIfThere(i, put(c.proof[i], from.IntN(2), drawnTag(from)))
		}
	case 5:
		c.proof = c.proof[:i]
	}
	return c
}

// rebuiltIfThere is rebuilt, where there is a path.
func (c claim) rebuiltIfThere(level int, s api.Sector) claim {
	if len(tree.Path(len(c.proof), c.leaf)) == 0 {
		return c
	}
	return c.rebuilt(level, s)
}

// P18.5: a leaf's own tag and Proof are taken; another tag, and what another tree proves, are not; and where a proof and the tree have other sectors, from the top on, the first two such have unlike tags as the same node.
func TestAnotherTreesProofs(t *testing.T) {
	from := source(25)
	for h := 1; h <= 6; h++ {
		k, leaves := drawnKey(from), drawnTags(from, 1<<h)
		x := fresh(t, k, h, leaves)
		for leaf := range 1 << h {
			y := fresh(t, k, h, leaves)
			y.Set(from.IntN(1<<h), drawnTag(from))
			own, _ := x.Proof(leaf)
			proof, _ := y.Proof(leaf)
			tag, _ := y.Tag(1<<h + leaf)
			if !tree.Check(k, leaf, leaves[leaf], own, x.Top()) || !tree.Check(k, leaf, tag, proof, y.Top()) {
				t.Fatalf("the height %d: a proof of the leaf %d is not taken", h, leaf)
			}
			checkRefused(t, claim{k, leaf, tag, proof, x.Top()}, "another tree's proof")
			for level, node := range slices.Backward(tree.Path(h, leaf)) {
				if own[level] != proof[level] {
					if tags.Node(k, node, own[level]) == tags.Node(k, node, proof[level]) {
						t.Errorf("two unlike sectors of the node %d have one tag", node)
					}
					break
				}
			}
		}
	}
}

// R3: methods of what New did not make.
func TestWhatNewDidNotMake(t *testing.T) {
	for i, x := range []*tree.Tree{nil, {}, new(tree.Tree)} {
		for _, n := range append(extremes(), 0, 1, 2, 3, 4095, 4096) {
			if tag, e := x.Tag(n); tag != (api.Tag{}) || e != api.ErrNil {
				t.Errorf("%d: Tag(%d): %x, %d", i, n, tag, e)
			}
			if s, e := x.Node(n); s != (api.Sector{}) || e != api.ErrNil {
				t.Errorf("%d: Node(%d): %x, %d", i, n, s, e)
			}
			if l, e := x.Set(n, filled(1)); len(l) != 0 || e != api.ErrNil {
				t.Errorf("%d: Set(%d): %v, %d", i, n, l, e)
			}
			if proof, e := x.Proof(n); len(proof) != 0 || e != api.ErrNil {
				t.Errorf("%d: Proof(%d): %x, %d", i, n, proof, e)
			}
		}
		if top := x.Top(); top != (api.Tag{}) {
			t.Errorf("%d: Top: %x", i, top)
		}
	}
}

// R4: leaves that are handed in stay as they are, and what becomes of them changes no tree.
func TestLeavesAreNotKept(t *testing.T) {
	from := source(26)
	k, room := drawnKey(from), drawnTags(from, 12)
	leaves, all := slices.Clone(room[:7]), slices.Clone(room)
	x := fresh(t, k, 3, room[:7])
	for leaf := range 8 {
		x.Set(leaf, filled(byte(leaf)))
		x.Set(leaf, append(leaves, api.Tag{})[leaf])
	}
	if !slices.Equal(room, all) {
		t.Error("the leaves, or what is behind them, are changed")
	}
	for i := range room {
		room[i] = filled(0xEE)
	}
	checkIs(t, x, paperOf(k, 3, leaves))
}

// R4: what becomes of an answer changes neither the tree nor another answer.
func TestAnswersAreNewMemory(t *testing.T) {
	from := source(27)
	k, leaves := drawnKey(from), drawnTags(from, 8)
	x, p := fresh(t, k, 3, leaves), paperOf(k, 3, leaves)
	first, _ := x.Proof(5)
	second, _ := x.Proof(5)
	first = first[:cap(first)]
	for i := range first {
		first[i] = api.Sector{0xEE}
	}
	if !slices.Equal(second, p.proof(5)) {
		t.Error("with a proof another one has changed")
	}
	a, _ := x.Set(5, filled(1))
	b, _ := x.Set(5, filled(2))
	c, d := tree.Path(3, 5), tree.Path(3, 5)
	for _, l := range [][]int{a, c} {
		l = l[:cap(l)]
		for i := range l {
			l[i] = -1
		}
	}
	if !slices.Equal(b, []int{6, 3, 1}) || !slices.Equal(d, []int{6, 3, 1}) || !slices.Equal(tree.Path(3, 5), d) {
		t.Errorf("with a list another one has changed: %v, %v", b, d)
	}
	p.leaves[5] = filled(2)
	checkIs(t, x, p)
}

// R4: a proof that is handed in stays as it is, taken or not.
func TestProofsAreNotChanged(t *testing.T) {
	for _, c := range claims(28) {
		own := slices.Clone(c.proof)
		c.taken()
		c.top[0] ^= 1
		c.taken()
		c.leaf ^= 1
		c.taken()
		if !slices.Equal(c.proof, own) {
			t.Errorf("a proof of %d sectors is changed", len(own))
		}
	}
}

// R2: beside an error nothing has changed.
func TestErrorsChangeNothing(t *testing.T) {
	from := source(29)
	k, leaves := drawnKey(from), drawnTags(from, 4)
	x := fresh(t, k, 2, leaves)
	for _, n := range append(extremes(), 4, 5, 6, 7, 8) {
		x.Set(n, filled(1))
		x.Proof(n)
		x.Node(n)
		x.Tag(n + 8)
		checkIs(t, x, paperOf(k, 2, leaves))
	}
}

// R6: trees stand apart: what is done to one changes none of another one, be it made of the same leaves.
func TestTreesStandApart(t *testing.T) {
	from := source(30)
	k, leaves := drawnKey(from), drawnTags(from, 8)
	x, y := fresh(t, k, 3, leaves), fresh(t, k, 3, leaves)
	z := fresh(t, drawnKey(from), 4, leaves)
	p := paperOf(k, 3, leaves)
	for leaf := range 8 {
		checkSet(t, x, p, leaf, drawnTag(from))
		z.Set(leaf, filled(1))
	}
	checkIs(t, x, p)
	checkIs(t, y, paperOf(k, 3, leaves))
}

// told is what several calls tell of a leaf.
type told struct {
	top, tag api.Tag
	node     api.Sector
	first    api.Sector
	path     int
	taken    bool
}

// ask asks one tree about all its leaves, from the place start on, round.
func ask(x *tree.Tree, k api.Key, h, start int) []told {
	all := make([]told, 1<<h)
	for step := range all {
		leaf := (start + step) % len(all)
		var y told
		y.top = x.Top()
		y.tag, _ = x.Tag(len(all) + leaf)
		y.node, _ = x.Node(max(leaf, 1))
		proof, _ := x.Proof(leaf)
		y.first, y.path = proof[0], tree.Path(h, leaf)[0]
		y.taken = tree.Check(k, leaf, y.tag, proof, y.top)
		all[leaf] = y
	}
	return all
}

// R6: what was asked ahead, or is asked of the tree meanwhile, changes no answer.
func TestAnswersHangOnTheTreeAlone(t *testing.T) {
	from := source(31)
	k, h := drawnKey(from), 6
	x := fresh(t, k, h, drawnTags(from, 1<<h))
	want := ask(x, k, h, 0)
	got := make([][]told, 4)
	var all sync.WaitGroup
	for i := range got {
		all.Go(func() { got[i] = ask(x, k, h, i*13+1) })
	}
	all.Wait()
	for i := range got {
		if !slices.Equal(got[i], want) {
			t.Errorf("asked in order %d the answers are others", i)
		}
	}
	for leaf, y := range want {
		if !y.taken {
			t.Errorf("the leaf %d is not taken", leaf)
		}
	}
}

// R1: no arguments make a call panic, whatever they are together.
func TestNoCallPanics(t *testing.T) {
	numbers := append(extremes(), 0, 1, 2, 3, 4, 12, 13, 63, 64, 4095, 4096)
	trees := []*tree.Tree{nil, {}, fresh(t, api.Key{}, 1, nil), fresh(t, api.Key{}, 12, nil)}
	proofs := [][]api.Sector{nil, {}, make([]api.Sector, 1), make([]api.Sector, 12), make([]api.Sector, 13), make([]api.Sector, 64), make([]api.Sector, 1<<16)}
	for _, n := range numbers {
		for _, x := range trees {
			x.Top()
			x.Tag(n)
			x.Node(n)
			x.Set(n, filled(1))
			x.Proof(n)
		}
		for _, proof := range proofs {
			tree.Check(api.Key{}, n, api.Tag{}, proof, api.Tag{})
		}
		for _, m := range numbers {
			tree.Path(n, m)
		}
		tree.New(api.Key{}, n, make([]api.Tag, 1<<16))
	}
}

// R5: the calls of tree tell no whole numbers as texts, so there is nothing that this rule could be broken by. (That it hands out nothing else, and keeps nothing at package level, is held in the folder layers.)
func TestCallsAreAsListed(t *testing.T) {
	var (
		_ func(k api.Key, h int, leaves []api.Tag) (*tree.Tree, api.Errno)             = tree.New
		_ func(t *tree.Tree) api.Tag                                                   = (*tree.Tree).Top
		_ func(t *tree.Tree, number int) (api.Tag, api.Errno)                          = (*tree.Tree).Tag
		_ func(t *tree.Tree, number int) (api.Sector, api.Errno)                       = (*tree.Tree).Node
		_ func(t *tree.Tree, leaf int, tag api.Tag) ([]int, api.Errno)                 = (*tree.Tree).Set
		_ func(t *tree.Tree, leaf int) ([]api.Sector, api.Errno)                       = (*tree.Tree).Proof
		_ func(h, leaf int) []int                                                      = tree.Path
		_ func(k api.Key, leaf int, tag api.Tag, proof []api.Sector, top api.Tag) bool = tree.Check
	)
}
