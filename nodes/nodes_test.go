package nodes_test

import (
	"maps"
	"math/rand/v2"
	"slices"
	"sync"
	"testing"

	"casemate/api"
	"casemate/bus"
	"casemate/member"
	"casemate/nodes"
)

// small is the geometry of the chapter's examples: its tree has 4 leaves.
func small() api.Geometry {
	return api.Geometry{Members: 4, Rows: 1}
}

// abcd is the forest of the chapter's examples.
func abcd() forest {
	return forest{small(), countingKey(), []api.Tag{filled(1), filled(2), filled(3), filled(4)}}
}

// eight is a forest of eight leaves, and seven nodes: those above the leaf 5 are 6, 3 and 1.
func eight() forest {
	return forest{api.Geometry{Members: 4, Rows: 2}, countingKey(), numbered(8)}
}

// checkTag asks for a leaf's tag.
func checkTag(t *testing.T, n *nodes.Nodes, leaf int, want api.Tag, e api.Errno) {
	t.Helper()
	if got, err := n.Tag(leaf); got != want || err != e {
		t.Fatalf("Tag(%d): %x, %d, want %x, %d", leaf, got, err, want, e)
	}
}

// checkPlan asks for a plan.
func checkPlan(t *testing.T, n *nodes.Nodes, l []nodes.Change, want []api.Write, top api.Tag, e api.Errno) {
	t.Helper()
	w, newTop, err := n.Plan(l)
	if !slices.Equal(w, want) || newTop != top || err != e {
		t.Fatalf("Plan(%v): %v, %x, %d, want %v, %x, %d", l, w, newTop, err, want, top, e)
	}
}

// checkIs holds what n tells of itself against what it should be.
func checkIs(t *testing.T, n *nodes.Nodes, top api.Tag, known int, bad ...nodes.Bad) {
	t.Helper()
	if got := n.Top(); got != top {
		t.Fatalf("Top: %x, want %x", got, top)
	}
	if got := n.Known(); got != known {
		t.Fatalf("Known: %d, want %d", got, known)
	}
	if got := n.Bad(); !slices.Equal(got, bad) {
		t.Fatalf("Bad: %v, want %v", got, bad)
	}
}

// checkLog holds a bus's entries from the number on against what they should be.
func checkLog(t *testing.T, b *bus.Bus, from int, want ...bus.Entry) {
	t.Helper()
	if got := b.Log()[from:]; !slices.Equal(got, want) {
		t.Fatalf("the I/Os are %v, want %v", got, want)
	}
}

// checkMade has a plan made of changes of the forest, and taken; the forest that there is then is the answer.
func checkMade(t *testing.T, n *nodes.Nodes, f forest, l ...nodes.Change) forest {
	t.Helper()
	other := f.with(l...)
	checkPlan(t, n, l, f.writes(other), other.top(), api.OK)
	if e := n.Take(f.writes(other), other.top()); e != api.OK {
		t.Fatalf("Take: %d", e)
	}
	return other
}

// readOf is the entry of a node's read from the i-th one of its members.
func readOf(f forest, node, i int, s api.Sector, e api.Errno) bus.Entry {
	return bus.Entry{Do: bus.DoRead, Member: membersOf(f.g, node)[i], Index: placeOf(f.g, node), Data: s, Err: e}
}

// readsOf are those of nodes that their first members have.
func readsOf(f forest, numbers ...int) (l []bus.Entry) {
	sectors, _ := f.sectors()
	for _, node := range numbers {
		l = append(l, readOf(f, node, 0, sectors[node], api.OK))
	}
	return l
}

// rewritesOf are the entries of a Repair of these places, with what the forest has there.
func rewritesOf(f forest, l ...nodes.Bad) (log []bus.Entry) {
	sectors, _ := f.sectors()
	for _, x := range l {
		log = append(log,
			bus.Entry{Do: bus.DoWrite, Member: x.Member, Index: placeOf(f.g, x.Node), Data: sectors[x.Node]},
			bus.Entry{Do: bus.DoFlush, Member: x.Member})
	}
	return log
}

// P20.2, P20.4: the first line of the chapter's examples.
func TestTheChaptersTags(t *testing.T) {
	f := abcd()
	_, b := planted(t, f)
	n := fresh(t, b, f)
	checkTag(t, n, 2, filled(3), api.OK)
	checkIs(t, n, f.top(), 2)
	checkTag(t, n, 3, filled(4), api.OK)
	checkIs(t, n, f.top(), 2)
	checkLog(t, b, 0, readsOf(f, 1, 3)...)
}

// P20.3, P20.4: the second line, and the third one ahead of it.
func TestTheChaptersPlans(t *testing.T) {
	f := abcd()
	_, b := planted(t, f)
	n := fresh(t, b, f)
	checkPlan(t, n, []nodes.Change{{Leaf: 2, Tag: filled(3)}}, nil, f.top(), api.OK)
	w, top, e := n.Plan([]nodes.Change{{Leaf: 2, Tag: filled(5)}})
	if len(w) != 2 || w[0].Index != 1 || w[1].Index != 3 || e != api.OK {
		t.Fatalf("Plan: %v, %d", w, e)
	}
	if e := n.Take(w, top); e != api.OK {
		t.Errorf("Take: %d", e)
	}
	checkTag(t, n, 2, filled(5), api.OK)
	checkIs(t, n, top, 2)
}

// P20.2, P20.3: the fourth line.
func TestTheChaptersEnds(t *testing.T) {
	f := abcd()
	_, b := planted(t, f)
	n := fresh(t, b, f)
	checkTag(t, n, 4, api.Tag{}, api.ErrArg)
	checkPlan(t, n, []nodes.Change{{Leaf: 4, Tag: filled(1)}}, nil, api.Tag{}, api.ErrArg)
	checkPlan(t, n, nil, nil, f.top(), api.OK)
	checkPlan(t, n, []nodes.Change{}, nil, f.top(), api.OK)
	checkIs(t, n, f.top(), 0)
	checkLog(t, b, 0)
}

// P20.1 to P20.3: tops and tags of nodes that were found outside of the project.
func TestTopsFoundOutside(t *testing.T) {
	f := abcd()
	top := tagOfText(t, "bcdcff15f2a27e03b118e94fbc8d6732a41728234bb1464616b81b1e395a1b0a")
	left := tagOfText(t, "f06ed610ea700cb7541474499989b3e751a8b52f880b540a6e1827997566496e")
	_, b := planted(t, f)
	n, e := nodes.New(b, f.g, f.k, top)
	if e != api.OK {
		t.Fatalf("New: %d", e)
	}
	checkTag(t, n, 2, filled(3), api.OK)
	want := []api.Write{
		{Region: 3, Index: 1, Data: joined(left, tagOfText(t, "1a72b77fc2a43da9f0eb98df374d1e63e690cb2f2e7b0daf85848be1a1e8b48f"))},
		{Region: 3, Index: 3, Data: joined(filled(5), filled(4))},
	}
	checkPlan(t, n, []nodes.Change{{Leaf: 2, Tag: filled(5)}}, want, tagOfText(t, "3ed3ddd5d3e95c9983d7d8d69a471091bca1945cb022c4e7fa1febbba19f0d97"), api.OK)
}

// P20.1 to P20.3: the greatest tree that there is, with a top that was found outside: both its ends, and their changes.
func TestTheGreatestTree(t *testing.T) {
	f := forest{api.Geometry{Members: 64, Rows: 64}, countingKey(), numbered(4096)}
	_, b := planted(t, f)
	n, e := nodes.New(b, f.g, f.k, tagOfText(t, "a21bebe4ae09354b589e908e46c950b85afb6fd2d934910ddcf0b8172c14e8fb"))
	if e != api.OK {
		t.Fatalf("New: %d", e)
	}
	checkTag(t, n, 4095, f.leaves[4095], api.OK)
	checkTag(t, n, 0, f.leaves[0], api.OK)
	if n.Known() != 23 || b.Count() != 23 {
		t.Errorf("%d nodes are known, of %d reads", n.Known(), b.Count())
	}
	w, top, e := n.Plan([]nodes.Change{{Leaf: 4095, Tag: filled(5)}, {Leaf: 0, Tag: filled(4)}})
	if len(w) != 23 || w[22].Index != 4095 || e != api.OK {
		t.Fatalf("Plan: %d writes, %d", len(w), e)
	}
	if top != tagOfText(t, "be01499e0d13ace584c27adc10e0a367c56e5d017a950c0a7d3e97294045a176") {
		t.Errorf("Plan: the top is %x", top)
	}
	for leaf := range 4096 {
		checkTag(t, n, leaf, f.leaves[leaf], api.OK)
	}
	checkIs(t, n, f.top(), 4095)
}

// P20.1: what is nil, and what bus did not make, is ErrNil ahead of all else.
func TestNewOfNoBus(t *testing.T) {
	for _, b := range []*bus.Bus{nil, new(bus.Bus)} {
		for _, g := range append(noGeometries(), small()) {
			if n, e := nodes.New(b, g, countingKey(), filled(1)); n != nil || e != api.ErrNil {
				t.Errorf("%v: New: %v, %d", g, n, e)
			}
		}
	}
}

// P20.1: a geometry that is none, or has more or fewer members than the bus, is ErrArg; there is no I/O.
func TestNewOfWhatDoesNotFit(t *testing.T) {
	for _, many := range []int{1, 2, 3, 4, 5, 6, 63, 64} {
		b := over(t, disks(t, many, 100), crashAt(0))
		wrong := append(noGeometries(), api.Geometry{Members: many}, api.Geometry{Members: many, Rows: 65}, api.Geometry{Members: many, Rows: -1})
		for _, g := range append(wrong, geometries()...) {
			if g.Members == many && g.Rows >= 1 && g.Rows <= 64 && many >= 4 {
				continue
			}
			if n, e := nodes.New(b, g, countingKey(), filled(1)); n != nil || e != api.ErrArg {
				t.Errorf("%d members, %v: New: %v, %d", many, g, n, e)
			}
		}
		checkLog(t, b, 0)
	}
}

// P20.1: of each geometry with a bus of as many members, whatever these are, nothing is known but the top, and nothing is read.
func TestNew(t *testing.T) {
	from := source(1)
	for members := 4; members <= 64; members++ {
		b := over(t, disks(t, members, 1), crashAt(0))
		for rows := 1; rows <= 64; rows++ {
			top := drawnTag(from)
			n, e := nodes.New(b, api.Geometry{Members: members, Rows: rows}, drawnKey(from), top)
			if e != api.OK {
				t.Fatalf("%d members, %d rows: New: %d", members, rows, e)
			}
			checkIs(t, n, top, 0)
		}
		checkLog(t, b, 0)
	}
}

// P20.1: it keeps the bus: what becomes of this, and of its members, it sees.
func TestTheBusIsKept(t *testing.T) {
	f := abcd()
	b := over(t, disks(t, 4, sectorsOf(f.g)))
	n := fresh(t, b, f)
	checkTag(t, n, 0, api.Tag{}, api.ErrTamper)
	sectors, _ := f.sectors()
	for node := 1; node <= 3; node++ {
		b.Write(membersOf(f.g, node)[2], placeOf(f.g, node), sectors[node])
	}
	checkTag(t, n, 0, filled(1), api.OK)
}

// P20.2: all leaves, asked in any order: the nodes of their paths are read, the top first, each once, each from its first member.
func TestTag(t *testing.T) {
	from := source(2)
	for _, g := range geometries() {
		f := forestOf(from, g)
		_, b := planted(t, f)
		n := fresh(t, b, f)
		known := map[int]bool{}
		for _, leaf := range from.Perm(leavesOf(g)) {
			var read []int
			for _, node := range pathTo(g, leaf) {
				if !known[node] {
					read, known[node] = append(read, node), true
				}
			}
			count := b.Count()
			checkTag(t, n, leaf, f.leaves[leaf], api.OK)
			checkLog(t, b, count, readsOf(f, read...)...)
			checkIs(t, n, f.top(), len(known))
		}
	}
}

// P20.2: the zero tag of a leaf, and zero sectors, are as any others.
func TestZeroTags(t *testing.T) {
	f := forest{api.Geometry{Members: 5, Rows: 3}, api.Key{}, make([]api.Tag, 15)}
	_, b := planted(t, f)
	n := fresh(t, b, f)
	for leaf := range 15 {
		checkTag(t, n, leaf, api.Tag{}, api.OK)
	}
	n, _ = nodes.New(b, f.g, f.k, api.Tag{})
	checkTag(t, n, 0, api.Tag{}, api.ErrTamper)
}

// P20.2, P20.3: numbers of no leaf, also those for which the tree has places: ErrArg, and no I/O, whether the power is there or not.
func TestNoSuchLeaf(t *testing.T) {
	from := source(3)
	for _, g := range geometries() {
		f := forestOf(from, g)
		_, b := planted(t, f, crashAt(0))
		n := fresh(t, b, f)
		for range 2 {
			count := b.Count()
			for _, leaf := range append(extremes(), leavesOf(g), leavesOf(g)+1, placesOf(g)-1+g.Members, placesOf(g), 2*placesOf(g)-1) {
				checkTag(t, n, leaf, api.Tag{}, api.ErrArg)
				for _, l := range [][]nodes.Change{{{Leaf: leaf}}, {{Leaf: 0, Tag: filled(1)}, {Leaf: leaf}}, {{Leaf: leaf}, {Leaf: 0, Tag: filled(1)}}, {{Leaf: 1}, {Leaf: leaf}, {Leaf: 2}}} {
					checkPlan(t, n, l, nil, api.Tag{}, api.ErrArg)
				}
			}
			checkLog(t, b, count)
			checkIs(t, n, f.top(), 0)
			// From now on the power is gone.
			b.Flush(0)
		}
	}
}

// P20.2: the members ahead of the one that has the right sector are bad places, in the order in which they are found; those behind it are not looked at.
func TestBadPlaces(t *testing.T) {
	f := eight()
	members, b := planted(t, f)
	sectors, _ := f.sectors()
	members[3].Set(placeOf(f.g, 3), api.Sector{})
	members[1].Set(placeOf(f.g, 1), drawn(source(4)))
	members[2].Set(placeOf(f.g, 1), sectors[2])
	// Behind the one that is right: that is not found.
	members[1].Set(placeOf(f.g, 3), api.Sector{})
	members[2].Set(placeOf(f.g, 6), api.Sector{9})
	members[0].Set(placeOf(f.g, 4), api.Sector{9})
	n := fresh(t, b, f)
	checkTag(t, n, 5, f.leaves[5], api.OK)
	bad := []nodes.Bad{{Node: 1, Member: 1}, {Node: 1, Member: 2}, {Node: 3, Member: 3}, {Node: 6, Member: 2}}
	checkIs(t, n, f.top(), 3, bad...)
	checkTag(t, n, 4, f.leaves[4], api.OK)
	checkTag(t, n, 5, f.leaves[5], api.OK)
	checkIs(t, n, f.top(), 3, bad...)
	members[3].Fail(true)
	checkTag(t, n, 6, f.leaves[6], api.OK)
	bad = append(bad, nodes.Bad{Node: 7, Member: 3})
	checkIs(t, n, f.top(), 4, bad...)
	checkTag(t, n, 0, f.leaves[0], api.OK)
	bad = append(bad, nodes.Bad{Node: 4, Member: 0})
	checkIs(t, n, f.top(), 6, bad...)
}

// P20.2: each way in which the four members may be well, failing, too short or tampered, with the power going ahead of each I/O, and then coming back: answers, and the very I/Os, are those of the paper.
func TestTagOfMembersThatAreNotWell(t *testing.T) {
	f := abcd()
	for play := range 256 {
		for off := range 8 {
			members := played(t, f, play)
			b, p := over(t, members, crashAt(off)), paperOf(over(t, copies(members), crashAt(off)), f)
			n := fresh(t, b, f)
			for _, leaf := range []int{2, 0, 3} {
				tag, e := p.tag(leaf)
				checkTag(t, n, leaf, tag, e)
				checkIs(t, n, f.top(), len(p.known), p.bad...)
			}
			b.Power()
			p.b.Power()
			for leaf := range 4 {
				tag, e := p.tag(leaf)
				checkTag(t, n, leaf, tag, e)
				checkIs(t, n, f.top(), len(p.known), p.bad...)
			}
			checkLog(t, b, 0, p.b.Log()...)
		}
	}
}

// played is members that have the forest, each being, by two bits of the play, well, failing, too short or tampered.
func played(t *testing.T, f forest, play int) []*member.Member {
	t.Helper()
	members := disks(t, f.g.Members, sectorsOf(f.g))
	f.lay(members)
	for m := range members {
		switch play >> (2 * m) % 4 {
		case 1:
			members[m].Fail(true)
		case 2:
			members[m] = disks(t, 1, placeOf(f.g, 2))[0]
		case 3:
			for node := 1; node < placesOf(f.g); node++ {
				members[m].Set(placeOf(f.g, node), joined(filled(byte(node)), filled(0xee)))
			}
		}
	}
	return members
}

// P20.2: ErrTamper of a node in the middle: what is above it is verified ahead and stays known, what is below it is not asked for; it has no bad places; when a member has it again, only what is not known is read.
func TestANodeThatIsTamperedEverywhere(t *testing.T) {
	f := eight()
	sectors, _ := f.sectors()
	for depth, node := range pathTo(f.g, 5) {
		members, b := planted(t, f)
		var log []bus.Entry
		for i, m := range membersOf(f.g, node) {
			members[m].Set(placeOf(f.g, node), api.Sector{7})
			log = append(log, readOf(f, node, i, api.Sector{7}, api.OK))
		}
		n := fresh(t, b, f)
		checkTag(t, n, 5, api.Tag{}, api.ErrTamper)
		checkLog(t, b, 0, append(readsOf(f, pathTo(f.g, 5)[:depth]...), log...)...)
		checkIs(t, n, f.top(), depth)
		count := b.Count()
		members[membersOf(f.g, node)[2]].Set(placeOf(f.g, node), sectors[node])
		log[2].Data = sectors[node]
		checkTag(t, n, 5, f.leaves[5], api.OK)
		checkLog(t, b, count, append(log, readsOf(f, pathTo(f.g, 5)[depth+1:]...)...)...)
		checkIs(t, n, f.top(), 3, nodes.Bad{Node: node, Member: membersOf(f.g, node)[0]}, nodes.Bad{Node: node, Member: membersOf(f.g, node)[1]})
	}
}

// P20.2: the first error is the answer: ErrIO of what fails everywhere, ErrTamper of what is read somewhere, each from the top down.
func TestTheFirstErrorIsTheAnswer(t *testing.T) {
	f := forest{api.Geometry{Members: 16, Rows: 1}, countingKey(), numbered(16)}
	// The path of the leaf 0 is 1, 2, 4 and 8, the last two on members of their own.
	fail := func(members []*member.Member, node int) {
		for _, m := range membersOf(f.g, node) {
			members[m].Fail(true)
		}
	}
	turn := func(members []*member.Member, node int) {
		for _, m := range membersOf(f.g, node) {
			members[m].Set(placeOf(f.g, node), api.Sector{7})
		}
	}
	for i, x := range []struct {
		fail, turn []int
		e          api.Errno
		known      int
	}{
		{[]int{8}, nil, api.ErrIO, 3},
		{[]int{8}, []int{4}, api.ErrTamper, 2},
		{[]int{4}, []int{8}, api.ErrIO, 2},
		{[]int{4, 8}, nil, api.ErrIO, 2},
		{[]int{8}, []int{2}, api.ErrTamper, 1},
		{[]int{4}, []int{1}, api.ErrTamper, 0},
		{[]int{1}, []int{4, 8}, api.ErrIO, 0},
	} {
		members, b := planted(t, f)
		for _, node := range x.fail {
			fail(members, node)
		}
		for _, node := range x.turn {
			turn(members, node)
		}
		n := fresh(t, b, f)
		checkTag(t, n, 0, api.Tag{}, x.e)
		if n.Known() != x.known {
			t.Errorf("%d: %d nodes are known", i, n.Known())
		}
	}
}

// P20.2, P2: what is no sector of the node now, though it was one once, or is another node's, or under another key, is not taken from any member.
func TestWhatIsNotTheNodesSector(t *testing.T) {
	f := eight()
	sectors, _ := f.sectors()
	old, _ := f.with(nodes.Change{Leaf: 5, Tag: filled(0xaa)}).sectors()
	other, _ := forest{f.g, api.Key{1}, f.leaves}.sectors()
	beside, _ := f.with(nodes.Change{Leaf: 4, Tag: f.leaves[5]}, nodes.Change{Leaf: 5, Tag: f.leaves[4]}).sectors()
	for depth, node := range pathTo(f.g, 5) {
		lies := []api.Sector{old[node], beside[node], sectors[node%7+1], {}, drawn(source(5))}
		if depth < 2 {
			// The lowest nodes' sectors are the leaves' tags under any key.
			lies = append(lies, other[node])
		}
		for i, lie := range lies {
			for spared := range 4 {
				members, b := planted(t, f)
				var bad []nodes.Bad
				for j, m := range membersOf(f.g, node) {
					if j != spared {
						members[m].Set(placeOf(f.g, node), lie)
					}
					if j < spared {
						bad = append(bad, nodes.Bad{Node: node, Member: m})
					}
				}
				n := fresh(t, b, f)
				if spared == 3 {
					checkTag(t, n, 5, api.Tag{}, api.ErrTamper)
					checkIs(t, n, f.top(), depth)
					continue
				}
				if tag, e := n.Tag(5); tag != f.leaves[5] || e != api.OK {
					t.Fatalf("node %d, %d: %x, %d", node, i, tag, e)
				}
				checkIs(t, n, f.top(), 3, bad...)
			}
		}
	}
}

// P20.1, P20.2: under another top, or another key, there is nothing to be had of the members.
func TestOtherTopsAndKeys(t *testing.T) {
	f := eight()
	_, b := planted(t, f)
	for bit := range 256 {
		top, k := f.top(), f.k
		top[bit/8] ^= 1 << (bit % 8)
		n, _ := nodes.New(b, f.g, f.k, top)
		checkTag(t, n, bit%8, api.Tag{}, api.ErrTamper)
		checkIs(t, n, top, 0)
		k[bit/8] ^= 1 << (bit % 8)
		n, _ = nodes.New(b, f.g, k, f.top())
		checkTag(t, n, bit%8, api.Tag{}, api.ErrTamper)
		checkIs(t, n, f.top(), 0)
	}
}

// P20.2: what is known is not read again, whatever became of the members.
func TestWhatIsKnownIsKept(t *testing.T) {
	from := source(6)
	for _, g := range geometries() {
		f := forestOf(from, g)
		members, b := planted(t, f)
		n := fresh(t, b, f)
		for leaf := range leavesOf(g) {
			checkTag(t, n, leaf, f.leaves[leaf], api.OK)
		}
		for m := range members {
			members[m].Fail(true)
		}
		count := b.Count()
		for leaf := range leavesOf(g) {
			checkTag(t, n, leaf, f.leaves[leaf], api.OK)
		}
		other := checkMade(t, n, f, nodes.Change{Leaf: leavesOf(g) - 1, Tag: filled(1)})
		checkTag(t, n, leavesOf(g)-1, filled(1), api.OK)
		checkTag(t, n, 0, f.leaves[0], api.OK)
		checkLog(t, b, count)
		if n.Top() != other.top() {
			t.Errorf("%v: Top: %x", g, n.Top())
		}
	}
}

// drawnChanges are some of leaves that there are; some say what holds already.
func drawnChanges(from *rand.Rand, f forest, many int) (l []nodes.Change) {
	for range many {
		c := nodes.Change{Leaf: from.IntN(leavesOf(f.g)), Tag: drawnTag(from)}
		if from.IntN(3) == 0 {
			c.Tag = f.leaves[c.Leaf]
		}
		l = append(l, c)
	}
	return l
}

// P20.3: plans of any changes, against trees that are reckoned anew; they are no changes.
func TestPlan(t *testing.T) {
	from := source(7)
	for _, g := range geometries() {
		f := forestOf(from, g)
		_, b := planted(t, f)
		n := fresh(t, b, f)
		for play := range 60 {
			l := drawnChanges(from, f, play%9)
			other := f.with(l...)
			checkPlan(t, n, l, f.writes(other), other.top(), api.OK)
			leaf := from.IntN(leavesOf(g))
			checkTag(t, n, leaf, f.leaves[leaf], api.OK)
			if n.Top() != f.top() {
				t.Fatalf("%v: a plan changed the top", g)
			}
		}
		var all []nodes.Change
		for leaf := range leavesOf(g) {
			all = append(all, nodes.Change{Leaf: leaf, Tag: drawnTag(from)})
		}
		other := f.with(all...)
		slices.Reverse(all)
		checkPlan(t, n, all, f.writes(other), other.top(), api.OK)
	}
}

// P20.3: each leaf alone, and each two of them, also both to one tag, and as they were.
func TestPlansOfEachTwoLeaves(t *testing.T) {
	f := eight()
	_, b := planted(t, f)
	n := fresh(t, b, f)
	for one := range 8 {
		for two := range 8 {
			for _, l := range [][]nodes.Change{
				{{Leaf: one, Tag: filled(9)}, {Leaf: two, Tag: filled(9)}},
				{{Leaf: one, Tag: f.leaves[two]}, {Leaf: two, Tag: f.leaves[one]}},
				{{Leaf: one, Tag: filled(9)}, {Leaf: two, Tag: f.leaves[two]}},
				{{Leaf: one, Tag: f.leaves[one]}, {Leaf: two, Tag: f.leaves[two]}},
				{{Leaf: one, Tag: api.Tag{}}, {Leaf: two, Tag: filled(8)}},
			} {
				other := f.with(l...)
				checkPlan(t, n, l, f.writes(other), other.top(), api.OK)
			}
		}
	}
	checkIs(t, n, f.top(), 7)
}

// P20.3: of several changes of one leaf the last one counts, also if it says what holds already.
func TestTheLastChangeCounts(t *testing.T) {
	f := eight()
	_, b := planted(t, f)
	n := fresh(t, b, f)
	l := []nodes.Change{{Leaf: 5, Tag: filled(1)}, {Leaf: 2, Tag: filled(3)}, {Leaf: 5, Tag: filled(2)}, {Leaf: 2, Tag: f.leaves[2]}}
	other := f.with(nodes.Change{Leaf: 5, Tag: filled(2)})
	checkPlan(t, n, l, f.writes(other), other.top(), api.OK)
	checkPlan(t, n, append(l, nodes.Change{Leaf: 5, Tag: f.leaves[5]}), nil, f.top(), api.OK)
	slices.Reverse(l)
	other = f.with(nodes.Change{Leaf: 5, Tag: filled(1)}, nodes.Change{Leaf: 2, Tag: filled(3)})
	checkPlan(t, n, l, f.writes(other), other.top(), api.OK)
}

// P20.3: all paths' nodes are verified, leaf by leaf, as the changes stand; no others.
func TestPlanVerifiesLeafByLeaf(t *testing.T) {
	f := eight()
	for _, x := range []struct {
		leaves, read []int
	}{
		{[]int{0}, []int{1, 2, 4}},
		{[]int{7, 0}, []int{1, 3, 7, 2, 4}},
		{[]int{0, 7}, []int{1, 2, 4, 3, 7}},
		{[]int{5, 4, 2, 5, 6}, []int{1, 3, 6, 2, 5, 7}},
	} {
		_, b := planted(t, f)
		n := fresh(t, b, f)
		var l []nodes.Change
		for _, leaf := range x.leaves {
			l = append(l, nodes.Change{Leaf: leaf, Tag: f.leaves[leaf]})
		}
		checkPlan(t, n, l, nil, f.top(), api.OK)
		checkLog(t, b, 0, readsOf(f, x.read...)...)
		checkIs(t, n, f.top(), len(x.read))
	}
}

// P20.3: the first error of all leaves is the answer, with nothing beside it; what was verified ahead of it stays known, and bad places bad.
func TestPlanOfNodesThatAreNot(t *testing.T) {
	f := eight()
	members, b := planted(t, f, crashAt(11))
	members[1].Set(placeOf(f.g, 1), api.Sector{7})
	for _, m := range membersOf(f.g, 5) {
		members[m].Set(placeOf(f.g, 5), api.Sector{7})
	}
	n := fresh(t, b, f)
	checkPlan(t, n, []nodes.Change{{Leaf: 0, Tag: filled(1)}, {Leaf: 2, Tag: filled(1)}, {Leaf: 7, Tag: filled(1)}}, nil, api.Tag{}, api.ErrTamper)
	bad := nodes.Bad{Node: 1, Member: 1}
	// Those of 1, 2, 4 and 5; the top was read twice.
	checkIs(t, n, f.top(), 3, bad)
	if b.Count() != 7 {
		t.Errorf("%d I/Os", b.Count())
	}
	for _, m := range membersOf(f.g, 3) {
		members[m].Fail(true)
	}
	checkPlan(t, n, []nodes.Change{{Leaf: 7, Tag: filled(1)}, {Leaf: 2, Tag: filled(1)}}, nil, api.Tag{}, api.ErrIO)
	checkIs(t, n, f.top(), 3, bad)
	for m := range members {
		members[m].Fail(false)
	}
	checkPlan(t, n, []nodes.Change{{Leaf: 0, Tag: filled(1)}, {Leaf: 7, Tag: filled(1)}}, nil, api.Tag{}, api.ErrOff)
	checkIs(t, n, f.top(), 4, bad)
	b.Power()
	other := f.with(nodes.Change{Leaf: 7, Tag: filled(1)})
	checkPlan(t, n, []nodes.Change{{Leaf: 7, Tag: filled(1)}}, f.writes(other), other.top(), api.OK)
}

// P20.3: a plan that makes no node another one is no writes, and the top, whatever that is.
func TestPlansOfNothing(t *testing.T) {
	f := eight()
	_, b := planted(t, f)
	n := fresh(t, b, f)
	var all []nodes.Change
	for leaf, tag := range f.leaves {
		all = append(all, nodes.Change{Leaf: leaf, Tag: tag})
	}
	checkPlan(t, n, all, nil, f.top(), api.OK)
	n.Take(nil, filled(9))
	checkPlan(t, n, all, nil, filled(9), api.OK)
	checkPlan(t, n, nil, nil, filled(9), api.OK)
	// A node that was taken alone is not what the one above it says; that changes nothing.
	n.Take([]api.Write{{Region: 3, Index: 6, Data: joined(filled(1), filled(2))}}, f.top())
	all[4].Tag, all[5].Tag = filled(1), filled(2)
	checkPlan(t, n, all, nil, f.top(), api.OK)
}

// P20.4: writes of nodes that there are, and of no other region, are known from now on, and not read; of several of one node the last one counts; the top is the one that is told.
func TestTake(t *testing.T) {
	f := eight()
	_, b := planted(t, f)
	n := fresh(t, b, f)
	other := f.with(nodes.Change{Leaf: 5, Tag: filled(0xaa)})
	sectors, top := other.sectors()
	l := []api.Write{{Region: 3, Index: 6, Data: api.Sector{1}}}
	for _, node := range []int{1, 3, 6} {
		l = append(l, api.Write{Region: 3, Index: node, Data: sectors[node]})
	}
	for _, region := range append(extremes(), 0, 1, 2, 4, 5) {
		for index := range 8 {
			l = append(l, api.Write{Region: region, Index: index, Data: api.Sector{8}})
		}
	}
	for _, index := range append(extremes(), 0, 8, 9, 15, 16, placeOf(f.g, 1), placeOf(f.g, 6)) {
		l = append(l, api.Write{Region: 3, Index: index, Data: api.Sector{8}})
	}
	if e := n.Take(l, top); e != api.OK {
		t.Errorf("Take: %d", e)
	}
	checkIs(t, n, top, 3)
	checkTag(t, n, 5, filled(0xaa), api.OK)
	checkTag(t, n, 4, f.leaves[4], api.OK)
	checkLog(t, b, 0)
	checkTag(t, n, 0, f.leaves[0], api.OK)
	checkLog(t, b, 0, readsOf(f, 2, 4)...)
	if e := n.Take(nil, filled(9)); e != api.OK {
		t.Errorf("Take of nothing: %d", e)
	}
	checkIs(t, n, filled(9), 5)
	checkTag(t, n, 5, filled(0xaa), api.OK)
}

// P20.4: the numbers at both ends of some trees.
func TestTakeAtTheEnds(t *testing.T) {
	from := source(8)
	for _, g := range geometries() {
		f := forestOf(from, g)
		_, b := planted(t, f)
		n := fresh(t, b, f)
		last := placesOf(g) - 1
		for i, x := range []struct{ index, known int }{{0, 0}, {last + 1, 0}, {1, 1}, {last, 2}, {last + 1, 2}, {1, 2}, {-1, 2}} {
			n.Take([]api.Write{{Region: 3, Index: x.index, Data: api.Sector{8}}}, f.top())
			if n.Known() != x.known {
				t.Fatalf("%v: %d: %d nodes are known", g, i, n.Known())
			}
		}
	}
}

// P20.2, P20.4: below what was taken the tags are those that it has; what is above it, and not known, is verified all the same.
func TestNodesBesideTakenOnes(t *testing.T) {
	f := eight()
	_, b := planted(t, f)
	n := fresh(t, b, f)
	// The lowest node of the leaf 5 is known, those above it not.
	n.Take([]api.Write{{Region: 3, Index: 6, Data: joined(filled(1), filled(2))}}, f.top())
	checkTag(t, n, 5, filled(2), api.OK)
	checkLog(t, b, 0, readsOf(f, 1, 3)...)
	n.Forget()
	n.Take([]api.Write{{Region: 3, Index: 6, Data: joined(filled(1), filled(2))}}, filled(9))
	checkTag(t, n, 5, api.Tag{}, api.ErrTamper)
	checkIs(t, n, filled(9), 1)
	// The one in the middle is known: the lowest one has to have the tag that stands there.
	n.Forget()
	sectors, _ := f.sectors()
	n.Take([]api.Write{{Region: 3, Index: 3, Data: withHalf(sectors[3], 6, filled(7))}}, f.top())
	checkTag(t, n, 5, api.Tag{}, api.ErrTamper)
	checkTag(t, n, 6, f.leaves[6], api.OK)
	checkTag(t, n, 4, api.Tag{}, api.ErrTamper)
	checkIs(t, n, f.top(), 3)
}

// P20.6: behind each taken plan the leaves have the tags that the changes told, and all others theirs; that is the tree that lies on the members, once the plan's writes are done there.
func TestTakeOfPlans(t *testing.T) {
	from := source(9)
	for _, g := range geometries() {
		f := forestOf(from, g)
		members, b := planted(t, f)
		n := fresh(t, b, f)
		for range 12 {
			other := checkMade(t, n, f, drawnChanges(from, f, 1+from.IntN(5))...)
			if from.IntN(3) == 0 {
				other.lay(members)
				n.Forget()
			}
			for leaf, tag := range other.leaves {
				// What was not known is still the old one's on the members: the same, as nothing there has changed.
				checkTag(t, n, leaf, tag, api.OK)
			}
			f = other
		}
		f.lay(members)
		again := fresh(t, b, f)
		for leaf, tag := range f.leaves {
			checkTag(t, again, leaf, tag, api.OK)
		}
	}
}

// P20.4: behind Forget all is read again, and what is bad is found again; the top stays.
func TestForget(t *testing.T) {
	f := eight()
	members, b := planted(t, f)
	members[1].Set(placeOf(f.g, 1), api.Sector{7})
	n := fresh(t, b, f)
	n.Forget()
	checkIs(t, n, f.top(), 0)
	for range 3 {
		checkTag(t, n, 0, f.leaves[0], api.OK)
		checkIs(t, n, f.top(), 3, nodes.Bad{Node: 1, Member: 1})
		count := b.Count()
		n.Forget()
		checkIs(t, n, f.top(), 0)
		checkLog(t, b, count)
		checkTag(t, n, 0, f.leaves[0], api.OK)
		checkLog(t, b, count, append([]bus.Entry{readOf(f, 1, 0, api.Sector{7}, api.OK), readOf(f, 1, 1, readsOf(f, 1)[0].Data, api.OK)}, readsOf(f, 2, 4)...)...)
		n.Forget()
	}
	count := b.Count()
	if e := n.Repair(); e != api.OK {
		t.Errorf("Repair of nothing: %d", e)
	}
	checkLog(t, b, count)
	n.Take(nil, filled(9))
	n.Forget()
	checkIs(t, n, filled(9), 0)
}

// ruined is a forest on members of which 1 and 2 have nothing right, and a tree that was asked for all leaves.
func ruined(t *testing.T, steps ...bus.Step) (forest, []*member.Member, *bus.Bus, *nodes.Nodes) {
	t.Helper()
	f := eight()
	members, b := planted(t, f, steps...)
	for _, m := range []int{1, 2} {
		for i := range sectorsOf(f.g) {
			members[m].Set(i, api.Sector{7, byte(m)})
		}
	}
	n := fresh(t, b, f)
	for leaf := range 8 {
		checkTag(t, n, leaf, f.leaves[leaf], api.OK)
	}
	return f, members, b, n
}

// ruins are the bad places that are found then: of nodes that lie on 1 and 2 ahead of a right member.
func ruins() []nodes.Bad {
	return []nodes.Bad{{Node: 1, Member: 1}, {Node: 1, Member: 2}, {Node: 2, Member: 2}, {Node: 5, Member: 1}, {Node: 5, Member: 2}, {Node: 6, Member: 2}}
}

// P20.4: each bad place gets its node's sector, and its member is flushed, one behind the other; then none is bad, and the nodes stay known.
func TestRepair(t *testing.T) {
	f, members, b, n := ruined(t)
	checkIs(t, n, f.top(), 7, ruins()...)
	count := b.Count()
	if e := n.Repair(); e != api.OK {
		t.Errorf("Repair: %d", e)
	}
	checkLog(t, b, count, rewritesOf(f, ruins()...)...)
	checkIs(t, n, f.top(), 7)
	sectors, _ := f.sectors()
	for m, of := range members {
		of.Crash(nil)
		for i := range sectorsOf(f.g) {
			s, _ := of.Look(i)
			node := i - placeOf(f.g, 1) + 1
			if slices.Contains(ruins(), nodes.Bad{Node: node, Member: m}) {
				if s != sectors[node] {
					t.Errorf("the member %d has %x of the node %d", m, s, node)
				}
			} else if m == 1 || m == 2 {
				if s != (api.Sector{7, byte(m)}) {
					t.Errorf("the member %d has %x at %d", m, s, i)
				}
			}
		}
	}
	count = b.Count()
	if e := n.Repair(); e != api.OK {
		t.Errorf("Repair of nothing: %d", e)
	}
	checkLog(t, b, count)
	n.Forget()
	for leaf := range 8 {
		checkTag(t, n, leaf, f.leaves[leaf], api.OK)
	}
	checkIs(t, n, f.top(), 7)
}

// P20.4: a bad place gets what is known of its node now: what was taken, if it was.
func TestRepairOfTakenNodes(t *testing.T) {
	f, _, b, n := ruined(t)
	other := checkMade(t, n, f, nodes.Change{Leaf: 5, Tag: filled(0xaa)}, nodes.Change{Leaf: 2, Tag: filled(0xbb)})
	checkIs(t, n, other.top(), 7, ruins()...)
	count := b.Count()
	if e := n.Repair(); e != api.OK {
		t.Errorf("Repair: %d", e)
	}
	checkLog(t, b, count, rewritesOf(other, ruins()...)...)
}

// P20.4: that a member fails is its own affair: it is not flushed then, and its places are bad no more.
func TestRepairOfMembersThatFail(t *testing.T) {
	f, members, b, n := ruined(t)
	members[2].Fail(true)
	var want []bus.Entry
	for _, x := range ruins() {
		entries := rewritesOf(f, x)
		if x.Member == 2 {
			entries = entries[:1]
			entries[0].Err = api.ErrIO
		}
		want = append(want, entries...)
	}
	count := b.Count()
	if e := n.Repair(); e != api.OK {
		t.Errorf("Repair: %d", e)
	}
	checkLog(t, b, count, want...)
	checkIs(t, n, f.top(), 7)
	members[2].Fail(false)
	if s, _ := members[2].Look(placeOf(f.g, 2)); s != (api.Sector{7, 2}) {
		t.Errorf("the member that failed has %x", s)
	}
}

// P20.4: a place on a member that is too short for it gets nothing.
func TestRepairOfAMemberThatIsTooShort(t *testing.T) {
	f := eight()
	members := disks(t, 4, sectorsOf(f.g))
	members[3] = disks(t, 1, 1)[0]
	f.lay(members)
	b := over(t, members)
	n := fresh(t, b, f)
	checkTag(t, n, 7, f.leaves[7], api.OK)
	bad := []nodes.Bad{{Node: 3, Member: 3}, {Node: 7, Member: 3}}
	checkIs(t, n, f.top(), 3, bad...)
	var want []bus.Entry
	for _, x := range bad {
		entry := rewritesOf(f, x)[0]
		entry.Err = api.ErrArg
		want = append(want, entry)
	}
	count := b.Count()
	if e := n.Repair(); e != api.OK {
		t.Errorf("Repair: %d", e)
	}
	checkLog(t, b, count, want...)
	checkIs(t, n, f.top(), 3)
}

// P20.4: a write that is taken, and a flush that is not: that is the member's affair too.
func TestRepairOfAFlushThatFails(t *testing.T) {
	_, _, quiet, _ := ruined(t)
	f, _, b, n := ruined(t, bus.Step{At: quiet.Count() + 1, Kind: bus.Fail, Member: 1})
	count := b.Count()
	if e := n.Repair(); e != api.OK {
		t.Errorf("Repair: %d", e)
	}
	var want []bus.Entry
	for i, x := range ruins() {
		entries := rewritesOf(f, x)
		switch {
		case i == 0:
			entries[1].Err = api.ErrIO
		case x.Member == 1:
			entries[0].Err = api.ErrIO
			entries = entries[:1]
		}
		want = append(want, entries...)
	}
	checkLog(t, b, count, want...)
	checkIs(t, n, f.top(), 7)
}

// P20.4, R2: where the power goes, there Repair ends, and all places are bad as ahead; with the power there again all of them are written.
func TestRepairWhileThePowerGoes(t *testing.T) {
	_, _, quiet, _ := ruined(t)
	for off := range 2 * len(ruins()) {
		f, _, b, n := ruined(t, crashAt(quiet.Count()+off))
		want := rewritesOf(f, ruins()...)
		want[off].Err = api.ErrOff
		count := b.Count()
		if e := n.Repair(); e != api.ErrOff {
			t.Fatalf("%d: Repair: %d", off, e)
		}
		checkLog(t, b, count, want[:off+1]...)
		checkIs(t, n, f.top(), 7, ruins()...)
		if e := n.Repair(); e != api.ErrOff {
			t.Fatalf("%d: Repair without power: %d", off, e)
		}
		b.Power()
		count = b.Count()
		if e := n.Repair(); e != api.OK {
			t.Fatalf("%d: Repair: %d", off, e)
		}
		checkLog(t, b, count, rewritesOf(f, ruins()...)...)
		checkIs(t, n, f.top(), 7)
	}
}

// P20.5: whatever is done to whichever members: what Tag tells, if it tells it, is the tag in the tree; with one member spared of each three it tells it always.
func TestWhateverTheMembersAnswer(t *testing.T) {
	from := source(10)
	for play := range 400 {
		g := geometries()[play%7]
		f := forestOf(from, g)
		members, b := planted(t, f)
		old := f.with(drawnChanges(from, f, 3)...)
		old.lay(members)
		for _, m := range members {
			m.Mark()
		}
		f.lay(members)
		touched := from.Perm(g.Members)[:1+from.IntN(g.Members)]
		for range 40 {
			m := members[touched[from.IntN(len(touched))]]
			switch from.IntN(4) {
			case 0:
				m.Back(0)
			case 1:
				m.Fail(from.IntN(2) == 0)
			default:
				// Another node's sector, at times turned.
				s, _ := members[from.IntN(g.Members)].Look(placeOf(g, 1+from.IntN(placesOf(g)-1)))
				s[from.IntN(64)] ^= byte(from.IntN(2))
				m.Set(placeOf(g, 1+from.IntN(placesOf(g)-1)), s)
			}
		}
		n := fresh(t, b, f)
		for range 2 {
			for leaf, want := range f.leaves {
				tag, e := n.Tag(leaf)
				if e == api.OK && tag != want || e != api.OK && tag != (api.Tag{}) || e != api.OK && len(touched) <= 2 {
					t.Fatalf("%v: %d touched: Tag(%d): %x, %d", g, len(touched), leaf, tag, e)
				}
			}
			for _, x := range n.Bad() {
				if !slices.Contains(touched, x.Member) {
					t.Fatalf("%v: %v is bad, and was not touched", g, x)
				}
			}
			n.Repair()
		}
	}
}

// twins is nodes over a bus, and the paper over another one that is the same.
type twins struct {
	n       *nodes.Nodes
	b       *bus.Bus
	p       *paper
	writes  []api.Write
	top     api.Tag
	planned bool
}

// checkSame holds all that both tell without I/Os.
func (x *twins) checkSame(t *testing.T) {
	t.Helper()
	checkIs(t, x.n, x.p.top, len(x.p.known), x.p.bad...)
	if x.b.Count() != x.p.b.Count() {
		t.Fatalf("%d I/Os, want %d", x.b.Count(), x.p.b.Count())
	}
}

// act does one thing with both, drawn, and holds the answers.
func (x *twins) act(t *testing.T, from *rand.Rand) {
	t.Helper()
	g := x.p.g
	switch from.IntN(16) {
	case 0, 1, 2, 3:
		leaf := from.IntN(leavesOf(g)+2) - 1
		tag, e := x.p.tag(leaf)
		checkTag(t, x.n, leaf, tag, e)
	case 4, 5, 6:
		x.plan(t, from)
	case 7, 8:
		if x.planned {
			x.home(from)
			x.n.Take(x.writes, x.top)
			x.p.take(x.writes, x.top)
			x.planned = false
		}
	case 9:
		x.junk(from)
	case 10:
		x.n.Forget()
		x.p.forget()
	case 11, 12:
		if got, want := x.n.Repair(), x.p.repair(); got != want {
			t.Fatalf("Repair: %d, want %d", got, want)
		}
	default:
		x.b.Power()
		x.p.b.Power()
	}
	x.checkSame(t)
}

// plan asks both for one of some changes, at times of a leaf that there is not.
func (x *twins) plan(t *testing.T, from *rand.Rand) {
	t.Helper()
	var l []nodes.Change
	for range from.IntN(5) {
		l = append(l, nodes.Change{Leaf: from.IntN(leavesOf(x.p.g)), Tag: filled(byte(from.IntN(4)))})
	}
	if from.IntN(12) == 0 {
		l = append(l, nodes.Change{Leaf: leavesOf(x.p.g)})
	}
	w, top, e := x.p.plan(l)
	checkPlan(t, x.n, l, w, top, e)
	if e == api.OK {
		x.writes, x.top, x.planned = w, top, true
	}
}

// home writes the plan where it lies, over both buses.
func (x *twins) home(from *rand.Rand) {
	for _, w := range x.writes {
		for _, m := range membersOf(x.p.g, w.Index) {
			x.b.Write(m, placeOf(x.p.g, w.Index), w.Data)
			x.p.b.Write(m, placeOf(x.p.g, w.Index), w.Data)
		}
	}
	if m := from.IntN(x.p.g.Members); from.IntN(2) == 0 {
		x.b.Flush(m)
		x.p.b.Flush(m)
	}
}

// junk has both take a write that no plan told.
func (x *twins) junk(from *rand.Rand) {
	w := []api.Write{{Region: 1 + from.IntN(4), Index: from.IntN(placesOf(x.p.g) + 1), Data: joined(filled(byte(from.IntN(4))), filled(byte(from.IntN(4))))}}
	x.n.Take(w, x.p.top)
	x.p.take(w, x.p.top)
}

// drawnSteps are steps of all kinds over some I/Os; the sectors that they set are those of nodes, or any.
func drawnSteps(from *rand.Rand, f forest, many int) (l []bus.Step) {
	sectors, _ := f.sectors()
	for range many {
		l = append(l, bus.Step{
			At:     from.IntN(160),
			Kind:   1 + from.IntN(6),
			Member: from.IntN(f.g.Members),
			Index:  placeOf(f.g, 1+from.IntN(placesOf(f.g)-1)),
			N:      from.IntN(3),
			Data:   sectors[from.IntN(len(sectors))],
			Picks:  []byte{byte(from.IntN(2)), byte(from.IntN(2)), byte(from.IntN(2)), 1},
		})
	}
	return l
}

// P20.2 to P20.4, P20.6: drawn plays of all calls, with somebody else's hand in them, tell what the paper tells, and do the I/Os that it does.
func TestDrawnPlays(t *testing.T) {
	from := source(11)
	for play := range 600 {
		f := forestOf(from, geometries()[play%7])
		steps := drawnSteps(from, f, play%40)
		members, b := planted(t, f, steps...)
		x := &twins{n: fresh(t, b, f), b: b, p: paperOf(over(t, copies(members), steps...), f)}
		for range 50 {
			x.act(t, from)
		}
		checkLog(t, x.b, 0, x.p.b.Log()...)
	}
}

// R3: methods of nil, and of what New did not make, are ErrNil, or zero, and do nothing.
func TestWhatNewDidNotMake(t *testing.T) {
	for i, n := range []*nodes.Nodes{nil, {}, new(nodes.Nodes)} {
		for range 2 {
			for _, leaf := range append(extremes(), 0, 1, 4095) {
				checkTag(t, n, leaf, api.Tag{}, api.ErrNil)
				checkPlan(t, n, []nodes.Change{{Leaf: leaf}}, nil, api.Tag{}, api.ErrNil)
			}
			checkPlan(t, n, nil, nil, api.Tag{}, api.ErrNil)
			checkIs(t, n, api.Tag{}, 0)
			if e := n.Take([]api.Write{{Region: 3, Index: 1}}, filled(1)); e != api.ErrNil {
				t.Errorf("%d: Take: %d", i, e)
			}
			if e := n.Take(nil, filled(1)); e != api.ErrNil {
				t.Errorf("%d: Take of nothing: %d", i, e)
			}
			if e := n.Repair(); e != api.ErrNil {
				t.Errorf("%d: Repair: %d", i, e)
			}
			n.Forget()
			checkIs(t, n, api.Tag{}, 0)
		}
	}
}

// R4: what is handed in stays as it is, and what becomes of it changes no tree.
func TestWhatIsHandedInIsNotKept(t *testing.T) {
	f := eight()
	_, b := planted(t, f)
	n := fresh(t, b, f)
	changes := []nodes.Change{{Leaf: 5, Tag: filled(1)}, {Leaf: 0, Tag: filled(2)}, {Leaf: 5, Tag: filled(3)}, {Leaf: 9}}
	own := slices.Clone(changes)
	w, top, e := n.Plan(changes[:3])
	if e != api.OK || !slices.Equal(changes, own) {
		t.Errorf("Plan: %d; the changes are %v", e, changes)
	}
	other := f.with(changes[:3]...)
	clear(changes)
	ownWrites := slices.Clone(w)
	n.Take(w, top)
	if !slices.Equal(w, ownWrites) {
		t.Error("Take changed the writes")
	}
	clear(w[:cap(w)])
	for leaf, tag := range other.leaves {
		checkTag(t, n, leaf, tag, api.OK)
	}
	checkPlan(t, n, own[:3], nil, other.top(), api.OK)
}

// R4: answers are new memory: what is done to one is not seen in another one, nor in the tree.
func TestAnswersAreNewMemory(t *testing.T) {
	f, _, b, n := ruined(t)
	first, second := n.Bad(), n.Bad()
	clear(first[:cap(first)])
	if !slices.Equal(second, ruins()) {
		t.Errorf("with a list another one has changed: %v", second)
	}
	checkIs(t, n, f.top(), 7, ruins()...)
	l := []nodes.Change{{Leaf: 5, Tag: filled(1)}}
	other := f.with(l...)
	one, _, _ := n.Plan(l)
	two, _, _ := n.Plan(l)
	clear(one[:cap(one)])
	if !slices.Equal(two, f.writes(other)) {
		t.Errorf("with a plan another one has changed: %v", two)
	}
	checkPlan(t, n, l, f.writes(other), other.top(), api.OK)
	// What was told of bad places stays, whatever is found, or repaired, behind that.
	n.Repair()
	n.Forget()
	if !slices.Equal(second, ruins()) {
		t.Errorf("behind a Repair: %v", second)
	}
	checkTag(t, fresh(t, b, f), 5, f.leaves[5], api.OK)
}

// R6: trees over one bus stand apart: what one knows, takes or forgets, another one does not.
func TestTreesStandApart(t *testing.T) {
	f, _, b, n := ruined(t)
	other := fresh(t, b, f)
	checkIs(t, other, f.top(), 0)
	checkMade(t, other, f, nodes.Change{Leaf: 1, Tag: filled(9)})
	checkTag(t, n, 1, f.leaves[1], api.OK)
	checkIs(t, n, f.top(), 7, ruins()...)
	other.Forget()
	other.Repair()
	checkIs(t, n, f.top(), 7, ruins()...)
}

// R6: what is told hangs on nothing else: several trees, each over a bus of its own, may be asked at one time, and again and again tell the same.
func TestSeveralAtOneTime(t *testing.T) {
	from := source(12)
	var all sync.WaitGroup
	for range 8 {
		f := forestOf(from, api.Geometry{Members: 6, Rows: 4})
		l := drawnChanges(from, f, 12)
		other := f.with(l...)
		want, top := f.writes(other), other.top()
		_, b := planted(t, f)
		n := fresh(t, b, f)
		all.Go(func() {
			for range 20 {
				n.Forget()
				for leaf, tag := range f.leaves {
					if got, e := n.Tag(leaf); got != tag || e != api.OK {
						t.Errorf("Tag(%d): %x, %d", leaf, got, e)
					}
				}
				if w, got, e := n.Plan(l); !slices.Equal(w, want) || got != top || e != api.OK {
					t.Errorf("Plan: %v, %x, %d", w, got, e)
				}
			}
		})
	}
	all.Wait()
}

// R1: no call panics, and each ends, whatever the numbers are.
func TestNoCallPanics(t *testing.T) {
	numbers := append(extremes(), 0, 1, 2, 3, 4, 5, 64, 4095, 4096)
	for _, b := range []*bus.Bus{nil, new(bus.Bus), over(t, disks(t, 1, 1)), over(t, disks(t, 4, 1)), over(t, disks(t, 4, 5000)), over(t, disks(t, 64, 1))} {
		for _, x := range numbers {
			for _, y := range numbers {
				for _, g := range []api.Geometry{{Members: x, Rows: y}, {Members: 4, Rows: y}, small()} {
					n, _ := nodes.New(b, g, api.Key{}, api.Tag{})
					n.Take([]api.Write{{Region: x, Index: y}, {Region: 3, Index: y}, {Region: 3, Index: 1}}, filled(1))
					n.Tag(x)
					n.Plan([]nodes.Change{{Leaf: x}, {Leaf: y}})
					n.Plan([]nodes.Change{{Leaf: 0}, {Leaf: 1}})
					n.Repair()
					n.Forget()
				}
			}
		}
	}
}

// P20.3: a plan of very many changes, of few leaves, ends.
func TestPlanOfManyChanges(t *testing.T) {
	from := source(13)
	f := forestOf(from, api.Geometry{Members: 64, Rows: 1})
	_, b := planted(t, f)
	n := fresh(t, b, f)
	last := map[int]nodes.Change{}
	var l []nodes.Change
	for range 1 << 16 {
		c := nodes.Change{Leaf: from.IntN(60), Tag: drawnTag(from)}
		l, last[c.Leaf] = append(l, c), c
	}
	other := f.with(slices.Collect(maps.Values(last))...)
	checkPlan(t, n, l, f.writes(other), other.top(), api.OK)
}

// The calls are as the chapter lists them. R5 has no text of a number of nodes' to bear on.
func TestCallsAreAsListed(t *testing.T) {
	var (
		_ func(b *bus.Bus, g api.Geometry, k api.Key, top api.Tag) (*nodes.Nodes, api.Errno) = nodes.New
		_ func(n *nodes.Nodes) api.Tag                                                       = (*nodes.Nodes).Top
		_ func(n *nodes.Nodes, leaf int) (api.Tag, api.Errno)                                = (*nodes.Nodes).Tag
		_ func(n *nodes.Nodes, l []nodes.Change) ([]api.Write, api.Tag, api.Errno)           = (*nodes.Nodes).Plan
		_ func(n *nodes.Nodes, l []api.Write, top api.Tag) api.Errno                         = (*nodes.Nodes).Take
		_ func(n *nodes.Nodes) []nodes.Bad                                                   = (*nodes.Nodes).Bad
		_ func(n *nodes.Nodes) api.Errno                                                     = (*nodes.Nodes).Repair
		_ func(n *nodes.Nodes)                                                               = (*nodes.Nodes).Forget
		_ func(n *nodes.Nodes) int                                                           = (*nodes.Nodes).Known
	)
	_ = struct{ Node, Member int }(nodes.Bad{})
	_ = struct {
		Leaf int
		Tag  api.Tag
	}(nodes.Change{})
}
