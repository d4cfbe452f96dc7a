package mirror_test

import (
	"math/rand/v2"
	"slices"
	"sync"
	"testing"

	"casemate/api"
	"casemate/bus"
	"casemate/member"
	"casemate/mirror"
)

// small is the geometry of the chapter's examples: 4 members and 1 row.
func small() api.Geometry {
	return api.Geometry{Members: 4, Rows: 1}
}

// isNone is an error with nothing beside it.
func isNone(told answer, e api.Errno) bool {
	return told.e == e && told.s == api.Sector{} && len(told.list) == 0
}

// isSame tells whether two answers are.
func isSame(a, b answer) bool {
	return a.e == b.e && a.s == b.s && slices.Equal(a.list, b.list)
}

// put calls Put.
func put(b *bus.Bus, g api.Geometry, w api.Write) (told answer) {
	told.list, told.e = mirror.Put(b, g, w)
	return told
}

// flush calls Flush.
func flush(b *bus.Bus) (told answer) {
	told.list, told.e = mirror.Flush(b)
	return told
}

// readNode calls ReadNode.
func readNode(b *bus.Bus, g api.Geometry, node int, k api.Key, want api.Tag) (told answer) {
	told.s, told.list, told.e = mirror.ReadNode(b, g, node, k, want)
	return told
}

// read calls Read.
func read(b *bus.Bus, g api.Geometry, region, index, member int) (told answer) {
	told.s, told.e = mirror.Read(b, g, region, index, member)
	return told
}

// checkList holds a list against what it should be.
func checkList(t *testing.T, what string, got []int, want ...int) {
	t.Helper()
	if !slices.Equal(got, want) {
		t.Errorf("%s: %v, want %v", what, got, want)
	}
}

// checkTold holds an answer against what it should be.
func checkTold(t *testing.T, what string, got, want answer) {
	t.Helper()
	if !isSame(got, want) {
		t.Fatalf("%s: %v, want %v", what, got, want)
	}
}

// checkLog holds a bus's entries from the number from on against what they should be.
func checkLog(t *testing.T, what string, b *bus.Bus, from int, want ...bus.Entry) {
	t.Helper()
	if got := b.Log()[from:]; !slices.Equal(got, want) {
		t.Fatalf("%s: the I/Os are %v, want %v", what, got, want)
	}
}

// P19.1: the first line of the chapter's examples.
func TestTheChaptersWhere(t *testing.T) {
	for _, x := range []struct {
		region, index int
		want          []int
	}{
		{api.RHead, 3, []int{0, 1, 2, 3}},
		{api.RNode, 3, []int{3, 0, 1}},
		{api.RData, 2, []int{2}},
		{api.RJournal, 0, nil},
		{api.RNode, 0, nil},
		{api.RHead, 8, nil},
		{api.RData, 4, nil},
	} {
		got := mirror.Where(small(), api.Write{Region: x.region, Index: x.index})
		if !slices.Equal(got, x.want) {
			t.Errorf("Where(%d, %d): %v, want %v", x.region, x.index, got, x.want)
		}
	}
}

// P19.2, P19.3: the other lines, one behind the other.
func TestTheChaptersNode(t *testing.T) {
	g, k, node := small(), countingKey(), filled(5)
	members := disks(t, 4, sectors(g))
	b := over(t, members)
	// Reckoned outside of the project.
	want := api.Tag{0x0e, 0xd3, 0x6c, 0xc7, 0xe1, 0x1c, 0x05, 0x56, 0x88, 0x24, 0x0a, 0x55, 0xdc, 0xd4, 0x0d, 0x3a, 0x4a, 0x69, 0x49, 0x57, 0x98, 0x2c, 0xfc, 0xff, 0xfa, 0xfe, 0xe7, 0xc7, 0x57, 0x5b, 0xc5, 0x77}
	at := 52
	checkTold(t, "Put", put(b, g, api.Write{Region: api.RNode, Index: 3, Data: node}), answer{list: []int{3, 0, 1}})
	checkTold(t, "Flush", flush(b), answer{list: []int{0, 1, 2, 3}})
	checkTold(t, "ReadNode", readNode(b, g, 3, k, want), answer{s: node})
	members[3].Set(at, filled(6))
	checkTold(t, "behind a Set on 3", readNode(b, g, 3, k, want), answer{s: node, list: []int{3}})
	members[0].Set(at, filled(7))
	checkTold(t, "behind Sets on 3, 0", readNode(b, g, 3, k, want), answer{s: node, list: []int{3, 0}})
	members[1].Set(at, filled(8))
	checkTold(t, "behind Sets on all three", readNode(b, g, 3, k, want), answer{e: api.ErrTamper})
	for _, m := range []int{3, 0, 1} {
		members[m].Fail(true)
	}
	checkTold(t, "with all three failing", readNode(b, g, 3, k, want), answer{e: api.ErrIO})
}

// P19.1: each write of some geometries, and those beside them, in each region and in what is none.
func TestWhere(t *testing.T) {
	for _, g := range geometries() {
		for _, region := range []int{0, api.RHead, api.RJournal, api.RNode, api.RData, 5} {
			for index := -3; index <= max(8, nodes(g), g.Members*g.Rows)+2; index++ {
				w := api.Write{Region: region, Index: index, Data: filled(byte(index))}
				want, _ := writeOn(g, w)
				if got := mirror.Where(g, w); !slices.Equal(got, want) {
					t.Fatalf("%v: Where(%d, %d): %v, want %v", g, region, index, got, want)
				}
			}
		}
	}
}

// P19.1: the ends of all geometries; a node's members turn back to the first one behind the last one.
func TestWhereAtTheEnds(t *testing.T) {
	for members := 4; members <= 64; members++ {
		for rows := 1; rows <= 64; rows++ {
			g := api.Geometry{Members: members, Rows: rows}
			last := members*rows - 1
			for _, index := range []int{-1, 0, 1, 7, 8, members - 3, members - 2, members - 1, members, members + 1, nodes(g) - 1, nodes(g), nodes(g) + 1, last - 1, last, last + 1} {
				for region := api.RHead; region <= api.RData; region++ {
					w := api.Write{Region: region, Index: index}
					want, _ := writeOn(g, w)
					if got := mirror.Where(g, w); !slices.Equal(got, want) {
						t.Fatalf("%v: Where(%d, %d): %v, want %v", g, region, index, got, want)
					}
				}
			}
		}
	}
}

// P19.1: of what is no geometry, and of numbers of nothing, there are none.
func TestWhereOfNothing(t *testing.T) {
	for _, g := range noGeometries() {
		for region := -1; region <= 6; region++ {
			for _, index := range append(extremes(), 0, 1, 2, 3) {
				if got := mirror.Where(g, api.Write{Region: region, Index: index}); len(got) != 0 {
					t.Errorf("%v: Where(%d, %d): %v", g, region, index, got)
				}
			}
		}
	}
	for _, g := range geometries() {
		for region := -1; region <= 6; region++ {
			for _, index := range extremes() {
				if got := mirror.Where(g, api.Write{Region: region, Index: index}); len(got) != 0 {
					t.Errorf("%v: Where(%d, %d): %v", g, region, index, got)
				}
			}
		}
		for _, region := range extremes() {
			for index := range 10 {
				if got := mirror.Where(g, api.Write{Region: region, Index: index}); len(got) != 0 {
					t.Errorf("%v: Where(%d, %d): %v", g, region, index, got)
				}
			}
		}
	}
}

// P19.2: each write of some geometries lies on its members, as Where tells them, at its place, and nowhere else.
func TestPut(t *testing.T) {
	from := source(1)
	for _, g := range []api.Geometry{small(), {Members: 4, Rows: 3}, {Members: 5, Rows: 2}, {Members: 9, Rows: 1}, {Members: 64, Rows: 1}} {
		members := disks(t, g.Members, sectors(g))
		b := over(t, members)
		for _, w := range allWrites(g) {
			w.Data = drawn(from)
			on, at := writeOn(g, w)
			count := b.Count()
			checkTold(t, "Put", put(b, g, w), answer{list: on})
			checkList(t, "Where", mirror.Where(g, w), on...)
			var want []bus.Entry
			for _, m := range on {
				want = append(want, bus.Entry{Do: bus.DoWrite, Member: m, Index: at, Data: w.Data})
			}
			checkLog(t, "Put", b, count, want...)
			for m, of := range members {
				if s, _ := of.Read(at); (s == w.Data) != slices.Contains(on, m) {
					t.Fatalf("%v: behind Put(%d, %d) the member %d has %x", g, w.Region, w.Index, m, s)
				}
			}
		}
	}
}

// allWrites are all that have a place, without their data.
func allWrites(g api.Geometry) (l []api.Write) {
	for index := range 8 {
		l = append(l, api.Write{Region: api.RHead, Index: index})
	}
	for index := range nodes(g) {
		l = append(l, api.Write{Region: api.RNode, Index: index + 1})
	}
	for index := range g.Members * g.Rows {
		l = append(l, api.Write{Region: api.RData, Index: index})
	}
	return l
}

// What a member may be when something is done to it.
const (
	well = iota
	fails
	// short members have no sector but their first one.
	short
	// wrong members have another sector than the one that was put.
	wrong
)

// plays are all ways in which n members may each be one of so many things.
func plays(n, things int) [][]int {
	if n == 0 {
		return [][]int{nil}
	}
	var l [][]int
	for _, ahead := range plays(n-1, things) {
		for thing := range things {
			l = append(l, append(slices.Clone(ahead), thing))
		}
	}
	return l
}

// playing are members of a geometry, of which those on are what the play says, and all others well.
func playing(t *testing.T, g api.Geometry, on, play []int) []*member.Member {
	t.Helper()
	l := disks(t, g.Members, sectors(g))
	for i, m := range on {
		switch play[i] {
		case fails:
			l[m].Fail(true)
		case short:
			l[m] = disks(t, 1, 1)[0]
		}
	}
	return l
}

// errorOf is what a call of such a member answers.
func errorOf(thing int) api.Errno {
	switch thing {
	case fails:
		return api.ErrIO
	case short:
		return api.ErrArg
	}
	return api.OK
}

// crashAt takes the power away ahead of an I/O; nothing is lost by it.
func crashAt(at int) bus.Step {
	return bus.Step{At: at, Kind: bus.Crash, Picks: slices.Repeat([]byte{1}, 256)}
}

// P19.2: Put goes on behind a member that fails, or is too short, and has the others; it ends where the power goes, with nothing.
func TestPutOnMembersThatFail(t *testing.T) {
	g := small()
	for _, w := range []api.Write{{Region: api.RHead, Index: 5, Data: filled(1)}, {Region: api.RNode, Index: 1, Data: filled(2)}, {Region: api.RNode, Index: 2, Data: filled(3)}, {Region: api.RNode, Index: 3, Data: filled(4)}, {Region: api.RData, Index: 3, Data: filled(5)}} {
		on, at := writeOn(g, w)
		for _, play := range plays(len(on), 3) {
			for off := range len(on) + 1 {
				var took []int
				var log []bus.Entry
				for i, m := range on {
					e := errorOf(play[i])
					if i == off {
						e = api.ErrOff
					}
					log = append(log, bus.Entry{Do: bus.DoWrite, Member: m, Index: at, Data: w.Data, Err: e})
					if i == off {
						break
					}
					if e == api.OK {
						took = append(took, m)
					}
				}
				want := answer{list: took}
				if off < len(on) {
					want = answer{e: api.ErrOff}
				}
				b := over(t, playing(t, g, on, play), crashAt(off))
				checkTold(t, "Put", put(b, g, w), want)
				checkLog(t, "Put", b, 0, log...)
			}
		}
	}
}

// P19.2: Flush likewise; it asks for no geometry, and so has buses of any members.
func TestFlushOfMembersThatFail(t *testing.T) {
	for many := 1; many <= 5; many++ {
		all := []int{0, 1, 2, 3, 4}[:many]
		for _, play := range plays(many, 2) {
			for off := range many + 1 {
				members := disks(t, many, 1)
				want := answer{}
				var log []bus.Entry
				for m, thing := range play {
					members[m].Write(0, filled(9))
					members[m].Fail(thing == fails)
					e := errorOf(thing)
					if m == off {
						e = api.ErrOff
					}
					if m <= off {
						log = append(log, bus.Entry{Do: bus.DoFlush, Member: all[m], Err: e})
					}
					if e == api.OK {
						want.list = append(want.list, m)
					}
				}
				if off < many {
					want = answer{e: api.ErrOff}
				}
				b := over(t, members, crashAt(off))
				checkTold(t, "Flush", flush(b), want)
				checkLog(t, "Flush", b, 0, log...)
				for m, of := range members {
					if off == many && of.Unflushed() != play[m] {
						t.Fatalf("%v: the member %d has %d unflushed writes", play, m, of.Unflushed())
					}
				}
			}
		}
	}
}

// P19.2: Flush of the most members that there may be.
func TestFlushOfManyMembers(t *testing.T) {
	for _, many := range []int{1, 3, 4, 63, 64} {
		var want answer
		members := disks(t, many, 1)
		for m, of := range members {
			of.Write(0, filled(1))
			want.list = append(want.list, m)
		}
		checkTold(t, "Flush", flush(over(t, members)), want)
		for m, of := range members {
			if s, _ := of.Look(0); s != filled(1) {
				t.Errorf("%d members: %d has %x", many, m, s)
			}
		}
	}
}

// nodePlay is a bus of members that have a node, as the play says, and are flushed.
func nodePlay(t *testing.T, g api.Geometry, node int, play []int, s api.Sector, steps ...bus.Step) *bus.Bus {
	t.Helper()
	on, at := writeOn(g, api.Write{Region: api.RNode, Index: node})
	members := playing(t, g, on, play)
	for m, of := range members {
		of.Set(at, filled(0xee))
		if i := slices.Index(on, m); i >= 0 && play[i] != wrong {
			of.Set(at, s)
		}
	}
	return over(t, members, steps...)
}

// readsOf is what ReadNode should tell of such a play, and its I/Os, if the power goes ahead of the one of the number off.
func readsOf(g api.Geometry, node int, play []int, s api.Sector, off int) (told answer, log []bus.Entry) {
	on, at := writeOn(g, api.Write{Region: api.RNode, Index: node})
	told.e = api.ErrIO
	for i, m := range on {
		entry := bus.Entry{Do: bus.DoRead, Member: m, Index: at, Err: errorOf(play[i])}
		if i == off {
			entry.Err = api.ErrOff
			return answer{e: api.ErrOff}, append(log, entry)
		}
		switch play[i] {
		case well:
			entry.Data = s
			return answer{s: s, list: on[:i]}, append(log, entry)
		case wrong:
			entry.Data = filled(0xee)
			told.e = api.ErrTamper
		}
		log = append(log, entry)
	}
	return told, log
}

// P19.3, P19.7: whatever each of the three members is, and wherever the power goes: no I/O but the reads that are needed.
func TestReadNode(t *testing.T) {
	k, s := countingKey(), filled(1)
	for _, g := range []api.Geometry{small(), {Members: 5, Rows: 2}, {Members: 64, Rows: 2}} {
		for _, node := range []int{1, 2, 3, nodes(g) - 1, nodes(g)} {
			want := nodeTag(k, node, s)
			for _, play := range plays(3, 4) {
				for off := range 4 {
					told, log := readsOf(g, node, play, s, off)
					b := nodePlay(t, g, node, play, s, crashAt(off))
					checkTold(t, "ReadNode", readNode(b, g, node, k, want), told)
					checkLog(t, "ReadNode", b, 0, log...)
					reads := len(told.list) + 1
					if told.e == api.OK && b.Count() != reads || b.Count() > 3 {
						t.Fatalf("%v: %d I/Os", play, b.Count())
					}
				}
			}
		}
	}
}

// P19.3: tags that were reckoned outside of the project, of the first node of the least geometry and the last one of the greatest.
func TestReadNodeOfTagsFoundOutside(t *testing.T) {
	counting := api.Sector{}
	for i := range counting {
		counting[i] = byte(i)
	}
	full := api.Key(slices.Repeat([]byte{0xff}, api.KeySize))
	for _, x := range []struct {
		g    api.Geometry
		node int
		k    api.Key
		s    api.Sector
		want api.Tag
	}{
		{small(), 1, countingKey(), counting, api.Tag{0x2b, 0x31, 0xc4, 0xbf, 0xec, 0xa5, 0x16, 0x89, 0x1a, 0x82, 0x9b, 0x8e, 0x51, 0x9e, 0x0f, 0xe7, 0xcb, 0x97, 0xb2, 0xf6, 0xcf, 0xd7, 0xae, 0x5f, 0x0d, 0xb7, 0x09, 0x29, 0x7e, 0xb4, 0xb4, 0x80}},
		{api.Geometry{Members: 64, Rows: 64}, 4095, full, api.Sector{}, api.Tag{0x9e, 0x65, 0xb5, 0xd0, 0x11, 0xd5, 0x67, 0x1b, 0x16, 0xb3, 0xc3, 0xea, 0x19, 0x81, 0x0f, 0x46, 0xa0, 0xd8, 0x75, 0x8a, 0xd9, 0x45, 0x0c, 0x42, 0x23, 0xb2, 0xcd, 0xff, 0x9f, 0x8a, 0x57, 0x92}},
	} {
		b := over(t, disks(t, x.g.Members, sectors(x.g)))
		put(b, x.g, api.Write{Region: api.RNode, Index: x.node, Data: x.s})
		checkTold(t, "ReadNode", readNode(b, x.g, x.node, x.k, x.want), answer{s: x.s})
	}
}

// P19.3: a tag of another key, of another number, of another domain, or with one bit turned is not the one.
func TestReadNodeOfOtherTags(t *testing.T) {
	g, k, s := api.Geometry{Members: 5, Rows: 1}, countingKey(), filled(3)
	for node := 1; node <= nodes(g); node++ {
		right := nodeTag(k, node, s)
		wrongs := []api.Tag{{}, nodeTag(api.Key{}, node, s), nodeTag(k, node-1, s), nodeTag(k, node+1, s), nodeTag(k, -node, s), nodeTag(k, node, filled(4)), leafTag(k, node, s)}
		for bit := range api.TagSize * 8 {
			turned := right
			turned[bit/8] ^= 1 << (bit % 8)
			wrongs = append(wrongs, turned)
		}
		b := nodePlay(t, g, node, []int{well, well, well}, s)
		for _, want := range wrongs {
			checkTold(t, "ReadNode", readNode(b, g, node, k, want), answer{e: api.ErrTamper})
			checkTold(t, "ReadNode", readNode(b, g, node, k, right), answer{s: s})
		}
	}
}

// P19.3: a node's sector is found on its own place alone, not on a neighbour's, nor on other members.
func TestReadNodeKnowsThePlace(t *testing.T) {
	g, k, s := api.Geometry{Members: 6, Rows: 2}, countingKey(), filled(3)
	for node := 1; node <= nodes(g); node++ {
		on, at := writeOn(g, api.Write{Region: api.RNode, Index: node})
		members := disks(t, g.Members, sectors(g))
		for m, of := range members {
			for place := range sectors(g) {
				if place != at || !slices.Contains(on, m) {
					of.Set(place, s)
				}
			}
		}
		b := over(t, members)
		checkTold(t, "ReadNode", readNode(b, g, node, k, nodeTag(k, node, s)), answer{e: api.ErrTamper})
		members[on[2]].Set(at, s)
		checkTold(t, "ReadNode", readNode(b, g, node, k, nodeTag(k, node, s)), answer{s: s, list: on[:2]})
	}
}

// P19.3: the zero sector is a sector as any other one, and the zero tag no tag that fits.
func TestReadNodeOfZero(t *testing.T) {
	g := small()
	for node := 1; node <= 3; node++ {
		b := over(t, disks(t, 4, sectors(g)))
		checkTold(t, "ReadNode", readNode(b, g, node, api.Key{}, nodeTag(api.Key{}, node, api.Sector{})), answer{})
		checkTold(t, "ReadNode", readNode(b, g, node, api.Key{}, api.Tag{}), answer{e: api.ErrTamper})
	}
}

// P19.4: each place of each member, by its region and index.
func TestRead(t *testing.T) {
	from := source(2)
	for _, g := range []api.Geometry{small(), {Members: 5, Rows: 3}, {Members: 17, Rows: 2}} {
		members := disks(t, g.Members, sectors(g))
		b := over(t, members)
		for region := api.RHead; region <= api.RData; region++ {
			for index := range sectors(g) {
				at := placeOf(g, region, index)
				for m := range g.Members {
					count := b.Count()
					if at < 0 {
						checkTold(t, "Read", read(b, g, region, index, m), answer{e: api.ErrArg})
						checkLog(t, "Read", b, count)
						continue
					}
					s := drawn(from)
					members[m].Set(at, s)
					checkTold(t, "Read", read(b, g, region, index, m), answer{s: s})
					checkLog(t, "Read", b, count, bus.Entry{Do: bus.DoRead, Member: m, Index: at, Data: s})
				}
			}
		}
	}
}

// P19.4: of data the index is a row's, not a leaf's.
func TestReadOfARow(t *testing.T) {
	g := api.Geometry{Members: 4, Rows: 3}
	b := over(t, disks(t, 4, sectors(g)))
	for leaf := range 12 {
		w := api.Write{Region: api.RData, Index: leaf, Data: filled(byte(leaf + 1))}
		checkTold(t, "Put", put(b, g, w), answer{list: []int{leaf % 4}})
		checkTold(t, "Read", read(b, g, api.RData, leaf/4, leaf%4), answer{s: w.Data})
	}
	for _, row := range []int{-1, 3, 4, 11, 12} {
		checkTold(t, "Read", read(b, g, api.RData, row, 0), answer{e: api.ErrArg})
	}
}

// P19.4: what the bus answers is the answer, and nothing else beside an error.
func TestReadOfAMemberThatFails(t *testing.T) {
	g := small()
	for region := api.RHead; region <= api.RData; region++ {
		index := 0
		if region == api.RNode {
			index = 1
		}
		at := placeOf(g, region, index)
		for thing := range 3 {
			for m := range 4 {
				b := over(t, playing(t, g, []int{m}, []int{thing}), crashAt(1))
				want := answer{e: errorOf(thing)}
				if at == 0 && thing == short {
					want.e = api.OK
				}
				checkTold(t, "Read", read(b, g, region, index, m), want)
				checkTold(t, "with the power gone", read(b, g, region, index, m), answer{e: api.ErrOff})
				checkLog(t, "Read", b, 0, bus.Entry{Do: bus.DoRead, Member: m, Index: at, Err: want.e}, bus.Entry{Do: bus.DoRead, Member: m, Index: at, Err: api.ErrOff})
			}
		}
	}
}

// P19.2, P19.3, P19.4: what is nil, and what bus did not make, is ErrNil ahead of all else.
func TestOfNoBus(t *testing.T) {
	for _, b := range []*bus.Bus{nil, new(bus.Bus)} {
		for _, g := range append(noGeometries(), small(), api.Geometry{Members: 64, Rows: 64}) {
			for region := -1; region <= 5; region++ {
				for _, n := range []int{-1, 0, 1, 99} {
					if told := put(b, g, api.Write{Region: region, Index: n, Data: filled(1)}); !isNone(told, api.ErrNil) {
						t.Fatalf("Put: %v", told)
					}
					if told := readNode(b, g, n, countingKey(), api.Tag{}); !isNone(told, api.ErrNil) {
						t.Fatalf("ReadNode: %v", told)
					}
					if told := read(b, g, region, n, n); !isNone(told, api.ErrNil) {
						t.Fatalf("Read: %v", told)
					}
				}
			}
		}
		if told := flush(b); !isNone(told, api.ErrNil) {
			t.Fatalf("Flush: %v", told)
		}
	}
}

// P19.2, P19.3, P19.4: a bus of more or fewer members than the geometry has does not fit it, and nothing is done; nor is it with what is no geometry.
func TestABusThatDoesNotFit(t *testing.T) {
	for _, many := range []int{1, 2, 3, 4, 5, 6, 63, 64} {
		b := over(t, disks(t, many, 5000))
		for _, g := range append(noGeometries(), geometries()...) {
			g.Rows = min(g.Rows, 2)
			if isGeometry(g) && g.Members == many {
				continue
			}
			checkNothing(t, b, g)
			// As many members alone are no geometry.
			checkNothing(t, b, api.Geometry{Members: many})
			checkNothing(t, b, api.Geometry{Members: many, Rows: 65})
		}
		if many < 4 {
			checkNothing(t, b, api.Geometry{Members: many, Rows: 1})
		}
	}
}

// checkNothing asks for each region with a bus that does not fit: that is ErrArg, and no I/O.
func checkNothing(t *testing.T, b *bus.Bus, g api.Geometry) {
	t.Helper()
	for region := api.RHead; region <= api.RData; region++ {
		if told := put(b, g, api.Write{Region: region, Index: 1, Data: filled(1)}); !isNone(told, api.ErrArg) {
			t.Fatalf("%v: Put: %v", g, told)
		}
		if told := read(b, g, region, 1, 0); !isNone(told, api.ErrArg) {
			t.Fatalf("%v: Read: %v", g, told)
		}
	}
	if told := readNode(b, g, 1, api.Key{}, nodeTag(api.Key{}, 1, api.Sector{})); !isNone(told, api.ErrArg) {
		t.Fatalf("%v: ReadNode: %v", g, told)
	}
	if n := b.Count(); n != 0 {
		t.Fatalf("%v: %d I/Os", g, n)
	}
}

// P19.2, P19.3, P19.4: numbers of no sector, no region, no member: ErrArg, and no I/O, whether the power is there or not.
func TestNumbersOfNothing(t *testing.T) {
	for _, g := range []api.Geometry{small(), {Members: 5, Rows: 3}, {Members: 64, Rows: 64}} {
		b := over(t, disks(t, g.Members, sectors(g)), crashAt(0))
		for range 2 {
			count := b.Count()
			beside := append(extremes(), 0, 1, 7, 8, journal(g)-1, journal(g), nodes(g), nodes(g)+1, g.Rows-1, g.Rows, g.Rows*g.Members-1, g.Rows*g.Members, sectors(g))
			for region := -1; region <= 6; region++ {
				for _, n := range beside {
					checkNoNumber(t, b, g, region, n)
				}
			}
			for _, region := range extremes() {
				checkNoNumber(t, b, g, region, 1)
			}
			if b.Count() != count {
				t.Fatalf("%v: %d I/Os", g, b.Count()-count)
			}
			// From now on the power is gone.
			b.Flush(0)
		}
	}
}

// checkNoNumber asks for a sector where there is none, and for a sector that there is of members that there are not.
func checkNoNumber(t *testing.T, b *bus.Bus, g api.Geometry, region, n int) {
	t.Helper()
	if _, at := writeOn(g, api.Write{Region: region, Index: n}); at < 0 {
		if told := put(b, g, api.Write{Region: region, Index: n, Data: filled(1)}); !isNone(told, api.ErrArg) {
			t.Fatalf("%v: Put(%d, %d): %v", g, region, n, told)
		}
	}
	if placeOf(g, api.RNode, n) < 0 {
		if told := readNode(b, g, n, api.Key{}, api.Tag{}); !isNone(told, api.ErrArg) {
			t.Fatalf("%v: ReadNode(%d): %v", g, n, told)
		}
	}
	none := append(extremes(), g.Members, g.Members+1)
	if placeOf(g, region, n) < 0 {
		none = append(none, 0, g.Members-1)
	}
	for _, m := range none {
		if told := read(b, g, region, n, m); !isNone(told, api.ErrArg) {
			t.Fatalf("%v: Read(%d, %d, %d): %v", g, region, n, m, told)
		}
	}
}

// P19.5: any two of a node's members, with anything written to them, brought back or failing: the node is read all the same, and none but these is bad.
func TestTwoOfThree(t *testing.T) {
	from := source(3)
	for _, g := range []api.Geometry{small(), {Members: 5, Rows: 1}, {Members: 7, Rows: 3}} {
		for node := 1; node <= nodes(g); node++ {
			k, old, s := drawnKey(from), drawn(from), drawn(from)
			want := nodeTag(k, node, s)
			on, at := writeOn(g, api.Write{Region: api.RNode, Index: node})
			for spared := range 3 {
				members := disks(t, g.Members, sectors(g))
				b := over(t, members)
				put(b, g, api.Write{Region: api.RNode, Index: node, Data: old})
				for _, m := range members {
					m.Mark()
				}
				put(b, g, api.Write{Region: api.RNode, Index: node, Data: s})
				flush(b)
				for range 8 {
					for i, m := range on {
						if i != spared {
							tamper(from, b, members[m], m, at)
						}
					}
					told := readNode(b, g, node, k, want)
					if told.e != api.OK || told.s != s || slices.Contains(told.list, on[spared]) {
						t.Fatalf("%v: node %d, spared %d: %v", g, node, on[spared], told)
					}
					checkList(t, "bad", told.list, on[:len(told.list)]...)
				}
			}
		}
	}
}

// tamper does one of the things to the member m that may be done to it.
func tamper(from *rand.Rand, b *bus.Bus, of *member.Member, m, at int) {
	switch from.IntN(6) {
	case 0:
		of.Set(at, drawn(from))
	case 1:
		of.Set(at, api.Sector{})
	case 2:
		of.Back(0)
	case 3:
		of.Fail(true)
	case 4:
		of.Fail(false)
	case 5:
		b.Write(m, at, drawn(from))
	}
}

// drawnSteps are steps of all kinds over some I/Os; the sectors they set are those of nodes, or any.
func drawnSteps(from *rand.Rand, g api.Geometry, known []api.Sector) (l []bus.Step) {
	for range 60 {
		s := known[from.IntN(len(known))]
		l = append(l, bus.Step{
			At:     from.IntN(240),
			Kind:   1 + from.IntN(6),
			Member: from.IntN(g.Members),
			Index:  placeOf(g, api.RNode, 1+from.IntN(nodes(g))),
			N:      from.IntN(3),
			Data:   s,
			Picks:  []byte{byte(from.IntN(2)), byte(from.IntN(2)), byte(from.IntN(2)), 1},
		})
	}
	return l
}

// drawnCall calls mirror and the paper alike.
func drawnCall(from *rand.Rand, b *bus.Bus, p paper, g api.Geometry, k api.Key, known []api.Sector) (got, want answer) {
	region, node, s := 1+from.IntN(4), 1+from.IntN(nodes(g)), known[from.IntN(len(known))]
	switch from.IntN(8) {
	case 0, 1:
		w := api.Write{Region: api.RNode, Index: node, Data: s}
		return put(b, g, w), p.put(g, w)
	case 2:
		w := api.Write{Region: region, Index: from.IntN(9), Data: s}
		return put(b, g, w), p.put(g, w)
	case 3:
		return flush(b), p.flush()
	case 4:
		index, m := from.IntN(9), from.IntN(g.Members+1)
		return read(b, g, region, index, m), p.read(g, region, index, m)
	case 5:
		return answer{e: b.Power()}, answer{e: p.b.Power()}
	}
	tag := nodeTag(k, node, s)
	return readNode(b, g, node, k, tag), p.readNode(g, node, k, tag)
}

// P19.2, P19.3, P19.4, P19.7: drawn plays, with somebody else's hand in them, tell what the paper tells, and do the I/Os that it does.
func TestDrawnPlays(t *testing.T) {
	from := source(4)
	for play := range 300 {
		g := api.Geometry{Members: 4 + play%3, Rows: 1 + play%2}
		k, known := drawnKey(from), []api.Sector{drawn(from), drawn(from), {}}
		steps := drawnSteps(from, g, known)
		members := disks(t, g.Members, sectors(g))
		b, p := over(t, members, steps...), paper{over(t, copies(members), steps...)}
		for range 100 {
			got, want := drawnCall(from, b, p, g, k, known)
			checkTold(t, "play", got, want)
		}
		checkLog(t, "play", b, 0, p.b.Log()...)
	}
}

// P19.6: lists are new memory: what is done to one is not seen in the next one.
func TestListsAreNewMemory(t *testing.T) {
	g, k, s := small(), countingKey(), filled(1)
	w := api.Write{Region: api.RNode, Index: 3, Data: s}
	b := nodePlay(t, g, 3, []int{wrong, wrong, well}, s)
	for name, list := range map[string]func() []int{
		"Where":    func() []int { return mirror.Where(g, w) },
		"ReadNode": func() []int { return readNode(b, g, 3, k, nodeTag(k, 3, s)).list },
		"Flush":    func() []int { return flush(b).list },
		"Put":      func() []int { return put(b, g, api.Write{Region: api.RHead, Index: 1}).list },
	} {
		first := list()
		want := slices.Clone(first)
		clear(first[:cap(first)])
		checkList(t, name, list(), want...)
	}
}

// R6, P19.6: what Where tells, and what is done over buses of their own, hangs on nothing else: several may ask at one time.
func TestSeveralAtOneTime(t *testing.T) {
	g, k := api.Geometry{Members: 5, Rows: 2}, countingKey()
	var all sync.WaitGroup
	for n := range 8 {
		s := filled(byte(n))
		b := nodePlay(t, g, 7, []int{wrong, well, well}, s)
		all.Go(func() {
			for range 50 {
				if l := mirror.Where(g, api.Write{Region: api.RNode, Index: 7}); !slices.Equal(l, []int{2, 3, 4}) {
					t.Errorf("Where: %v", l)
				}
				if told := readNode(b, g, 7, k, nodeTag(k, 7, s)); !isSame(told, answer{s: s, list: []int{2}}) {
					t.Errorf("ReadNode: %v", told)
				}
			}
		})
	}
	all.Wait()
}

// R1: no call panics, and each ends, whatever the numbers are.
func TestNoCallPanics(t *testing.T) {
	numbers := append(extremes(), 0, 1, 2, 3, 4)
	fit := over(t, disks(t, 4, sectors(small())))
	for _, b := range []*bus.Bus{nil, new(bus.Bus), fit, over(t, disks(t, 1, 1))} {
		for _, n := range numbers {
			for _, o := range numbers {
				for _, g := range []api.Geometry{small(), {Members: n, Rows: o}, {Members: 4, Rows: n}, {Members: n, Rows: 1}} {
					mirror.Where(g, api.Write{Region: n, Index: o})
					mirror.Where(g, api.Write{Region: api.RNode, Index: o})
					mirror.Put(b, g, api.Write{Region: n, Index: o})
					mirror.ReadNode(b, g, o, api.Key{}, api.Tag{})
					mirror.Read(b, g, n, o, n)
					mirror.Read(b, g, api.RNode, n, o)
				}
			}
		}
		mirror.Flush(b)
	}
}

// The calls are as the chapter lists them. R3 and R5 have no object, or text of a number, of mirror's to bear on.
func TestCallsAreAsListed(t *testing.T) {
	type (
		where    = func(g api.Geometry, w api.Write) []int
		put      = func(b *bus.Bus, g api.Geometry, w api.Write) ([]int, api.Errno)
		flush    = func(b *bus.Bus) ([]int, api.Errno)
		readNode = func(b *bus.Bus, g api.Geometry, node int, k api.Key, want api.Tag) (s api.Sector, bad []int, e api.Errno)
		read     = func(b *bus.Bus, g api.Geometry, region, index, member int) (api.Sector, api.Errno)
	)
	var (
		_ where    = mirror.Where
		_ put      = mirror.Put
		_ flush    = mirror.Flush
		_ readNode = mirror.ReadNode
		_ read     = mirror.Read
	)
}
