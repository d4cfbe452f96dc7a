package geom_test

import (
	"math"
	"math/rand/v2"
	"slices"
	"sync"
	"testing"

	"casemate/api"
	"casemate/geom"
)

// counts is all that P14.1 tells of a geometry beside Check.
type counts struct {
	leaves, height, nodes, logical, capacity, half, sectors int
}

// told is what the calls of P14.1 answer.
func told(g api.Geometry) counts {
	return counts{geom.Leaves(g), geom.Height(g), geom.Nodes(g), geom.Logical(g), geom.Capacity(g), geom.Half(g), geom.Sectors(g)}
}

// sector is one of a member, by its region and index.
type sector struct {
	region, index int
}

// of is the geometry of so many members and rows.
func of(members, rows int) api.Geometry {
	return api.Geometry{Members: members, Rows: rows}
}

// paper is what the chapter's words tell of a geometry, found by steps and by counting.
func paper(g api.Geometry) counts {
	var c counts
	for range g.Members {
		c.leaves += g.Rows
	}
	c.nodes = -1
	for places := 1; ; places *= 2 {
		c.nodes = places - 1
		if places >= c.leaves {
			break
		}
		c.height++
	}
	for range g.Rows {
		c.logical += g.Members - 2
	}
	c.capacity = paperCapacity(g.Members, c.height, c.nodes)
	c.half = 2
	for bytes := 0; bytes < c.capacity*69; bytes += 64 {
		c.half++
	}
	c.sectors = 8 + c.half + c.half + c.nodes + g.Rows
	return c
}

// paperCapacity is m, and the lesser one of m times the height and the nodes, and 8.
func paperCapacity(members, height, nodes int) int {
	m := 6
	if members > m {
		m = members
	}
	above := m * height
	if above > nodes {
		above = nodes
	}
	return m + above + 8
}

// paperSectors lists a member's sectors, one behind the other.
func paperSectors(g api.Geometry) []sector {
	c := paper(g)
	var l []sector
	for i := range 8 {
		l = append(l, sector{1, i})
	}
	for half := range 2 {
		for i := range c.half {
			l = append(l, sector{2, half*c.half + i})
		}
	}
	for node := 1; node <= c.nodes; node++ {
		l = append(l, sector{3, node})
	}
	for row := range g.Rows {
		l = append(l, sector{4, row})
	}
	return l
}

// geometries are all there are.
func geometries() []api.Geometry {
	var l []api.Geometry
	for members := 4; members <= 64; members++ {
		for rows := 1; rows <= 64; rows++ {
			l = append(l, of(members, rows))
		}
	}
	return l
}

// some are geometries at the ends, and where the leaves fill a tree, or go one beyond.
func some() []api.Geometry {
	return []api.Geometry{of(4, 1), of(4, 2), of(4, 64), of(5, 1), of(5, 3), of(6, 3), of(7, 1), of(8, 1), of(9, 1), of(8, 8), of(13, 5), of(63, 64), of(64, 1), of(64, 63), of(64, 64)}
}

// extremes are numbers at which sums and products go round, and such as are near to right ones.
func extremes() []int {
	return []int{math.MinInt, math.MinInt + 1, math.MinInt64 / 2, math.MinInt32, -1 << 16, -65, -64, -4, -3, -2, -1, 0, math.MaxInt32, 1 << 32, 1<<32 + 4, 1 << 33, 1 << 61, math.MaxInt64 / 2, math.MaxInt - 8, math.MaxInt - 1, math.MaxInt}
}

// wrong are geometries that are none: one number, or both, out of range.
func wrong() []api.Geometry {
	l := []api.Geometry{{}}
	bad := append(extremes(), 65, 66, 100, 128, 1000, 1<<16)
	for _, x := range bad {
		for _, right := range []int{4, 5, 16, 63, 64} {
			l = append(l, of(x, right), of(right, x))
		}
		for _, other := range bad {
			l = append(l, of(x, other))
		}
	}
	for _, members := range []int{1, 2, 3} {
		for _, rows := range []int{1, 2, 4, 64} {
			l = append(l, of(members, rows))
		}
	}
	return l
}

// checkPlace holds what Place tells of a sector.
func checkPlace(t *testing.T, g api.Geometry, s sector, want int) {
	if got, e := geom.Place(g, s.region, s.index); got != want || e != api.OK {
		t.Fatalf("%v: Place(%d, %d): %d, %d, want %d", g, s.region, s.index, got, e, want)
	}
}

// checkWhat holds what What tells of a place.
func checkWhat(t *testing.T, g api.Geometry, place int, want sector) {
	if region, index, e := geom.What(g, place); (sector{region, index}) != want || e != api.OK {
		t.Fatalf("%v: What(%d): %d %d, %d, want %v", g, place, region, index, e, want)
	}
}

// checkNoPlace holds that there is no such sector, and that beside the error nothing is told.
func checkNoPlace(t *testing.T, g api.Geometry, region, index int) {
	if got, e := geom.Place(g, region, index); got != 0 || e != api.ErrArg {
		t.Fatalf("%v: Place(%d, %d): %d, %d", g, region, index, got, e)
	}
}

// checkNothing holds that no sector is at a place, and that beside the error nothing is told.
func checkNothing(t *testing.T, g api.Geometry, place int) {
	if region, index, e := geom.What(g, place); region != 0 || index != 0 || e != api.ErrArg {
		t.Fatalf("%v: What(%d): %d %d, %d", g, place, region, index, e)
	}
}

// P14.1, P14.2: the chapter's examples.
func TestTheChaptersExamples(t *testing.T) {
	small := of(4, 1)
	if got := told(small); got != (counts{4, 2, 3, 2, 17, 21, 54}) {
		t.Errorf("of 4 and 1: %v", got)
	}
	checkPlace(t, small, sector{api.RJournal, 21}, 29)
	checkPlace(t, small, sector{api.RNode, 1}, 50)
	checkNoPlace(t, small, api.RNode, 0)
	checkPlace(t, small, sector{api.RData, 0}, 53)
	checkWhat(t, small, 53, sector{api.RData, 0})
	greater := told(of(5, 3))
	if greater.leaves != 15 || greater.height != 4 || greater.nodes != 15 || greater.capacity != 29 || greater.half != 34 {
		t.Errorf("of 5 and 3: %v", greater)
	}
	for _, g := range []api.Geometry{of(3, 1), of(65, 1), of(4, 0), of(4, 65)} {
		if e := geom.Check(g); e != api.ErrArg {
			t.Errorf("Check(%v): %d", g, e)
		}
	}
}

// P14.1: values worked out by hand, where another part of each of the chapter's sentences decides.
func TestCountsByHand(t *testing.T) {
	for _, x := range []struct {
		g    api.Geometry
		want counts
	}{
		// 6 is more than the members; the nodes are less than 6 times the height.
		{of(4, 2), counts{8, 3, 7, 4, 21, 25, 67}},
		{of(4, 8), counts{32, 5, 31, 16, 44, 50, 147}},
		// From here on m times the height is less than the nodes.
		{of(4, 16), counts{64, 6, 63, 32, 50, 56, 199}},
		// The members are as many as 6, and one more.
		{of(6, 11), counts{66, 7, 127, 44, 56, 63, 272}},
		{of(7, 10), counts{70, 7, 127, 50, 64, 71, 287}},
		{of(64, 1), counts{64, 6, 63, 62, 135, 148, 368}},
		// 840 writes of 69 bytes fill 905 sectors and 40 bytes.
		{of(64, 64), counts{4096, 12, 4095, 3968, 840, 908, 5983}},
	} {
		if got := told(x.g); got != x.want {
			t.Errorf("%v: %v, want %v", x.g, got, x.want)
		}
	}
}

// P14.1: all geometries are some, and are told as on paper.
func TestAllGeometriesAreTold(t *testing.T) {
	for _, g := range geometries() {
		if e := geom.Check(g); e != api.OK {
			t.Errorf("Check(%v): %d", g, e)
		}
		if got, want := told(g), paper(g); got != want {
			t.Errorf("%v: %v, want %v", g, got, want)
		}
	}
}

// P14.1: a geometry has 4 to 64 members and 1 to 64 rows; all numbers around the ends.
func TestWhatIsAGeometry(t *testing.T) {
	for members := -70; members <= 140; members++ {
		for rows := -70; rows <= 140; rows++ {
			want := api.ErrArg
			if 4 <= members && members <= 64 && 1 <= rows && rows <= 64 {
				want = api.OK
			}
			if e := geom.Check(of(members, rows)); e != want {
				t.Fatalf("Check of %d and %d: %d, want %d", members, rows, e, want)
			}
		}
	}
}

// P14.1, P14.2: what is no geometry has none of anything, and no sectors.
func TestWhatIsNoGeometry(t *testing.T) {
	for _, g := range wrong() {
		if e := geom.Check(g); e != api.ErrArg {
			t.Errorf("Check(%v): %d", g, e)
		}
		if got := told(g); got != (counts{}) {
			t.Errorf("%v: %v", g, got)
		}
		for region := -1; region <= 6; region++ {
			for _, index := range []int{math.MinInt, -1, 0, 1, 2, 7, 8, math.MaxInt} {
				checkNoPlace(t, g, region, index)
			}
		}
		for _, place := range []int{math.MinInt, -1, 0, 1, 7, 8, 20, 50, 53, math.MaxInt} {
			checkNothing(t, g, place)
		}
	}
}

// P14.2, P14.3: the sectors of all geometries lie one behind the other, in the order of the chapter, from the place 0 on; Place and What tell each.
func TestAllPlaces(t *testing.T) {
	for _, g := range geometries() {
		all := paperSectors(g)
		if geom.Sectors(g) != len(all) {
			t.Fatalf("%v: %d sectors, want %d", g, geom.Sectors(g), len(all))
		}
		for place, s := range all {
			checkPlace(t, g, s, place)
			checkWhat(t, g, place, s)
		}
		checkNothing(t, g, -1)
		checkNothing(t, g, len(all))
	}
}

// P14.2: a region has no index ahead of its first one, nor behind its last one, where the next region's places are.
func TestEndsOfRegions(t *testing.T) {
	for _, g := range geometries() {
		c := paper(g)
		for _, x := range []struct{ region, first, last int }{{api.RHead, 0, 7}, {api.RJournal, 0, 2*c.half - 1}, {api.RNode, 1, c.nodes}, {api.RData, 0, g.Rows - 1}} {
			for i := 1; i <= 70; i++ {
				checkNoPlace(t, g, x.region, x.first-i)
				checkNoPlace(t, g, x.region, x.last+i)
			}
			for _, index := range []int{x.first, x.last} {
				if _, e := geom.Place(g, x.region, index); e != api.OK {
					t.Errorf("%v: Place(%d, %d): %d", g, x.region, index, e)
				}
			}
		}
	}
}

// P14.2, R1: of regions, indexes and places that there are not, huge ones and such below 0 among them, the answer is ErrArg.
func TestWhatIsNotThere(t *testing.T) {
	for _, g := range some() {
		n := geom.Sectors(g)
		for _, region := range append(extremes(), 5, 6, 7, 8, 64, 100) {
			for _, index := range append(extremes(), 1, 2, 3, 7, 8, n) {
				checkNoPlace(t, g, region, index)
			}
		}
		for region := api.RHead; region <= api.RData; region++ {
			for _, index := range append(extremes(), n, n+1) {
				if index != 0 || region == api.RNode {
					checkNoPlace(t, g, region, index)
				}
			}
		}
		for _, place := range append(extremes(), n, n+1, 2*n, 1<<16) {
			if place != 0 {
				checkNothing(t, g, place)
			}
		}
	}
}

// P14.3: with no paper beside them, Place and What undo each other, no two sectors have one place, and each place is one's.
func TestPlaceAndWhatUndoEachOther(t *testing.T) {
	for _, g := range some() {
		n := geom.Sectors(g)
		has := make([]int, n)
		for region := -1; region <= 6; region++ {
			for index := -2; index <= n+1; index++ {
				place, e := geom.Place(g, region, index)
				if e != api.OK {
					continue
				}
				if place < 0 || place >= n {
					t.Fatalf("%v: Place(%d, %d): %d of %d", g, region, index, place, n)
				}
				has[place]++
				checkWhat(t, g, place, sector{region, index})
			}
		}
		for place, k := range has {
			if k != 1 {
				t.Errorf("%v: the place %d is that of %d sectors", g, place, k)
			}
		}
	}
}

// P14.4: there are places for all leaves, and less than twice as many.
func TestTheTreeIsTheLeastOne(t *testing.T) {
	for _, g := range geometries() {
		leaves, places := geom.Leaves(g), 1<<geom.Height(g)
		if places < leaves || places >= 2*leaves {
			t.Errorf("%v: %d places for %d leaves", g, places, leaves)
		}
		if geom.Nodes(g) != places-1 {
			t.Errorf("%v: %d nodes under %d places", g, geom.Nodes(g), places)
		}
	}
}

// P14.1: a half holds a root in two sectors, and all writes of the capacity, in no more sectors than these need.
func TestAHalfHoldsTheCapacity(t *testing.T) {
	for _, g := range geometries() {
		room, need := (geom.Half(g)-2)*api.SectorSize, geom.Capacity(g)*69
		if room < need || room-api.SectorSize >= need {
			t.Errorf("%v: %d bytes of room for %d", g, room, need)
		}
	}
}

// P14.1: the least and the greatest geometry have the fewest and the most sectors; a member (layer 11), which has at most 65536, is never too small.
func TestAMemberIsNeverTooSmall(t *testing.T) {
	for _, g := range geometries() {
		if n := geom.Sectors(g); n < 54 || n > 5983 {
			t.Errorf("%v: %d sectors", g, n)
		}
	}
}

// R1: no call panics, whatever it is given, and none is refused with another error than ErrArg.
func TestNoCallPanics(t *testing.T) {
	from := rand.New(rand.NewChaCha8([32]byte{14}))
	for range 100000 {
		g := of(drawn(from), drawn(from))
		told(g)
		_, first := geom.Place(g, drawn(from), drawn(from))
		_, _, second := geom.What(g, drawn(from))
		for _, e := range []api.Errno{geom.Check(g), first, second} {
			if e != api.OK && e != api.ErrArg {
				t.Fatalf("%v: %d", g, e)
			}
		}
	}
}

// drawn is a number of any size.
func drawn(from *rand.Rand) int {
	return int(from.Uint64()) >> from.IntN(64)
}

// answers is all that is told of some geometries, asked from the one of the number first on.
func answers(first int) []int {
	all := append(some(), of(3, 1), of(4, 65), of(-1, -1))
	l := make([][]int, len(all))
	for i := range all {
		k := (i + first) % len(all)
		l[k] = answersOf(all[k])
	}
	return slices.Concat(l...)
}

// answersOf is all that is told of a geometry.
func answersOf(g api.Geometry) []int {
	c := told(g)
	l := []int{int(geom.Check(g)), c.leaves, c.height, c.nodes, c.logical, c.capacity, c.half, c.sectors}
	for place := -1; place <= c.sectors; place++ {
		region, index, e := geom.What(g, place)
		back, wrong := geom.Place(g, region, index)
		l = append(l, region, index, int(e), back, int(wrong))
	}
	return l
}

// R6: what was asked before, and what is asked at the same time, changes no answer.
func TestAnswersHangOnArgumentsAlone(t *testing.T) {
	want := answers(0)
	got := make([][]int, 4)
	var all sync.WaitGroup
	for i := range got {
		all.Go(func() { got[i] = answers(i*5 + 1) })
	}
	all.Wait()
	for i := range got {
		if !slices.Equal(got[i], want) {
			t.Errorf("asked in order %d the answers are others", i)
		}
	}
}

// R3, R4: geom's calls are methods of nothing, and take and tell values alone, so there is no object that could be nil, and no memory to share. (That it hands out nothing else, and keeps nothing, is held in the folder layers.)
func TestCallsAreAsListed(t *testing.T) {
	var (
		_ func(g api.Geometry) api.Errno                                   = geom.Check
		_ func(g api.Geometry) int                                         = geom.Leaves
		_ func(g api.Geometry) int                                         = geom.Height
		_ func(g api.Geometry) int                                         = geom.Nodes
		_ func(g api.Geometry) int                                         = geom.Logical
		_ func(g api.Geometry) int                                         = geom.Capacity
		_ func(g api.Geometry) int                                         = geom.Half
		_ func(g api.Geometry) int                                         = geom.Sectors
		_ func(g api.Geometry, region, index int) (int, api.Errno)         = geom.Place
		_ func(g api.Geometry, place int) (region, index int, e api.Errno) = geom.What
	)
}
