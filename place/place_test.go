package place_test

import (
	"math"
	"math/rand/v2"
	"slices"
	"sync"
	"testing"

	"casemate/api"
	"casemate/geom"
	"casemate/place"
)

// answer is what a call tells: one number or two, and an error.
type answer struct {
	first, second int
	e             api.Errno
}

// one is the answer of a call that tells one number.
func one(number int, e api.Errno) answer {
	return answer{first: number, e: e}
}

// two is the answer of a call that tells two numbers.
func two(first, second int, e api.Errno) answer {
	return answer{first, second, e}
}

// spot is a row, and what there is in it: a column, or a member.
type spot struct {
	row, in int
}

// ok is the answer of a call that tells s.
func (s spot) ok() answer {
	return two(s.row, s.in, api.OK)
}

// none is the answer that tells an error alone.
func none(e api.Errno) answer {
	return answer{e: e}
}

// hold holds what a call answered against what it should.
func hold(t *testing.T, call string, g api.Geometry, x, y int, got, want answer) {
	if got != want {
		t.Fatalf("%v: %s of %d (and %d): %v, want %v", g, call, x, y, got, want)
	}
}

// of is the geometry of so many members and rows.
func of(members, rows int) api.Geometry {
	return api.Geometry{Members: members, Rows: rows}
}

// sheet is what the chapter's words tell of a geometry, found by turning rows and by counting.
type sheet struct {
	// columns has, by rows, those of the members.
	columns [][]int
	// logical has the row and the column of each logical sector; leaves the row and the member of each leaf.
	logical, leaves []spot
}

// paper lays out the sheet of g.
func paper(g api.Geometry) sheet {
	var s sheet
	var line []int
	for member := range g.Members {
		line = append(line, member)
	}
	for row := range g.Rows {
		s.columns = append(s.columns, line)
		line = slices.Concat(line[1:], line[:1])
		for column := range g.Members - 2 {
			s.logical = append(s.logical, spot{row, column})
		}
		for member := range g.Members {
			s.leaves = append(s.leaves, spot{row, member})
		}
	}
	return s
}

// geometries are all there are.
func geometries() []api.Geometry {
	var l []api.Geometry
	for members := 4; members <= 64; members++ {
		for rows := 1; rows <= 64; rows++ {
			l = append(l, of(members, rows))
		}
	}
	return l
}

// some are geometries at the ends, with less rows than members, as many, more, and many more.
func some() []api.Geometry {
	return []api.Geometry{of(4, 1), of(4, 3), of(4, 4), of(4, 5), of(4, 64), of(5, 1), of(5, 10), of(5, 11), of(6, 64), of(7, 13), of(8, 8), of(13, 5), of(63, 64), of(64, 1), of(64, 63), of(64, 64)}
}

// extremes are numbers at which sums and products go round, and such as are near to right ones.
func extremes() []int {
	return []int{math.MinInt, math.MinInt + 1, math.MinInt64 / 2, math.MinInt32, -1 << 16, -4097, -65, -64, -5, -4, -3, -2, -1, 4096, 4097, 1 << 16, math.MaxInt32, 1 << 32, 1<<32 + 1, 1 << 33, 1 << 61, math.MaxInt64 / 2, math.MaxInt - 64, math.MaxInt - 1, math.MaxInt}
}

// wrong are geometries that are none: one number, or both, out of range.
func wrong() []api.Geometry {
	l := []api.Geometry{of(1, 1), of(2, 4), of(3, 1), of(3, 64), of(65, 1), of(65, 64), of(4, 65), of(64, 65), of(3, 65), of(128, 128)}
	bad := append(extremes(), 0, 65, 66, 100)
	for _, x := range bad {
		for _, right := range []int{4, 5, 16, 64} {
			l = append(l, of(x, right), of(right, x))
		}
		for _, other := range bad {
			l = append(l, of(x, other))
		}
	}
	return l
}

// holdNoSpot holds that all calls of a row and a member, or of a row and a column, answer ErrArg alone.
func holdNoSpot(t *testing.T, g api.Geometry, row, in int) {
	want := none(api.ErrArg)
	hold(t, "Column", g, row, in, one(place.Column(g, row, in)), want)
	hold(t, "Member", g, row, in, one(place.Member(g, row, in)), want)
	hold(t, "Number", g, row, in, one(place.Number(g, row, in)), want)
	hold(t, "Leaf", g, row, in, one(place.Leaf(g, row, in)), want)
}

// P15.1: the chapter's examples.
func TestTheChaptersExamples(t *testing.T) {
	g := of(4, 3)
	for _, x := range []struct {
		call      string
		got, want answer
	}{
		{"Column 0, 2", one(place.Column(g, 0, 2)), one(2, api.OK)},
		{"Column 1, 2", one(place.Column(g, 1, 2)), one(3, api.OK)},
		{"Column 2, 2", one(place.Column(g, 2, 2)), one(0, api.OK)},
		{"Column 3, 2", one(place.Column(g, 3, 2)), none(api.ErrArg)},
		{"Member 1, 3", one(place.Member(g, 1, 3)), one(2, api.OK)},
		{"Member 1, 0", one(place.Member(g, 1, 0)), one(3, api.OK)},
		{"Member 1, 4", one(place.Member(g, 1, 4)), none(api.ErrArg)},
		{"Of 5", two(place.Of(g, 5)), two(2, 1, api.OK)},
		{"Of 6", two(place.Of(g, 6)), none(api.ErrArg)},
		{"Number 2, 1", one(place.Number(g, 2, 1)), one(5, api.OK)},
		{"Number 2, 2", one(place.Number(g, 2, 2)), none(api.ErrNone)},
		{"Leaf 2, 1", one(place.Leaf(g, 2, 1)), one(9, api.OK)},
		{"At 9", two(place.At(g, 9)), two(2, 1, api.OK)},
		{"At 12", two(place.At(g, 12)), none(api.ErrArg)},
	} {
		if x.got != x.want {
			t.Errorf("%s: %v, want %v", x.call, x.got, x.want)
		}
	}
}

// P15.1: five members and seven rows, laid out by hand: what stands there are the members' columns.
func TestATableByHand(t *testing.T) {
	g := of(5, 7)
	table := [7][5]int{
		{0, 1, 2, 3, 4},
		{1, 2, 3, 4, 0},
		{2, 3, 4, 0, 1},
		{3, 4, 0, 1, 2},
		{4, 0, 1, 2, 3},
		{0, 1, 2, 3, 4},
		{1, 2, 3, 4, 0},
	}
	for row, line := range table {
		for member, column := range line {
			hold(t, "Column", g, row, member, one(place.Column(g, row, member)), one(column, api.OK))
			hold(t, "Member", g, row, column, one(place.Member(g, row, column)), one(member, api.OK))
		}
	}
	for row, first := range []int{0, 3, 6, 9, 12, 15, 18} {
		hold(t, "Number", g, row, 2, one(place.Number(g, row, 2)), one(first+2, api.OK))
		hold(t, "Of", g, first, 0, two(place.Of(g, first)), two(row, 0, api.OK))
	}
	for row, first := range []int{0, 5, 10, 15, 20, 25, 30} {
		hold(t, "Leaf", g, row, 4, one(place.Leaf(g, row, 4)), one(first+4, api.OK))
		hold(t, "At", g, first, 0, two(place.At(g, first)), two(row, 0, api.OK))
	}
}

// P15.1: of all geometries, each row's members and columns are told as on paper; P and Q, the last two columns, have no logical sector.
func TestAllColumns(t *testing.T) {
	for _, g := range geometries() {
		for row, line := range paper(g).columns {
			for member, column := range line {
				hold(t, "Column", g, row, member, one(place.Column(g, row, member)), one(column, api.OK))
				hold(t, "Member", g, row, column, one(place.Member(g, row, column)), one(member, api.OK))
			}
			for _, column := range []int{g.Members - 2, g.Members - 1} {
				hold(t, "Number", g, row, column, one(place.Number(g, row, column)), none(api.ErrNone))
			}
		}
	}
}

// P15.1: of all geometries, each logical sector and each leaf is told as on paper, there and back, and there are no more of them.
func TestAllNumbers(t *testing.T) {
	for _, g := range geometries() {
		s := paper(g)
		for number, at := range s.logical {
			hold(t, "Of", g, number, 0, two(place.Of(g, number)), at.ok())
			hold(t, "Number", g, at.row, at.in, one(place.Number(g, at.row, at.in)), one(number, api.OK))
		}
		for leaf, at := range s.leaves {
			hold(t, "At", g, leaf, 0, two(place.At(g, leaf)), at.ok())
			hold(t, "Leaf", g, at.row, at.in, one(place.Leaf(g, at.row, at.in)), one(leaf, api.OK))
		}
		for i := 1; i <= 70; i++ {
			for _, number := range []int{-i, len(s.logical) - 1 + i} {
				hold(t, "Of", g, number, 0, two(place.Of(g, number)), none(api.ErrArg))
			}
			for _, leaf := range []int{-i, len(s.leaves) - 1 + i} {
				hold(t, "At", g, leaf, 0, two(place.At(g, leaf)), none(api.ErrArg))
			}
		}
	}
}

// P15.1: of all geometries, no row, member or column is there ahead of the first one, or behind the last one, whatever the other number is: that of P and Q among them.
func TestEndsOfRowsMembersAndColumns(t *testing.T) {
	for _, g := range geometries() {
		for _, i := range []int{1, 2, 3, 4, 5, 64, 70} {
			for _, row := range []int{-i, g.Rows - 1 + i} {
				for _, in := range []int{-1, 0, 1, g.Members - 3, g.Members - 2, g.Members - 1, g.Members} {
					holdNoSpot(t, g, row, in)
				}
			}
			for _, in := range []int{-i, g.Members - 1 + i} {
				for _, row := range []int{-1, 0, g.Rows / 2, g.Rows - 1, g.Rows} {
					holdNoSpot(t, g, row, in)
				}
			}
		}
	}
}

// P15.1, R1: of numbers that are huge, or far below 0, the answer is ErrArg.
func TestWhatIsNotThere(t *testing.T) {
	for _, g := range some() {
		for _, x := range extremes() {
			for _, in := range []int{0, 1, g.Members - 3, g.Members - 2, g.Members - 1} {
				holdNoSpot(t, g, x, in)
			}
			for _, row := range []int{0, g.Rows - 1} {
				holdNoSpot(t, g, row, x)
			}
			for _, other := range extremes() {
				holdNoSpot(t, g, x, other)
			}
			if x < 0 || x >= g.Members*g.Rows {
				hold(t, "Of", g, x, 0, two(place.Of(g, x)), none(api.ErrArg))
				hold(t, "At", g, x, 0, two(place.At(g, x)), none(api.ErrArg))
			}
		}
	}
}

// P15.1, R2: what is no geometry has nothing, and its P and Q neither: ErrArg stands ahead of ErrNone.
func TestWhatIsNoGeometry(t *testing.T) {
	for _, g := range wrong() {
		near := []int{math.MinInt, -1, 0, 1, 2, 3, 4, 62, 63, 64, g.Members - 3, g.Members - 2, g.Members - 1, g.Rows - 1, math.MaxInt}
		for _, x := range near {
			for _, y := range near {
				holdNoSpot(t, g, x, y)
			}
			hold(t, "Of", g, x, 0, two(place.Of(g, x)), none(api.ErrArg))
			hold(t, "At", g, x, 0, two(place.At(g, x)), none(api.ErrArg))
		}
	}
}

// told is the number that a call told; it holds that there was no error.
func told(t *testing.T, number int, e api.Errno) int {
	if e != api.OK {
		t.Fatalf("error %d beside %d", e, number)
	}
	return number
}

// toldSpot is what a call told of a row, and of what there is in it; it holds that there was no error.
func toldSpot(t *testing.T, row, in int, e api.Errno) spot {
	if e != api.OK {
		t.Fatalf("error %d beside %d and %d", e, row, in)
	}
	return spot{row, in}
}

// P15.2: with no paper beside them, Column and Member undo each other.
func TestColumnAndMemberUndoEachOther(t *testing.T) {
	for _, g := range some() {
		for row := range g.Rows {
			for x := range g.Members {
				column, e := place.Column(g, row, x)
				hold(t, "Member", g, row, told(t, column, e), one(place.Member(g, row, column)), one(x, api.OK))
				member, e := place.Member(g, row, x)
				hold(t, "Column", g, row, told(t, member, e), one(place.Column(g, row, member)), one(x, api.OK))
			}
		}
	}
}

// P15.2: with no paper beside them, Of and Number, Leaf and At undo each other, from either side.
func TestNumbersAreThereAndBack(t *testing.T) {
	for _, g := range some() {
		for number := range geom.Logical(g) {
			row, column, e := place.Of(g, number)
			at := toldSpot(t, row, column, e)
			hold(t, "Number", g, at.row, at.in, one(place.Number(g, at.row, at.in)), one(number, api.OK))
		}
		for leaf := range geom.Leaves(g) {
			row, member, e := place.At(g, leaf)
			at := toldSpot(t, row, member, e)
			hold(t, "Leaf", g, at.row, at.in, one(place.Leaf(g, at.row, at.in)), one(leaf, api.OK))
		}
		for row := range g.Rows {
			for in := range g.Members {
				leaf, e := place.Leaf(g, row, in)
				hold(t, "At", g, told(t, leaf, e), 0, two(place.At(g, leaf)), spot{row, in}.ok())
				if number, e := place.Number(g, row, in); e != api.ErrNone {
					hold(t, "Of", g, told(t, number, e), 0, two(place.Of(g, number)), spot{row, in}.ok())
				}
			}
		}
	}
}

// leafOf is the leaf in which a logical sector lies.
func leafOf(t *testing.T, g api.Geometry, number int) int {
	row, column, e := place.Of(g, number)
	at := toldSpot(t, row, column, e)
	member, e := place.Member(g, at.row, at.in)
	leaf, wrong := place.Leaf(g, at.row, told(t, member, e))
	return told(t, leaf, wrong)
}

// P15.2: no leaf has two logical sectors; those that have none are P and Q, two in each row.
func TestLogicalSectorsLieInUnlikeLeaves(t *testing.T) {
	for _, g := range some() {
		has := make([]int, geom.Leaves(g))
		for number := range geom.Logical(g) {
			has[leafOf(t, g, number)]++
		}
		for row := range g.Rows {
			var empty int
			for member := range g.Members {
				leaf, e := place.Leaf(g, row, member)
				switch has[told(t, leaf, e)] {
				case 0:
					empty++
				case 1:
				default:
					t.Errorf("%v: the leaf %d has %d logical sectors", g, leaf, has[leaf])
				}
			}
			if empty != 2 {
				t.Errorf("%v: %d members have no logical sector in the row %d", g, empty, row)
			}
		}
	}
}

// eachOnce tells whether each of the numbers from 0 to many less 1 stands in l once, and nothing else.
func eachOnce(l []int, many int) bool {
	sorted := slices.Sorted(slices.Values(l))
	for i, n := range sorted {
		if i != n {
			return false
		}
	}
	return len(l) == many
}

// P15.3: in each row each member has one column, and each column one member; in as many rows as there are members, wherever they begin, each member has each column once.
func TestColumnsTurn(t *testing.T) {
	for _, g := range some() {
		// by has the columns of each member, by rows.
		by := make([][]int, g.Members)
		for row := range g.Rows {
			var columns, members []int
			for x := range g.Members {
				column, e := place.Column(g, row, x)
				columns = append(columns, told(t, column, e))
				by[x] = append(by[x], column)
				member, e := place.Member(g, row, x)
				members = append(members, told(t, member, e))
			}
			if !eachOnce(columns, g.Members) || !eachOnce(members, g.Members) {
				t.Errorf("%v: the row %d has the columns %v, the members %v", g, row, columns, members)
			}
		}
		for first := 0; first+g.Members <= g.Rows; first++ {
			for member := range by {
				if turn := by[member][first : first+g.Members]; !eachOnce(turn, g.Members) {
					t.Errorf("%v: from the row %d on the member %d has the columns %v", g, first, member, turn)
				}
			}
		}
	}
}

// P15.5: no two leaves have one row and one member.
func TestUnlikeLeavesLieApart(t *testing.T) {
	for _, g := range some() {
		seen := map[spot]int{}
		for leaf := range geom.Leaves(g) {
			row, member, e := place.At(g, leaf)
			at := toldSpot(t, row, member, e)
			if other, ok := seen[at]; ok {
				t.Errorf("%v: the leaves %d and %d lie in the row %d on the member %d", g, other, leaf, row, member)
			}
			seen[at] = leaf
		}
	}
}

// P15.5: in a row, the logical sectors' members are unlike, and neither P's nor Q's.
func TestLogicalSectorsOfARowLieApart(t *testing.T) {
	for _, g := range some() {
		members := make([][]int, g.Rows)
		for number := range geom.Logical(g) {
			row, column, e := place.Of(g, number)
			at := toldSpot(t, row, column, e)
			member, e := place.Member(g, at.row, at.in)
			members[at.row] = append(members[at.row], told(t, member, e))
		}
		for row, l := range members {
			for _, column := range []int{g.Members - 2, g.Members - 1} {
				member, e := place.Member(g, row, column)
				l = append(l, told(t, member, e))
			}
			if !eachOnce(l, g.Members) {
				t.Errorf("%v: the row %d has its logical sectors, P and Q on the members %v", g, row, l)
			}
		}
	}
}

// drawn is a number of any size.
func drawn(from *rand.Rand) int {
	return int(from.Uint64()) >> from.IntN(64)
}

// all is what all calls answer of a geometry and two numbers.
func all(g api.Geometry, x, y int) []answer {
	return []answer{
		one(place.Column(g, x, y)), one(place.Member(g, x, y)), one(place.Number(g, x, y)), one(place.Leaf(g, x, y)),
		two(place.Of(g, x)), two(place.At(g, x)),
	}
}

// P15.4: no call panics, whatever it is given, and none is refused with another error than those of the chapter.
func TestNoCallPanics(t *testing.T) {
	from := rand.New(rand.NewChaCha8([32]byte{15}))
	for range 200000 {
		g := of(drawn(from), drawn(from))
		// Half of them are geometries, so that the numbers alone are out of range.
		if from.IntN(2) == 0 {
			g = of(4+from.IntN(61), 1+from.IntN(64))
		}
		for i, a := range all(g, drawn(from), drawn(from)) {
			switch {
			case a.e == api.OK, a == none(api.ErrArg), i == 2 && a == none(api.ErrNone):
			default:
				t.Fatalf("%v: the call %d: %v", g, i, a)
			}
		}
	}
}

// answers is all that is told of some geometries, asked from the one of the number first on.
func answers(first int) []answer {
	ask := append(some(), of(3, 1), of(4, 65), of(-1, -1))
	l := make([][]answer, len(ask))
	for i := range ask {
		k := (i + first) % len(ask)
		for x := -1; x <= ask[k].Rows; x++ {
			for y := -1; y <= ask[k].Members; y++ {
				l[k] = append(l[k], all(ask[k], x, y)...)
			}
		}
	}
	return slices.Concat(l...)
}

// R6: what was asked before, and what is asked at the same time, changes no answer.
func TestAnswersHangOnArgumentsAlone(t *testing.T) {
	want := answers(0)
	got := make([][]answer, 4)
	var asked sync.WaitGroup
	for i := range got {
		asked.Go(func() { got[i] = answers(i*5 + 1) })
	}
	asked.Wait()
	for i := range got {
		if !slices.Equal(got[i], want) {
			t.Errorf("asked in order %d the answers are others", i)
		}
	}
}

// R3, R4: place's calls are methods of nothing, and take and tell values alone, so there is no object that could be nil, and no memory to share. (That it hands out nothing else, and keeps nothing, is held in the folder layers.)
func TestCallsAreAsListed(t *testing.T) {
	var (
		_ func(g api.Geometry, row, member int) (int, api.Errno)          = place.Column
		_ func(g api.Geometry, row, column int) (int, api.Errno)          = place.Member
		_ func(g api.Geometry, number int) (row, column int, e api.Errno) = place.Of
		_ func(g api.Geometry, row, column int) (int, api.Errno)          = place.Number
		_ func(g api.Geometry, row, member int) (int, api.Errno)          = place.Leaf
		_ func(g api.Geometry, leaf int) (row, member int, e api.Errno)   = place.At
	)
}
