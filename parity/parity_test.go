package parity_test

import (
	"math"
	"math/rand/v2"
	"slices"
	"sync"
	"testing"

	"casemate/api"
	"casemate/parity"
)

// filled is a sector of one byte alone.
func filled(c byte) api.Sector {
	var s api.Sector
	for k := range s {
		s[k] = c
	}
	return s
}

// mixed is n sectors of all kinds of bytes, the same ones for the same n and seed.
func mixed(n int, seed uint64) []api.Sector {
	draw := rand.New(rand.NewPCG(seed, uint64(n)))
	l := make([]api.Sector, n)
	for i := range l {
		for k := range l[i] {
			l[i][k] = byte(draw.Uint32())
		}
	}
	return l
}

// powered is 2 to the i times b, doubled step by step on paper.
func powered(i int, b byte) byte {
	x := int(b)
	for range i {
		x <<= 1
		if x > 255 {
			x ^= 0x11D
		}
	}
	return byte(x)
}

// reckoned is P and Q of data, by the chapter's words.
func reckoned(data []api.Sector) (p, q api.Sector) {
	for i, d := range data {
		for k := range d {
			p[k] ^= d[k]
			q[k] ^= powered(i, d[k])
		}
	}
	return p, q
}

// rightRow is data and what is reckoned of them.
func rightRow(data []api.Sector) []api.Sector {
	p, q := reckoned(data)
	return append(slices.Clone(data), p, q)
}

// spoilt is row with other bytes in all columns of lost.
func spoilt(row []api.Sector, lost ...int) []api.Sector {
	torn := slices.Clone(row)
	for _, column := range lost {
		for k := range torn[column] {
			torn[column][k] ^= byte(k*7 + column + 1)
		}
	}
	return torn
}

// tried is cols with those of lost made by the chapter's table: each lost data byte is found by trying all.
func tried(cols []api.Sector, lost ...int) []api.Sector {
	row := slices.Clone(cols)
	atP, atQ := len(row)-2, len(row)-1
	isLost := func(c int) bool { return slices.Contains(lost, c) }
	var gaps []int
	for i := range atP {
		if isLost(i) {
			gaps = append(gaps, i)
			row[i] = api.Sector{}
		}
	}
	p, q := reckoned(row[:atP])
	for k := range p {
		missing, weighed := p[k]^cols[atP][k], q[k]^cols[atQ][k]
		for try := range 256 {
			x := byte(try)
			switch {
			case len(gaps) == 2 && powered(gaps[0], x)^powered(gaps[1], x^missing) == weighed:
				row[gaps[0]][k], row[gaps[1]][k] = x, x^missing
			case len(gaps) == 1 && isLost(atP) && powered(gaps[0], x) == weighed:
				row[gaps[0]][k] = x
			case len(gaps) == 1 && !isLost(atP) && x == missing:
				row[gaps[0]][k] = x
			}
		}
	}
	p, q = reckoned(row[:atP])
	if isLost(atP) {
		row[atP] = p
	}
	if isLost(atQ) {
		row[atQ] = q
	}
	return row
}

// P2.1
func TestOfExamples(t *testing.T) {
	a, b := filled(1), filled(2)
	for i, x := range []struct {
		data []api.Sector
		p, q byte
	}{
		{[]api.Sector{a}, 1, 1},
		{[]api.Sector{a, b}, 3, 5},
		{[]api.Sector{a, b, a}, 2, 1},
		{[]api.Sector{b, a}, 3, 0},
		{[]api.Sector{filled(0), filled(128)}, 128, 29},
		{[]api.Sector{filled(0)}, 0, 0},
	} {
		if p, q, e := parity.Of(x.data); p != filled(x.p) || q != filled(x.q) || e != api.OK {
			t.Errorf("%d: %d, %d, %d", i, p[0], q[0], e)
		}
	}
}

// P2.1: each allowed length, each byte of the sectors for itself.
func TestOfIsTheSums(t *testing.T) {
	for n := 1; n <= 62; n++ {
		data := mixed(n, 1)
		wantP, wantQ := reckoned(data)
		if p, q, e := parity.Of(data); p != wantP || q != wantQ || e != api.OK {
			t.Errorf("of %d data: %v, %v, %d", n, p, q, e)
		}
	}
}

// P2.1: the last data column is taken times 2 to the 61.
func TestOfOfTheLastColumn(t *testing.T) {
	data := make([]api.Sector, 62)
	data[61] = filled(1)
	if p, q, e := parity.Of(data); p != filled(1) || q != filled(111) || e != api.OK {
		t.Errorf("%d, %d, %d", p[0], q[0], e)
	}
}

// P2.1, R2: beside the error there are no parities.
func TestOfErrors(t *testing.T) {
	for _, x := range []struct {
		data []api.Sector
		want api.Errno
	}{
		{nil, api.ErrArg},
		{[]api.Sector{}, api.ErrArg},
		{mixed(9, 1)[:0], api.ErrArg},
		{mixed(63, 1), api.ErrLong},
		{mixed(64, 1), api.ErrLong},
		{mixed(1000, 1), api.ErrLong},
	} {
		if p, q, e := parity.Of(x.data); e != x.want || p != (api.Sector{}) || q != (api.Sector{}) {
			t.Errorf("of %d data: %v, %v, %d", len(x.data), p, q, e)
		}
	}
}

// P2.2
func TestRightExamples(t *testing.T) {
	a, b, z, p, q := filled(1), filled(2), filled(0), filled(3), filled(5)
	for i, x := range []struct {
		cols []api.Sector
		want bool
	}{
		{[]api.Sector{a, b, p, q}, true},
		{[]api.Sector{a, b, q, p}, false},
		{[]api.Sector{b, a, p, q}, false},
		{[]api.Sector{a, z}, false},
		{[]api.Sector{a, a, a}, true},
		{[]api.Sector{z, z, z}, true},
		{[]api.Sector{z, z}, false},
		{[]api.Sector{z}, false},
		{[]api.Sector{}, false},
		{nil, false},
	} {
		if got := parity.Right(x.cols); got != x.want {
			t.Errorf("%d: %v", i, got)
		}
	}
}

// P2.2: P and Q are those of the data at each length; the length alone decides.
func TestRightOfEachLength(t *testing.T) {
	for data := range 100 {
		columns := data + 2
		want := columns >= 3 && columns <= 64
		if got := parity.Right(rightRow(mixed(data, 2))); got != want {
			t.Errorf("of %d columns: %v", columns, got)
		}
		if got := parity.Right(make([]api.Sector, columns)); got != want {
			t.Errorf("of %d columns of zeros: %v", columns, got)
		}
	}
}

// P2.2: one bit that is another makes a row wrong, wherever it stands.
func TestRightSeesEachBit(t *testing.T) {
	for _, columns := range []int{3, 4, 9, 64} {
		row := rightRow(mixed(columns-2, 3))
		for c := range row {
			for k := range row[c] {
				bit := byte(1) << ((c + k) % 8)
				row[c][k] ^= bit
				if parity.Right(row) {
					t.Fatalf("of %d columns: a bit of byte %d of column %d is not seen", columns, k, c)
				}
				row[c][k] ^= bit
			}
		}
		if !parity.Right(row) {
			t.Errorf("of %d columns: it is not right", columns)
		}
	}
}

// P2.3
func TestFixExamples(t *testing.T) {
	a, b, z, p, q := filled(1), filled(2), filled(0), filled(3), filled(5)
	for i, x := range []struct {
		cols []api.Sector
		lost []int
		want []api.Sector
		e    api.Errno
	}{
		{[]api.Sector{z, b, p, q}, []int{0}, []api.Sector{a, b, p, q}, api.OK},
		{[]api.Sector{z, z, p, q}, []int{0, 1}, []api.Sector{a, b, p, q}, api.OK},
		{[]api.Sector{a, z, z, q}, []int{1, 2}, []api.Sector{a, b, p, q}, api.OK},
		{[]api.Sector{a, z, p, z}, []int{1, 3}, []api.Sector{a, b, p, q}, api.OK},
		{[]api.Sector{a, b, z, z}, []int{3, 2}, []api.Sector{a, b, p, q}, api.OK},
		{[]api.Sector{a, b, z, z}, []int{0, 1, 2}, nil, api.ErrFull},
		{[]api.Sector{a, b, z, z}, []int{4}, nil, api.ErrArg},
	} {
		if got, e := parity.Fix(x.cols, x.lost); !slices.Equal(got, x.want) || e != x.e {
			t.Errorf("%d: %v, %d", i, got, e)
		}
	}
}

// holdsFix asks for cols with lost brought back, and holds the answer against the table.
func holdsFix(t *testing.T, cols []api.Sector, lost ...int) {
	t.Helper()
	got, e := parity.Fix(cols, lost)
	if e != api.OK || !slices.Equal(got, tried(cols, lost...)) {
		t.Fatalf("of %d columns, %v lost: %d, or another row than the table's", len(cols), lost, e)
	}
}

// P2.3: each line of the table, in rows that are none's parities, and in right ones.
func TestFixMakesByTheTable(t *testing.T) {
	for _, columns := range []int{3, 4, 5, 8} {
		for _, cols := range [][]api.Sector{mixed(columns, 4), rightRow(mixed(columns-2, 4)), make([]api.Sector, columns)} {
			for i := range columns {
				for k := range columns {
					holdsFix(t, cols, i, k)
				}
				holdsFix(t, cols, i)
			}
		}
	}
}

// P2.3: the longest row, at its corners.
func TestFixMakesInTheLongestRow(t *testing.T) {
	cols := mixed(64, 5)
	for _, lost := range [][]int{{0}, {61}, {62}, {63}, {0, 61}, {60, 61}, {31, 32}, {0, 62}, {61, 62}, {0, 63}, {61, 63}, {62, 63}} {
		holdsFix(t, cols, lost...)
	}
}

// P2.3: of one lost data column, P that stands is what counts: Q that is none of the row's stays so.
func TestFixOfOneColumnLeavesQ(t *testing.T) {
	a, b, p := filled(1), filled(2), filled(3)
	wrong := filled(200)
	got, e := parity.Fix([]api.Sector{wrong, b, p, wrong}, []int{0})
	if e != api.OK || !slices.Equal(got, []api.Sector{a, b, p, wrong}) {
		t.Errorf("%v, %d", got, e)
	}
}

// P2.3: what stands where a column is lost changes nothing.
func TestFixOverlooksWhatIsLost(t *testing.T) {
	cols := mixed(6, 6)
	for i := range cols {
		for k := range cols {
			one, _ := parity.Fix(cols, []int{i, k})
			other, _ := parity.Fix(spoilt(cols, i, k), []int{i, k})
			if len(one) != 6 || !slices.Equal(one, other) {
				t.Errorf("%d and %d lost: what stood there is seen", i, k)
			}
		}
	}
}

// P2.3: none is lost: right or not, it stays.
func TestFixOfNoneLost(t *testing.T) {
	for columns := 3; columns <= 64; columns++ {
		for _, cols := range [][]api.Sector{mixed(columns, 7), rightRow(mixed(columns-2, 7))} {
			for _, lost := range [][]int{nil, {}} {
				if got, e := parity.Fix(cols, lost); e != api.OK || !slices.Equal(got, cols) {
					t.Errorf("of %d columns: %d, or another row", columns, e)
				}
			}
		}
	}
}

// P2.3: a number that stands twice is one that is lost, and the order of numbers is none.
func TestFixOfNumbersThatStandTwice(t *testing.T) {
	cols := mixed(6, 8)
	for _, x := range []struct{ lost, plain []int }{
		{[]int{2, 2, 2}, []int{2}},
		{[]int{4, 1, 4, 1, 1}, []int{1, 4}},
		{[]int{5, 0}, []int{0, 5}},
		{[]int{3, 0, 0, 3}, []int{0, 3}},
		{make([]int, 100000), []int{0}},
	} {
		got, e := parity.Fix(cols, x.lost)
		if e != api.OK || !slices.Equal(got, tried(cols, x.plain...)) {
			t.Errorf("%v: %d, or another row than of %v", x.lost[:2], e, x.plain)
		}
	}
}

// P2.3, R2: the errors, the first that is named where several apply, and no row beside them.
func TestFixErrors(t *testing.T) {
	for _, x := range []struct {
		columns int
		lost    []int
		want    api.Errno
	}{
		{0, nil, api.ErrArg},
		{0, []int{0, 1, 2}, api.ErrArg},
		{1, nil, api.ErrArg},
		{2, nil, api.ErrArg},
		{2, []int{0}, api.ErrArg},
		{3, []int{3}, api.ErrArg},
		{6, []int{6}, api.ErrArg},
		{6, []int{-1}, api.ErrArg},
		{6, []int{0, 5, -1}, api.ErrArg},
		{6, []int{0, 1, 2, 6}, api.ErrArg},
		{6, []int{math.MaxInt}, api.ErrArg},
		{6, []int{math.MinInt}, api.ErrArg},
		{64, []int{64}, api.ErrArg},
		{65, []int{65}, api.ErrArg},
		{65, []int{-1}, api.ErrArg},
		{65, []int{0, 1, 2, 99}, api.ErrArg},
		{65, nil, api.ErrLong},
		{65, []int{64}, api.ErrLong},
		{65, []int{0, 1, 2}, api.ErrLong},
		{500, []int{499}, api.ErrLong},
		{3, []int{0, 1, 2}, api.ErrFull},
		{6, []int{1, 2, 3}, api.ErrFull},
		{6, []int{1, 1, 2, 2, 5}, api.ErrFull},
		{64, []int{61, 62, 63}, api.ErrFull},
	} {
		if got, e := parity.Fix(mixed(x.columns, 9), x.lost); e != x.want || len(got) != 0 {
			t.Errorf("of %d columns, %v lost: %d, and %d columns", x.columns, x.lost, e, len(got))
		}
	}
}

// P2.4
func TestChangeIsTheSums(t *testing.T) {
	for i := range 62 {
		l := mixed(4, uint64(i))
		row, data := api.Row{P: l[0], Q: l[1], Old: l[2]}, l[3]
		want := api.Row{P: row.P, Q: row.Q, Old: data}
		for k := range data {
			want.P[k] ^= row.Old[k] ^ data[k]
			want.Q[k] ^= powered(i, row.Old[k]^data[k])
		}
		if got, e := parity.Change(row, i, data); got != want || e != api.OK {
			t.Errorf("at %d: %v, %d", i, got, e)
		}
	}
}

// P2.4
func TestChangeOfNothing(t *testing.T) {
	row := api.Row{P: filled(9), Q: filled(8), Old: filled(7)}
	if got, e := parity.Change(row, 61, row.Old); got != row || e != api.OK {
		t.Errorf("%v, %d", got, e)
	}
	want := api.Row{P: filled(3), Q: filled(6)}
	want.Old = filled(3)
	if got, e := parity.Change(api.Row{}, 1, filled(3)); got != want || e != api.OK {
		t.Errorf("of an empty row: %v, %d", got, e)
	}
}

// P2.4, R2
func TestChangeErrors(t *testing.T) {
	row := api.Row{P: filled(1), Q: filled(2), Old: filled(3)}
	for _, i := range []int{-1, -62, math.MinInt, 62, 63, 64, 255, math.MaxInt} {
		if got, e := parity.Change(row, i, filled(4)); e != api.ErrArg || got != (api.Row{}) {
			t.Errorf("at %d: %v, %d", i, got, e)
		}
	}
}

// P2.5: any two columns, of short rows and of the longest ones.
func TestAnyTwoColumnsComeBack(t *testing.T) {
	for _, columns := range []int{3, 4, 5, 6, 7, 8, 9, 10, 31, 63, 64} {
		data := mixed(columns-2, 10)
		p, q, e := parity.Of(data)
		row := append(data, p, q)
		if e != api.OK || !parity.Right(row) {
			t.Fatalf("of %d columns: it is not right", columns)
		}
		for i := range row {
			for k := range i + 1 {
				got, e := parity.Fix(spoilt(row, i, k), []int{i, k})
				if e != api.OK || !slices.Equal(got, row) {
					t.Fatalf("of %d columns, %d and %d lost: %d, or another row", columns, i, k, e)
				}
			}
		}
	}
}

// P2.6: at each place of the longest row, and of the shortest.
func TestChangeMakesWhatOfTells(t *testing.T) {
	for _, n := range []int{1, 2, 5, 62} {
		for i := range n {
			data := mixed(n, 11)
			p, q, _ := parity.Of(data)
			row := api.Row{P: p, Q: q, Old: data[i]}
			data[i] = mixed(1, 12)[0]
			wantP, wantQ, _ := parity.Of(data)
			got, e := parity.Change(row, i, data[i])
			if e != api.OK || got != (api.Row{P: wantP, Q: wantQ, Old: data[i]}) {
				t.Errorf("%d of %d: %v, %d", i, n, got, e)
			}
		}
	}
}

// R4: what is handed in is not changed, neither what lies behind it in its memory.
func TestNothingHandedInIsChanged(t *testing.T) {
	memory := mixed(10, 13)
	before := slices.Clone(memory)
	for _, lost := range [][]int{nil, {0}, {0, 0}, {5, 1}, {6, 2, 6}, {7, 3}, {6, 7}, {7}, {0, 1, 2}, {8}} {
		handed := slices.Clone(lost)
		parity.Fix(memory[:8], handed)
		if !slices.Equal(handed, lost) {
			t.Errorf("%v lost: the list is now %v", lost, handed)
		}
	}
	parity.Of(memory[:8])
	parity.Right(memory[:8])
	if !slices.Equal(memory, before) {
		t.Error("the columns are changed")
	}
}

// R4: the answer is new memory, whatever is lost.
func TestWhatIsAnsweredIsNew(t *testing.T) {
	for _, lost := range [][]int{nil, {}, {3}, {0, 1}, {6, 7}} {
		cols := mixed(8, 14)
		before := slices.Clone(cols)
		first, _ := parity.Fix(cols, lost)
		second, _ := parity.Fix(cols, lost)
		want := slices.Clone(first)
		for i := range first {
			first[i] = api.Sector{}
		}
		if !slices.Equal(cols, before) || !slices.Equal(second, want) {
			t.Errorf("%v lost: the answer is shared", lost)
		}
		for i := range cols {
			cols[i] = api.Sector{}
		}
		if !slices.Equal(second, want) {
			t.Errorf("%v lost: what was handed in is kept", lost)
		}
	}
}

// R1: lists of all lengths, and numbers of all sizes; a panic would end the test.
func TestNoCallPanics(t *testing.T) {
	numbers := []int{math.MinInt, -256, -64, -3, -2, -1, 0, 1, 2, 3, 60, 61, 62, 63, 64, 65, 255, 256, math.MaxInt}
	for columns := range 70 {
		cols := mixed(columns, 15)
		parity.Of(cols)
		parity.Right(cols)
		parity.Fix(cols, nil)
		parity.Fix(cols, numbers)
		for _, i := range numbers {
			for _, k := range numbers {
				parity.Fix(cols, []int{i, k})
			}
		}
	}
	for _, i := range numbers {
		parity.Change(api.Row{}, i, api.Sector{})
	}
}

// answer is what all calls tell of one row.
type answer struct {
	p, q    api.Sector
	right   bool
	changed api.Row
	mended  [3]api.Sector
}

// answers asks of many rows, from the place start on, round.
func answers(start int) []answer {
	const many = 200
	told := make([]answer, many)
	for step := range many {
		n := (start + step) % many
		cols := mixed(3+n%9, uint64(n))
		a := &told[n]
		a.p, a.q, _ = parity.Of(cols)
		a.right = parity.Right(cols)
		a.changed, _ = parity.Change(api.Row{P: cols[0], Q: cols[1], Old: cols[2]}, n%62, a.p)
		mended, _ := parity.Fix(cols, []int{n % len(cols), n / 2 % len(cols)})
		copy(a.mended[:], mended)
	}
	return told
}

// R6: what was asked ahead, or is asked meanwhile, changes no answer.
func TestAnswersHangOnArgumentsAlone(t *testing.T) {
	want := answers(0)
	told := make([][]answer, 4)
	var all sync.WaitGroup
	for i := range told {
		all.Go(func() { told[i] = answers(i*37 + 1) })
	}
	all.Wait()
	for i := range told {
		if !slices.Equal(told[i], want) {
			t.Errorf("asked in order %d the answers are others", i)
		}
	}
}

// R3, R5, R7: parity's calls are on sectors and numbers alone; so there is no object, text or tag that these rules could be broken by. (That it hands out nothing else, and keeps nothing, is held in the folder layers.)
func TestCallsAreOnSectorsAndNumbers(t *testing.T) {
	var (
		_ func(data []api.Sector) (p, q api.Sector, e api.Errno)         = parity.Of
		_ func(cols []api.Sector) bool                                   = parity.Right
		_ func(cols []api.Sector, lost []int) ([]api.Sector, api.Errno)  = parity.Fix
		_ func(row api.Row, i int, data api.Sector) (api.Row, api.Errno) = parity.Change
	)
}
