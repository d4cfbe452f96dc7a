package stripe_test

import (
	"fmt"
	"math"
	"math/rand/v2"
	"reflect"
	"slices"
	"strings"
	"sync"
	"testing"

	"casemate/api"
	"casemate/parity"
	"casemate/stripe"
)

// example is the chapter's row: A, B, P and Q.
func example() []api.Sector {
	return []api.Sector{filled(1), filled(2), filled(3), filled(5)}
}

// extremes are numbers of no column, whatever the row: huge ones, and such as are below 0.
func extremes() []int {
	return []int{math.MinInt, math.MinInt + 1, math.MinInt64 / 2, math.MinInt32, -1 << 16, -256, -65, -64, -62, -5, -4, -3, -2, -1, 65, 66, 127, 128, 255, 256, 1 << 16, math.MaxInt32, 1 << 32, 1<<32 + 1, 1 << 62, math.MaxInt - 1, math.MaxInt}
}

// P16.1, P16.2 and P16.3: the first line of the chapter's examples.
func TestTheChaptersNewRow(t *testing.T) {
	r := fresh(t, 4)
	if l := r.Lost(); !slices.Equal(l, []int{0, 1, 2, 3}) {
		t.Errorf("Lost: %v", l)
	}
	if l, e := r.Mend(); len(l) != 0 || e != api.ErrFull {
		t.Errorf("Mend: %v, %d", l, e)
	}
}

// P16.2 and P16.3: the second line.
func TestTheChaptersMend(t *testing.T) {
	r := whole(t, example())
	if !r.Right() {
		t.Error("it is not right")
	}
	if a, b := r.Lose(0), r.Lose(3); a != api.OK || b != api.OK {
		t.Errorf("Lose: %d, %d", a, b)
	}
	if s, e := r.Get(0); s != filled(0) || e != api.ErrNone {
		t.Errorf("Get: %x, %d", s, e)
	}
	if l, e := r.Mend(); !slices.Equal(l, []int{0, 3}) || e != api.OK {
		t.Errorf("Mend: %v, %d", l, e)
	}
	if s, e := r.Get(0); s != filled(1) || e != api.OK {
		t.Errorf("Get: %x, %d", s, e)
	}
	if s, e := r.Get(3); s != filled(5) || e != api.OK {
		t.Errorf("Get: %x, %d", s, e)
	}
}

// P16.4: the third line, and the fourth one behind it.
func TestTheChaptersWrite(t *testing.T) {
	r := whole(t, example())
	if l, e := r.Write(1, filled(1)); !slices.Equal(l, []int{1, 2, 3}) || e != api.OK {
		t.Errorf("Write: %v, %d", l, e)
	}
	if s, e := r.Get(2); s != filled(0) || e != api.OK {
		t.Errorf("Get: %x, %d", s, e)
	}
	if !r.Right() {
		t.Error("it is not right")
	}
	if l, e := r.Write(1, filled(1)); len(l) != 0 || e != api.OK {
		t.Errorf("Write: %v, %d", l, e)
	}
	if l, e := r.Write(2, filled(1)); len(l) != 0 || e != api.ErrArg {
		t.Errorf("Write: %v, %d", l, e)
	}
}

// P16.1: each number of columns that a row may have; all are lost, though zeros alone would be right.
func TestNew(t *testing.T) {
	for n := 4; n <= 64; n++ {
		checkIs(t, fresh(t, n), blank(n))
	}
}

// P16.1, the chapter's last example among it: too few, too many.
func TestNewOfTooFewOrTooManyColumns(t *testing.T) {
	for _, n := range append(extremes(), 0, 1, 2, 3) {
		if r, e := stripe.New(n); r != nil || e != api.ErrArg {
			t.Errorf("New(%d): %v, %d", n, r, e)
		}
	}
}

// P16.2: each column of each row is put, put anew, lost, and put once more; no other one is changed.
func TestPutAndLose(t *testing.T) {
	from := source(1)
	for n := 4; n <= 64; n++ {
		r, p := fresh(t, n), blank(n)
		for _, c := range from.Perm(n) {
			checkAll(t, r, p, put(c, drawn(from)), put(c, drawn(from)), lose(c), lose(c), put(c, drawn(from)))
		}
		for _, c := range from.Perm(n) {
			checkAll(t, r, p, put(c, filled(0)), lose(c))
		}
	}
}

// P16.2 and P16.4: there is no column below 0, nor from as many on as there are; for Write none of P and Q either.
func TestWhatIsNoColumn(t *testing.T) {
	from := source(2)
	for _, n := range []int{4, 5, 6, 16, 63, 64} {
		right := rightRow(drawnData(from, n-2))
		for _, lost := range [][]int{nil, {0}, {n - 2, n - 1}, {0, 1, 2}} {
			r, p := whole(t, right), of(right)
			for _, c := range lost {
				checkDo(t, r, p, lose(c))
			}
			for _, c := range append(extremes(), n, n+1, n+2) {
				s := drawn(from)
				checkAll(t, r, p, put(c, s), lose(c), write(c, s))
				if s, e := r.Get(c); s != filled(0) || e != api.ErrArg {
					t.Errorf("%d columns: Get(%d): %x, %d", n, c, s, e)
				}
			}
			checkAll(t, r, p, write(n-2, drawn(from)), write(n-1, drawn(from)))
		}
	}
}

// subset tells of what is lost: the columns whose bits are set.
func subset(bits, n int) []int {
	var l []int
	for c := range n {
		if bits>>c&1 == 1 {
			l = append(l, c)
		}
	}
	return l
}

// P16.2, P16.3: whichever of six columns are lost, in whatever order: they are told rising, and mended if they are not more than two.
func TestAllThatCanBeLost(t *testing.T) {
	from := source(3)
	for bits := range 1 << 6 {
		right := rightRow(drawnData(from, 4))
		lost := subset(bits, 6)
		for _, order := range [][]int{from.Perm(len(lost)), from.Perm(len(lost)), from.Perm(len(lost))} {
			r, p := whole(t, right), of(right)
			for _, k := range order {
				checkDo(t, r, p, lose(lost[k]))
			}
			if got := r.Lost(); !slices.Equal(got, lost) {
				t.Fatalf("Lost: %v, want %v", got, lost)
			}
			checkAll(t, r, p, write(0, drawn(from)), mend(), mend())
			if r.Right() != (len(lost) <= 2) {
				t.Fatalf("%v were lost; it is right: %v", lost, r.Right())
			}
		}
	}
}

// P16.2: a row is not right if one bit of it is another one.
func TestRightSeesEachBit(t *testing.T) {
	from := source(4)
	for _, n := range []int{4, 5, 9} {
		right := rightRow(drawnData(from, n-2))
		r := whole(t, right)
		for c := range n {
			for bit := range 64 * 8 {
				s := right[c]
				s[bit/8] ^= 1 << (bit % 8)
				r.Put(c, s)
				if r.Right() {
					t.Fatalf("%d columns: bit %d of the column %d is turned", n, bit, c)
				}
				r.Put(c, right[c])
				if !r.Right() {
					t.Fatalf("%d columns: bit %d of the column %d is turned back", n, bit, c)
				}
			}
		}
	}
}

// P16.2: a row that is not whole is not right, even if what is lost was zero, and would make it right.
func TestRightSeesWhatIsLost(t *testing.T) {
	for _, n := range []int{4, 5, 64} {
		zeros := make([]api.Sector, n)
		for c := range n {
			r := whole(t, zeros)
			if !r.Right() {
				t.Fatalf("%d columns: zeros are not right", n)
			}
			r.Lose(c)
			if r.Right() {
				t.Errorf("%d columns: the column %d is lost", n, c)
			}
			r.Put(c, filled(0))
			if !r.Right() {
				t.Errorf("%d columns: the column %d is back", n, c)
			}
		}
	}
}

// P16.2: P and Q stand in this order, and Q weighs the data by their columns.
func TestRightKnowsTheColumns(t *testing.T) {
	a, b, p, q := filled(1), filled(2), filled(3), filled(5)
	// 1, 2 and 1 add up to 2; weighed by 1, 2 and 4 they add up to 1.
	for i, x := range []struct {
		cols []api.Sector
		want bool
	}{
		{[]api.Sector{a, b, p, q}, true},
		{[]api.Sector{a, b, q, p}, false},
		{[]api.Sector{b, a, p, q}, false},
		{[]api.Sector{b, a, p, filled(0)}, true},
		{[]api.Sector{p, q, a, b}, false},
		{[]api.Sector{a, b, a, filled(2), filled(1)}, true},
		{[]api.Sector{a, b, a, filled(1), filled(2)}, false},
	} {
		if got := whole(t, x.cols).Right(); got != x.want {
			t.Errorf("%d: %v", i, got)
		}
	}
}

// pairs are all two columns of n, and each one alone as itself twice.
func pairs(n int) [][2]int {
	var l [][2]int
	for i := range n {
		for k := range n {
			l = append(l, [2]int{i, k})
		}
	}
	return l
}

// lostOf is what is lost of two columns, rising.
func lostOf(x [2]int) []int {
	return slices.Compact([]int{min(x[0], x[1]), max(x[0], x[1])})
}

// P16.3, P16.5: behind any two Loses and a Mend a right row is the same.
func TestAnyTwoComeBack(t *testing.T) {
	from := source(5)
	for _, n := range []int{4, 5, 6, 7, 16, 64} {
		right := rightRow(drawnData(from, n-2))
		r := whole(t, right)
		for _, x := range pairs(n) {
			r.Lose(x[0])
			r.Lose(x[1])
			if l, e := r.Mend(); !slices.Equal(l, lostOf(x)) || e != api.OK {
				t.Fatalf("%d columns: Mend of %v: %v, %d", n, x, l, e)
			}
			for c := range n {
				if s, e := r.Get(c); s != right[c] || e != api.OK {
					t.Fatalf("%d columns: behind a Mend of %v, Get(%d): %x, %d", n, x, c, s, e)
				}
			}
		}
		checkIs(t, r, of(right))
	}
}

// P16.3: the ends of rows of all numbers of columns.
func TestEndsOfAllRowsComeBack(t *testing.T) {
	from := source(6)
	for n := 4; n <= 64; n++ {
		right := rightRow(drawnData(from, n-2))
		for _, x := range [][2]int{{0, 0}, {n - 3, n - 3}, {n - 2, n - 2}, {n - 1, n - 1}, {0, n - 1}, {n - 1, n - 2}, {n - 3, n - 2}, {n - 3, 0}} {
			r, p := whole(t, right), of(right)
			checkAll(t, r, p, lose(x[0]), lose(x[1]), mend())
			checkIs(t, r, of(right))
		}
	}
}

// P16.3: what is lost is made by the parities' table also where the others are no part of a right row; it is whole then, and as Fix tells it.
func TestMendOfARowThatIsNotRight(t *testing.T) {
	from := source(7)
	for _, n := range []int{4, 5, 7, 12} {
		for _, x := range pairs(n) {
			cols := drawnData(from, n)
			r, p := whole(t, cols), of(cols)
			checkAll(t, r, p, lose(x[0]), lose(x[1]), mend())
			want, e := parity.Fix(cols, []int{x[0], x[1]})
			if e != api.OK || !slices.Equal(p.cols, want) {
				t.Fatalf("%d columns: %v is lost: the paper is not what Fix tells", n, x)
			}
			// Two unlike columns are made so that P and Q fit; one alone fits one of these.
			if r.Right() != (x[0] != x[1]) {
				t.Errorf("%d columns: %v was lost: right is %v", n, x, r.Right())
			}
		}
	}
}

// P16.3: of nothing nothing is mended, whether the row is right or not.
func TestMendOfNothing(t *testing.T) {
	from := source(8)
	for _, n := range []int{4, 5, 64} {
		for _, cols := range [][]api.Sector{rightRow(drawnData(from, n-2)), drawnData(from, n), make([]api.Sector, n)} {
			r, p := whole(t, cols), of(cols)
			checkAll(t, r, p, mend(), mend())
			checkIs(t, r, of(cols))
		}
	}
}

// P16.3: more than two lost columns stay lost, and the others as they are; as soon as two alone are lost, they come back.
func TestMendOfTooMany(t *testing.T) {
	from := source(9)
	for _, n := range []int{4, 5, 6, 31, 64} {
		right := rightRow(drawnData(from, n-2))
		for many := 3; many <= n; many++ {
			lost := from.Perm(n)[:many]
			r, p := whole(t, right), of(right)
			for _, c := range lost {
				checkDo(t, r, p, lose(c))
			}
			checkAll(t, r, p, mend(), mend())
			for _, c := range lost[2:] {
				if got := do(r, mend()); got != none(api.ErrFull) {
					t.Fatalf("%d columns, %v lost: %v", n, lost, got)
				}
				checkDo(t, r, p, put(c, right[c]))
			}
			checkDo(t, r, p, mend())
			checkIs(t, r, of(right))
		}
	}
}

// P16.3: what a lost column had is of no account.
func TestMendOverlooksWhatWasLost(t *testing.T) {
	from := source(10)
	for _, n := range []int{4, 6, 64} {
		right := rightRow(drawnData(from, n-2))
		for _, x := range [][2]int{{0, 0}, {0, 1}, {0, n - 2}, {1, n - 1}, {n - 2, n - 1}, {n - 1, n - 1}} {
			r, p := whole(t, right), of(right)
			checkAll(t, r, p, put(x[0], drawn(from)), put(x[1], drawn(from)), lose(x[0]), lose(x[1]), mend())
			checkIs(t, r, of(right))
		}
	}
}

// P16.4, P16.5: each data column of each row: it has what is written, P and Q are those of the data, and no other one is changed.
func TestWriteOfEachColumn(t *testing.T) {
	from := source(11)
	for n := 4; n <= 64; n++ {
		right := rightRow(drawnData(from, n-2))
		r, p := whole(t, right), of(right)
		for c := range n - 2 {
			s := drawn(from)
			if got, want := do(r, write(c, s)), columns(c, n-2, n-1); got != want {
				t.Fatalf("%d columns: Write(%d): %v, want %v", n, c, got, want)
			}
			p.write(c, s)
			right[c] = s
		}
		checkIs(t, r, p)
		checkIs(t, r, of(rightRow(right[:n-2])))
	}
}

// P16.4: one bit that is another one changes three columns; none changes none.
func TestWriteOfEachBit(t *testing.T) {
	from := source(12)
	right := rightRow(drawnData(from, 3))
	r, p := whole(t, right), of(right)
	for bit := range 64 * 8 {
		for c := range 3 {
			s := p.cols[c]
			s[bit/8] ^= 1 << (bit % 8)
			if got := do(r, write(c, s)); got != columns(c, 3, 4) {
				t.Fatalf("bit %d of the column %d: %v", bit, c, got)
			}
			p.write(c, s)
			checkDo(t, r, p, write(c, s))
			if got := do(r, write(c, s)); got != columns() {
				t.Fatalf("bit %d of the column %d, once more: %v", bit, c, got)
			}
		}
	}
	if !r.Right() {
		t.Error("it is not right")
	}
}

// P16.4: a row that is whole, but not right, is written too; P and Q are changed, not made anew.
func TestWriteInARowThatIsNotRight(t *testing.T) {
	from := source(13)
	for _, n := range []int{4, 5, 16, 64} {
		cols := drawnData(from, n)
		r, p := whole(t, cols), of(cols)
		for c := range n - 2 {
			checkDo(t, r, p, write(c, cols[c]))
			checkIs(t, r, of(cols))
			row, _ := parity.Change(api.Row{P: cols[n-2], Q: cols[n-1], Old: cols[c]}, c, filled(byte(c)))
			cols[c], cols[n-2], cols[n-1] = row.Old, row.P, row.Q
			checkDo(t, r, p, write(c, filled(byte(c))))
			checkIs(t, r, of(cols))
		}
		if r.Right() {
			t.Errorf("%d columns: it is right", n)
		}
	}
}

// P16.4: a row that is not whole is not written, whichever column is lost, the one to be written among them; one that is no data column is refused first.
func TestWriteInARowThatIsNotWhole(t *testing.T) {
	from := source(14)
	for _, n := range []int{4, 5, 64} {
		right := rightRow(drawnData(from, n-2))
		for lost := range n {
			r, p := whole(t, right), of(right)
			checkDo(t, r, p, lose(lost))
			for _, c := range []int{0, 1, n - 3, n - 2, n - 1, n, -1} {
				want := none(api.ErrNone)
				if c < 0 || c > n-3 {
					want = none(api.ErrArg)
				}
				if got := do(r, write(c, drawn(from))); got != want {
					t.Errorf("%d columns, %d lost: Write(%d): %v, want %v", n, lost, c, got, want)
				}
				if got := do(r, write(c, right[(c+n)%n])); got != want {
					t.Errorf("%d columns, %d lost: Write(%d) of what was there: %v, want %v", n, lost, c, got, want)
				}
			}
			checkIs(t, r, p)
		}
	}
}

// P16.5: a right row stays right, whatever is written, lost and mended.
func TestARightRowStaysRight(t *testing.T) {
	from := source(15)
	for _, n := range []int{4, 5, 6, 10, 33, 64} {
		r := whole(t, rightRow(drawnData(from, n-2)))
		data := make([]api.Sector, n-2)
		for c := range data {
			data[c], _ = r.Get(c)
		}
		for range 60 {
			c, s := from.IntN(n-2), drawn(from)
			if _, e := r.Write(c, s); e != api.OK || !r.Right() {
				t.Fatalf("%d columns: Write(%d): %d, right is %v", n, c, e, r.Right())
			}
			data[c] = s
			r.Lose(from.IntN(n))
			r.Lose(from.IntN(n))
			if _, e := r.Mend(); e != api.OK || !r.Right() {
				t.Fatalf("%d columns: Mend: %d, right is %v", n, e, r.Right())
			}
			checkIs(t, r, of(rightRow(data)))
		}
	}
}

// shortActs are the acts of short plays of four columns: 7 is put where it is never right.
func shortActs() []act {
	l := []act{mend(), write(0, filled(1)), write(0, filled(9)), write(1, filled(1)), write(2, filled(1)), put(1, filled(7)), put(3, filled(7)), put(4, filled(7)), lose(-1)}
	for c, s := range example() {
		l = append(l, put(c, s), lose(c))
	}
	return l
}

// P16.1 to P16.4: all plays of four acts, on a row that is new, and on one that is right.
func TestAllShortPlays(t *testing.T) {
	acts := shortActs()
	n := len(acts)
	for play := range n * n * n * n {
		news, p := fresh(t, 4), blank(4)
		rights, q := whole(t, example()), of(example())
		for range 4 {
			a := acts[play%n]
			play /= n
			if got, want := do(news, a), p.do(a); got != want {
				t.Fatalf("%s(%d) of a new row: %v, want %v", a.call, a.column, got, want)
			}
			if got, want := do(rights, a), q.do(a); got != want {
				t.Fatalf("%s(%d) of a right row: %v, want %v", a.call, a.column, got, want)
			}
		}
		checkIs(t, news, p)
		checkIs(t, rights, q)
	}
}

// drawnAct is any act of a row of n columns; now and then of a column that is not there.
func drawnAct(from *rand.Rand, n int) act {
	c := from.IntN(n+2) - 1
	s := drawn(from)
	switch from.IntN(8) {
	case 0:
		return lose(c)
	case 1, 2:
		return mend()
	case 3, 4:
		return write(c, s)
	}
	return put(c, s)
}

// P16.1 to P16.4: drawn plays of rows of any numbers of columns; of lost ones there are few at one time, so that something can be mended.
func TestDrawnPlays(t *testing.T) {
	from := source(16)
	for range 100 {
		n := 4 + from.IntN(61)
		cols := drawnData(from, n)
		r, p := whole(t, cols), of(cols)
		for range 100 {
			checkDo(t, r, p, drawnAct(from, n))
		}
	}
}

// P16.1 and R3: nil, and what New did not make, answers ErrNil, or what is zero, and stays as it is.
func TestRowsThatNewDidNotMake(t *testing.T) {
	refused, _ := stripe.New(3)
	for i, r := range []*stripe.Row{nil, {}, refused} {
		for _, c := range append(extremes(), 0, 1, 2, 3) {
			for _, a := range []act{put(c, filled(1)), lose(c), mend(), write(c, filled(1)), write(c, filled(0))} {
				if got := do(r, a); got != none(api.ErrNil) {
					t.Errorf("%d: %s(%d): %v", i, a.call, c, got)
				}
			}
			if s, e := r.Get(c); s != filled(0) || e != api.ErrNil {
				t.Errorf("%d: Get(%d): %x, %d", i, c, s, e)
			}
			if l := r.Lost(); len(l) != 0 || r.Right() || r.Columns() != 0 {
				t.Errorf("%d: Lost: %v, Right: %v, Columns: %d", i, l, r.Right(), r.Columns())
			}
		}
		if r != nil && !reflect.ValueOf(r).Elem().IsZero() {
			t.Errorf("%d: something was done to it", i)
		}
	}
}

// spoil overwrites a list up to the end of its memory.
func spoil(l []int) {
	l = l[:cap(l)]
	for k := range l {
		l[k] = 77
	}
}

// R4: the lists that are told are new memory: what is done to them changes neither the row, nor other answers.
func TestListsAreNewMemory(t *testing.T) {
	from := source(17)
	right := rightRow(drawnData(from, 6))
	r, p := whole(t, right), of(right)
	checkAll(t, r, p, lose(2), lose(5))
	first, second := r.Lost(), r.Lost()
	spoil(first)
	if !slices.Equal(second, []int{2, 5}) {
		t.Errorf("Lost: %v", second)
	}
	checkIs(t, r, p)
	mended, e := r.Mend()
	p.mend()
	spoil(second)
	if !slices.Equal(mended, []int{2, 5}) || e != api.OK {
		t.Errorf("Mend: %v, %d", mended, e)
	}
	spoil(mended)
	checkIs(t, r, p)
	s, other := drawn(from), drawn(from)
	one, _ := r.Write(0, s)
	two, _ := r.Write(0, other)
	spoil(one)
	if !slices.Equal(two, []int{0, 6, 7}) {
		t.Errorf("Write: %v", two)
	}
	spoil(two)
	p.write(0, other)
	checkIs(t, r, p)
}

// R4: rows share nothing, whatever is done to one of them.
func TestRowsAreApart(t *testing.T) {
	from := source(18)
	var rows []*stripe.Row
	var papers []*paper
	for i := range 4 {
		rows, papers = append(rows, fresh(t, 4+i%2)), append(papers, blank(4+i%2))
	}
	for range 500 {
		i := from.IntN(len(rows))
		checkDo(t, rows[i], papers[i], drawnAct(from, len(papers[i].cols)))
		for k := range rows {
			checkIs(t, rows[k], papers[k])
		}
	}
}

// Of a column that is lost nothing is kept.
func TestWhatIsLostIsNotKept(t *testing.T) {
	secret := fmt.Sprint(filled(201))
	r := fresh(t, 5)
	for c := range 5 {
		r.Put(c, filled(201))
		if !strings.Contains(fmt.Sprint(*r), secret) {
			t.Fatalf("the column %d is not shown", c)
		}
		r.Lose(c)
		if strings.Contains(fmt.Sprint(*r), secret) {
			t.Errorf("the column %d is still there", c)
		}
	}
}

// Looks change nothing, however often one looks.
func TestLooksChangeNothing(t *testing.T) {
	from := source(19)
	cols := drawnData(from, 7)
	r, p := whole(t, cols), of(cols)
	checkAll(t, r, p, lose(3), lose(1))
	before := fmt.Sprint(*r)
	for range 3 {
		checkIs(t, r, p)
	}
	if fmt.Sprint(*r) != before {
		t.Error("the row is another one")
	}
}

// R1, R2: whatever a call is given, it is none but the chapter's errors that it tells, with nothing beside them, and nothing is changed by it.
func TestNoCallPanics(t *testing.T) {
	errors := map[string][]api.Errno{
		"Put":   {api.OK, api.ErrArg},
		"Lose":  {api.OK, api.ErrArg},
		"Mend":  {api.OK, api.ErrFull},
		"Write": {api.OK, api.ErrArg, api.ErrNone},
	}
	from := source(20)
	for range 30 {
		n := 4 + from.IntN(61)
		r, p := fresh(t, n), blank(n)
		for range 400 {
			a := drawnAct(from, n)
			if from.IntN(3) == 0 {
				a.column = int(from.Uint64()) >> from.IntN(64)
			}
			before := p.copied()
			got, want := do(r, a), p.do(a)
			if got != want || !slices.Contains(errors[a.call], got.e) {
				t.Fatalf("%s(%d): %v, want %v", a.call, a.column, got, want)
			}
			if got.e != api.OK {
				checkIs(t, r, before)
			}
		}
		checkIs(t, r, p)
	}
}

// told is all that a drawn play tells.
func told(seed byte) []answer {
	from := source(seed)
	var l []answer
	for range 20 {
		n := 4 + from.IntN(20)
		r, _ := stripe.New(n)
		for c := range n {
			r.Put(c, drawn(from))
		}
		for range 50 {
			l = append(l, do(r, drawnAct(from, n)))
			s, e := r.Get(from.IntN(n))
			l = append(l, answer{s, text(r.Lost()), e})
		}
	}
	return l
}

// R6: the same calls have the same answers, whatever is done to other rows meanwhile.
func TestAnswersHangOnWhatWasDoneAlone(t *testing.T) {
	want := told(7)
	all := make([][]answer, 8)
	var done sync.WaitGroup
	for i := range all {
		done.Go(func() { all[i] = told(byte(7 + i%2)) })
	}
	done.Wait()
	for i := 0; i < len(all); i += 2 {
		if !slices.Equal(all[i], want) {
			t.Errorf("play %d has other answers", i)
		}
	}
	if slices.Equal(all[1], want) {
		t.Error("another play has the same answers")
	}
}

// A row shows nothing that others could set, and its calls are as the chapter lists them. (R5 and R7 have no text of a number, and no promise about unlike tags, to bear on here.)
func TestTypesAndCallsAreAsListed(t *testing.T) {
	shape := reflect.TypeFor[stripe.Row]()
	for i := range shape.NumField() {
		if shape.Field(i).IsExported() {
			t.Errorf("%s can be set by others", shape.Field(i).Name)
		}
	}
	var (
		_ func(columns int) (*stripe.Row, api.Errno)                       = stripe.New
		_ func(r *stripe.Row, column int, s api.Sector) api.Errno          = (*stripe.Row).Put
		_ func(r *stripe.Row, column int) api.Errno                        = (*stripe.Row).Lose
		_ func(r *stripe.Row, column int) (api.Sector, api.Errno)          = (*stripe.Row).Get
		_ func(r *stripe.Row) []int                                        = (*stripe.Row).Lost
		_ func(r *stripe.Row) ([]int, api.Errno)                           = (*stripe.Row).Mend
		_ func(r *stripe.Row, column int, s api.Sector) ([]int, api.Errno) = (*stripe.Row).Write
		_ func(r *stripe.Row) bool                                         = (*stripe.Row).Right
		_ func(r *stripe.Row) int                                          = (*stripe.Row).Columns
	)
}
