package cell_test

import (
	"math"
	"math/rand/v2"
	"reflect"
	"slices"
	"sync"
	"testing"

	"casemate/api"
	"casemate/cell"
)

// paper is a cell by the chapter's words: all that it has held, what it holds last.
type paper []api.Cell

// holds is what the last one is.
func (p paper) holds() api.Cell {
	return p[len(p)-1]
}

// advanced is P12.2: what an Advance tells, and leaves.
func (p paper) advanced(label api.Tag) (paper, uint64, api.Errno) {
	count := p.holds().Count
	if count == 1<<62 {
		return p, 0, api.ErrCount
	}
	return append(slices.Clone(p), api.Cell{Count: count + 1, Label: label}), count + 1, api.OK
}

// tag is the label of 32 bytes b.
func tag(b byte) (l api.Tag) {
	for i := range l {
		l[i] = b
	}
	return l
}

// holding is a count and a label of 32 bytes b.
func holding(count uint64, b byte) api.Cell {
	return api.Cell{Count: count, Label: tag(b)}
}

// made is a new cell.
func made(t *testing.T, start api.Cell) *cell.Cell {
	t.Helper()
	c, e := cell.New(start)
	if c == nil || e != api.OK {
		t.Fatalf("New(%v): %v, %d", start, c, e)
	}
	return c
}

// checkIs holds all that a cell shows against its paper.
func checkIs(t *testing.T, c *cell.Cell, p paper) {
	t.Helper()
	if got, e := c.Read(); got != p.holds() || e != api.OK {
		t.Fatalf("Read: %v, %d, want %v", got, e, p.holds())
	}
	if got := c.History(); !slices.Equal(got, p) {
		t.Fatalf("History: %v, want %v", got, p)
	}
}

// checkAdvance holds what an Advance tells, and what it leaves, against the paper, and is the paper behind it.
func checkAdvance(t *testing.T, c *cell.Cell, p paper, label api.Tag) paper {
	t.Helper()
	n, e := c.Advance(label)
	p, wantN, wantE := p.advanced(label)
	if n != wantN || e != wantE {
		t.Fatalf("Advance(%v): %d, %d, want %d, %d", label, n, e, wantN, wantE)
	}
	checkIs(t, c, p)
	return p
}

// source draws the same at each run.
func source(seed byte) *rand.Rand {
	return rand.New(rand.NewChaCha8([32]byte{seed}))
}

// drawnTag draws a label.
func drawnTag(from *rand.Rand) (l api.Tag) {
	for i := range l {
		l[i] = byte(from.Uint32())
	}
	return l
}

// P12.1 and P12.2: the chapter's first example.
func TestTheChaptersPlay(t *testing.T) {
	c := made(t, api.Cell{})
	for i, label := range []api.Tag{tag('L'), tag('M')} {
		if n, e := c.Advance(label); n != uint64(i+1) || e != api.OK {
			t.Errorf("Advance %d: %d, %d", i, n, e)
		}
	}
	if got, e := c.Read(); got != holding(2, 'M') || e != api.OK {
		t.Errorf("Read: %v, %d", got, e)
	}
}

// P12.1 and P12.2: the chapter's second example.
func TestTheChaptersEnd(t *testing.T) {
	c := made(t, holding(1<<62, 'L'))
	if n, e := c.Advance(tag('M')); n != 0 || e != api.ErrCount {
		t.Errorf("Advance: %d, %d", n, e)
	}
	if got, e := c.Read(); got != holding(1<<62, 'L') || e != api.OK {
		t.Errorf("Read: %v, %d", got, e)
	}
}

// P12.1, the chapter's third example among them: a count above 2^62 makes no cell.
func TestNewOfACountThatIsTooHigh(t *testing.T) {
	for _, count := range []uint64{1<<62 + 1, 1<<62 + 2, 1<<62 + 1<<61, 1<<63 - 1, 1 << 63, 1<<63 + 1, 1<<63 + 1<<62, math.MaxUint64 - 1, math.MaxUint64} {
		for _, b := range []byte{0, 'L'} {
			if c, e := cell.New(holding(count, b)); c != nil || e != api.ErrArg {
				t.Errorf("New(%d): %v, %d", count, c, e)
			}
		}
	}
}

// P12.1: a new cell holds start, and has held nothing else.
func TestNewHoldsStart(t *testing.T) {
	from := source(1)
	for _, count := range []uint64{0, 1, 2, 255, 256, 1<<31 - 1, 1 << 31, 1<<32 - 1, 1 << 32, 1 << 61, 1<<62 - 2, 1<<62 - 1, 1 << 62} {
		for _, label := range []api.Tag{{}, tag(1), tag(255), {31: 1}, {0: 128}, drawnTag(from)} {
			start := api.Cell{Count: count, Label: label}
			checkIs(t, made(t, start), paper{start})
		}
	}
}

// P12.2: from whatever count, each Advance is one more, up to 2^62; behind that none changes anything.
func TestAdvanceIsOneMore(t *testing.T) {
	for _, count := range []uint64{0, 1, 254, 255, 1<<16 - 2, 1<<31 - 2, 1<<32 - 2, 1<<53 - 1, 1<<61 - 1, 1<<62 - 5, 1<<62 - 4, 1<<62 - 3, 1<<62 - 2, 1<<62 - 1, 1 << 62} {
		start := holding(count, 7)
		c, p := made(t, start), paper{start}
		for i := range 5 {
			p = checkAdvance(t, c, p, tag(byte(10+i)))
		}
	}
}

// P12.2: the last count is reached once, and stays with its label, however often it is asked for more.
func TestTheLastCountStays(t *testing.T) {
	c, p := made(t, holding(1<<62-1, 1)), paper{holding(1<<62-1, 1)}
	p = checkAdvance(t, c, p, tag(2))
	if p.holds() != holding(1<<62, 2) {
		t.Fatalf("the paper holds %v", p.holds())
	}
	for _, label := range []api.Tag{tag(2), tag(3), {}, tag(1)} {
		for range 3 {
			if n, e := c.Advance(label); n != 0 || e != api.ErrCount {
				t.Errorf("Advance: %d, %d", n, e)
			}
			checkIs(t, c, p)
		}
	}
	checkIs(t, c.Copy(), p)
}

// P12.2: each bit of a label is held, and the label alone hangs on it.
func TestEachBitOfALabelIsHeld(t *testing.T) {
	c, p := made(t, api.Cell{}), paper{{}}
	for bit := range 8 * api.TagSize {
		var label api.Tag
		label[bit/8] = 1 << (bit % 8)
		p = checkAdvance(t, c, p, label)
	}
}

// P12.2: a label that is held already, or was, or is zero, is taken as any other.
func TestLabelsMayComeAgain(t *testing.T) {
	c, p := made(t, holding(3, 1)), paper{holding(3, 1)}
	for _, b := range []byte{1, 1, 2, 1, 0, 0, 2} {
		p = checkAdvance(t, c, p, tag(b))
	}
}

// P12.2, on all plays of up to six acts: three labels, and going on with a copy; each cell that was left stays as it was.
func TestAllShortPlays(t *testing.T) {
	for _, count := range []uint64{0, 9, 1<<62 - 3, 1 << 62} {
		start := holding(count, 1)
		checkPlays(t, made(t, start), paper{start}, 6)
	}
}

// checkPlays does each act on a copy of its own, and holds c against its paper behind each.
func checkPlays(t *testing.T, c *cell.Cell, p paper, acts int) {
	t.Helper()
	if acts == 0 {
		return
	}
	for _, label := range []api.Tag{{}, tag(1), tag(2)} {
		d := c.Copy()
		checkIs(t, d, p)
		checkPlays(t, d, checkAdvance(t, d, p, label), acts-1)
		checkIs(t, c, p)
	}
	checkPlays(t, c.Copy(), p, acts-1)
	checkIs(t, c, p)
}

// P12.2, on drawn plays: many cells, copied of one another, of which each goes its own way.
func TestDrawnPlays(t *testing.T) {
	for seed := range byte(20) {
		from := source(seed)
		start := api.Cell{Count: from.Uint64N(1<<62 + 1), Label: drawnTag(from)}
		if seed%2 == 0 {
			start.Count = 1<<62 - from.Uint64N(40)
		}
		cells, papers := []*cell.Cell{made(t, start)}, []paper{{start}}
		for range 300 {
			i := from.IntN(len(cells))
			if len(cells) < 12 && from.IntN(8) == 0 {
				cells, papers = append(cells, cells[i].Copy()), append(papers, papers[i])
				continue
			}
			papers[i] = checkAdvance(t, cells[i], papers[i], drawnTag(from))
			for k := range cells {
				checkIs(t, cells[k], papers[k])
			}
		}
	}
}

// P12.2: looks change nothing, however often, and in whatever order.
func TestLooksChangeNothing(t *testing.T) {
	c, p := made(t, holding(4, 4)), paper{holding(4, 4)}
	for i := range 20 {
		c.History()
		c.Read()
		c.Copy()
		c.Read()
		c.History()
		checkIs(t, c, p)
		p = checkAdvance(t, c, p, tag(byte(i)))
	}
}

// P12.2: a cell and its copy do not know of each other, whichever goes on first, wherever their ways part.
func TestACopyGoesItsOwnWay(t *testing.T) {
	for ahead := range 20 {
		start := holding(5, 1)
		c, p := made(t, start), paper{start}
		for i := range ahead {
			p = checkAdvance(t, c, p, tag(byte(i)))
		}
		d, q := c.Copy(), p
		f, r := d.Copy(), p
		if d == c || f == d {
			t.Fatal("a copy is the cell itself")
		}
		for i := range 6 {
			p = checkAdvance(t, c, p, tag(byte(100+i)))
			checkIs(t, d, q)
			q = checkAdvance(t, d, q, tag(byte(150+i)))
			checkIs(t, f, r)
			r = checkAdvance(t, f, r, tag(byte(200+i)))
			checkIs(t, c, p)
			checkIs(t, d, q)
		}
	}
}

// R4: a history is new memory: whatever is done to one, to its whole capacity, no cell and no other history sees it; and what a cell does later is not seen in it.
func TestAHistoryIsNewMemory(t *testing.T) {
	for ahead := range 40 {
		start := holding(5, 1)
		c, p := made(t, start), paper{start}
		for i := range ahead {
			p = checkAdvance(t, c, p, tag(byte(i)))
		}
		d, first, second := c.Copy(), c.History(), c.History()
		for i := range first[:cap(first)] {
			first[:cap(first)][i] = holding(77, 77)
		}
		if !slices.Equal(second, p) {
			t.Fatalf("a history shares another one's memory: %v, want %v", second, p)
		}
		checkIs(t, c, p)
		checkIs(t, d, p)
		later := checkAdvance(t, c, p, tag(99))
		for i := range first[:cap(first)] {
			if first[:cap(first)][i] != holding(77, 77) {
				t.Fatalf("an Advance writes into a history that was told, at %d", i)
			}
		}
		if !slices.Equal(second, p) {
			t.Fatalf("a history changes later: %v, want %v", second, p)
		}
		second = append(second, holding(88, 88))
		second[0] = holding(88, 88)
		checkIs(t, c, later)
		checkIs(t, d, p)
	}
}

// R4: what Read tells, and what New and Advance were told, is a value: changed later, it does not change the cell.
func TestWhatIsHandedOverIsAValue(t *testing.T) {
	start, label := holding(1, 1), tag(2)
	c := made(t, start)
	start.Count, start.Label[0] = 50, 50
	checkIs(t, c, paper{holding(1, 1)})
	c.Advance(label)
	label[0] = 50
	got, _ := c.Read()
	got.Count, got.Label[1] = 60, 60
	checkIs(t, c, paper{holding(1, 1), holding(2, 2)})
}

// P12.1 and R3: nil, and what New did not make, answers ErrNil, or none, and stays as it is.
func TestCellsThatNewDidNotMake(t *testing.T) {
	var none *cell.Cell
	for i, c := range []*cell.Cell{none, {}} {
		for range 3 {
			if n, e := c.Advance(tag(1)); n != 0 || e != api.ErrNil {
				t.Errorf("%d: Advance: %d, %d", i, n, e)
			}
			if got, e := c.Read(); got != (api.Cell{}) || e != api.ErrNil {
				t.Errorf("%d: Read: %v, %d", i, got, e)
			}
			if l := c.History(); len(l) != 0 {
				t.Errorf("%d: History: %v", i, l)
			}
			if d := c.Copy(); d != nil {
				t.Errorf("%d: Copy: %v", i, d)
			}
		}
		if c != nil && !reflect.ValueOf(c).Elem().IsZero() {
			t.Errorf("%d: something was done to it", i)
		}
	}
}

// R2: the cell that New refuses to make is as nil.
func TestARefusedCellIsNone(t *testing.T) {
	c, _ := cell.New(holding(1<<62+1, 1))
	if n, e := c.Advance(tag(2)); n != 0 || e != api.ErrNil {
		t.Errorf("Advance: %d, %d", n, e)
	}
}

// P12.3: counts rise by one each from start on, and what is held has the label of the last Advance that was OK.
func TestCountsRiseByOneEach(t *testing.T) {
	from := source(3)
	c := made(t, holding(1<<62-500, 0))
	last, done := tag(0), 0
	for range 600 {
		label := drawnTag(from)
		n, e := c.Advance(label)
		if e == api.OK {
			last, done = label, done+1
		}
		got, _ := c.Read()
		if got.Label != last || got.Count != 1<<62-500+uint64(done) || e == api.OK && n != got.Count {
			t.Fatalf("behind %d advances: %v, told %d", done, got, n)
		}
	}
	if done != 500 {
		t.Errorf("%d advances were done", done)
	}
	l := c.History()
	for i := 1; i < len(l); i++ {
		if l[i].Count != l[i-1].Count+1 {
			t.Errorf("behind %d comes %d", l[i-1].Count, l[i].Count)
		}
	}
}

// P12.3: a label that is not held any more comes back by an Advance alone: not by what is done to histories and copies of the time when it was held.
func TestALabelDoesNotComeBack(t *testing.T) {
	c := made(t, holding(1, 1))
	old := c.Copy()
	c.Advance(tag(2))
	old.Advance(tag(1))
	told := c.History()
	told[0], told[1] = told[1], told[0]
	checkIs(t, c, paper{holding(1, 1), holding(2, 2)})
	if n, e := c.Advance(tag(1)); n != 3 || e != api.OK {
		t.Errorf("Advance: %d, %d", n, e)
	}
	checkIs(t, c, paper{holding(1, 1), holding(2, 2), holding(3, 1)})
}

// P12.2: a long history is all there.
func TestALongHistory(t *testing.T) {
	const many = 200000
	c := made(t, api.Cell{})
	for i := range uint64(many) {
		if n, e := c.Advance(tag(byte(i))); n != i+1 || e != api.OK {
			t.Fatalf("Advance %d: %d, %d", i, n, e)
		}
	}
	l := c.History()
	if len(l) != many+1 || l[0] != (api.Cell{}) {
		t.Fatalf("%d, the first of them %v", len(l), l[0])
	}
	for i, x := range l[1:] {
		if x != holding(uint64(i)+1, byte(i)) {
			t.Fatalf("%d: %v", i, x)
		}
	}
}

// A cell is changed by Advance alone: it shows nothing that others could set.
func TestACellShowsNoFields(t *testing.T) {
	of := reflect.TypeFor[cell.Cell]()
	for i := range of.NumField() {
		if of.Field(i).IsExported() {
			t.Errorf("%s can be set by others", of.Field(i).Name)
		}
	}
}

// answers is all that a play tells, up to its end.
func answers(seed byte) []api.Cell {
	from := source(seed)
	c, _ := cell.New(api.Cell{Count: 1<<62 - 200})
	var l []api.Cell
	for range 300 {
		n, e := c.Advance(drawnTag(from))
		l = append(l, api.Cell{Count: n, Label: api.Tag{byte(e)}})
	}
	return append(l, c.History()...)
}

// R6: the same calls have the same answers, whatever is done to other cells meanwhile.
func TestAnswersHangOnWhatWasDoneAlone(t *testing.T) {
	want := answers(6)
	all := make([][]api.Cell, 8)
	var done sync.WaitGroup
	for i := range all {
		done.Go(func() { all[i] = answers(byte(6 + i%2)) })
	}
	done.Wait()
	for i := 0; i < len(all); i += 2 {
		if !slices.Equal(all[i], want) {
			t.Errorf("play %d has other answers", i)
		}
	}
	if slices.Equal(all[1], want) {
		t.Error("another play has the same answers")
	}
}

// The calls are as the chapter lists them.
func TestCallsAreAsListed(t *testing.T) {
	var (
		_ func(start api.Cell) (*cell.Cell, api.Errno)          = cell.New
		_ func(c *cell.Cell) (api.Cell, api.Errno)              = (*cell.Cell).Read
		_ func(c *cell.Cell, label api.Tag) (uint64, api.Errno) = (*cell.Cell).Advance
		_ func(c *cell.Cell) []api.Cell                         = (*cell.Cell).History
		_ func(c *cell.Cell) *cell.Cell                         = (*cell.Cell).Copy
	)
}
