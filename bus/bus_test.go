package bus_test

import (
	"math"
	"math/rand/v2"
	"reflect"
	"slices"
	"strings"
	"sync"
	"testing"

	"casemate/api"
	"casemate/bus"
	"casemate/cell"
	"casemate/member"
)

// act is a call of a bus, and what it is told.
type act struct {
	call  string
	m, i  int
	s     api.Sector
	label api.Tag
}

// answer is what a call tells; what it does not tell is zero.
type answer struct {
	s     api.Sector
	cell  api.Cell
	count uint64
	n     int
	on    bool
	e     api.Errno
}

// do calls b.
func do(b *bus.Bus, a act) (told answer) {
	switch a.call {
	case "Read":
		told.s, told.e = b.Read(a.m, a.i)
	case "Write":
		told.e = b.Write(a.m, a.i, a.s)
	case "Flush":
		told.e = b.Flush(a.m)
	case "Cell":
		told.cell, told.e = b.Cell()
	case "Advance":
		told.count, told.e = b.Advance(a.label)
	case "Power":
		told.e = b.Power()
	case "Members":
		told.n = b.Members()
	case "Sectors":
		told.n = b.Sectors(a.m)
	case "Count":
		told.n = b.Count()
	case "Off":
		told.on = b.Off()
	}
	return told
}

// calls are all calls but New and Log; the first five are I/Os.
func calls() []string {
	return []string{"Read", "Write", "Flush", "Cell", "Advance", "Power", "Members", "Sectors", "Count", "Off"}
}

// paper is a bus by the chapter's words, over members and a cell of its own; its steps stand as they were told.
type paper struct {
	members []*member.Member
	cell    *cell.Cell
	steps   []bus.Step
	log     []bus.Entry
	off     bool
}

// do is what a call tells by the promises.
func (p *paper) do(a act) (told answer) {
	switch a.call {
	case "Power":
		p.off = false
	case "Members":
		told.n = len(p.members)
	case "Sectors":
		if a.m >= 0 && a.m < len(p.members) {
			told.n = p.members[a.m].Len()
		}
	case "Count":
		told.n = len(p.log)
	case "Off":
		told.on = p.off
	default:
		return p.io(a)
	}
	return told
}

// io is P13.2: an I/O behind its steps, and its entry.
func (p *paper) io(a act) (told answer) {
	for _, s := range p.steps {
		if s.At == len(p.log) {
			p.step(s)
		}
	}
	if p.off {
		told.e = api.ErrOff
	} else {
		told = p.done(a)
	}
	p.log = append(p.log, entry(a, told))
	return told
}

// done is an I/O with the power there.
func (p *paper) done(a act) (told answer) {
	switch {
	case a.call == "Cell":
		told.cell, told.e = p.cell.Read()
	case a.call == "Advance":
		told.count, told.e = p.cell.Advance(a.label)
	case a.m < 0 || a.m >= len(p.members):
		told.e = api.ErrArg
	case a.call == "Read":
		told.s, told.e = p.members[a.m].Read(a.i)
	case a.call == "Write":
		told.e = p.members[a.m].Write(a.i, a.s)
	case a.call == "Flush":
		told.e = p.members[a.m].Flush()
	}
	return told
}

// entry is what is logged of an I/O that told that.
func entry(a act, told answer) bus.Entry {
	switch a.call {
	case "Read":
		return bus.Entry{Do: 1, Member: a.m, Index: a.i, Data: told.s, Err: told.e}
	case "Write":
		return bus.Entry{Do: 2, Member: a.m, Index: a.i, Data: a.s, Err: told.e}
	case "Flush":
		return bus.Entry{Do: 3, Member: a.m, Err: told.e}
	case "Cell":
		return bus.Entry{Do: 4, Data: padded(told.cell.Label), Err: told.e}
	}
	return bus.Entry{Do: 5, Data: padded(a.label), Err: told.e}
}

// padded is a label with 32 bytes 0 behind it.
func padded(label api.Tag) api.Sector {
	return api.Sector(append(label[:], make([]byte, 32)...))
}

// step is what a step does by the chapter's table.
func (p *paper) step(s bus.Step) {
	if s.Kind == 6 {
		p.crash(s.Picks)
		return
	}
	if s.Member < 0 || s.Member >= len(p.members) {
		return
	}
	m := p.members[s.Member]
	switch s.Kind {
	case 1:
		m.Set(s.Index, s.Data)
	case 2:
		m.Mark()
	case 3:
		m.Back(s.N)
	case 4:
		m.Fail(true)
	case 5:
		m.Fail(false)
	}
}

// crash deals out the picks one by one, and a 0 to each write for which there is none.
func (p *paper) crash(picks []byte) {
	for _, m := range p.members {
		var own []byte
		for range m.Unflushed() {
			pick := byte(0)
			if len(picks) > 0 {
				pick, picks = picks[0], picks[1:]
			}
			own = append(own, pick)
		}
		m.Crash(own)
	}
	p.off = true
}

// full is the sector of 64 bytes c.
func full(c byte) (s api.Sector) {
	for i := range s {
		s[i] = c
	}
	return s
}

// tag is the label of 32 bytes c.
func tag(c byte) (l api.Tag) {
	for i := range l {
		l[i] = c
	}
	return l
}

// disks are new members of so many sectors each.
func disks(t *testing.T, sectors ...int) (l []*member.Member) {
	t.Helper()
	for _, n := range sectors {
		m, e := member.New(n)
		if e != api.OK {
			t.Fatalf("member.New(%d): %d", n, e)
		}
		l = append(l, m)
	}
	return l
}

// trusted is a new cell of that count and the label of 32 bytes 1.
func trusted(t *testing.T, count uint64) *cell.Cell {
	t.Helper()
	c, e := cell.New(api.Cell{Count: count, Label: tag(1)})
	if e != api.OK {
		t.Fatalf("cell.New(%d): %d", count, e)
	}
	return c
}

// made is a new bus.
func made(t *testing.T, members []*member.Member, c *cell.Cell, steps ...bus.Step) *bus.Bus {
	t.Helper()
	b, e := bus.New(members, c, steps)
	if b == nil || e != api.OK {
		t.Fatalf("New: %v, %d", b, e)
	}
	return b
}

// bench is a bus, what it is of, and its paper.
type bench struct {
	t       *testing.T
	members []*member.Member
	cell    *cell.Cell
	b       *bus.Bus
	p       *paper
}

// over is a bench of copies of members and cell.
func over(t *testing.T, members []*member.Member, c *cell.Cell, steps ...bus.Step) *bench {
	t.Helper()
	x := &bench{t: t, members: copies(members), cell: c.Copy(), p: &paper{members: copies(members), cell: c.Copy(), steps: slices.Clone(steps)}}
	x.b = made(t, x.members, x.cell, steps...)
	return x
}

// fresh is a bench of two new members, of 4 and of 3 sectors, and a new cell.
func fresh(t *testing.T, steps ...bus.Step) *bench {
	t.Helper()
	return over(t, disks(t, 4, 3), trusted(t, 0), steps...)
}

// copies are members of their own that are the same.
func copies(members []*member.Member) (l []*member.Member) {
	for _, m := range members {
		l = append(l, m.Copy())
	}
	return l
}

// image is all that a member shows.
type image struct {
	seen, durable  []api.Sector
	marks          [][]api.Sector
	unflushed      int
	fails, touched bool
}

// seenOf tells what is seen of m, failing or not, and changes nothing of it.
func seenOf(m *member.Member) []api.Sector {
	c := m.Copy()
	c.Fail(false)
	l := make([]api.Sector, c.Len())
	for i := range l {
		l[i], _ = c.Read(i)
	}
	return l
}

// imageOf tells all that m shows, and changes nothing of it.
func imageOf(m *member.Member) image {
	x := image{seen: seenOf(m), unflushed: m.Unflushed(), touched: m.Touched()}
	for i := range m.Len() {
		s, _ := m.Look(i)
		x.durable = append(x.durable, s)
	}
	for n := 0; ; n++ {
		c := m.Copy()
		if c.Back(n) != api.OK {
			break
		}
		x.marks = append(x.marks, seenOf(c))
	}
	_, e := m.Read(0)
	x.fails = e == api.ErrIO
	return x
}

// imagesOf tells all that members show.
func imagesOf(members []*member.Member) (l []image) {
	for _, m := range members {
		l = append(l, imageOf(m))
	}
	return l
}

// checkIs holds all that a bus shows, and what it is of, against the paper.
func (x *bench) checkIs() {
	x.t.Helper()
	if x.b.Count() != len(x.p.log) || x.b.Off() != x.p.off || x.b.Members() != len(x.p.members) {
		x.t.Fatalf("%d I/Os, off %t, %d members, want %d, %t, %d", x.b.Count(), x.b.Off(), x.b.Members(), len(x.p.log), x.p.off, len(x.p.members))
	}
	if got := x.b.Log(); !slices.Equal(got, x.p.log) {
		x.t.Fatalf("Log: %v, want %v", got, x.p.log)
	}
	if got, want := imagesOf(x.members), imagesOf(x.p.members); !reflect.DeepEqual(got, want) {
		x.t.Fatalf("the members are %v, want %v", got, want)
	}
	if got, want := x.cell.History(), x.p.cell.History(); !slices.Equal(got, want) {
		x.t.Fatalf("the cell held %v, want %v", got, want)
	}
}

// say holds what a call tells against the paper.
func (x *bench) say(a act) answer {
	x.t.Helper()
	got, want := do(x.b, a), x.p.do(a)
	if got != want {
		x.t.Fatalf("%s(%d, %d, %.4x, %.4x): %v, want %v", a.call, a.m, a.i, a.s, a.label, got, want)
	}
	return got
}

// do holds what calls tell, and what each leaves, against the paper.
func (x *bench) do(acts ...act) *bench {
	x.t.Helper()
	for _, a := range acts {
		x.say(a)
		x.checkIs()
	}
	return x
}

// The acts, by their names.
func read(m, i int) act          { return act{call: "Read", m: m, i: i} }
func write(m, i int, c byte) act { return act{call: "Write", m: m, i: i, s: full(c)} }
func flush(m int) act            { return act{call: "Flush", m: m} }
func advance(c byte) act         { return act{call: "Advance", label: tag(c)} }
func plain(call string) act      { return act{call: call} }

// The steps, by their names.
func set(at, m, i int, c byte) bus.Step {
	return bus.Step{At: at, Kind: bus.Set, Member: m, Index: i, Data: full(c)}
}
func mark(at, m int) bus.Step    { return bus.Step{At: at, Kind: bus.Mark, Member: m} }
func back(at, m, n int) bus.Step { return bus.Step{At: at, Kind: bus.Back, Member: m, N: n} }
func fail(at, m int) bus.Step    { return bus.Step{At: at, Kind: bus.Fail, Member: m} }
func heal(at, m int) bus.Step    { return bus.Step{At: at, Kind: bus.Heal, Member: m} }
func crash(at int, picks ...byte) bus.Step {
	return bus.Step{At: at, Kind: bus.Crash, Picks: picks}
}

// The answers that tell one thing alone.
func only(e api.Errno) answer { return answer{e: e} }
func sector(c byte) answer    { return answer{s: full(c)} }

// source draws the same at each run.
func source(seed byte) *rand.Rand {
	return rand.New(rand.NewChaCha8([32]byte{seed}))
}

// P13.1 to P13.3: the chapter's examples, line by line, on one bus.
func TestTheChaptersExamples(t *testing.T) {
	c, _ := cell.New(api.Cell{})
	b := made(t, disks(t, 4, 4), c, set(1, 0, 2, 1), crash(3, 0, 1))
	for i, x := range []struct {
		a    act
		want answer
	}{
		{read(0, 2), sector(0)}, {read(0, 2), sector(1)}, {write(1, 0, 1), only(api.OK)},
		{write(1, 1, 1), only(api.ErrOff)}, {plain("Off"), answer{on: true}}, {plain("Count"), answer{n: 4}},
		{plain("Power"), only(api.OK)}, {read(1, 0), sector(0)}, {advance('L'), answer{count: 1}}, {plain("Cell"), answer{cell: api.Cell{Count: 1, Label: tag('L')}}},
		{read(2, 0), only(api.ErrArg)}, {read(0, 4), only(api.ErrArg)}, {write(0, 0, 1), only(api.OK)}, {flush(0), only(api.OK)}, {plain("Count"), answer{n: 11}},
	} {
		if got := do(b, x.a); got != x.want {
			t.Errorf("%d: %s(%d, %d): %v, want %v", i, x.a.call, x.a.m, x.a.i, got, x.want)
		}
	}
}

// The numbers of kinds, and of what an entry is of, are the chapter's.
func TestNumbersAreTheChapters(t *testing.T) {
	kinds := []int{bus.Set, bus.Mark, bus.Back, bus.Fail, bus.Heal, bus.Crash}
	if !slices.Equal(kinds, []int{1, 2, 3, 4, 5, 6}) {
		t.Errorf("the kinds are %v", kinds)
	}
	dos := []int{bus.DoRead, bus.DoWrite, bus.DoFlush, bus.DoCell, bus.DoAdvance}
	if !slices.Equal(dos, []int{1, 2, 3, 4, 5}) {
		t.Errorf("what entries are of is %v", dos)
	}
}

// P13.1: as many members as may be; a new bus has done nothing, and its power is there.
func TestNew(t *testing.T) {
	for many := 1; many <= 64; many++ {
		members := disks(t, slices.Repeat([]int{2}, many)...)
		x := over(t, members, trusted(t, 5))
		x.checkIs()
		if x.b.Members() != many || x.b.Count() != 0 || x.b.Off() || len(x.b.Log()) != 0 {
			t.Errorf("a new bus of %d: %d members, %d I/Os, off %t, log %v", many, x.b.Members(), x.b.Count(), x.b.Off(), x.b.Log())
		}
		x.do(write(many-1, 1, 7), read(many-1, 1), read(many, 1), read(0, 1), flush(many-1), flush(many))
	}
}

// checkNoBus holds that New makes none, with that error.
func checkNoBus(t *testing.T, members []*member.Member, c *cell.Cell, want api.Errno) {
	t.Helper()
	for _, steps := range [][]bus.Step{nil, {set(0, 0, 0, 1), crash(1)}} {
		if b, e := bus.New(members, c, steps); b != nil || e != want {
			t.Errorf("New of %d members: %v, %d, want %d", len(members), b, e, want)
		}
	}
}

// P13.1: none, and too many, are ErrArg.
func TestNewOfTooFewOrTooManyMembers(t *testing.T) {
	c := trusted(t, 0)
	for _, many := range []int{65, 66, 128, 1000} {
		checkNoBus(t, disks(t, slices.Repeat([]int{1}, many)...), c, api.ErrArg)
	}
	checkNoBus(t, nil, c, api.ErrArg)
	checkNoBus(t, []*member.Member{}, c, api.ErrArg)
}

// P13.1: what its package did not make is ErrNil, whatever else there is.
func TestNewOfWhatIsNone(t *testing.T) {
	c := trusted(t, 0)
	refused, _ := cell.New(api.Cell{Count: 1<<62 + 1})
	for _, many := range []int{1, 2, 63, 64, 65, 100} {
		good := disks(t, slices.Repeat([]int{1}, many)...)
		for i := range good {
			for _, none := range []*member.Member{nil, {}} {
				bad := slices.Clone(good)
				bad[i] = none
				checkNoBus(t, bad, c, api.ErrNil)
				checkNoBus(t, bad, nil, api.ErrNil)
			}
		}
		for _, none := range []*cell.Cell{nil, {}, refused} {
			checkNoBus(t, good, none, api.ErrNil)
		}
	}
	for _, none := range []*cell.Cell{nil, {}} {
		checkNoBus(t, nil, none, api.ErrNil)
	}
}

// P13.1: failing members, and a cell at its end, are ones that their packages made.
func TestNewOfMembersThatFail(t *testing.T) {
	members := disks(t, 2, 2)
	members[0].Fail(true)
	members[1].Write(0, full(3))
	x := over(t, members, trusted(t, 1<<62))
	x.do(read(0, 0), read(1, 0), write(0, 0, 1), flush(0), flush(1), plain("Cell"), advance(2), plain("Cell"))
}

// P13.1: the members and the cell are these very ones: what is done to them elsewhere is seen over the bus, and the other way round.
func TestABusIsOfTheseVeryMembers(t *testing.T) {
	members, c := disks(t, 2, 2), trusted(t, 3)
	b := made(t, members, c)
	members[1].Write(1, full(5))
	if s, e := b.Read(1, 1); s != full(5) || e != api.OK {
		t.Errorf("Read: %.4x, %d", s, e)
	}
	b.Write(0, 1, full(6))
	if s, _ := members[0].Read(1); s != full(6) || members[0].Unflushed() != 1 {
		t.Errorf("the member has %.4x, and %d unflushed", s, members[0].Unflushed())
	}
	b.Flush(0)
	if s, _ := members[0].Look(1); s != full(6) || members[1].Unflushed() != 1 {
		t.Errorf("durable is %.4x; the other one has %d unflushed", s, members[1].Unflushed())
	}
	c.Advance(tag(4))
	if got, e := b.Cell(); got != (api.Cell{Count: 4, Label: tag(4)}) || e != api.OK {
		t.Errorf("Cell: %v, %d", got, e)
	}
	b.Advance(tag(5))
	if got, _ := c.Read(); got != (api.Cell{Count: 5, Label: tag(5)}) {
		t.Errorf("the cell holds %v", got)
	}
}

// P13.1: New itself does nothing to members and cell, though there are steps.
func TestNewDoesNothing(t *testing.T) {
	members, c := disks(t, 2), trusted(t, 3)
	members[0].Write(0, full(1))
	want, held := imageOf(members[0]), c.History()
	made(t, members, c, set(0, 0, 0, 9), mark(0, 0), fail(0, 0), crash(0), set(-1, 0, 1, 9))
	if got := imageOf(members[0]); !reflect.DeepEqual(got, want) || !slices.Equal(c.History(), held) {
		t.Errorf("the member is %v, want %v; the cell held %v", got, want, c.History())
	}
}

// P13.6: the lists of members and of steps, and the picks of these, are neither changed nor kept.
func TestWhatIsHandedInIsNotKept(t *testing.T) {
	members, others := disks(t, 3, 3), disks(t, 3, 3)
	picks := []byte{0, 1, 0}
	steps := []bus.Step{set(4, 0, 2, 7), crash(3, picks...), mark(0, 0)}
	steps[1].Picks = picks
	was := slices.Clone(steps)
	handed := slices.Clone(members)
	b := made(t, handed, trusted(t, 0), steps...)
	if !slices.Equal(handed, members) || !reflect.DeepEqual(steps, was) {
		t.Errorf("New changed the members or the steps: %v", steps)
	}
	copy(handed, others)
	copy(picks, []byte{1, 0, 1})
	clear(steps)
	for i := range 3 {
		b.Write(0, i, full(byte(i+1)))
	}
	if e := b.Flush(0); e != api.ErrOff {
		t.Errorf("Flush: %d", e)
	}
	b.Power()
	for i, c := range []byte{0, 2, 7} {
		if s, _ := b.Read(0, i); s != full(c) {
			t.Errorf("sector %d: %.4x, want %d", i, s, c)
		}
	}
	if !slices.Equal(picks, []byte{1, 0, 1}) || !reflect.DeepEqual(steps, make([]bus.Step, 3)) || !slices.Equal(handed, others) {
		t.Error("what was handed in is changed later")
	}
	if others[0].Touched() || !members[0].Touched() || members[0].Back(0) != api.OK {
		t.Error("the steps are done to others")
	}
}

// P13.1: steps that were not changed are left as they are, as are their picks.
func TestStepsAreLeftAsTheyAre(t *testing.T) {
	steps := []bus.Step{crash(2, 1, 0, 255), set(0, 0, 1, 3), back(1, 0, 0)}
	b := made(t, disks(t, 2), trusted(t, 0), steps...)
	b.Write(0, 0, full(1))
	b.Write(0, 1, full(1))
	b.Flush(0)
	if want := []bus.Step{crash(2, 1, 0, 255), set(0, 0, 1, 3), back(1, 0, 0)}; !reflect.DeepEqual(steps, want) {
		t.Errorf("the steps are now %v", steps)
	}
}

// P13.6: a log is new memory, to its whole capacity; what comes later is not seen in it.
func TestALogIsNewMemory(t *testing.T) {
	x := fresh(t)
	for n := range 40 {
		first, second := x.b.Log(), x.b.Log()
		for i := range first[:cap(first)] {
			first[:cap(first)][i] = bus.Entry{Do: 77, Member: 77}
		}
		if !slices.Equal(second, x.p.log) {
			t.Fatalf("a log shares another one's memory: %v", second)
		}
		x.do(write(n%2, n%3, byte(n)))
		for i := range first[:cap(first)] {
			if first[:cap(first)][i].Do != 77 {
				t.Fatalf("an I/O writes into a log that was told, at %d", i)
			}
		}
		if len(second) != n || n > 0 && second[n-1] != x.p.log[n-1] {
			t.Fatalf("a log changes later: %v", second)
		}
	}
}

// P13.6: sectors and labels are values: changed behind a call, they change nothing.
func TestSectorsAndLabelsAreValues(t *testing.T) {
	x := fresh(t)
	s, label := full(3), tag(4)
	if e := x.b.Write(0, 0, s); e != api.OK {
		t.Fatal(e)
	}
	x.p.do(write(0, 0, 3))
	clear(s[:])
	x.do(read(0, 0))
	x.b.Advance(label)
	x.p.do(advance(4))
	clear(label[:])
	x.do(plain("Cell"), read(0, 0))
}

// P13.2: what each I/O answers, with the power there: as the member's, the cell's call, but ErrArg without a member.
func TestIOsAnswerAsTheirCalls(t *testing.T) {
	numbers := []int{-1, 0, 1, 2, 3, 4, 5, 63, 64, 1 << 16, 1<<31 - 1, 1 << 31, 1 << 32, math.MaxInt, math.MinInt, math.MinInt + 1}
	members := disks(t, 4, 3)
	members[0].Write(3, full(9))
	members[1].Set(2, full(8))
	for _, failing := range [][2]bool{{}, {true, false}, {false, true}, {true, true}} {
		for i, on := range failing {
			members[i].Fail(on)
		}
		x := over(t, members, trusted(t, 1<<62-3))
		for _, call := range calls() {
			for _, m := range numbers {
				for _, i := range numbers {
					x.say(act{call: call, m: m, i: i, s: full(byte(m)), label: tag(byte(i))})
				}
			}
			x.checkIs()
		}
	}
}

// P13.2: an entry of each call, for each thing that may come of it, spelt out.
func TestEntries(t *testing.T) {
	b := made(t, disks(t, 2, 2), trusted(t, 1<<62-1), fail(9, 1), crash(12))
	label := padded(tag(6))
	for i, x := range []struct {
		a    act
		want bus.Entry
	}{
		{write(1, 1, 5), bus.Entry{Do: bus.DoWrite, Member: 1, Index: 1, Data: full(5)}},
		{read(1, 1), bus.Entry{Do: bus.DoRead, Member: 1, Index: 1, Data: full(5)}},
		{flush(1), bus.Entry{Do: bus.DoFlush, Member: 1}},
		{plain("Cell"), bus.Entry{Do: bus.DoCell, Data: padded(tag(1))}},
		{act{call: "Advance", m: 1, i: 1, label: tag(6)}, bus.Entry{Do: bus.DoAdvance, Data: label}},
		{act{call: "Advance", label: tag(6)}, bus.Entry{Do: bus.DoAdvance, Data: label, Err: api.ErrCount}},
		{read(-7, -8), bus.Entry{Do: bus.DoRead, Member: -7, Index: -8, Err: api.ErrArg}},
		{write(1<<40, 1<<41, 4), bus.Entry{Do: bus.DoWrite, Member: 1 << 40, Index: 1 << 41, Data: full(4), Err: api.ErrArg}},
		{write(1, 2, 4), bus.Entry{Do: bus.DoWrite, Member: 1, Index: 2, Data: full(4), Err: api.ErrArg}},
		{read(1, 1), bus.Entry{Do: bus.DoRead, Member: 1, Index: 1, Err: api.ErrIO}},
		{write(1, 1, 4), bus.Entry{Do: bus.DoWrite, Member: 1, Index: 1, Data: full(4), Err: api.ErrIO}},
		{flush(1), bus.Entry{Do: bus.DoFlush, Member: 1, Err: api.ErrIO}},
		{flush(-2), bus.Entry{Do: bus.DoFlush, Member: -2, Err: api.ErrOff}},
		{read(1, 1), bus.Entry{Do: bus.DoRead, Member: 1, Index: 1, Err: api.ErrOff}},
		{write(0, 1, 4), bus.Entry{Do: bus.DoWrite, Index: 1, Data: full(4), Err: api.ErrOff}},
		{plain("Cell"), bus.Entry{Do: bus.DoCell, Err: api.ErrOff}},
		{act{call: "Advance", label: tag(6)}, bus.Entry{Do: bus.DoAdvance, Data: label, Err: api.ErrOff}},
	} {
		do(b, x.a)
		l := b.Log()
		if len(l) != i+1 || l[i] != x.want {
			t.Fatalf("behind %s the log is %v, want %v last", x.a.call, l, x.want)
		}
	}
}

// P13.3: looks and Power are no I/Os: no step is done, and nothing is logged.
func TestLooksAreNoIOs(t *testing.T) {
	x := fresh(t, set(0, 0, 0, 1), crash(1), set(2, 1, 1, 1))
	for range 4 {
		for range 3 {
			x.do(plain("Members"), plain("Count"), plain("Off"))
			for m := -1; m < 4; m++ {
				x.do(act{call: "Sectors", m: m})
			}
			x.b.Log()
			x.checkIs()
		}
		x.do(read(0, 0))
		x.do(plain("Power"), plain("Power"))
	}
}

// P13.3: how many sectors each member has; 0 of none.
func TestSectors(t *testing.T) {
	sizes := []int{1, 54, 1 << 16, 2, 63}
	b := made(t, disks(t, sizes...), trusted(t, 0))
	for m, n := range sizes {
		if b.Sectors(m) != n {
			t.Errorf("Sectors(%d) = %d", m, b.Sectors(m))
		}
	}
	for _, m := range []int{-1, 5, 6, 64, math.MaxInt, math.MinInt} {
		if b.Sectors(m) != 0 {
			t.Errorf("Sectors(%d) = %d", m, b.Sectors(m))
		}
	}
}

// P13.2: each I/O counts, whatever comes of it.
func TestEachIOCounts(t *testing.T) {
	x := fresh(t, crash(9))
	for n, a := range []act{read(0, 0), read(9, 0), write(0, 0, 1), write(0, 9, 1), flush(0), flush(-1), plain("Cell"), advance(1), read(0, 9), read(0, 0), write(0, 0, 1), flush(0), plain("Cell"), advance(2)} {
		x.do(a)
		if x.b.Count() != n+1 || x.b.Off() != (n >= 9) {
			t.Errorf("behind %d I/Os: Count %d, off %t", n+1, x.b.Count(), x.b.Off())
		}
	}
}

// worn is two members with all that one may have: unflushed writes, marks, what is durable.
func worn(t *testing.T) []*member.Member {
	l := disks(t, 4, 3)
	for k, m := range l {
		m.Write(0, full(byte(10+k)))
		m.Mark()
		m.Flush()
		m.Write(1, full(byte(20+k)))
		m.Mark()
		m.Write(0, full(byte(30+k)))
		m.Write(2, full(byte(40+k)))
	}
	return l
}

// oneOfEach is a step of each kind, good ones and such that do nothing.
func oneOfEach(at int) []bus.Step {
	l := []bus.Step{
		set(at, 0, 1, 99), set(at, 1, 0, 0), set(at, 0, 3, 98), set(at, 1, 3, 97), set(at, 0, -1, 96), set(at, 0, math.MaxInt, 95),
		mark(at, 0), mark(at, 1), back(at, 0, 0), back(at, 1, 1), back(at, 0, 2), back(at, 0, -1), back(at, 1, math.MinInt),
		fail(at, 0), fail(at, 1), heal(at, 0), heal(at, 1), crash(at), crash(at, 1), crash(at, 0, 0, 1, 0, 1), crash(at, 255, 254, 253, 252, 251, 250, 249, 248),
	}
	for _, m := range []int{-1, 2, 3, 64, math.MaxInt, math.MinInt} {
		l = append(l, set(at, m, 0, 94), mark(at, m), back(at, m, 0), fail(at, m), heal(at, m))
	}
	for _, kind := range []int{0, -1, 7, 8, 100, math.MaxInt, math.MinInt} {
		l = append(l, bus.Step{At: at, Kind: kind, Index: 1, Data: full(93), Picks: []byte{1, 0, 1}})
	}
	return l
}

// P13.2: each kind of step, ahead of each call, on members that fail or not: just what its member's call does.
func TestEachStep(t *testing.T) {
	ios := []act{read(0, 1), read(1, 0), write(0, 1, 50), flush(1), plain("Cell"), advance(3), read(2, 0)}
	for _, failing := range []bool{false, true} {
		members := worn(t)
		members[0].Fail(failing)
		members[0].Clean()
		for _, s := range oneOfEach(0) {
			for _, a := range ios {
				x := over(t, members, trusted(t, 0), s)
				x.do(a, read(0, 1), read(1, 0), plain("Power"), read(0, 1), flush(0), read(1, 0))
			}
		}
	}
}

// P13.2: a step of each kind, spelt out.
func TestWhatStepsLeave(t *testing.T) {
	for i, x := range []struct {
		steps          []bus.Step
		seen           [3]byte
		fails, touched bool
		e              api.Errno
	}{
		{nil, [3]byte{1, 2, 3}, false, false, api.OK},
		{[]bus.Step{set(1, 1, 0, 9)}, [3]byte{9, 2, 3}, false, true, api.OK},
		{[]bus.Step{mark(1, 1)}, [3]byte{1, 2, 3}, false, false, api.OK},
		{[]bus.Step{mark(1, 1), set(1, 1, 2, 9), back(1, 1, 0)}, [3]byte{1, 2, 3}, false, true, api.OK},
		{[]bus.Step{mark(0, 1), set(1, 1, 2, 9), back(1, 1, 0)}, [3]byte{1, 2, 3}, false, true, api.OK},
		{[]bus.Step{back(1, 1, 0)}, [3]byte{1, 2, 3}, false, false, api.OK},
		{[]bus.Step{fail(1, 1)}, [3]byte{1, 2, 3}, true, true, api.ErrIO},
		{[]bus.Step{fail(1, 1), heal(1, 1)}, [3]byte{1, 2, 3}, false, true, api.OK},
		{[]bus.Step{heal(1, 1), fail(1, 1)}, [3]byte{1, 2, 3}, true, true, api.ErrIO},
		{[]bus.Step{fail(0, 1), heal(1, 1)}, [3]byte{1, 2, 3}, false, true, api.OK},
		{[]bus.Step{crash(1)}, [3]byte{}, false, false, api.ErrOff},
		{[]bus.Step{crash(1, 0, 1, 0)}, [3]byte{0, 2, 0}, false, false, api.ErrOff},
		{[]bus.Step{fail(1, 1), crash(1, 1)}, [3]byte{1, 0, 0}, true, true, api.ErrOff},
	} {
		members := disks(t, 3, 3)
		for s := range 3 {
			members[1].Write(s, full(byte(s+1)))
		}
		b := made(t, members, trusted(t, 0), x.steps...)
		b.Cell()
		_, e := b.Read(1, 0)
		got := imageOf(members[1])
		if want := []api.Sector{full(x.seen[0]), full(x.seen[1]), full(x.seen[2])}; !slices.Equal(got.seen, want) || got.fails != x.fails || got.touched != x.touched || e != x.e {
			t.Errorf("%d: seen %.2x, fails %t, touched %t, Read %d", i, got.seen, got.fails, got.touched, e)
		}
	}
}

// P13.1, P13.2: all steps of one number are done, in order, and those of other numbers are not, however they stand in the list.
func TestStepsGoInOrder(t *testing.T) {
	x := fresh(t, set(1, 0, 0, 1), set(0, 0, 0, 2), set(1, 0, 0, 3), set(3, 0, 0, 4), set(0, 0, 0, 5), set(2, 0, 0, 6), set(1, 0, 0, 7))
	for n, c := range []byte{5, 7, 6, 4, 4, 4} {
		if got := x.say(read(0, 0)); got != sector(c) {
			t.Errorf("I/O %d: %v", n, got)
		}
	}
	y := fresh(t, mark(0, 0), set(0, 0, 0, 1), mark(0, 0), set(0, 0, 0, 2), back(0, 0, 1), set(0, 0, 1, 3), fail(0, 0), heal(0, 0))
	y.do(read(0, 0), read(0, 1))
	if got := y.say(read(0, 0)); got != sector(1) {
		t.Errorf("Read: %v", got)
	}
}

// P13.2: a step is done once, though its number is looked at again by looks.
func TestAStepIsDoneOnce(t *testing.T) {
	x := fresh(t, set(2, 0, 0, 9))
	x.do(read(0, 0), read(0, 0), write(0, 0, 5), read(0, 0), plain("Count"), read(0, 0))
	if got := x.say(read(0, 0)); got != sector(5) {
		t.Errorf("Read: %v", got)
	}
}

// P13.2: a step that is done is not kept any more; looks, and Power, leave those that are still to come.
func TestStepsThatAreDoneGo(t *testing.T) {
	b := made(t, disks(t, 4, 3), trusted(t, 0), set(1, 0, 0, 1), crash(1), mark(0, 1), set(3, 0, 0, 1), bus.Step{At: 3, Kind: 9})
	for n, left := range []int{4, 2, 2, 0, 0} {
		b.Cell()
		b.Power()
		b.Log()
		if got := bus.StepsLeft(b); got != left {
			t.Errorf("behind the I/O %d there are %d steps, want %d", n, got, left)
		}
	}
}

// P13.4: a step whose number never comes does nothing.
func TestStepsWhoseNumberNeverComes(t *testing.T) {
	var steps []bus.Step
	for _, at := range []int{-1, -2, -64, math.MinInt, math.MaxInt, 1 << 40, 9, 10, 1000} {
		steps = append(steps, set(at, 0, 0, 9), fail(at, 1), crash(at, 1), mark(at, 0))
	}
	x := fresh(t, steps...)
	for range 3 {
		x.do(read(0, 0), write(1, 1, 4), flush(1))
	}
	if x.b.Off() || x.members[0].Touched() || x.members[1].Touched() {
		t.Error("a step was done")
	}
	x.do(read(1, 1))
	if !x.b.Off() {
		t.Error("the step of the number 9 was not done")
	}
}

// P13.2: the picks are shared by the unflushed writes of all, member by member, for all picks of up to eight bytes over six writes.
func TestACrashSharesThePicks(t *testing.T) {
	writes := []act{write(2, 0, 1), write(0, 0, 2), write(2, 1, 3), write(0, 1, 4), write(0, 0, 5), write(3, 1, 6)}
	// By members, and in order: what each of the six writes was.
	dealt := []act{writes[1], writes[3], writes[4], writes[0], writes[2], writes[5]}
	for many := range 9 {
		for bits := range 1 << many {
			picks := make([]byte, many)
			for k := range picks {
				picks[k] = byte(bits >> k & 1 * (k + 1))
			}
			x := over(t, disks(t, 2, 2, 2, 2), trusted(t, 0), crash(6, picks...))
			want := make([]api.Sector, 8)
			for k, a := range dealt {
				if k < many && picks[k] != 0 {
					want[2*a.m+a.i] = a.s
				}
			}
			for _, a := range writes {
				x.say(a)
			}
			x.say(plain("Cell"))
			var got []api.Sector
			for _, m := range x.members {
				got = append(got, imageOf(m).durable...)
			}
			if !slices.Equal(got, want) {
				t.Fatalf("picks %v: durable %.2x, want %.2x", picks, got, want)
			}
			x.checkIs()
		}
	}
}

// P13.2: members without unflushed writes, and failing ones, are dealt with like all others.
func TestACrashOfFailingMembers(t *testing.T) {
	for _, picks := range [][]byte{nil, {}, {1}, {0, 1}, {1, 1, 0}, {0, 0, 0, 1}, {9, 9, 9, 9, 9, 9}} {
		x := over(t, disks(t, 2, 2, 2), trusted(t, 0), fail(3, 0), crash(4, picks...), heal(6, 0))
		x.do(write(0, 0, 1), write(2, 1, 2), write(0, 1, 3), write(0, 0, 4), read(2, 1), plain("Power"), read(0, 0), read(0, 0), read(2, 1))
	}
	x := over(t, disks(t, 2, 2, 2), trusted(t, 0), crash(4, 1, 0, 1, 1), crash(7, 1))
	x.do(write(1, 0, 1), write(0, 1, 2), flush(0), write(2, 0, 3), read(1, 0), plain("Power"), read(1, 0), write(2, 1, 4), flush(2), plain("Power"), read(2, 1), read(2, 0))
}

// P13.2: a crash is of all members, whatever Member its step has.
func TestACrashIsOfAllMembers(t *testing.T) {
	for _, m := range []int{-1, 0, 1, 2, 64, math.MaxInt, math.MinInt} {
		s := crash(2, 0, 1)
		s.Member, s.Index, s.N, s.Data = m, m, m, full(9)
		x := fresh(t, s).do(write(0, 0, 1), write(1, 1, 2), read(0, 0), plain("Power"), read(0, 0), read(1, 1))
		if got := x.say(read(1, 1)); got != sector(2) || x.members[0].Touched() || x.members[1].Touched() {
			t.Errorf("Member %d: %v", m, got)
		}
	}
}

// P13.2: one behind the other: two crashes at one number; the second one finds nothing that is unflushed, but the power gone.
func TestACrashBehindACrash(t *testing.T) {
	x := fresh(t, crash(2, 1), crash(2, 1, 1), crash(3), crash(5, 1))
	x.do(write(0, 0, 1), write(0, 1, 2), read(0, 0), read(0, 0), plain("Power"), write(1, 0, 3), read(1, 0), plain("Power"), read(1, 0), read(0, 1))
}

// P13.1: a member that is there twice has its unflushed writes once.
func TestAMemberThatIsThereTwice(t *testing.T) {
	m := disks(t, 3, 3)
	b := made(t, []*member.Member{m[0], m[0], m[1]}, trusted(t, 0), crash(4, 1, 0, 1))
	b.Write(0, 0, full(1))
	b.Write(1, 1, full(2))
	b.Write(2, 2, full(3))
	if s, _ := b.Read(0, 1); s != full(2) {
		t.Errorf("Read: %.4x", s)
	}
	b.Cell()
	b.Power()
	for i, want := range []byte{1, 0, 0} {
		if s, _ := b.Read(1, i); s != full(want) {
			t.Errorf("sector %d: %.4x", i, s)
		}
	}
	if s, _ := b.Read(2, 2); s != full(3) {
		t.Errorf("the other member: %.4x", s)
	}
}

// P13.5: while the power is gone each I/O is ErrOff, steps are done all the same, and nothing else changes anything; Power has it go on.
func TestThePowerIsGone(t *testing.T) {
	x := fresh(t, crash(2, 1, 0), set(3, 0, 0, 9), fail(4, 1), mark(5, 0), heal(6, 1), back(7, 0, 0), set(9, 1, 1, 8))
	x.do(write(0, 0, 1), write(1, 1, 2))
	for range 3 {
		for _, a := range []act{write(0, 0, 5), flush(0), advance(3), plain("Cell"), read(0, 0), flush(9), write(-1, 0, 1), read(0, 99)} {
			if got := x.say(a); got != only(api.ErrOff) {
				t.Fatalf("%s: %v", a.call, got)
			}
			x.checkIs()
		}
	}
	x.do(plain("Power"), plain("Power"), write(0, 0, 5), read(0, 0), flush(0), advance(3), plain("Cell"))
}

// P13.5: drawn plays with the power gone: without steps members and cell stay as they were.
func TestNoIOChangesAnythingWhileThePowerIsGone(t *testing.T) {
	from := source(1)
	for range 100 {
		x := played(t, from, 10, crash(10, drawnPicks(from)...))
		x.say(read(0, 0))
		if !x.b.Off() {
			t.Fatal("the power is there")
		}
		was, held := imagesOf(x.members), x.cell.History()
		for range 30 {
			a := drawnIO(from)
			if got := x.say(a); got != only(api.ErrOff) {
				t.Fatalf("%s: %v", a.call, got)
			}
		}
		if !reflect.DeepEqual(imagesOf(x.members), was) || !slices.Equal(x.cell.History(), held) {
			t.Fatal("an I/O without power changed something")
		}
	}
}

// P13.5: the cell is changed by Advance alone: it has held just one label more for each that was OK.
func TestTheCellIsChangedByAdvanceAlone(t *testing.T) {
	from := source(2)
	for range 100 {
		steps := drawnSteps(from, 40)
		x := over(t, worn(t), trusted(t, 1<<62-8), steps...)
		want := x.cell.History()
		for range 60 {
			a := drawnAct(from)
			if told := x.say(a); a.call == "Advance" && told.e == api.OK {
				want = append(want, api.Cell{Count: told.count, Label: a.label})
			}
			if !slices.Equal(x.cell.History(), want) {
				t.Fatalf("behind %s the cell held %v, want %v", a.call, x.cell.History(), want)
			}
		}
	}
}

// P13.4: without steps a bus does what members and cell do, though these fail.
func TestABusWithoutSteps(t *testing.T) {
	from := source(3)
	for range 100 {
		x := over(t, worn(t), trusted(t, 1<<62-5))
		for range 40 {
			if from.IntN(8) == 0 {
				m, on := from.IntN(2), from.IntN(2) == 0
				x.members[m].Fail(on)
				x.p.members[m].Fail(on)
			}
			a := drawnIO(from)
			if got, want := do(x.b, a), x.p.done(a); got != want {
				t.Fatalf("%s(%d, %d): %v, want %v", a.call, a.m, a.i, got, want)
			}
			x.p.log = append(x.p.log, x.b.Log()[len(x.p.log)])
			x.checkIs()
		}
	}
}

// P13.7: the writes and flushes of the log that are OK, done again on new members, make them the same.
func TestTheLogTells(t *testing.T) {
	from := source(4)
	for range 100 {
		members := disks(t, 4, 3)
		b := made(t, members, trusted(t, 0))
		for range 100 {
			do(b, drawnAct(from))
		}
		again := disks(t, 4, 3)
		for _, l := range b.Log() {
			switch {
			case l.Err != api.OK:
			case l.Do == bus.DoWrite:
				again[l.Member].Write(l.Index, l.Data)
			case l.Do == bus.DoFlush:
				again[l.Member].Flush()
			}
		}
		if !reflect.DeepEqual(imagesOf(members), imagesOf(again)) {
			t.Fatal("done again, the log makes other members")
		}
	}
}

// P13.8: what a step sets is seen by each I/O from its number on, and by none ahead.
func TestWhatAStepSetsIsSeenFromItsNumberOn(t *testing.T) {
	for at := range 12 {
		for i := range 4 {
			b := made(t, disks(t, 4, 3), trusted(t, 0), set(at, 0, i, 9))
			for n := range 12 {
				want := api.Sector{}
				if n >= at {
					want = full(9)
				}
				if s, e := b.Read(0, i); s != want || e != api.OK {
					t.Fatalf("set at %d, Read of the number %d: %.4x, %d", at, n, s, e)
				}
			}
		}
	}
}

// P13.8: so is what it marks and brings back, and that a member fails.
func TestWhatAStepDoesIsSeenFromItsNumberOn(t *testing.T) {
	for at := range 12 {
		b := made(t, disks(t, 4, 3), trusted(t, 0), fail(at, 1), mark(at, 0), set(at+1, 0, 0, 9), back(at+3, 0, 0), heal(at+2, 1))
		for n := range 16 {
			var want, last answer
			if n == at || n == at+1 {
				want.e = api.ErrIO
			}
			if n == at+1 || n == at+2 {
				last = sector(9)
			}
			a, expected := read(1, 0), want
			if n%2 == at%2 {
				a, expected = read(0, 0), last
			}
			if got := do(b, a); got != expected {
				t.Fatalf("at %d, I/O %d: %v, want %v", at, n, got, expected)
			}
		}
	}
}

// P13.2, on all plays of three acts out of these, ahead of each of which any of these steps is done, and one more at any number.
func TestAllShortPlays(t *testing.T) {
	acts := []act{read(0, 0), read(1, 1), write(0, 0, 1), write(1, 1, 2), flush(0), advance(3), plain("Cell"), plain("Power")}
	steps := []bus.Step{set(0, 0, 0, 4), mark(0, 0), back(0, 0, 0), fail(0, 1), heal(0, 1), crash(0, 0, 1), crash(0, 1), {}}
	for first := range acts {
		for second := range acts {
			for third := range acts {
				for k := range len(steps) * len(steps) * 3 {
					s, more := steps[k/3%len(steps)], steps[k/3/len(steps)]
					s.At, more.At = 2-k%3, 2
					x := fresh(t, s, more)
					x.say(acts[first])
					x.say(acts[second])
					x.say(acts[third])
					x.say(read(0, 0))
					x.say(read(1, 1))
					if !slices.Equal(x.b.Log(), x.p.log) {
						t.Fatalf("the log is %v, want %v", x.b.Log(), x.p.log)
					}
				}
			}
		}
	}
}

// drawnIO draws an I/O on members of 4 and of 3 sectors; writes come more often than others.
func drawnIO(from *rand.Rand) act {
	a := act{call: calls()[from.IntN(5)], m: from.IntN(2), i: from.IntN(4), s: full(byte(from.IntN(200))), label: tag(byte(from.IntN(200)))}
	switch from.IntN(10) {
	case 0:
		a.m = from.IntN(5) - 1
	case 1:
		a.i = from.IntN(7) - 1
	case 2, 3, 4:
		a.call = "Write"
	}
	return a
}

// drawnAct draws an I/O, or now and then another call.
func drawnAct(from *rand.Rand) act {
	a := drawnIO(from)
	switch from.IntN(12) {
	case 0:
		a.call = calls()[from.IntN(len(calls()))]
	case 1, 2, 3:
		a.call = "Power"
	}
	return a
}

// drawnPicks draws up to nine picks.
func drawnPicks(from *rand.Rand) []byte {
	picks := make([]byte, from.IntN(10))
	for k := range picks {
		picks[k] = byte(from.IntN(256) * from.IntN(2))
	}
	return picks
}

// drawnSteps draws many steps whose numbers are below that one, or -1, in no order.
func drawnSteps(from *rand.Rand, below int) (l []bus.Step) {
	for range from.IntN(below) {
		l = append(l, bus.Step{At: from.IntN(below+1) - 1, Kind: from.IntN(8), Member: from.IntN(2), Index: from.IntN(5), N: from.IntN(3), Data: full(byte(200 + from.IntN(50))), Picks: drawnPicks(from)})
		if s := &l[len(l)-1]; from.IntN(10) == 0 {
			s.Member, s.Index, s.N = from.IntN(5)-1, from.IntN(7)-1, from.IntN(5)-1
		}
	}
	return l
}

// played is a bench, of such steps, on which many drawn I/Os were done.
func played(t *testing.T, from *rand.Rand, many int, steps ...bus.Step) *bench {
	t.Helper()
	x := fresh(t, steps...)
	for range many {
		x.say(drawnIO(from))
	}
	x.checkIs()
	return x
}

// P13.1 to P13.3: long plays of drawn acts and steps go as on the paper.
func TestPlaysByTheChaptersWords(t *testing.T) {
	from := source(5)
	for range 150 {
		x := over(t, worn(t), trusted(t, 1<<62-uint64(from.IntN(20))), drawnSteps(from, 50)...)
		for range 60 {
			x.do(drawnAct(from))
		}
	}
}

// P13.2: many members, many steps, and many I/Os.
func TestManyOfAll(t *testing.T) {
	from := source(6)
	const many = 20000
	var steps []bus.Step
	for at := range many {
		steps = append(steps, set(at, at%64, at%3, byte(at)), bus.Step{At: at, Kind: bus.Heal, Member: at})
	}
	from.Shuffle(len(steps), func(i, k int) { steps[i], steps[k] = steps[k], steps[i] })
	b := made(t, disks(t, slices.Repeat([]int{3}, 64)...), trusted(t, 0), steps...)
	for n := range many {
		if s, e := b.Read(n%64, n%3); s != full(byte(n)) || e != api.OK {
			t.Fatalf("I/O %d: %.4x, %d", n, s, e)
		}
	}
	for n, l := range b.Log() {
		if want := (bus.Entry{Do: bus.DoRead, Member: n % 64, Index: n % 3, Data: full(byte(n))}); l != want {
			t.Fatalf("entry %d: %v", n, l)
		}
	}
	if b.Count() != many {
		t.Errorf("Count: %d", b.Count())
	}
}

// P13.2: a crash of 64 members shares as many picks as there are.
func TestACrashOfManyMembers(t *testing.T) {
	const each = 50
	picks := make([]byte, 64*each+7)
	for k := range picks {
		picks[k] = byte(k % 3)
	}
	b := made(t, disks(t, slices.Repeat([]int{each}, 64)...), trusted(t, 0), crash(64*each, picks...))
	for i := range each {
		for m := range 64 {
			b.Write(m, i, full(7))
		}
	}
	if e := b.Flush(0); e != api.ErrOff {
		t.Fatalf("Flush: %d", e)
	}
	b.Power()
	for m := range 64 {
		for i := range each {
			want := api.Sector{}
			if (m*each+i)%3 != 0 {
				want = full(7)
			}
			if s, e := b.Read(m, i); s != want || e != api.OK {
				t.Fatalf("member %d, sector %d: %.4x, %d", m, i, s, e)
			}
		}
	}
}

// P13.1 and R3: nil, and what New did not make, answers ErrNil, or what is zero, and stays as it is.
func TestBusesThatNewDidNotMake(t *testing.T) {
	refused, _ := bus.New(nil, trusted(t, 0), nil)
	for i, b := range []*bus.Bus{nil, {}, refused} {
		for range 3 {
			for _, call := range calls() {
				var want answer
				if slices.Contains([]string{"Read", "Write", "Flush", "Cell", "Advance", "Power"}, call) {
					want.e = api.ErrNil
				}
				for _, m := range []int{0, 1, -1, math.MaxInt, math.MinInt} {
					if got := do(b, act{call: call, m: m, i: m, s: full(3), label: tag(3)}); got != want {
						t.Errorf("%d: %s(%d): %v", i, call, m, got)
					}
				}
			}
			if l := b.Log(); len(l) != 0 {
				t.Errorf("%d: Log: %v", i, l)
			}
		}
		if b != nil && !reflect.ValueOf(b).Elem().IsZero() {
			t.Errorf("%d: something was done to it", i)
		}
	}
}

// P13.6, R1: any arguments, with any steps, at any state.
func TestNoCallPanics(t *testing.T) {
	numbers := []int{0, 1, 2, 3, 63, 64, 65, -1, -64, 1 << 16, 1<<31 - 1, 1 << 31, 1 << 32, math.MaxInt, math.MinInt}
	var steps []bus.Step
	for at := range 40 {
		for k, n := range numbers {
			steps = append(steps, bus.Step{At: at, Kind: (at + k) % 9, Member: n, Index: n, N: n}, bus.Step{At: n, Kind: n, Member: at % 3})
		}
		steps = append(steps, crash(at, make([]byte, at)...))
	}
	x := over(t, worn(t), trusted(t, 1<<62-2), steps...)
	for _, call := range calls() {
		for _, m := range numbers {
			for _, i := range numbers {
				x.say(act{call: call, m: m, i: i, s: full(0xEE), label: tag(0xEE)})
				if m == 1 {
					x.say(plain("Power"))
				}
			}
		}
		x.checkIs()
	}
	y := fresh(t, crash(1, make([]byte, 1<<24)...))
	y.do(write(0, 0, 1), read(0, 0))
}

// P13.2: marks of steps are made up to 64; behind that a step of Mark does nothing.
func TestAStepOfMarkWhenTheMarksAreFull(t *testing.T) {
	var steps []bus.Step
	for range 70 {
		steps = append(steps, mark(1, 0))
	}
	x := fresh(t, append(steps, back(2, 0, 64), set(3, 0, 0, 9), back(4, 0, 63))...)
	x.do(write(0, 0, 1), read(0, 0), read(0, 0))
	if x.members[0].Touched() {
		t.Error("there is a mark of the number 64")
	}
	x.do(read(0, 0), read(0, 0))
	if got := x.say(read(0, 0)); got != sector(1) {
		t.Errorf("Read: %v", got)
	}
}

// A bus is the only way: it shows nothing that others could set.
func TestABusShowsNoFields(t *testing.T) {
	of := reflect.TypeFor[bus.Bus]()
	for i := range of.NumField() {
		if of.Field(i).IsExported() {
			t.Errorf("%s can be set by others", of.Field(i).Name)
		}
	}
}

// answers is all that a play tells, up to its end.
func answers(seed byte) []answer {
	from := source(seed)
	var members []*member.Member
	for range 3 {
		m, _ := member.New(3)
		members = append(members, m)
	}
	c, _ := cell.New(api.Cell{})
	b, _ := bus.New(members, c, drawnSteps(from, 100))
	var l []answer
	for range 200 {
		l = append(l, do(b, drawnAct(from)))
	}
	for _, x := range b.Log() {
		l = append(l, answer{n: x.Do, s: x.Data, e: x.Err})
	}
	return l
}

// R6: the same calls have the same answers, whatever is done to other buses meanwhile.
func TestAnswersHangOnWhatWasDoneAlone(t *testing.T) {
	want := answers(7)
	all := make([][]answer, 8)
	var done sync.WaitGroup
	for i := range all {
		done.Go(func() { all[i] = answers(byte(7 + i%2)) })
	}
	done.Wait()
	for i := 0; i < len(all); i += 2 {
		if !slices.Equal(all[i], want) {
			t.Errorf("play %d has other answers", i)
		}
	}
	if slices.Equal(all[1], want) {
		t.Error("another play has the same answers")
	}
}

// fieldsOf tells the names and types of a struct's fields, in order.
func fieldsOf(of reflect.Type) string {
	var l []string
	for i := range of.NumField() {
		l = append(l, of.Field(i).Name+" "+of.Field(i).Type.String())
	}
	return strings.Join(l, ", ")
}

// The types and calls are as the chapter lists them.
func TestTypesAndCallsAreAsListed(t *testing.T) {
	if got := fieldsOf(reflect.TypeFor[bus.Step]()); got != "At int, Kind int, Member int, Index int, N int, Data api.Sector, Picks []uint8" {
		t.Errorf("a step has %s", got)
	}
	if got := fieldsOf(reflect.TypeFor[bus.Entry]()); got != "Do int, Member int, Index int, Data api.Sector, Err api.Errno" {
		t.Errorf("an entry has %s", got)
	}
	var (
		_ func(members []*member.Member, c *cell.Cell, steps []bus.Step) (*bus.Bus, api.Errno) = bus.New
		_ func(b *bus.Bus) int                                                                 = (*bus.Bus).Members
		_ func(b *bus.Bus, m int) int                                                          = (*bus.Bus).Sectors
		_ func(b *bus.Bus, m, i int) (api.Sector, api.Errno)                                   = (*bus.Bus).Read
		_ func(b *bus.Bus, m, i int, s api.Sector) api.Errno                                   = (*bus.Bus).Write
		_ func(b *bus.Bus, m int) api.Errno                                                    = (*bus.Bus).Flush
		_ func(b *bus.Bus) (api.Cell, api.Errno)                                               = (*bus.Bus).Cell
		_ func(b *bus.Bus, label api.Tag) (uint64, api.Errno)                                  = (*bus.Bus).Advance
		_ func(b *bus.Bus) int                                                                 = (*bus.Bus).Count
		_ func(b *bus.Bus) bool                                                                = (*bus.Bus).Off
		_ func(b *bus.Bus) api.Errno                                                           = (*bus.Bus).Power
		_ func(b *bus.Bus) []bus.Entry                                                         = (*bus.Bus).Log
	)
}
