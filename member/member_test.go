package member_test

import (
	"math"
	"math/rand/v2"
	"slices"
	"sync"
	"testing"

	"casemate/api"
	"casemate/member"
)

// act is a call of a member, and what it is told.
type act struct {
	call  string
	n     int
	s     api.Sector
	picks []byte
	on    bool
}

// answer is what a call tells; what it does not tell is zero.
type answer struct {
	n  int
	s  api.Sector
	on bool
	e  api.Errno
}

// do calls m.
func do(m *member.Member, a act) (told answer) {
	switch a.call {
	case "Read":
		told.s, told.e = m.Read(a.n)
	case "Write":
		told.e = m.Write(a.n, a.s)
	case "Flush":
		told.e = m.Flush()
	case "Crash":
		told.e = m.Crash(a.picks)
	case "Set":
		told.e = m.Set(a.n, a.s)
	case "Mark":
		told.n, told.e = m.Mark()
	case "Back":
		told.e = m.Back(a.n)
	case "Fail":
		told.e = m.Fail(a.on)
	case "Look":
		told.s, told.e = m.Look(a.n)
	case "Touched":
		told.on = m.Touched()
	case "Clean":
		m.Clean()
	case "Len":
		told.n = m.Len()
	case "Unflushed":
		told.n = m.Unflushed()
	}
	return told
}

// calls are all calls but New and Copy.
func calls() []string {
	return []string{"Read", "Write", "Flush", "Crash", "Set", "Mark", "Back", "Fail", "Look", "Touched", "Clean", "Len", "Unflushed"}
}

// put is a sector, and where it was written.
type put struct {
	at int
	s  api.Sector
}

// paper is a member by the chapter's words: what is durable of each sector, and the unflushed writes, in order; what is seen is what comes of these.
type paper struct {
	durable        []api.Sector
	unflushed      []put
	marks          [][]api.Sector
	fails, touched bool
}

// seen is what was written last to each sector.
func (p *paper) seen() []api.Sector {
	l := slices.Clone(p.durable)
	for _, w := range p.unflushed {
		l[w.at] = w.s
	}
	return l
}

// copied is a paper that is the same.
func (p *paper) copied() *paper {
	q := &paper{durable: slices.Clone(p.durable), unflushed: slices.Clone(p.unflushed), fails: p.fails, touched: p.touched}
	for _, x := range p.marks {
		q.marks = append(q.marks, slices.Clone(x))
	}
	return q
}

// refuse is the error that a call of sector i has, by P11.2 or P11.4.
func (p *paper) refuse(i int, hands bool) api.Errno {
	switch {
	case i < 0 || i >= len(p.durable):
		return api.ErrArg
	case p.fails && !hands:
		return api.ErrIO
	}
	return api.OK
}

// crash is P11.3.
func (p *paper) crash(picks []byte) {
	for k, w := range p.unflushed {
		if k < len(picks) && picks[k] != 0 {
			p.durable[w.at] = w.s
		}
	}
	p.unflushed = nil
}

// set is P11.4.
func (p *paper) set(i int, s api.Sector) {
	var others []put
	for _, w := range p.unflushed {
		if w.at != i {
			others = append(others, w)
		}
	}
	p.durable[i], p.unflushed, p.touched = s, others, true
}

// do is what a call tells by the promises.
func (p *paper) do(a act) (told answer) {
	switch a.call {
	case "Read", "Write", "Flush":
		return p.io(a)
	case "Set", "Mark", "Back", "Fail":
		return p.hands(a)
	case "Crash":
		p.crash(a.picks)
	case "Look":
		if told.e = p.refuse(a.n, true); told.e == api.OK {
			told.s = p.durable[a.n]
		}
	case "Touched":
		told.on = p.touched
	case "Clean":
		p.touched = false
	case "Len":
		told.n = len(p.durable)
	case "Unflushed":
		told.n = len(p.unflushed)
	}
	return told
}

// io is P11.2.
func (p *paper) io(a act) (told answer) {
	if a.call == "Flush" {
		a.n = 0
	}
	if told.e = p.refuse(a.n, false); told.e != api.OK {
		return told
	}
	switch a.call {
	case "Read":
		told.s = p.seen()[a.n]
	case "Write":
		p.unflushed = append(p.unflushed, put{a.n, a.s})
	case "Flush":
		p.durable, p.unflushed = p.seen(), nil
	}
	return told
}

// hands is P11.4.
func (p *paper) hands(a act) (told answer) {
	switch a.call {
	case "Set":
		if told.e = p.refuse(a.n, true); told.e == api.OK {
			p.set(a.n, a.s)
		}
	case "Mark":
		if len(p.marks) == 64 {
			return answer{e: api.ErrFull}
		}
		told.n = len(p.marks)
		p.marks = append(p.marks, p.seen())
	case "Back":
		if a.n < 0 || a.n >= len(p.marks) {
			return answer{e: api.ErrArg}
		}
		p.durable, p.unflushed, p.touched = slices.Clone(p.marks[a.n]), nil, true
	case "Fail":
		p.fails, p.touched = a.on, p.touched || a.on
	}
	return told
}

// full is the sector of 64 bytes c.
func full(c byte) (s api.Sector) {
	for i := range s {
		s[i] = c
	}
	return s
}

// made is a new member.
func made(t *testing.T, sectors int) *member.Member {
	t.Helper()
	m, e := member.New(sectors)
	if m == nil || e != api.OK {
		t.Fatalf("New(%d): %v, %d", sectors, m, e)
	}
	return m
}

// both is a new member, and its paper.
func both(t *testing.T, sectors int) (*member.Member, *paper) {
	t.Helper()
	return made(t, sectors), &paper{durable: make([]api.Sector, sectors)}
}

// seenOf tells what is seen of m, failing or not, and changes nothing of it.
func seenOf(m *member.Member) []api.Sector {
	c := m.Copy()
	c.Fail(false)
	var l []api.Sector
	for i := range c.Len() {
		s, _ := c.Read(i)
		l = append(l, s)
	}
	return l
}

// durableOf tells what is durable of m.
func durableOf(m *member.Member) []api.Sector {
	var l []api.Sector
	for i := range m.Len() {
		s, _ := m.Look(i)
		l = append(l, s)
	}
	return l
}

// checkIs holds all that a member shows against its paper.
func checkIs(t *testing.T, m *member.Member, p *paper) {
	t.Helper()
	if m.Len() != len(p.durable) || m.Unflushed() != len(p.unflushed) || m.Touched() != p.touched {
		t.Fatalf("%d sectors, %d unflushed, touched %t, want %d, %d, %t", m.Len(), m.Unflushed(), m.Touched(), len(p.durable), len(p.unflushed), p.touched)
	}
	for _, call := range []string{"Read", "Look"} {
		for i := -1; i <= len(p.durable); i++ {
			a := act{call: call, n: i}
			if got, want := do(m, a), p.do(a); got != want {
				t.Fatalf("%s(%d): %v, want %v", call, i, got, want)
			}
		}
	}
	if got, want := seenOf(m), p.seen(); !slices.Equal(got, want) {
		t.Fatalf("seen: %x, want %x", got, want)
	}
}

// checkDo holds what a call tells, and what it leaves, against the paper.
func checkDo(t *testing.T, m *member.Member, p *paper, a act) {
	t.Helper()
	if got, want := do(m, a), p.do(a); got != want {
		t.Fatalf("%s(%d, %.4x, %x, %t): %v, want %v", a.call, a.n, a.s, a.picks, a.on, got, want)
	}
	checkIs(t, m, p)
}

// checkAll does acts, one behind the other, on a new member.
func checkAll(t *testing.T, sectors int, acts ...act) *member.Member {
	t.Helper()
	m, p := both(t, sectors)
	for _, a := range acts {
		checkDo(t, m, p, a)
	}
	return m
}

// The acts, by their names.
func write(n int, c byte) act   { return act{call: "Write", n: n, s: full(c)} }
func set(n int, c byte) act     { return act{call: "Set", n: n, s: full(c)} }
func back(n int) act            { return at("Back", n) }
func crash(picks ...byte) act   { return act{call: "Crash", picks: picks} }
func fail(on bool) act          { return act{call: "Fail", on: on} }
func at(call string, n int) act { return act{call: call, n: n} }
func plain(call string) act     { return at(call, 0) }

// The answers that tell one thing alone.
func only(e api.Errno) answer { return answer{e: e} }
func number(n int) answer     { return answer{n: n} }
func sector(c byte) answer    { return answer{s: full(c)} }

// source draws the same acts at each run.
func source(seed byte) *rand.Rand {
	return rand.New(rand.NewChaCha8([32]byte{seed}))
}

// P11.1 to P11.5: the chapter's examples, line by line, on one member.
func TestTheChaptersExamples(t *testing.T) {
	m := made(t, 4)
	for i, x := range []struct {
		a    act
		want answer
	}{
		{write(1, 1), only(api.OK)}, {at("Read", 1), sector(1)}, {at("Look", 1), sector(0)}, {plain("Unflushed"), number(1)},
		{crash(), only(api.OK)}, {at("Read", 1), sector(0)},
		{write(1, 1), only(api.OK)}, {write(1, 2), only(api.OK)}, {crash(1, 0), only(api.OK)}, {at("Read", 1), sector(1)},
		{plain("Mark"), number(0)}, {set(1, 2), only(api.OK)}, {plain("Touched"), answer{on: true}}, {back(0), only(api.OK)}, {at("Read", 1), sector(1)}, {back(1), only(api.ErrArg)},
		{write(2, 1), only(api.OK)}, {set(2, 2), only(api.OK)}, {plain("Unflushed"), number(0)}, {at("Read", 2), sector(2)},
		{fail(true), only(api.OK)}, {at("Read", 1), only(api.ErrIO)}, {plain("Flush"), only(api.ErrIO)}, {fail(false), only(api.OK)}, {at("Read", 4), only(api.ErrArg)},
		{plain("Clean"), answer{}}, {plain("Touched"), answer{}},
	} {
		if got := do(m, x.a); got != x.want {
			t.Errorf("%d: %s(%d): %v, want %v", i, x.a.call, x.a.n, got, x.want)
		}
	}
}

// P11.1: how many sectors a member may have.
func TestNewOfManySectors(t *testing.T) {
	for _, sectors := range []int{1, 2, 3, 4, 54, 255, 256, 257, 1<<16 - 1, 1 << 16} {
		if m := made(t, sectors); m.Len() != sectors {
			t.Errorf("New(%d) has %d sectors", sectors, m.Len())
		}
	}
	for _, sectors := range []int{0, -1, -2, -1 << 16, 1<<16 + 1, 1 << 17, 1<<32 + 1, 1 << 62, math.MaxInt, math.MinInt} {
		if m, e := member.New(sectors); m != nil || e != api.ErrArg {
			t.Errorf("New(%d): %v, %d", sectors, m, e)
		}
	}
}

// P11.1: a new member has sectors of 0, is not touched, does not fail, and has no marks and nothing unflushed.
func TestANewMember(t *testing.T) {
	for _, sectors := range []int{1, 2, 300} {
		m, p := both(t, sectors)
		checkIs(t, m, p)
		checkDo(t, m, p, back(0))
		for i := range sectors {
			if s, e := m.Read(i); s != (api.Sector{}) || e != api.OK {
				t.Errorf("sector %d of %d: %x, %d", i, sectors, s, e)
			}
		}
		checkDo(t, m, p, plain("Flush"))
	}
	m := made(t, 1<<16)
	for _, i := range []int{0, 1, 1<<16 - 1} {
		if s, e := m.Look(i); s != (api.Sector{}) || e != api.OK {
			t.Errorf("sector %d of the largest member: %x, %d", i, s, e)
		}
	}
}

// P11.1: members that were made one behind the other do not know of each other.
func TestMembersAreTheirOwn(t *testing.T) {
	m, p := both(t, 3)
	n, q := both(t, 3)
	for i := range byte(3) {
		checkDo(t, m, p, write(int(i), i+1))
		checkDo(t, n, q, plain("Mark"))
		checkDo(t, m, p, plain("Mark"))
		checkDo(t, n, q, set(0, i+9))
		checkDo(t, m, p, fail(true))
		checkDo(t, n, q, plain("Flush"))
		checkDo(t, m, p, fail(false))
		checkIs(t, n, q)
	}
}

// checkNone holds that a member that New did not make answers nothing, and stays what it is.
func checkNone(t *testing.T, m *member.Member) {
	t.Helper()
	for range 2 {
		for _, call := range calls() {
			want := only(api.ErrNil)
			if slices.Contains([]string{"Touched", "Clean", "Len", "Unflushed"}, call) {
				want = answer{}
			}
			for _, n := range []int{0, 1, -1, math.MaxInt} {
				if got := do(m, act{call: call, n: n, s: full(1), picks: []byte{1}, on: true}); got != want {
					t.Errorf("%s(%d): %v, want %v", call, n, got, want)
				}
			}
		}
		if c := m.Copy(); c != nil {
			t.Errorf("Copy: %v", c)
		}
	}
}

// P11.1, R3: nil, and what New did not make.
func TestWhatNewDidNotMake(t *testing.T) {
	checkNone(t, nil)
	checkNone(t, new(member.Member))
	checkNone(t, &member.Member{})
	var m member.Member
	checkNone(t, &m)
	none, _ := member.New(0)
	checkNone(t, none)
	checkNone(t, none.Copy())
}

// edges are numbers of sectors of a member of that many, and of none.
func edges(sectors int) []int {
	return []int{0, 1, sectors - 1, sectors, sectors + 1, -1, -sectors, 1 << 16, 1<<32 + 1, math.MaxInt, math.MinInt}
}

// P11.2, P11.4, P11.5: sectors that are there, and others; where there is none nothing is changed, and nothing is touched.
func TestPlacesOfSectors(t *testing.T) {
	for _, sectors := range []int{1, 2, 5} {
		for _, ahead := range [][]act{nil, {fail(true), plain("Clean")}} {
			m, p := both(t, sectors)
			for _, a := range ahead {
				checkDo(t, m, p, a)
			}
			for _, call := range []string{"Read", "Write", "Look", "Set"} {
				for _, i := range edges(sectors) {
					checkDo(t, m, p, act{call: call, n: i, s: full(7)})
				}
			}
		}
	}
	m := made(t, 1<<16)
	for i, want := range map[int]api.Errno{0: api.OK, 1<<16 - 1: api.OK, 1 << 16: api.ErrArg, -1: api.ErrArg} {
		for _, call := range []string{"Read", "Write", "Look", "Set"} {
			if got := do(m, act{call: call, n: i}); got.e != want {
				t.Errorf("%s(%d) of the largest member: %d, want %d", call, i, got.e, want)
			}
		}
	}
}

// P11.2, P11.4: ErrArg is told ahead of ErrIO, and whose hands come from outside asks for no ErrIO.
func TestWhichErrorIsTold(t *testing.T) {
	m := made(t, 2)
	m.Write(1, full(1))
	m.Fail(true)
	m.Clean()
	for _, x := range []struct {
		a    act
		want api.Errno
	}{
		{at("Read", 2), api.ErrArg}, {at("Read", -1), api.ErrArg}, {write(2, 1), api.ErrArg}, {write(-1, 1), api.ErrArg}, {set(2, 1), api.ErrArg}, {at("Look", 2), api.ErrArg}, {back(0), api.ErrArg},
		{at("Read", 1), api.ErrIO}, {write(1, 1), api.ErrIO}, {plain("Flush"), api.ErrIO},
		{at("Look", 1), api.OK}, {plain("Mark"), api.OK}, {fail(true), api.OK}, {set(1, 1), api.OK}, {back(0), api.OK}, {crash(), api.OK}, {fail(false), api.OK}, {at("Read", 1), api.OK},
	} {
		if got := do(m, x.a); got.e != x.want {
			t.Errorf("%s(%d): %d, want %d", x.a.call, x.a.n, got.e, x.want)
		}
	}
}

// P11.2: what was written last is seen, and lasts behind a Flush.
func TestWritesAreSeenAtOnceAndLastBehindAFlush(t *testing.T) {
	checkAll(t, 3, write(0, 1), write(2, 2), write(0, 3), write(1, 0), plain("Flush"), write(0, 0), write(0, 0), write(2, 2), plain("Flush"), plain("Flush"), crash(1, 1), write(1, 5), write(1, 6), plain("Flush"), crash())
}

// P11.2: each byte of a sector is kept as it is.
func TestEachByteIsKept(t *testing.T) {
	m := made(t, 2)
	for i := range api.SectorSize {
		var s api.Sector
		s[i], s[(i+1)%api.SectorSize] = 1, 0x80
		m.Write(1, s)
		got, _ := m.Read(1)
		m.Flush()
		kept, _ := m.Look(1)
		if got != s || kept != s {
			t.Errorf("%x is seen as %x, durable as %x", s, got, kept)
		}
	}
}

// P11.2: a write counts as unflushed whatever stood there, and a Flush of nothing is OK.
func TestUnflushedCountsWrites(t *testing.T) {
	m, p := both(t, 2)
	for n := range 300 {
		checkDo(t, m, p, write(n%2, byte(n/2%2)))
		if m.Unflushed() != n+1 {
			t.Fatalf("behind %d writes: %d", n+1, m.Unflushed())
		}
	}
	checkDo(t, m, p, plain("Flush"))
	checkDo(t, m, p, plain("Flush"))
}

// P11.3, P11.6: all picks of some writes, too few and too many ones: in each sector lasts the last write that was picked, or what was durable.
func TestCrashByAllPicks(t *testing.T) {
	writes := []act{write(0, 1), write(1, 2), write(0, 3), write(0, 0), write(2, 4), write(1, 5), write(0, 6)}
	for long := range len(writes) + 3 {
		for bits := range 1 << long {
			picks := make([]byte, long)
			for k := range picks {
				picks[k] = byte(bits>>k&1) * byte(1<<(k%8)|k)
			}
			want := [4]byte{8, 8, 8, 8}
			for k, w := range writes {
				if k < long && bits>>k&1 == 1 {
					want[w.n] = w.s[0]
				}
			}
			m := made(t, 4)
			for i := range 4 {
				m.Write(i, full(8))
			}
			m.Flush()
			for _, w := range writes {
				do(m, w)
			}
			if e := m.Crash(picks); e != api.OK || m.Unflushed() != 0 || m.Touched() {
				t.Fatalf("picks %x: %d, %d unflushed, touched %t", picks, e, m.Unflushed(), m.Touched())
			}
			for i, c := range want {
				seen, _ := m.Read(i)
				kept, _ := m.Look(i)
				if seen != full(c) || kept != full(c) {
					t.Fatalf("picks %x, sector %d: %.4x seen, %.4x durable, want %x", picks, i, seen, kept, c)
				}
			}
		}
	}
}

// P11.3: a pick is any byte that is not 0.
func TestEachPick(t *testing.T) {
	for pick := range 256 {
		checkAll(t, 1, write(0, 7), plain("Flush"), write(0, 9), crash(byte(pick)))
		checkAll(t, 2, write(0, 7), write(1, 3), write(0, 9), crash(0, 0, byte(pick)), crash(1))
	}
}

// P11.3: it crashes whether it fails or not, and fails on.
func TestAFailingMemberCrashes(t *testing.T) {
	for _, picks := range [][]byte{nil, {1}, {0, 1}, {1, 1}} {
		checkAll(t, 2, write(0, 1), write(1, 2), fail(true), crash(picks...), fail(false), fail(true), plain("Clean"), crash(1))
	}
}

// P11.3: picks are of the unflushed writes, by their order among those alone that still are.
func TestPicksAreOfWhatIsUnflushedStill(t *testing.T) {
	checkAll(t, 4, write(0, 1), write(1, 2), plain("Flush"), write(2, 3), write(3, 4), crash(0, 1))
	checkAll(t, 4, write(0, 1), write(1, 2), write(0, 3), write(2, 4), set(0, 5), crash(0, 1))
	checkAll(t, 4, write(0, 1), write(1, 2), crash(1), write(2, 3), crash(1, 1))
	checkAll(t, 4, write(0, 1), plain("Mark"), write(1, 2), back(0), write(2, 3), crash(1, 1))
	checkAll(t, 4, fail(true), write(0, 1), fail(false), write(1, 2), write(9, 9), crash(1))
}

// P11.4: what is set is seen and durable, and the unflushed writes there are none any more; those elsewhere stay.
func TestSet(t *testing.T) {
	checkAll(t, 3, set(1, 1), crash(), plain("Clean"), set(1, 1), set(1, 0), set(2, 2))
	checkAll(t, 3, write(0, 1), write(1, 2), write(0, 3), write(2, 4), set(0, 5), plain("Flush"))
	checkAll(t, 3, write(0, 1), write(1, 2), set(0, 0), set(1, 0), set(2, 0), crash(1, 1))
	checkAll(t, 3, write(0, 1), set(0, 2), write(0, 3), set(0, 2), write(0, 4), crash(1))
	checkAll(t, 3, fail(true), plain("Clean"), set(0, 1), fail(false))
}

// P11.4: marks have their numbers from 0 on, and there are 64 of them; one more is none.
func TestMarksAreNumberedAndAtMost64(t *testing.T) {
	m, p := both(t, 2)
	for n := range 64 {
		checkDo(t, m, p, back(n))
		checkDo(t, m, p, write(n%2, byte(n+1)))
		if got, e := m.Mark(); got != n || e != api.OK {
			t.Fatalf("mark %d: %d, %d", n, got, e)
		}
		p.do(plain("Mark"))
	}
	for range 3 {
		if n, e := m.Mark(); n != 0 || e != api.ErrFull {
			t.Errorf("mark 64: %d, %d", n, e)
		}
		checkIs(t, m, p)
	}
	for _, n := range []int{0, 63, 64, 1, 65, -1, 31, 32, 63, math.MaxInt, math.MinInt} {
		checkDo(t, m, p, back(n))
		checkDo(t, m, p, plain("Mark"))
	}
}

// P11.4, P11.8: a mark is of what is seen, and stays as it is, however often one comes back to it, and whatever is done meanwhile.
func TestBack(t *testing.T) {
	checkAll(t, 3, write(0, 1), plain("Mark"), crash(), back(0), crash(), plain("Mark"), back(1))
	checkAll(t, 3, write(0, 1), plain("Flush"), plain("Mark"), write(0, 2), write(1, 3), back(0), write(1, 4), plain("Flush"), set(2, 5), write(0, 0), plain("Flush"), back(0), set(0, 6), back(0), crash(1))
	checkAll(t, 3, plain("Mark"), write(0, 1), plain("Mark"), write(1, 2), plain("Mark"), back(1), back(0), back(2), back(3), back(1))
	checkAll(t, 3, plain("Mark"), fail(true), plain("Clean"), back(0), plain("Mark"), fail(false), set(1, 1), back(1))
}

// P11.4, P11.5: by Set, Back and Fail(true) alone a member is touched, if they are OK, until Clean.
func TestWhatTouches(t *testing.T) {
	for _, x := range []struct {
		a    act
		want bool
	}{
		{set(0, 1), true}, {set(0, 0), true}, {set(1, 0), true}, {back(0), true}, {fail(true), true},
		{set(2, 1), false}, {set(-1, 1), false}, {back(1), false}, {back(-1), false}, {fail(false), false},
		{at("Read", 0), false}, {write(0, 1), false}, {plain("Flush"), false}, {crash(1), false}, {crash(), false}, {plain("Mark"), false}, {at("Look", 0), false}, {plain("Touched"), false}, {plain("Clean"), false}, {plain("Len"), false}, {plain("Unflushed"), false},
	} {
		for _, failing := range []bool{false, true} {
			for _, ahead := range []bool{false, true} {
				m := made(t, 2)
				m.Write(1, full(1))
				m.Mark()
				m.Fail(failing)
				m.Clean()
				if ahead {
					m.Set(1, full(2))
				}
				do(m, x.a)
				if want := x.want || ahead && x.a.call != "Clean"; m.Touched() != want {
					t.Errorf("%s(%d, %t), failing %t, touched ahead %t: touched %t", x.a.call, x.a.n, x.a.on, failing, ahead, m.Touched())
				}
				if m.Copy().Touched() != m.Touched() {
					t.Errorf("%s(%d): the copy is touched as m is not", x.a.call, x.a.n)
				}
			}
		}
	}
}

// P11.4: Fail is done by its last word; healed, it stays touched.
func TestFail(t *testing.T) {
	checkAll(t, 2, fail(false), fail(true), fail(true), fail(false), plain("Clean"), fail(false), fail(true), plain("Clean"), fail(true), plain("Clean"), fail(false))
}

// P11.5: what is durable is looked at, written over or not, failing or not.
func TestLook(t *testing.T) {
	m := checkAll(t, 2, write(0, 1), plain("Flush"), write(0, 2), write(1, 3), fail(true))
	for i, c := range []byte{1, 0} {
		if s, e := m.Look(i); s != full(c) || e != api.OK {
			t.Errorf("Look(%d): %.4x, %d", i, s, e)
		}
	}
}

// busy is a member with all that one may have, and its paper.
func busy(t *testing.T) (*member.Member, *paper) {
	m, p := both(t, 4)
	for _, a := range []act{write(0, 1), plain("Mark"), write(1, 2), plain("Flush"), plain("Mark"), set(2, 3), write(3, 4), write(0, 5), write(0, 6), write(1, 0)} {
		checkDo(t, m, p, a)
	}
	return m, p
}

// anything is one act of each kind, and some more.
func anything() []act {
	return []act{
		write(0, 9), write(3, 0), write(2, 9), set(0, 9), set(3, 0), set(1, 9), back(0), back(1), back(2), plain("Flush"),
		crash(), crash(1), crash(0, 1, 0, 1), crash(1, 1, 1, 1), plain("Mark"), fail(true), fail(false), plain("Clean"), at("Read", 0), at("Look", 0), at("Read", 4), set(4, 1),
	}
}

// P11.5, P11.7: a copy is the same, and whatever is done to one is not done to the other.
func TestACopyIsAMemberOfItsOwn(t *testing.T) {
	for _, failing := range []bool{false, true} {
		for _, first := range anything() {
			for _, second := range anything() {
				m, p := busy(t)
				checkDo(t, m, p, fail(failing))
				c, q := m.Copy(), p.copied()
				checkIs(t, c, q)
				checkDo(t, c, q, first)
				checkIs(t, m, p)
				checkDo(t, m, p, second)
				checkIs(t, c, q)
				checkDo(t, c, q, back(1))
				checkDo(t, c, q, back(0))
				checkDo(t, m, p, back(1))
				checkDo(t, m, p, back(0))
				checkIs(t, c, q)
			}
		}
	}
}

// P11.5: a copy has its marks, and makes others of its own, up to 64.
func TestACopysMarks(t *testing.T) {
	m, p := busy(t)
	for range 61 {
		checkDo(t, m, p, plain("Mark"))
	}
	c, q := m.Copy(), p.copied()
	checkDo(t, c, q, write(2, 1))
	checkDo(t, c, q, plain("Mark"))
	checkDo(t, c, q, plain("Mark"))
	checkDo(t, m, p, back(63))
	checkDo(t, m, p, set(2, 2))
	checkDo(t, m, p, plain("Mark"))
	checkDo(t, c, q, back(63))
	checkDo(t, m, p, back(63))
	checkDo(t, m.Copy(), p.copied(), plain("Mark"))
}

// P11.7: unflushed writes of a copy do not come to lie in the memory of the other's.
func TestWritesOfACopyAreItsOwn(t *testing.T) {
	for many := range 20 {
		m, p := both(t, 3)
		for n := range many {
			checkDo(t, m, p, write(n%3, byte(n+1)))
		}
		c, q := m.Copy(), p.copied()
		checkDo(t, m, p, write(0, 101))
		checkDo(t, c, q, write(1, 102))
		checkDo(t, c, q, set(2, 103))
		checkDo(t, m, p, crash(slices.Repeat([]byte{1}, many+1)...))
		checkDo(t, c, q, crash(slices.Repeat([]byte{1}, many+1)...))
		checkIs(t, m, p)
	}
}

// P11.6: behind a Flush no crash changes anything.
func TestACrashBehindAFlush(t *testing.T) {
	from := source(1)
	for range 300 {
		m, p := played(t, from, 30)
		checkDo(t, m, p, fail(false))
		checkDo(t, m, p, plain("Flush"))
		want := seenOf(m)
		checkDo(t, m, p, drawnCrash(from))
		if !slices.Equal(seenOf(m), want) || !slices.Equal(durableOf(m), want) {
			t.Fatal("behind a Flush a crash has changed what is seen")
		}
	}
}

// P11.6: what a crash leaves was durable, or is an unflushed write there; picks that all are not 0 lose nothing.
func TestWhatACrashLeaves(t *testing.T) {
	from := source(2)
	for range 300 {
		m, p := played(t, from, 30)
		seen, kept, unflushed := seenOf(m), durableOf(m), slices.Clone(p.unflushed)
		all := m.Copy()
		all.Crash(slices.Repeat([]byte{0xFF}, m.Unflushed()))
		if !slices.Equal(seenOf(all), seen) || !slices.Equal(durableOf(all), seen) {
			t.Fatal("though all was picked something is lost")
		}
		m.Crash(drawnCrash(from).picks)
		for i, s := range seenOf(m) {
			if s != kept[i] && !slices.Contains(unflushed, put{i, s}) {
				t.Fatalf("sector %d was neither durable nor written: %x", i, s)
			}
		}
	}
}

// P11.8: whatever is done behind a mark, behind Back what was seen then is seen, and durable.
func TestAMarkIsComeBackTo(t *testing.T) {
	from := source(3)
	for range 300 {
		m, p := played(t, from, 15)
		want := seenOf(m)
		n, e := m.Mark()
		p.do(plain("Mark"))
		if e != api.OK {
			t.Fatalf("Mark: %d", e)
		}
		for range 20 {
			checkDo(t, m, p, drawnAct(from))
		}
		checkDo(t, m, p, back(n))
		if !slices.Equal(seenOf(m), want) || !slices.Equal(durableOf(m), want) || m.Unflushed() != 0 {
			t.Fatalf("behind Back(%d) other sectors are seen", n)
		}
	}
}

// P11.9: while it fails Read, Write and Flush change nothing; then it goes on as it was.
func TestAFailingMemberKeepsAll(t *testing.T) {
	from := source(4)
	for range 200 {
		m, p := played(t, from, 30)
		checkDo(t, m, p, fail(false))
		seen, kept, unflushed := seenOf(m), durableOf(m), m.Unflushed()
		checkDo(t, m, p, fail(true))
		for _, a := range []act{write(0, 77), at("Read", 0), plain("Flush"), write(2, 0), plain("Flush")} {
			if got := do(m, a); got != only(api.ErrIO) {
				t.Fatalf("%s: %v", a.call, got)
			}
		}
		checkDo(t, m, p, fail(false))
		if !slices.Equal(seenOf(m), seen) || !slices.Equal(durableOf(m), kept) || m.Unflushed() != unflushed {
			t.Fatal("it does not go on as it was")
		}
		checkDo(t, m, p, drawnCrash(from))
	}
}

// drawnCrash is a crash with drawn picks.
func drawnCrash(from *rand.Rand) act {
	picks := make([]byte, from.IntN(20))
	for k := range picks {
		picks[k] = byte(from.IntN(256) * from.IntN(2))
	}
	return crash(picks...)
}

// drawnAct is any act on a member of 5 sectors; writes come more often than others.
func drawnAct(from *rand.Rand) act {
	l := calls()
	a := act{call: l[from.IntN(len(l))], n: from.IntN(7) - 1, s: full(byte(from.IntN(4))), on: from.IntN(2) == 0}
	switch {
	case from.IntN(2) == 0:
		a.call = "Write"
	case a.call == "Crash":
		return drawnCrash(from)
	case a.call == "Fail":
		a.on = from.IntN(4) == 0
	}
	return a
}

// played is a member of 5 sectors on which many drawn acts were done, and its paper.
func played(t *testing.T, from *rand.Rand, many int) (*member.Member, *paper) {
	t.Helper()
	m, p := both(t, 5)
	for range many {
		checkDo(t, m, p, drawnAct(from))
	}
	return m, p
}

// P11.2 to P11.5: long plays of drawn acts go as on the paper.
func TestPlaysByTheChaptersWords(t *testing.T) {
	from := source(5)
	for range 40 {
		played(t, from, 400)
	}
}

// fork does each of the acts on a copy, and so on, to that depth: the member itself stays as it was.
func fork(t *testing.T, m *member.Member, p *paper, acts []act, depth int) {
	t.Helper()
	if depth == 0 {
		return
	}
	for _, a := range acts {
		c, q := m.Copy(), p.copied()
		if got, want := do(c, a), q.do(a); got != want {
			t.Fatalf("%s(%d): %v, want %v", a.call, a.n, got, want)
		}
		checkIs(t, c, q)
		fork(t, c, q, acts, depth-1)
	}
	checkIs(t, m, p)
}

// P11.2 to P11.5: all rows of four acts out of these go as on the paper.
func TestAllShortPlays(t *testing.T) {
	m, p := both(t, 2)
	fork(t, m, p, []act{
		write(0, 1), write(0, 2), write(1, 3), write(0, 0), plain("Flush"), crash(), crash(1), crash(0, 1),
		set(0, 4), set(1, 0), plain("Mark"), back(0), fail(true), fail(false), plain("Clean"),
	}, 4)
}

// P11.7: picks are neither changed nor kept.
func TestPicksAreLeftAsTheyAre(t *testing.T) {
	m := made(t, 3)
	picks := []byte{1, 0, 255, 7}
	for i := range 3 {
		m.Write(i, full(1))
	}
	m.Crash(picks[:3])
	if !slices.Equal(picks, []byte{1, 0, 255, 7}) {
		t.Errorf("the picks are now %x", picks)
	}
	clear(picks)
	for i := range 3 {
		m.Write(i, full(2))
	}
	for i, c := range []byte{1, 0, 1} {
		if s, _ := m.Look(i); s != full(c) {
			t.Errorf("sector %d: %.4x", i, s)
		}
	}
}

// P11.7: sectors that were handed in, or told, are values: what becomes of them changes no member.
func TestSectorsAreValues(t *testing.T) {
	m := made(t, 2)
	s, u := full(1), full(2)
	m.Write(0, s)
	m.Set(1, u)
	clear(s[:])
	clear(u[:])
	for i, c := range []byte{1, 2} {
		got, _ := m.Read(i)
		clear(got[:])
		kept, _ := m.Look(1)
		clear(kept[:])
		if got, _ := m.Read(i); got != full(c) {
			t.Errorf("sector %d: %.4x", i, got)
		}
	}
}

// P11.7, R1: any arguments, in any state.
func TestNoCallPanics(t *testing.T) {
	numbers := []int{0, 1, 2, 63, 64, 65, -1, -64, 1 << 16, 1<<31 - 1, 1 << 31, 1 << 32, math.MaxInt, math.MinInt}
	for _, ahead := range anything() {
		m, p := busy(t)
		checkDo(t, m, p, ahead)
		for _, call := range calls() {
			for _, n := range numbers {
				checkDo(t, m, p, act{call: call, n: n, s: full(0xEE), picks: slices.Repeat([]byte{0, 3}, n&0xFF), on: n%2 == 0})
			}
		}
	}
	m := made(t, 1)
	m.Write(0, full(1))
	if e := m.Crash(make([]byte, 1<<24)); e != api.OK {
		t.Errorf("Crash of many picks: %d", e)
	}
}

// P11.2, P11.6: the largest member, filled, and many writes that are not flushed.
func TestManySectorsAndManyWrites(t *testing.T) {
	const most = 1 << 16
	m := made(t, most)
	for n := range 3 * most {
		m.Write(n%most, api.Sector{byte(n), byte(n >> 8), byte(n >> 16), 1})
	}
	picks := make([]byte, 3*most)
	for k := range picks {
		picks[k] = byte(k / most % 2)
	}
	if m.Unflushed() != len(picks) {
		t.Fatalf("%d unflushed", m.Unflushed())
	}
	m.Crash(picks)
	for i := range most {
		n := i + most
		if s, _ := m.Read(i); s != (api.Sector{byte(n), byte(n >> 8), byte(n >> 16), 1}) {
			t.Fatalf("sector %d: %.8x", i, s)
		}
	}
}

// Ways: sectors that are zero are kept nowhere, however they came to be so.
func TestZeroSectorsGo(t *testing.T) {
	for i, x := range []struct {
		acts          []act
		seen, durable int
	}{
		{nil, 0, 0},
		{[]act{write(0, 1), write(1, 1)}, 2, 0},
		{[]act{write(0, 1), write(1, 1), plain("Flush")}, 2, 2},
		{[]act{write(0, 1), plain("Flush"), write(0, 0)}, 0, 1},
		{[]act{write(0, 1), plain("Flush"), write(0, 0), plain("Flush")}, 0, 0},
		{[]act{write(0, 1), write(1, 1), crash(0, 1)}, 1, 1},
		{[]act{write(0, 1), write(0, 0), crash(1, 1)}, 0, 0},
		{[]act{set(0, 1), set(1, 1), set(0, 0)}, 1, 1},
		{[]act{write(0, 0), set(1, 0), plain("Flush")}, 0, 0},
		{[]act{write(0, 1), plain("Mark"), set(1, 1), back(0), write(0, 0), plain("Flush")}, 0, 0},
		{[]act{plain("Mark"), set(1, 1), write(0, 1), back(0)}, 0, 0},
		{[]act{at("Read", 0), at("Look", 1), crash(1)}, 0, 0},
	} {
		seen, durable := member.Held(checkAll(t, 2, x.acts...))
		if seen != x.seen || durable != x.durable {
			t.Errorf("%d: %d seen and %d durable ones are kept, want %d and %d", i, seen, durable, x.seen, x.durable)
		}
	}
}

// answers is all that a play tells, up to its end.
func answers(seed byte) []answer {
	from := source(seed)
	m, _ := member.New(5)
	var l []answer
	for range 500 {
		l = append(l, do(m, drawnAct(from)))
	}
	for i, s := range append(seenOf(m), durableOf(m)...) {
		l = append(l, answer{n: i, s: s})
	}
	return l
}

// R6: the same calls have the same answers, whatever is done to other members meanwhile.
func TestAnswersHangOnWhatWasDoneAlone(t *testing.T) {
	want := answers(6)
	all := make([][]answer, 8)
	var done sync.WaitGroup
	for i := range all {
		done.Go(func() { all[i] = answers(byte(6 + i%2)) })
	}
	done.Wait()
	for i := 0; i < len(all); i += 2 {
		if !slices.Equal(all[i], want) {
			t.Errorf("play %d has other answers", i)
		}
	}
	if slices.Equal(all[1], want) {
		t.Error("another play has the same answers")
	}
}

// The calls are as the chapter lists them.
func TestCallsAreAsListed(t *testing.T) {
	var (
		_ func(sectors int) (*member.Member, api.Errno)         = member.New
		_ func(m *member.Member, i int) (api.Sector, api.Errno) = (*member.Member).Read
		_ func(m *member.Member, i int, s api.Sector) api.Errno = (*member.Member).Write
		_ func(m *member.Member) api.Errno                      = (*member.Member).Flush
		_ func(m *member.Member, picks []byte) api.Errno        = (*member.Member).Crash
		_ func(m *member.Member, i int, s api.Sector) api.Errno = (*member.Member).Set
		_ func(m *member.Member) (int, api.Errno)               = (*member.Member).Mark
		_ func(m *member.Member, n int) api.Errno               = (*member.Member).Back
		_ func(m *member.Member, on bool) api.Errno             = (*member.Member).Fail
		_ func(m *member.Member, i int) (api.Sector, api.Errno) = (*member.Member).Look
		_ func(m *member.Member) bool                           = (*member.Member).Touched
		_ func(m *member.Member)                                = (*member.Member).Clean
		_ func(m *member.Member) int                            = (*member.Member).Len
		_ func(m *member.Member) int                            = (*member.Member).Unflushed
		_ func(m *member.Member) *member.Member                 = (*member.Member).Copy
	)
}
