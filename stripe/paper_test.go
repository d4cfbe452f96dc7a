package stripe_test

import (
	"math/rand/v2"
	"slices"
	"testing"

	"casemate/api"
	"casemate/stripe"
)

// powers has 2 to the i times each byte, doubled step by step.
type powers [62][256]byte

// powered makes the powers.
func powered() *powers {
	var p powers
	for b := range 256 {
		x := b
		for i := range p {
			p[i][b] = byte(x)
			x <<= 1
			if x > 255 {
				x ^= 0x11D
			}
		}
	}
	return &p
}

// weights are the powers that all papers reckon with.
var weights = powered()

// filled is a sector of one byte alone.
func filled(c byte) (s api.Sector) {
	for k := range s {
		s[k] = c
	}
	return s
}

// source draws the same at each run.
func source(seed byte) *rand.Rand {
	return rand.New(rand.NewChaCha8([32]byte{seed}))
}

// drawn is a sector of any bytes.
func drawn(from *rand.Rand) (s api.Sector) {
	for k := range s {
		s[k] = byte(from.Uint32())
	}
	return s
}

// drawnData is n sectors of any bytes.
func drawnData(from *rand.Rand, n int) []api.Sector {
	var l []api.Sector
	for range n {
		l = append(l, drawn(from))
	}
	return l
}

// reckoned is P and Q of data, by the words of the parities' chapter.
func reckoned(data []api.Sector) (p, q api.Sector) {
	for i := range data {
		for k, b := range data[i] {
			p[k] ^= b
			q[k] ^= weights[i][b]
		}
	}
	return p, q
}

// rightRow is data, and what is reckoned of them.
func rightRow(data []api.Sector) []api.Sector {
	p, q := reckoned(data)
	return append(slices.Clone(data), p, q)
}

// paper is a row by the chapters' words.
type paper struct {
	cols []api.Sector
	lost []bool
}

// blank is the paper of a new row.
func blank(columns int) *paper {
	p := &paper{cols: make([]api.Sector, columns), lost: make([]bool, columns)}
	for c := range p.lost {
		p.lost[c] = true
	}
	return p
}

// of is the paper of a row that has these columns.
func of(cols []api.Sector) *paper {
	return &paper{cols: slices.Clone(cols), lost: make([]bool, len(cols))}
}

// copied is the same on another paper.
func (p *paper) copied() *paper {
	return &paper{slices.Clone(p.cols), slices.Clone(p.lost)}
}

// gaps are the lost columns, rising.
func (p *paper) gaps() []int {
	var l []int
	for c, lost := range p.lost {
		if lost {
			l = append(l, c)
		}
	}
	return l
}

// right is P16.2: whole, with P and Q of its data.
func (p *paper) right() bool {
	return len(p.gaps()) == 0 && slices.Equal(p.cols, rightRow(p.cols[:len(p.cols)-2]))
}

// noColumn tells whether there is no such column.
func (p *paper) noColumn(c int) bool {
	return c < 0 || c >= len(p.cols)
}

// answer is what a call tells.
type answer struct {
	s api.Sector
	l string
	e api.Errno
}

// none is the answer that tells an error alone.
func none(e api.Errno) answer {
	return answer{e: e}
}

// columns is the answer that tells these alone.
func columns(l ...int) answer {
	return answer{l: text(l)}
}

// text tells a list so that it can be held against another one.
func text(l []int) string {
	var s []byte
	for _, n := range l {
		s = append(s, byte('0'+n/10), byte('0'+n%10), ' ')
	}
	return string(s)
}

// act is a call that changes a row.
type act struct {
	call   string
	column int
	s      api.Sector
}

// put, lose, mend and write are the acts.
func put(c int, s api.Sector) act   { return act{"Put", c, s} }
func lose(c int) act                { return act{"Lose", c, api.Sector{}} }
func mend() act                     { return act{"Mend", 0, api.Sector{}} }
func write(c int, s api.Sector) act { return act{"Write", c, s} }

// do does an act on a row.
func do(r *stripe.Row, a act) (told answer) {
	var l []int
	switch a.call {
	case "Put":
		told.e = r.Put(a.column, a.s)
	case "Lose":
		told.e = r.Lose(a.column)
	case "Mend":
		l, told.e = r.Mend()
	case "Write":
		l, told.e = r.Write(a.column, a.s)
	}
	told.l = text(l)
	return told
}

// do does an act on paper.
func (p *paper) do(a act) answer {
	switch a.call {
	case "Put", "Lose":
		if p.noColumn(a.column) {
			return none(api.ErrArg)
		}
		p.cols[a.column], p.lost[a.column] = a.s, a.call == "Lose"
		return none(api.OK)
	case "Mend":
		return p.mend()
	}
	return p.write(a.column, a.s)
}

// mend is P16.3.
func (p *paper) mend() answer {
	gaps := p.gaps()
	if len(gaps) > 2 {
		return none(api.ErrFull)
	}
	p.cols = mended(p.cols, gaps)
	clear(p.lost)
	return columns(gaps...)
}

// write is P16.4.
func (p *paper) write(column int, s api.Sector) answer {
	n := len(p.cols) - 2
	if column < 0 || column >= n {
		return none(api.ErrArg)
	}
	if len(p.gaps()) > 0 {
		return none(api.ErrNone)
	}
	ahead := slices.Clone(p.cols)
	for k := range s {
		by := s[k] ^ ahead[column][k]
		p.cols[column][k] = s[k]
		p.cols[n][k] ^= by
		p.cols[n+1][k] ^= weights[column][by]
	}
	var l []int
	for c := range ahead {
		if p.cols[c] != ahead[c] {
			l = append(l, c)
		}
	}
	return columns(l...)
}

// mended is cols with those of lost, two at most, made by the table of the parities' chapter; each lost data byte is found by trying all.
func mended(cols []api.Sector, lost []int) []api.Sector {
	row := slices.Clone(cols)
	atP := len(row) - 2
	var gaps []int
	for _, c := range lost {
		if c < atP {
			gaps = append(gaps, c)
			row[c] = api.Sector{}
		}
	}
	p, q := reckoned(row[:atP])
	for k := range p {
		sum, weighed := p[k]^cols[atP][k], q[k]^cols[atP+1][k]
		switch {
		case len(gaps) == 1 && slices.Contains(lost, atP):
			row[gaps[0]][k] = sought(func(x byte) bool { return weights[gaps[0]][x] == weighed })
		case len(gaps) == 1:
			row[gaps[0]][k] = sum
		case len(gaps) == 2:
			x := sought(func(x byte) bool { return weights[gaps[0]][x]^weights[gaps[1]][x^sum] == weighed })
			row[gaps[0]][k], row[gaps[1]][k] = x, x^sum
		}
	}
	p, q = reckoned(row[:atP])
	if slices.Contains(lost, atP) {
		row[atP] = p
	}
	if slices.Contains(lost, atP+1) {
		row[atP+1] = q
	}
	return row
}

// sought is the byte that is right.
func sought(right func(x byte) bool) byte {
	for x := range 256 {
		if right(byte(x)) {
			return byte(x)
		}
	}
	panic("no byte is right")
}

// fresh is a new row.
func fresh(t *testing.T, columns int) *stripe.Row {
	t.Helper()
	r, e := stripe.New(columns)
	if r == nil || e != api.OK {
		t.Fatalf("New(%d): %v, %d", columns, r, e)
	}
	return r
}

// whole is a row that has these columns.
func whole(t *testing.T, cols []api.Sector) *stripe.Row {
	t.Helper()
	r := fresh(t, len(cols))
	for c, s := range cols {
		if e := r.Put(c, s); e != api.OK {
			t.Fatalf("Put(%d): %d", c, e)
		}
	}
	return r
}

// checkIs holds all that a row shows against its paper, and that nothing is shown of columns that are not there.
func checkIs(t *testing.T, r *stripe.Row, p *paper) {
	t.Helper()
	if got, want := r.Lost(), p.gaps(); !slices.Equal(got, want) {
		t.Fatalf("Lost: %v, want %v", got, want)
	}
	if got, want := r.Right(), p.right(); got != want {
		t.Fatalf("Right: %v, want %v", got, want)
	}
	if got := r.Columns(); got != len(p.cols) {
		t.Fatalf("Columns: %d, want %d", got, len(p.cols))
	}
	for c := -2; c < len(p.cols)+2; c++ {
		want := none(api.ErrArg)
		switch {
		case p.noColumn(c):
		case p.lost[c]:
			want = none(api.ErrNone)
		default:
			want = answer{s: p.cols[c]}
		}
		if s, e := r.Get(c); s != want.s || e != want.e {
			t.Fatalf("Get(%d): %x, %d, want %x, %d", c, s, e, want.s, want.e)
		}
	}
}

// checkDo holds what an act tells, and what it leaves, against the paper.
func checkDo(t *testing.T, r *stripe.Row, p *paper, a act) {
	t.Helper()
	if got, want := do(r, a), p.do(a); got != want {
		t.Fatalf("%s(%d, %.4x): %v, want %v", a.call, a.column, a.s, got, want)
	}
	checkIs(t, r, p)
}

// checkAll holds acts, one behind the other.
func checkAll(t *testing.T, r *stripe.Row, p *paper, acts ...act) {
	t.Helper()
	for _, a := range acts {
		checkDo(t, r, p, a)
	}
}
