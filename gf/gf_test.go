package gf_test

import (
	"math"
	"slices"
	"sync"
	"testing"

	"casemate/api"
	"casemate/gf"
)

// longProduct multiplies on paper: the whole product of 15 factors first, then the rest of its division by the polynomial.
func longProduct(a, b byte) byte {
	whole := 0
	for i := 0; i < 8; i++ {
		if b&(1<<i) != 0 {
			whole ^= int(a) << i
		}
	}
	for i := 14; i >= 8; i-- {
		if whole&(1<<i) != 0 {
			whole ^= 0x11D << (i - 8)
		}
	}
	return byte(whole)
}

// products is gf.Mul of all pairs, asked once for the tests that go through all triples.
func products() *[256][256]byte {
	var t [256][256]byte
	for a := range 256 {
		for b := range 256 {
			t[a][b] = gf.Mul(byte(a), byte(b))
		}
	}
	return &t
}

// P1.1
func TestMulExamples(t *testing.T) {
	for _, x := range [][3]byte{{2, 128, 29}, {0, 7, 0}, {7, 0, 0}, {3, 3, 5}, {1, 255, 255}, {255, 1, 255}, {0, 0, 0}, {128, 128, 19}, {255, 255, 226}} {
		if got := gf.Mul(x[0], x[1]); got != x[2] {
			t.Errorf("Mul(%d, %d) = %d, want %d", x[0], x[1], got, x[2])
		}
	}
}

// P1.1
func TestMulIsTheRestOfTheLongProduct(t *testing.T) {
	for a := range 256 {
		for b := range 256 {
			if got, want := gf.Mul(byte(a), byte(b)), longProduct(byte(a), byte(b)); got != want {
				t.Fatalf("Mul(%d, %d) = %d, want %d", a, b, got, want)
			}
		}
	}
}

// P1.1: the published table of this field's powers, at its beginning and its end.
func TestPowPublished(t *testing.T) {
	first := []byte{1, 2, 4, 8, 16, 32, 64, 128, 29, 58, 116, 232, 205, 135, 19, 38, 76, 152, 45, 90, 180, 117, 234, 201, 143}
	for n, want := range first {
		if got := gf.Pow(n); got != want {
			t.Errorf("Pow(%d) = %d, want %d", n, got, want)
		}
	}
	last := map[int]byte{250: 108, 251: 216, 252: 173, 253: 71, 254: 142}
	for n, want := range last {
		if got := gf.Pow(n); got != want {
			t.Errorf("Pow(%d) = %d, want %d", n, got, want)
		}
	}
}

// P1.1
func TestPowStepByStep(t *testing.T) {
	want := byte(1)
	for n := 0; n <= 1024; n++ {
		if got := gf.Pow(n); got != want {
			t.Fatalf("Pow(%d) = %d, want %d", n, got, want)
		}
		want = longProduct(want, 2)
	}
}

// P1.1: the powers go round, also below 0.
func TestPowGoesRound(t *testing.T) {
	for n := -1024; n <= 1024; n++ {
		if gf.Pow(n) != gf.Pow(n+255) {
			t.Fatalf("Pow(%d) = %d, Pow(%d) = %d", n, gf.Pow(n), n+255, gf.Pow(n+255))
		}
	}
	for n, want := range map[int]byte{255: 1, -255: 1, 256: 2, -254: 2, -1: 142, -256: 142, 510: 1} {
		if got := gf.Pow(n); got != want {
			t.Errorf("Pow(%d) = %d, want %d", n, got, want)
		}
	}
}

// P1.1: 256 has the rest 1 by 255, so 2^63 has that of 128: 2^63 - 1 has 127, and -2^63 has it too.
func TestPowOfHugeNumbers(t *testing.T) {
	if got, want := gf.Pow(math.MaxInt64), gf.Pow(127); got != want {
		t.Errorf("of the greatest number %d, want %d", got, want)
	}
	if got, want := gf.Pow(math.MinInt64), gf.Pow(127); got != want {
		t.Errorf("of the least number %d, want %d", got, want)
	}
	if got, want := gf.Pow(math.MaxInt64-255), gf.Pow(127); got != want {
		t.Errorf("one round below the greatest number %d, want %d", got, want)
	}
	if got, want := gf.Pow(math.MinInt64+1), gf.Pow(128); got != want {
		t.Errorf("one above the least number %d, want %d", got, want)
	}
}

// P1.2
func TestInv(t *testing.T) {
	for a := 1; a < 256; a++ {
		got, e := gf.Inv(byte(a))
		if e != api.OK || longProduct(got, byte(a)) != 1 {
			t.Errorf("Inv(%d) = %d, %d", a, got, e)
		}
	}
	for a, want := range map[byte]byte{1: 1, 2: 142, 142: 2} {
		if got, e := gf.Inv(a); got != want || e != api.OK {
			t.Errorf("Inv(%d) = %d, %d, want %d", a, got, e, want)
		}
	}
}

// P1.2
func TestDiv(t *testing.T) {
	for a := range 256 {
		for b := 1; b < 256; b++ {
			got, e := gf.Div(byte(a), byte(b))
			if e != api.OK || longProduct(got, byte(b)) != byte(a) {
				t.Fatalf("Div(%d, %d) = %d, %d", a, b, got, e)
			}
		}
	}
	for _, x := range [][3]byte{{29, 128, 2}, {0, 5, 0}, {5, 3, 3}, {7, 1, 7}, {7, 7, 1}} {
		if got, e := gf.Div(x[0], x[1]); got != x[2] || e != api.OK {
			t.Errorf("Div(%d, %d) = %d, %d, want %d", x[0], x[1], got, e, x[2])
		}
	}
}

// P1.2
func TestLog(t *testing.T) {
	for a := 1; a < 256; a++ {
		n, e := gf.Log(byte(a))
		if e != api.OK || n < 0 || n > 254 || gf.Pow(n) != byte(a) {
			t.Errorf("Log(%d) = %d, %d", a, n, e)
		}
	}
	for a, want := range map[byte]int{1: 0, 2: 1, 128: 7, 29: 8, 142: 254} {
		if got, e := gf.Log(a); got != want || e != api.OK {
			t.Errorf("Log(%d) = %d, %d, want %d", a, got, e, want)
		}
	}
}

// P1.2, R2: of 0 the error, and nothing beside it.
func TestErrArgOfZero(t *testing.T) {
	if got, e := gf.Inv(0); got != 0 || e != api.ErrArg {
		t.Errorf("Inv(0) = %d, %d", got, e)
	}
	if got, e := gf.Log(0); got != 0 || e != api.ErrArg {
		t.Errorf("Log(0) = %d, %d", got, e)
	}
	for a := range 256 {
		if got, e := gf.Div(byte(a), 0); got != 0 || e != api.ErrArg {
			t.Errorf("Div(%d, 0) = %d, %d", a, got, e)
		}
	}
}

// P1.3
func TestProductsOfPairs(t *testing.T) {
	mul := products()
	for a := range 256 {
		if mul[a][1] != byte(a) || mul[1][a] != byte(a) || mul[a][0] != 0 || mul[0][a] != 0 {
			t.Errorf("%d with 1 or 0", a)
		}
		for b := range 256 {
			if mul[a][b] != mul[b][a] {
				t.Errorf("%d with %d hangs on order", a, b)
			}
			if mul[a][b] == 0 && a != 0 && b != 0 {
				t.Errorf("%d with %d makes 0", a, b)
			}
		}
	}
}

// P1.3
func TestProductsOfTriples(t *testing.T) {
	mul := products()
	for a := range 256 {
		for b := range 256 {
			for c := range 256 {
				if mul[mul[a][b]][c] != mul[a][mul[b][c]] {
					t.Fatalf("%d, %d, %d hang on brackets", a, b, c)
				}
				if mul[a][b^c] != mul[a][b]^mul[a][c] {
					t.Fatalf("%d with the sum of %d and %d", a, b, c)
				}
			}
		}
	}
}

// P1.4
func TestPowersAddUp(t *testing.T) {
	for n := -300; n <= 300; n++ {
		for m := -300; m <= 300; m++ {
			if gf.Mul(gf.Pow(n), gf.Pow(m)) != gf.Pow(n+m) {
				t.Fatalf("the powers of %d and %d", n, m)
			}
		}
	}
}

// P1.4
func TestEachByteIsOnePower(t *testing.T) {
	var times [256]int
	for n := range 255 {
		times[gf.Pow(n)]++
	}
	if times[0] != 0 {
		t.Error("0 is a power")
	}
	for a := 1; a < 256; a++ {
		if times[a] != 1 {
			t.Errorf("%d is %d of the powers", a, times[a])
		}
	}
}

// P1.5, R1: all bytes, and numbers below 0 and huge ones; a panic would end the test.
func TestNoCallPanics(t *testing.T) {
	for a := range 256 {
		gf.Inv(byte(a))
		gf.Log(byte(a))
		for b := range 256 {
			gf.Mul(byte(a), byte(b))
			gf.Div(byte(a), byte(b))
		}
	}
	for shift := range 64 {
		for near := -2; near <= 2; near++ {
			gf.Pow(1<<shift + near)
			gf.Pow(-1<<shift + near)
		}
	}
}

// unknowns finds x and y from their sum and the sum of 2^i x and 2^j y.
func unknowns(t *testing.T, i, j int, sum, weighed byte) (x, y byte) {
	x, e := gf.Div(weighed^gf.Mul(gf.Pow(j), sum), gf.Pow(i)^gf.Pow(j))
	if e != api.OK {
		t.Fatalf("the powers of %d and %d are alike", i, j)
	}
	return x, x ^ sum
}

// P1.6
func TestTwoUnknowns(t *testing.T) {
	for _, at := range [][2]int{{0, 1}, {1, 0}, {0, 61}, {7, 8}, {0, 254}, {254, 0}, {-1, 255}, {3, 300}} {
		i, j := at[0], at[1]
		for a := range 256 {
			for b := range 256 {
				sum := byte(a ^ b)
				weighed := gf.Mul(gf.Pow(i), byte(a)) ^ gf.Mul(gf.Pow(j), byte(b))
				if x, y := unknowns(t, i, j, sum, weighed); x != byte(a) || y != byte(b) {
					t.Fatalf("i %d, j %d: of %d and %d came %d and %d", i, j, a, b, x, y)
				}
			}
		}
	}
}

// P1.6: two pairs with the same two sums would differ by one x with itself, whose weighed sum is 0.
func TestTwoUnknownsAtAllPlaces(t *testing.T) {
	mul := products()
	for i := range 255 {
		for j := range i {
			weight := gf.Pow(i) ^ gf.Pow(j)
			for x := 1; x < 256; x++ {
				if mul[weight][x] == 0 {
					t.Fatalf("i %d, j %d: %d is not told from 0", i, j, x)
				}
			}
		}
	}
	if gf.Pow(4)^gf.Pow(4+255) != 0 {
		t.Error("places with the same rest by 255 are told apart")
	}
}

// P1.6
func TestSquareOfASum(t *testing.T) {
	for x := range 256 {
		for y := range 256 {
			sum := byte(x ^ y)
			if gf.Mul(sum, sum) != gf.Mul(byte(x), byte(x))^gf.Mul(byte(y), byte(y)) {
				t.Fatalf("the square of the sum of %d and %d", x, y)
			}
		}
	}
}

// answers is what gf answers to each of many questions, asked from the place start on, round.
func answers(start int) []int {
	const many = 1 << 16
	told := make([]int, many)
	for k := range many {
		n := (start + k) % many
		a, b := byte(n>>8), byte(n)
		quotient, e := gf.Div(a, b)
		inverse, f := gf.Inv(b)
		log, g := gf.Log(b)
		for _, v := range []int{int(gf.Mul(a, b)), int(quotient), int(e), int(inverse), int(f), log, int(g), int(gf.Pow(n))} {
			told[n] = told[n]*257 + v
		}
	}
	return told
}

// R6: what was asked ahead, or is asked meanwhile, changes no answer.
func TestAnswersHangOnArgumentsAlone(t *testing.T) {
	want := answers(0)
	told := make([][]int, 4)
	var all sync.WaitGroup
	for i := range told {
		all.Go(func() { told[i] = answers(i*12345 + 1) })
	}
	all.Wait()
	for i := range told {
		if !slices.Equal(told[i], want) {
			t.Errorf("asked in order %d the answers are others", i)
		}
	}
}

// R3, R4, R5, R7: gf's calls are on bytes and numbers alone; so there is no object, list or text that these rules could be broken by. (That it hands out nothing else, and keeps nothing, is held in the folder layers.)
func TestCallsAreOnBytesAndNumbers(t *testing.T) {
	var (
		_ func(a, b byte) byte              = gf.Mul
		_ func(a, b byte) (byte, api.Errno) = gf.Div
		_ func(a byte) (byte, api.Errno)    = gf.Inv
		_ func(n int) byte                  = gf.Pow
		_ func(a byte) (int, api.Errno)     = gf.Log
	)
}
