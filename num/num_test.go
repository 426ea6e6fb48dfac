package num_test

import (
	"math"
	"math/big"
	"testing"

	"dancestudio/api"
	"dancestudio/num"
)

const (
	million = 1 << 20
	large   = 1 << 50
	steps   = 64 * api.MaxTicks
)

// edges are the integers next to all bounds of the chapter, the extreme ones, and some ordinary ones.
var edges = []int{
	math.MinInt, math.MinInt + 1, -1 << 62, -large - 1, -large, -large + 1, -million - 1, -million,
	-99, -12, -7, -5, -2, -1, 0, 1, 2, 3, 7, 18, 100,
	steps - 1, steps, steps + 1, million, million + 1, large - 1, large, large + 1, 1 << 62, math.MaxInt - 1, math.MaxInt,
}

// ordinary are small integers around 0, with all remainders of small divisors.
func ordinary() []int {
	var l []int
	for i := -24; i <= 24; i++ {
		l = append(l, i)
	}
	return l
}

func within(n, bound int) bool { return n >= -bound && n <= bound }

func number(n int) *big.Int { return big.NewInt(int64(n)) }

func times(a, b int) *big.Int { return new(big.Int).Mul(number(a), number(b)) }

// isNearest says whether n is p / q, rounded as the chapter defines it.
func isNearest(n int, p *big.Int, q int) bool {
	distance := new(big.Int).Sub(p, times(n, q))
	distance.Abs(distance).Lsh(distance, 1)
	order := distance.Cmp(new(big.Int).Abs(number(q)))
	return order < 0 || order == 0 && n%2 == 0
}

func checkLerp(t *testing.T, a, b, k, d int) {
	t.Helper()
	n, e := num.Lerp(a, b, k, d)
	if !within(a, million) || !within(b, million) || d < 1 || d > 524288 || k < 0 || k > d {
		if n != 0 || e != api.ErrRange {
			t.Errorf("P1, P1.1: Lerp(%d, %d, %d, %d) is %d, %d", a, b, k, d, n, e)
		}
		return
	}
	sum := new(big.Int).Add(times(a, d-k), times(b, k))
	if e != api.OK || !isNearest(n, sum, d) {
		t.Errorf("P1.1: Lerp(%d, %d, %d, %d) is %d, %d", a, b, k, d, n, e)
	}
}

func TestLerpExamples(t *testing.T) {
	for _, c := range []struct {
		a, b, k, d, want int
		err              api.Errno
	}{
		{0, 5, 1, 2, 2, api.OK}, {0, 7, 1, 2, 4, api.OK}, {10, 20, 1, 3, 13, api.OK}, {-5, 0, 1, 2, -2, api.OK},
		{0, -7, 1, 2, -4, api.OK}, {0, 3, 1, 4, 1, api.OK}, {0, 1, 1, 4, 0, api.OK}, {-3, -3, 5, 9, -3, api.OK},
		{million, -million, 1, 2, 0, api.OK}, {million, million, 7, steps, million, api.OK},
		{-million, million, steps, steps, million, api.OK}, {-million, million, 1, steps, -million + 4, api.OK},
		{0, 1, 262144, steps, 0, api.OK}, {0, 1, 262145, steps, 1, api.OK},
		{0, 0, 0, 0, 0, api.ErrRange}, {1, 2, 1, 0, 0, api.ErrRange}, {1, 2, 0, -1, 0, api.ErrRange}, {1, 2, -1, 3, 0, api.ErrRange},
		{1, 2, 4, 3, 0, api.ErrRange}, {9, 9, 9, steps + 1, 0, api.ErrRange}, {million + 1, 0, 0, 1, 0, api.ErrRange},
		{-million - 1, 0, 0, 1, 0, api.ErrRange}, {0, million + 1, 0, 1, 0, api.ErrRange}, {0, -million - 1, 0, 1, 0, api.ErrRange},
	} {
		if n, e := num.Lerp(c.a, c.b, c.k, c.d); n != c.want || e != c.err {
			t.Errorf("P1.1: Lerp(%d, %d, %d, %d) is %d, %d", c.a, c.b, c.k, c.d, n, e)
		}
	}
}

func TestLerp(t *testing.T) {
	for _, a := range edges {
		for _, b := range edges {
			for _, k := range edges {
				for _, d := range edges {
					checkLerp(t, a, b, k, d)
				}
			}
		}
	}
	for _, a := range ordinary() {
		for _, b := range ordinary() {
			for d := range 13 {
				for k := -1; k <= d+1; k++ {
					checkLerp(t, a, b, k, d)
				}
			}
		}
	}
}

func checkRound(t *testing.T, a, b int) {
	t.Helper()
	n, e := num.Round(a, b)
	switch {
	case !within(a, large) || !within(b, large):
		if n != 0 || e != api.ErrRange {
			t.Errorf("P1, P1.2: Round(%d, %d) is %d, %d", a, b, n, e)
		}
	case b == 0:
		if n != 0 || e != api.ErrDivide {
			t.Errorf("P1, P1.2: Round(%d, %d) is %d, %d", a, b, n, e)
		}
	case e != api.OK || !isNearest(n, number(a), b):
		t.Errorf("P1.2: Round(%d, %d) is %d, %d", a, b, n, e)
	}
}

func TestRoundExamples(t *testing.T) {
	for _, c := range []struct {
		a, b, want int
		err        api.Errno
	}{
		{7, 2, 4, api.OK}, {7, -2, -4, api.OK}, {5, 2, 2, api.OK}, {-7, 2, -4, api.OK}, {-5, 2, -2, api.OK}, {-5, -2, 2, api.OK},
		{1, 2, 0, api.OK}, {-1, 2, 0, api.OK}, {3, 2, 2, api.OK}, {-3, 2, -2, api.OK}, {1, -3, 0, api.OK}, {2, 3, 1, api.OK}, {2, -3, -1, api.OK},
		{large, 1, large, api.OK}, {large, -1, -large, api.OK}, {-large, -large, 1, api.OK}, {large / 2, large, 0, api.OK}, {large/2 + 1, large, 1, api.OK},
		{large + 1, 0, 0, api.ErrRange}, {-large - 1, 0, 0, api.ErrRange}, {1, large + 1, 0, api.ErrRange}, {1, -large - 1, 0, api.ErrRange},
		{1, 0, 0, api.ErrDivide}, {0, 0, 0, api.ErrDivide}, {large, 0, 0, api.ErrDivide},
	} {
		if n, e := num.Round(c.a, c.b); n != c.want || e != c.err {
			t.Errorf("P1.2: Round(%d, %d) is %d, %d", c.a, c.b, n, e)
		}
	}
}

func TestRound(t *testing.T) {
	for _, l := range [][]int{edges, ordinary()} {
		for _, a := range l {
			for _, b := range l {
				checkRound(t, a, b)
				n, e := num.Round(a, b)
				if m, f := num.Round(-a, -b); m != n || f != e {
					t.Errorf("P1.2: Round(%d, %d) is %d, %d, but with both negative %d, %d", a, b, n, e, m, f)
				}
			}
		}
	}
}

func checkFloor(t *testing.T, a, b int) {
	t.Helper()
	q, r, e := num.Floor(a, b)
	want := api.OK
	switch {
	case !within(a, large) || !within(b, large):
		want = api.ErrRange
	case b == 0:
		want = api.ErrDivide
	case b < 0:
		want = api.ErrRange
	}
	if e != want || e != api.OK && (q != 0 || r != 0) {
		t.Errorf("P1, P1.3: Floor(%d, %d) is %d, %d, %d", a, b, q, r, e)
	}
	if e == api.OK && (r < 0 || r >= b || times(q, b).Cmp(number(a-r)) != 0) {
		t.Errorf("P1.3: Floor(%d, %d) is %d, %d, %d", a, b, q, r, e)
	}
}

func TestFloorExamples(t *testing.T) {
	for _, c := range []struct {
		a, b, q, r int
		err        api.Errno
	}{
		{-7, 2, -4, 1, api.OK}, {7, 2, 3, 1, api.OK}, {-8, 2, -4, 0, api.OK}, {8, 2, 4, 0, api.OK}, {0, 5, 0, 0, api.OK}, {-1, 5, -1, 4, api.OK},
		{-1, large, -1, large - 1, api.OK}, {-large, 1, -large, 0, api.OK}, {large, large, 1, 0, api.OK},
		{7, -2, 0, 0, api.ErrRange}, {0, -1, 0, 0, api.ErrRange}, {7, 0, 0, 0, api.ErrDivide}, {0, 0, 0, 0, api.ErrDivide},
		{large + 1, 0, 0, 0, api.ErrRange}, {-large - 1, 2, 0, 0, api.ErrRange}, {2, large + 1, 0, 0, api.ErrRange}, {2, -large - 1, 0, 0, api.ErrRange},
	} {
		if q, r, e := num.Floor(c.a, c.b); q != c.q || r != c.r || e != c.err {
			t.Errorf("P1.3: Floor(%d, %d) is %d, %d, %d", c.a, c.b, q, r, e)
		}
	}
}

func TestFloor(t *testing.T) {
	for _, l := range [][]int{edges, ordinary()} {
		for _, a := range l {
			for _, b := range l {
				checkFloor(t, a, b)
			}
		}
	}
}

func checkRoot(t *testing.T, n int) {
	t.Helper()
	r, e := num.Root(n)
	if n < 0 || n > large {
		if r != 0 || e != api.ErrRange {
			t.Errorf("P1, P1.4: Root(%d) is %d, %d", n, r, e)
		}
		return
	}
	if e != api.OK || r < 0 || times(r, r).Cmp(number(n)) > 0 || times(r+1, r+1).Cmp(number(n)) <= 0 {
		t.Errorf("P1.4: Root(%d) is %d, %d", n, r, e)
	}
}

func TestRoot(t *testing.T) {
	for n, want := range map[int]int{0: 0, 1: 1, 2: 1, 3: 1, 4: 2, 99: 9, 100: 10, large - 1: 1<<25 - 1, large: 1 << 25} {
		if r, e := num.Root(n); r != want || e != api.OK {
			t.Errorf("P1.4: Root(%d) is %d, %d", n, r, e)
		}
	}
	for _, n := range edges {
		checkRoot(t, n)
	}
	for n := range 5000 {
		checkRoot(t, n)
	}
	// Around the squares of roots of every length.
	for bit := range 26 {
		for _, root := range []int{1 << bit, 1<<bit - 1, 1<<bit + 1, 3 << bit >> 1} {
			for off := -1; off <= 1; off++ {
				checkRoot(t, root*root+off)
			}
		}
	}
}

func checkGcd(t *testing.T, a, b int) {
	t.Helper()
	g, e := num.Gcd(a, b)
	if !within(a, large) || !within(b, large) {
		if g != 0 || e != api.ErrRange {
			t.Errorf("P1, P1.5: Gcd(%d, %d) is %d, %d", a, b, g, e)
		}
		return
	}
	want := new(big.Int).GCD(nil, nil, number(a), number(b))
	if e != api.OK || want.Cmp(number(g)) != 0 {
		t.Errorf("P1.5: Gcd(%d, %d) is %d, %d", a, b, g, e)
	}
}

func TestGcd(t *testing.T) {
	for _, c := range [][3]int{
		{-12, 18, 6}, {12, -18, 6}, {-12, -18, 6}, {0, 0, 0}, {0, -5, 5}, {-5, 0, 5}, {5, 0, 5}, {0, 5, 5}, {7, 7, 7}, {-7, 7, 7},
		{35, 64, 1}, {large, 1 << 20, 1 << 20}, {large, -large, large}, {-large, 0, large}, {large, large - 1, 1},
	} {
		if g, e := num.Gcd(c[0], c[1]); g != c[2] || e != api.OK {
			t.Errorf("P1.5: Gcd(%d, %d) is %d, %d", c[0], c[1], g, e)
		}
	}
	for _, l := range [][]int{edges, ordinary()} {
		for _, a := range l {
			for _, b := range l {
				checkGcd(t, a, b)
			}
		}
	}
	// Neighbouring Fibonacci numbers need the most divisions.
	for a, b := 1, 1; b <= large; a, b = b, a+b {
		checkGcd(t, a, b)
		checkGcd(t, -b, a)
	}
}

func checkCompare(t *testing.T, a, b, c, d int) {
	t.Helper()
	n, e := num.Compare(a, b, c, d)
	if !within(a, large) || !within(b, large) || !within(c, large) || !within(d, large) {
		if n != 0 || e != api.ErrRange {
			t.Errorf("P1, P1.6: Compare(%d, %d, %d, %d) is %d, %d", a, b, c, d, n, e)
		}
		return
	}
	if e != api.OK || n != times(a, b).Cmp(times(c, d)) {
		t.Errorf("P1.6: Compare(%d, %d, %d, %d) is %d, %d", a, b, c, d, n, e)
	}
}

func TestCompare(t *testing.T) {
	for _, c := range [][5]int{
		{3, 4, 2, 6, 0}, {-1, 5, 0, 9, -1}, {0, 9, -1, 5, 1}, {2, 3, 7, 1, -1}, {-2, -3, 5, 1, 1}, {0, -9, 7, 0, 0},
		{large, large, large, large - 1, 1}, {-large, large, large, -large, 0}, {-large, large, large - 1, -large, -1},
		{large, -large, -1, large, -1}, {1 << 32, 1 << 32, 0, 0, 1}, {1 << 40, 1 << 24, 1 << 32, 1 << 32, 0}, {-1, 1, -1, 2, 1},
		{1 << 40, 1 << 23, 1, 1, 1}, {1 << 40, -1 << 23, 1, 1, -1}, {1 << 40, 1<<24 - 1, 1 << 40, 1 << 22, 1},
	} {
		if n, e := num.Compare(c[0], c[1], c[2], c[3]); n != c[4] || e != api.OK {
			t.Errorf("P1.6: Compare(%d, %d, %d, %d) is %d, %d", c[0], c[1], c[2], c[3], n, e)
		}
	}
	for _, a := range edges {
		for _, b := range edges {
			for _, c := range edges {
				for _, d := range edges {
					checkCompare(t, a, b, c, d)
				}
			}
		}
	}
}

// Products of every number of bits, since an error may lie where one word of a product ends.
func TestComparePowers(t *testing.T) {
	for i := range 51 {
		for j := range 51 {
			for k := max(0, i+j-50); k <= 50 && k <= i+j; k++ {
				a, b, c, d := 1<<i, 1<<j, 1<<k, 1<<(i+j-k)
				checkCompare(t, a, b, c, d)
				checkCompare(t, a, b, c-1, d)
				checkCompare(t, a, b, c, d/2)
				checkCompare(t, a, -b, -c, d/2)
				checkCompare(t, a-1, b, -c, d)
			}
		}
	}
}

// lerp is num.Lerp for arguments without an error.
func lerp(t *testing.T, a, b, k, d int) int {
	t.Helper()
	n, e := num.Lerp(a, b, k, d)
	if e != api.OK {
		t.Fatalf("P1.7: Lerp(%d, %d, %d, %d) returns the error %d", a, b, k, d, e)
	}
	return n
}

func checkMeans(t *testing.T, a, b, k, d int) {
	t.Helper()
	n := lerp(t, a, b, k, d)
	if lerp(t, a, b, 0, d) != a || lerp(t, a, b, d, d) != b {
		t.Errorf("P1.7: Lerp from %d to %d in %d steps does not begin and end there", a, b, d)
	}
	if lerp(t, b, a, d-k, d) != n {
		t.Errorf("P1.7: Lerp(%d, %d, %d, %d) is %d, but not backwards", a, b, k, d, n)
	}
	if lerp(t, -a, -b, k, d) != -n {
		t.Errorf("P1.7: Lerp(%d, %d, %d, %d) is %d, but not so for the opposites", a, b, k, d, n)
	}
	if n < min(a, b) || n > max(a, b) {
		t.Errorf("P1.7: Lerp(%d, %d, %d, %d) is %d, not between", a, b, k, d, n)
	}
	for _, c := range []int{-million, -6, -2, 2, 4, million} {
		if within(a+c, million) && within(b+c, million) && lerp(t, a+c, b+c, k, d) != n+c {
			t.Errorf("P1.7: Lerp(%d, %d, %d, %d) is %d, but not so with %d more", a, b, k, d, n, c)
		}
	}
}

func TestMeans(t *testing.T) {
	ends := append(ordinary(), -million, -million+1, -777777, 524287, 524288, 999999, million-1, million)
	for _, a := range ends {
		for _, b := range ends {
			for _, d := range []int{1, 2, 3, 4, 5, 24, 96, 8192, steps - 1, steps} {
				for _, k := range []int{0, 1, 2, d / 3, d / 2, d - 1, d} {
					if k <= d {
						checkMeans(t, a, b, k, d)
					}
				}
			}
		}
	}
}

func compare(t *testing.T, a, b, c, d int) int {
	t.Helper()
	n, e := num.Compare(a, b, c, d)
	if e != api.OK {
		t.Fatalf("P1.8: Compare(%d, %d, %d, %d) returns the error %d", a, b, c, d, e)
	}
	return n
}

func TestOrder(t *testing.T) {
	values := []int{-large, -large + 1, -1 << 40, -1<<33 - 1, -3, -1, 0, 1, 2, 5, 1 << 32, 1<<33 + 1, large - 1, large}
	for _, a := range values {
		for _, b := range values {
			for _, c := range values {
				for _, d := range values {
					n := compare(t, a, b, c, d)
					if compare(t, c, d, a, b) != -n || compare(t, b, a, d, c) != n {
						t.Errorf("P1.8: Compare(%d, %d, %d, %d) is %d, but not exchanged", a, b, c, d, n)
					}
					for _, m := range []int{1, 2, 3, 1 << 17, 1 << 48} {
						if within(a, large/m) && within(c, large/m) && compare(t, a*m, b, c*m, d) != n {
							t.Errorf("P1.8: Compare(%d, %d, %d, %d) is %d, but not %d times", a, b, c, d, n, m)
						}
					}
				}
			}
		}
	}
}
