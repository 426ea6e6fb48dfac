package geom_test

import (
	"iter"
	"math"
	"math/big"
	"math/rand"
	"slices"
	"testing"

	"dancestudio/api"
	"dancestudio/geom"
)

func at(x, y int) api.Point { return api.Point{X: x, Y: y} }

func disc(from, to api.Point, radius int) api.Motion {
	return api.Motion{From: from, To: to, Radius: radius}
}

func swapped(m api.Motion) api.Motion { return disc(m.To, m.From, m.Radius) }

func shifted(p, by api.Point) api.Point { return at(p.X+by.X, p.Y+by.Y) }

func shiftedAll(l []api.Point, by api.Point) []api.Point {
	var result []api.Point
	for _, p := range l {
		result = append(result, shifted(p, by))
	}
	return result
}

// beyond are integers that are no coordinates, next to the bounds and extreme ones.
var beyond = []int{math.MinInt, math.MinInt + 1, -1 << 62, -32769, 32769, 1 << 62, math.MaxInt}

// wrongPoints are points with one wrong coordinate each, and one with two.
func wrongPoints() []api.Point {
	l := []api.Point{at(math.MinInt, math.MaxInt)}
	for _, n := range beyond {
		l = append(l, at(n, 0), at(0, n))
	}
	return l
}

// wrongRadii are integers that are no radii.
func wrongRadii() []int { return append([]int{-1, -32768}, beyond...) }

// grid are the points whose coordinates are among the given ones.
func grid(coordinates ...int) []api.Point {
	var l []api.Point
	for _, x := range coordinates {
		for _, y := range coordinates {
			l = append(l, at(x, y))
		}
	}
	return l
}

// subsets are the lists of some points of l, in their order.
func subsets(l []api.Point) iter.Seq[[]api.Point] {
	return func(yield func([]api.Point) bool) {
		for set := range 1 << len(l) {
			var part []api.Point
			for i, p := range l {
				if set>>i&1 == 1 {
					part = append(part, p)
				}
			}
			if !yield(part) {
				return
			}
		}
	}
}

// somePoints are points of a square around the origin; half of them of a small one, where many lie on lines.
func somePoints(random *rand.Rand, n int) []api.Point {
	size := []int{2, 3, 1000, api.MaxMM}[random.Intn(4)]
	var l []api.Point
	for range n {
		l = append(l, at(random.Intn(2*size+1)-size, random.Intn(2*size+1)-size))
	}
	return l
}

func number(n int) *big.Rat { return new(big.Rat).SetInt64(int64(n)) }

func plus(a, b *big.Rat) *big.Rat { return new(big.Rat).Add(a, b) }

func times(a, b *big.Rat) *big.Rat { return new(big.Rat).Mul(a, b) }

// squareAt is the square of the distance of the centres at the moment t.
func squareAt(p, q api.Motion, t *big.Rat) *big.Rat {
	along := func(pFrom, pTo, qFrom, qTo int) *big.Rat {
		return plus(number(qFrom-pFrom), times(t, number(qTo-qFrom-pTo+pFrom)))
	}
	x := along(p.From.X, p.To.X, q.From.X, q.To.X)
	y := along(p.From.Y, p.To.Y, q.From.Y, q.To.Y)
	return plus(times(x, x), times(y, y))
}

// leastSquare is the least value of squareAt. As a polynomial of t it is least at an end, or where it does not change: three of its values say where.
func leastSquare(p, q api.Motion) *big.Rat {
	start, middle, end := squareAt(p, q, number(0)), squareAt(p, q, big.NewRat(1, 2)), squareAt(p, q, number(1))
	least := start
	if end.Cmp(least) < 0 {
		least = end
	}
	double := plus(plus(times(number(2), start), times(number(2), end)), times(number(-4), middle))
	slope := plus(plus(times(number(4), middle), times(number(-3), start)), times(number(-1), end))
	if double.Sign() == 0 {
		return least
	}
	t := new(big.Rat).Quo(slope, times(number(-2), double))
	if t.Sign() < 0 || t.Cmp(number(1)) > 0 {
		return least
	}
	if turning := squareAt(p, q, t); turning.Cmp(least) < 0 {
		least = turning
	}
	return least
}

// root is the root of a, rounded down.
func root(a *big.Rat) int {
	whole := new(big.Int).Div(a.Num(), a.Denom())
	return int(whole.Sqrt(whole).Int64())
}

func checkDist2(t *testing.T, p, q api.Point, want int, err api.Errno) {
	t.Helper()
	if n, e := geom.Dist2(p, q); n != want || e != err {
		t.Errorf("P3.1: Dist2(%v, %v) is %d, %d, not %d, %d", p, q, n, e, want, err)
	}
	if n, e := geom.Dist2(q, p); n != want || e != err {
		t.Errorf("P3.1, P3.7: Dist2(%v, %v) is %d, %d, not %d, %d", q, p, n, e, want, err)
	}
}

func TestDist2(t *testing.T) {
	checkDist2(t, at(0, 0), at(3, 4), 25, api.OK)
	checkDist2(t, at(-1, 2), at(2, -2), 25, api.OK)
	checkDist2(t, at(7, 7), at(7, 7), 0, api.OK)
	checkDist2(t, at(-32768, 32768), at(32768, -32768), 1<<33, api.OK)
	checkDist2(t, at(-32768, 0), at(32767, 1), 65535*65535+1, api.OK)
	for _, p := range grid(-5, -1, 0, 2) {
		for _, q := range grid(-4, 0, 1, 3) {
			x, y := q.X-p.X, q.Y-p.Y
			checkDist2(t, p, q, x*x+y*y, api.OK)
			by := at(32763, -32763)
			checkDist2(t, shifted(p, by), shifted(q, by), x*x+y*y, api.OK)
		}
	}
	for _, p := range wrongPoints() {
		checkDist2(t, p, at(0, 0), 0, api.ErrRange)
		checkDist2(t, p, p, 0, api.ErrRange)
	}
}

func checkCross(t *testing.T, o, p, q api.Point, want int, err api.Errno) {
	t.Helper()
	if n, e := geom.Cross(o, p, q); n != want || e != err {
		t.Errorf("P3.2: Cross(%v, %v, %v) is %d, %d, not %d, %d", o, p, q, n, e, want, err)
	}
	if n, e := geom.Cross(o, q, p); n != -want || e != err {
		t.Errorf("P3.2, P3.7: Cross(%v, %v, %v) is %d, %d, not %d, %d", o, q, p, n, e, -want, err)
	}
}

func TestCross(t *testing.T) {
	checkCross(t, at(0, 0), at(1, 0), at(0, 1), 1, api.OK)
	checkCross(t, at(1, 1), at(3, 1), at(1, 4), 6, api.OK)
	checkCross(t, at(1, 1), at(2, 3), at(4, 7), 0, api.OK)
	checkCross(t, at(5, 5), at(5, 5), at(9, -9), 0, api.OK)
	checkCross(t, at(-32768, -32768), at(32768, -32768), at(-32768, 32768), 1<<32, api.OK)
	for _, o := range grid(-3, 0, 1) {
		for _, p := range grid(-2, 0, 3) {
			for _, q := range grid(-1, 0, 5) {
				want := (p.X-o.X)*(q.Y-o.Y) - (p.Y-o.Y)*(q.X-o.X)
				checkCross(t, o, p, q, want, api.OK)
				by := at(-32765, 32763)
				checkCross(t, shifted(o, by), shifted(p, by), shifted(q, by), want, api.OK)
			}
		}
	}
	for _, p := range wrongPoints() {
		checkCross(t, p, at(0, 0), at(1, 1), 0, api.ErrRange)
		checkCross(t, at(0, 0), p, at(1, 1), 0, api.ErrRange)
	}
}

func checkNear(t *testing.T, p, a, b api.Point, r int, want bool, err api.Errno) {
	t.Helper()
	if near, e := geom.Near(p, a, b, r); near != want || e != err {
		t.Errorf("P3.3: Near(%v, %v, %v, %d) is %t, %d, not %t, %d", p, a, b, r, near, e, want, err)
	}
	if near, e := geom.Near(p, b, a, r); near != want || e != err {
		t.Errorf("P3.3, P3.7: Near(%v, %v, %v, %d) is %t, %d, not %t, %d", p, b, a, r, near, e, want, err)
	}
}

func isRadius(r int) bool { return 0 <= r && r <= 32768 }

// checkNearest tries the radii next to the least distance, and the extreme ones.
func checkNearest(t *testing.T, p, a, b api.Point) {
	t.Helper()
	least := leastSquare(disc(p, p, 0), disc(a, b, 0))
	border := root(least)
	for _, r := range []int{0, border - 1, border, border + 1, api.MaxMM} {
		if isRadius(r) {
			checkNear(t, p, a, b, r, least.Cmp(number(r*r)) <= 0, api.OK)
		}
	}
}

func TestNear(t *testing.T) {
	a, b := at(-10, 0), at(10, 0)
	checkNear(t, at(0, 5), a, b, 5, true, api.OK)
	checkNear(t, at(0, 5), a, b, 4, false, api.OK)
	checkNear(t, at(13, 4), a, b, 5, true, api.OK)
	checkNear(t, at(13, 4), a, b, 4, false, api.OK)
	checkNear(t, at(3, 0), a, b, 0, true, api.OK)
	checkNear(t, at(11, 0), a, b, 0, false, api.OK)
	checkNear(t, at(2, 2), at(2, 2), at(2, 2), 0, true, api.OK)
	checkNear(t, at(5, 6), at(2, 2), at(2, 2), 5, true, api.OK)
	checkNear(t, at(5, 6), at(2, 2), at(2, 2), 4, false, api.OK)
	checkNear(t, at(-32768, 32768), at(-32768, -32768), at(32768, 32768), 32768, false, api.OK)
	checkNear(t, at(32768, 32768), at(-32768, 0), at(32768, 0), 32768, true, api.OK)
	checkNear(t, at(32768, 32768), at(-32768, 0), at(32768, 0), 32767, false, api.OK)
	for _, p := range grid(-4, 0, 1, 3) {
		for _, a := range grid(-2, 0, 1, 2) {
			for _, b := range grid(-3, 0, 4) {
				checkNearest(t, p, a, b)
				by := at(32764, -32764)
				checkNearest(t, shifted(p, by), shifted(a, by), shifted(b, by))
			}
		}
	}
}

// TestNearFar has lines whose cross products do not have squares of 64 bits.
func TestNearFar(t *testing.T) {
	for _, p := range grid(-32768, -1, 32767, 32768) {
		for _, a := range grid(-32768, 0, 32767) {
			for _, b := range grid(-32767, 1, 32768) {
				checkNearest(t, p, a, b)
			}
		}
	}
	random := rand.New(rand.NewSource(3))
	for range 5000 {
		l := somePoints(random, 3)
		checkNearest(t, l[0], l[1], l[2])
	}
}

func TestNearErrors(t *testing.T) {
	o := at(0, 0)
	for _, p := range wrongPoints() {
		checkNear(t, p, o, o, 1, false, api.ErrRange)
		checkNear(t, o, p, o, 1, false, api.ErrRange)
		checkNear(t, p, p, p, api.MaxMM, false, api.ErrRange)
	}
	for _, r := range wrongRadii() {
		checkNear(t, o, o, o, r, false, api.ErrRange)
	}
	checkNear(t, at(32768, 32768), at(-32768, -32768), at(-32768, 32768), 32768, false, api.OK)
}

func checkTouch(t *testing.T, p, q api.Motion, want bool, err api.Errno) {
	t.Helper()
	for _, pair := range [][2]api.Motion{{p, q}, {q, p}, {swapped(p), swapped(q)}, {swapped(q), swapped(p)}} {
		if touch, e := geom.Touch(pair[0], pair[1]); touch != want || e != err {
			t.Errorf("P3.4, P3.7: Touch(%v, %v) is %t, %d, not %t, %d", pair[0], pair[1], touch, e, want, err)
		}
	}
}

// checkMeeting tries the sums of radii next to the least distance, divided in different ways, and the extreme ones.
func checkMeeting(t *testing.T, from, to, otherFrom, otherTo api.Point) {
	t.Helper()
	least := leastSquare(disc(from, to, 0), disc(otherFrom, otherTo, 0))
	border := root(least)
	for _, sum := range []int{0, border - 1, border, border + 1, api.MaxMM, 2 * api.MaxMM} {
		for _, r := range []int{0, sum / 3, sum - api.MaxMM, min(sum, api.MaxMM)} {
			if isRadius(r) && isRadius(sum-r) {
				checkTouch(t, disc(from, to, r), disc(otherFrom, otherTo, sum-r), least.Cmp(number(sum*sum)) < 0, api.OK)
			}
		}
	}
}

func TestTouch(t *testing.T) {
	up := disc(at(0, 0), at(0, 1000), 300)
	checkTouch(t, up, disc(at(600, 1000), at(600, 0), 300), false, api.OK)
	checkTouch(t, up, disc(at(599, 1000), at(599, 0), 300), true, api.OK)
	checkTouch(t, disc(at(0, 0), at(0, 0), 2), disc(at(3, 4), at(3, 4), 3), false, api.OK)
	checkTouch(t, disc(at(0, 0), at(0, 0), 3), disc(at(3, 4), at(3, 4), 3), true, api.OK)
	checkTouch(t, disc(at(0, 0), at(9, 0), 0), disc(at(0, 0), at(9, 0), 0), false, api.OK)
	checkTouch(t, disc(at(0, 0), at(9, 0), 1), disc(at(0, 0), at(9, 0), 0), true, api.OK)
	checkTouch(t, disc(at(-10, 0), at(10, 0), 1), disc(at(0, -10), at(0, 10), 0), true, api.OK)
	checkTouch(t, disc(at(-10, 0), at(10, 0), 0), disc(at(0, -10), at(0, 10), 0), false, api.OK)
	checkTouch(t, disc(at(0, 0), at(100, 0), 10), disc(at(20, 0), at(120, 0), 10), false, api.OK)
	checkTouch(t, disc(at(0, 0), at(100, 0), 10), disc(at(20, 0), at(119, 0), 10), true, api.OK)
	checkTouch(t, disc(at(-32768, -32768), at(32768, 32768), 0), disc(at(-32768, 32767), at(32768, -32768), 1), true, api.OK)
	checkTouch(t, disc(at(-32768, -32768), at(32768, -32768), 32768), disc(at(32768, 32768), at(-32768, 32768), 32768), false, api.OK)
	checkTouch(t, disc(at(-32768, -32768), at(32768, -32768), 32768), disc(at(32768, 32768), at(-32768, 32767), 32768), true, api.OK)
}

func TestTouchEverywhere(t *testing.T) {
	for _, from := range grid(-2, 0, 1) {
		for _, to := range grid(-3, 1) {
			for _, otherFrom := range grid(-1, 0, 2) {
				for _, otherTo := range grid(-1, 1, 4) {
					checkMeeting(t, from, to, otherFrom, otherTo)
					by := at(-32765, 32764)
					checkMeeting(t, shifted(from, by), shifted(to, by), shifted(otherFrom, by), shifted(otherTo, by))
				}
			}
		}
	}
	random := rand.New(rand.NewSource(4))
	for range 5000 {
		l := somePoints(random, 4)
		checkMeeting(t, l[0], l[1], l[2], l[3])
	}
	for range 2000 {
		l := grid(-32768, -32767, 0, 32767, 32768)
		at := func() api.Point { return l[random.Intn(len(l))] }
		checkMeeting(t, at(), at(), at(), at())
	}
}

func TestMoments(t *testing.T) {
	random := rand.New(rand.NewSource(5))
	for range 300 {
		l := somePoints(random, 4)
		p, q := disc(l[0], l[1], 0), disc(l[2], l[3], 0)
		q.Radius = min(root(leastSquare(p, q)), api.MaxMM)
		if touch, e := geom.Touch(p, q); touch || e != api.OK {
			t.Errorf("P3.4, P3.8: Touch(%v, %v) is %t, %d", p, q, touch, e)
		}
		for k := range 25 {
			if squareAt(p, q, big.NewRat(int64(k), 24)).Cmp(number(q.Radius*q.Radius)) < 0 {
				t.Errorf("P3.8: the discs of %v and %v touch at %d/24", p, q, k)
			}
		}
	}
}

func TestTouchErrors(t *testing.T) {
	still := disc(at(0, 0), at(0, 0), 1)
	for _, p := range wrongPoints() {
		checkTouch(t, disc(p, at(0, 0), 1), still, false, api.ErrRange)
		checkTouch(t, disc(at(0, 0), p, 1), still, false, api.ErrRange)
	}
	for _, r := range wrongRadii() {
		checkTouch(t, disc(at(0, 0), at(0, 0), r), still, false, api.ErrRange)
	}
	wrong := disc(at(32769, 0), at(0, -32769), -1)
	checkTouch(t, wrong, wrong, false, api.ErrRange)
}

func turn(o, p, q api.Point) int { return (p.X-o.X)*(q.Y-o.Y) - (p.Y-o.Y)*(q.X-o.X) }

func between(n, a, b, c int) bool { return min(a, b, c) <= n && n <= max(a, b, c) }

// inTriangle says whether p lies in the triangle abc, which may be a segment or a point.
func inTriangle(p, a, b, c api.Point) bool {
	u, v, w := turn(a, b, p), turn(b, c, p), turn(c, a, p)
	isLeft, isRight := u >= 0 && v >= 0 && w >= 0, u <= 0 && v <= 0 && w <= 0
	isWithin := between(p.X, a.X, b.X, c.X) && between(p.Y, a.Y, b.Y, c.Y)
	return isWithin && (isLeft || isRight)
}

// inHull says whether p is in the hull of l, which is made of the triangles of points of l.
func inHull(p api.Point, l []api.Point) bool {
	for _, a := range l {
		for _, b := range l {
			for _, c := range l {
				if inTriangle(p, a, b, c) {
					return true
				}
			}
		}
	}
	return false
}

// isCorner says whether p, a point of l, is a corner: the hull of the others does not contain it.
func isCorner(p api.Point, l []api.Point) bool {
	var others []api.Point
	for _, q := range l {
		if q != p {
			others = append(others, q)
		}
	}
	return !inHull(p, others)
}

func isBefore(p, q api.Point) bool { return p.X < q.X || p.X == q.X && p.Y < q.Y }

// checkOrder says whether hull begins with its least corner, and has no point of l to the right of a way between two corners.
func checkOrder(t *testing.T, l, hull []api.Point) {
	t.Helper()
	for i, p := range hull {
		next := hull[(i+1)%len(hull)]
		if isBefore(p, hull[0]) {
			t.Errorf("P3.5: Hull(%v) is %v, which does not begin with %v", l, hull, p)
		}
		for _, q := range l {
			if turn(p, next, q) < 0 {
				t.Errorf("P3.5: Hull(%v) is %v: %v is to the right of the way from %v to %v", l, hull, q, p, next)
			}
		}
	}
}

func checkHull(t *testing.T, l []api.Point) {
	t.Helper()
	before := slices.Clone(l)
	hull, e := geom.Hull(l)
	if e != api.OK || !slices.Equal(l, before) {
		t.Errorf("P3.5: Hull(%v) is %v, %d; now the list is %v", before, hull, e, l)
	}
	for i, p := range hull {
		if slices.Contains(hull[:i], p) || !slices.Contains(l, p) || !isCorner(p, l) {
			t.Errorf("P3.5, P3.9: Hull(%v) is %v; %v does not belong to it, or not twice", l, hull, p)
		}
	}
	for _, p := range l {
		if isCorner(p, l) && !slices.Contains(hull, p) {
			t.Errorf("P3.5: Hull(%v) is %v, without the corner %v", l, hull, p)
		}
		if inside, e := geom.Inside(p, hull); !inside || e != api.OK {
			t.Errorf("P3.9: Inside(%v, %v) is %t, %d", p, hull, inside, e)
		}
	}
	checkOrder(t, l, hull)
	if again, e := geom.Hull(hull); e != api.OK || !slices.Equal(again, hull) {
		t.Errorf("P3.9: Hull(%v) is %v, %d", hull, again, e)
	}
}

func TestHull(t *testing.T) {
	for _, c := range []struct{ l, want []api.Point }{
		{nil, nil},
		{[]api.Point{}, nil},
		{[]api.Point{at(4, 4)}, []api.Point{at(4, 4)}},
		{[]api.Point{at(4, 4), at(4, 4), at(4, 4)}, []api.Point{at(4, 4)}},
		{[]api.Point{at(2, 2), at(0, 0), at(1, 1)}, []api.Point{at(0, 0), at(2, 2)}},
		{[]api.Point{at(2, 9), at(2, -3), at(2, 4), at(2, 9)}, []api.Point{at(2, -3), at(2, 9)}},
		{[]api.Point{at(0, 0), at(2, 0), at(1, 1), at(2, 2), at(0, 2), at(1, 0)}, []api.Point{at(0, 0), at(2, 0), at(2, 2), at(0, 2)}},
		{[]api.Point{at(0, 2), at(0, 1), at(0, 0), at(1, 0), at(2, 0), at(1, 1)}, []api.Point{at(0, 0), at(2, 0), at(0, 2)}},
		{[]api.Point{at(32768, 32768), at(-32768, 32768), at(32768, -32768), at(-32768, -32768), at(0, 0)}, []api.Point{at(-32768, -32768), at(32768, -32768), at(32768, 32768), at(-32768, 32768)}},
	} {
		checkHull(t, c.l)
		if hull, e := geom.Hull(c.l); e != api.OK || !slices.Equal(hull, c.want) {
			t.Errorf("P3.5: Hull(%v) is %v, %d, not %v", c.l, hull, e, c.want)
		}
	}
}

func TestHullEverywhere(t *testing.T) {
	for l := range subsets(grid(0, 1, 2)) {
		checkHull(t, l)
		slices.Reverse(l)
		checkHull(t, l)
	}
	random := rand.New(rand.NewSource(6))
	for range 2000 {
		checkHull(t, somePoints(random, random.Intn(api.MaxPlaces+1)))
	}
}

// TestRound has as many corners as points: they lie on a parabola.
func TestRound(t *testing.T) {
	var l []api.Point
	for i := range api.MaxPlaces {
		l = append(l, at(i-8, (i-8)*(i-8)))
	}
	checkHull(t, l)
	slices.Reverse(l)
	checkHull(t, l)
	if hull, e := geom.Hull(l); e != api.OK || len(hull) != api.MaxPlaces {
		t.Errorf("P3.5: Hull(%v) is %v, %d", l, hull, e)
	}
}

func TestHullIsNew(t *testing.T) {
	l := []api.Point{at(0, 0), at(4, 0), at(0, 4)}
	hull, _ := geom.Hull(l)
	for i := range hull {
		hull[i] = at(9, 9)
	}
	if !slices.Equal(l, []api.Point{at(0, 0), at(4, 0), at(0, 4)}) {
		t.Error("P3.5: the hull shares memory with the list:", l)
	}
}

func checkHullErrors(t *testing.T, l []api.Point, err api.Errno) {
	t.Helper()
	if hull, e := geom.Hull(l); len(hull) != 0 || e != err {
		t.Errorf("P3.5: Hull(%v) is %v, %d, not %d", l, hull, e, err)
	}
	if inside, e := geom.Inside(at(0, 0), l); inside || e != err {
		t.Errorf("P3.6: Inside({0 0}, %v) is %t, %d, not %d", l, inside, e, err)
	}
}

func TestHullErrors(t *testing.T) {
	for _, p := range wrongPoints() {
		for i := range api.MaxPlaces {
			l := make([]api.Point, api.MaxPlaces)
			l[i] = p
			checkHullErrors(t, l, api.ErrRange)
			checkHullErrors(t, append(l, at(0, 0)), api.ErrFull)
		}
		for _, l := range [][]api.Point{nil, {at(0, 0)}, {p}} {
			if inside, e := geom.Inside(p, l); inside || e != api.ErrRange {
				t.Errorf("P3.6: Inside(%v, %v) is %t, %d", p, l, inside, e)
			}
		}
		if inside, e := geom.Inside(p, make([]api.Point, api.MaxPlaces+1)); inside || e != api.ErrFull {
			t.Errorf("P3.6: Inside(%v) of 17 points is %t, %d", p, inside, e)
		}
	}
	checkHullErrors(t, make([]api.Point, api.MaxPlaces+1), api.ErrFull)
	checkHullErrors(t, make([]api.Point, 1000), api.ErrFull)
}

func checkInside(t *testing.T, p api.Point, l []api.Point, want bool) {
	t.Helper()
	// With room behind the list, an append would change what lies there.
	all := append(slices.Clone(l), at(77, 77))
	room := all[:len(l)]
	if inside, e := geom.Inside(p, room); inside != want || e != api.OK {
		t.Errorf("P3.6: Inside(%v, %v) is %t, %d, not %t", p, l, inside, e, want)
	}
	if !slices.Equal(room, l) || all[len(l)] != at(77, 77) {
		t.Errorf("P3.6: Inside(%v, %v) has changed its argument: %v", p, l, all)
	}
}

func TestInside(t *testing.T) {
	example := []api.Point{at(0, 0), at(2, 0), at(1, 1), at(2, 2), at(0, 2), at(1, 0)}
	checkInside(t, at(1, 0), example, true)
	checkInside(t, at(3, 1), example, false)
	square := []api.Point{at(0, 0), at(4, 0), at(4, 4), at(0, 4)}
	checkInside(t, at(4, 2), square, true)
	checkInside(t, at(4, 4), square, true)
	checkInside(t, at(1, 3), square, true)
	checkInside(t, at(5, 2), square, false)
	checkInside(t, at(0, 0), nil, false)
	checkInside(t, at(0, 0), square[:1], true)
	checkInside(t, at(1, 1), square[:1], false)
	checkInside(t, at(2, 0), square[:2], true)
	checkInside(t, at(5, 0), square[:2], false)
	checkInside(t, at(2, 1), square[:2], false)
	full := slices.Repeat(square, 4)
	checkInside(t, at(3, 1), full, true)
	checkInside(t, at(-1, 1), full, false)
}

func TestInsideEverywhere(t *testing.T) {
	for l := range subsets(grid(0, 2, 4)) {
		for _, p := range grid(-1, 0, 1, 2, 3, 4) {
			checkInside(t, p, l, inHull(p, l))
			by := at(32764, -32767)
			checkInside(t, shifted(p, by), shiftedAll(l, by), inHull(p, l))
		}
	}
	random := rand.New(rand.NewSource(7))
	for range 3000 {
		l := somePoints(random, random.Intn(api.MaxPlaces+1)+1)
		checkInside(t, l[0], l[1:], inHull(l[0], l[1:]))
	}
}
