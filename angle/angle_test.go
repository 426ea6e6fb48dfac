package angle_test

import (
	"math"
	"math/rand"
	"testing"

	"dancestudio/angle"
	"dancestudio/api"
)

// edges are angles next to the ends of quarters, of turns and of the integers.
func edges() []int {
	l := []int{math.MinInt, math.MinInt + 1, math.MinInt + 63, math.MinInt + 64, -1 << 40, 1 << 40, math.MaxInt - 64, math.MaxInt - 63, math.MaxInt - 1, math.MaxInt}
	for a := -1100; a <= 1100; a++ {
		l = append(l, a)
	}
	return l
}

// normal is the normal form by the definition: the one angle from 0 to 255 that differs by a multiple of 256.
func normal(a int) int {
	n := a % 256
	if n < 0 {
		n += 256
	}
	return n
}

// sine is One times the sine, rounded; no value is near to a half.
func sine(a int) int {
	return int(math.Round(16384 * math.Sin(float64(normal(a))*math.Pi/128)))
}

// checkEverywhere compares f with the examples, and with the definition at all edges.
func checkEverywhere(t *testing.T, name string, f, definition func(int) int, examples [][2]int) {
	t.Helper()
	for _, c := range examples {
		if n := f(c[0]); n != c[1] {
			t.Errorf("%s(%d) is %d, not %d", name, c[0], n, c[1])
		}
	}
	for _, a := range edges() {
		if n := f(a); n != definition(a) {
			t.Errorf("%s(%d) is %d, not %d", name, a, n, definition(a))
		}
	}
}

func TestNorm(t *testing.T) {
	checkEverywhere(t, "P2.1: Norm", angle.Norm, normal, [][2]int{
		{-1, 255}, {256, 0}, {-257, 255}, {1000, 232}, {0, 0}, {255, 255}, {-256, 0}, {math.MinInt, 0}, {math.MaxInt, 255},
	})
}

func TestSin(t *testing.T) {
	checkEverywhere(t, "P2.2: Sin", angle.Sin, sine, [][2]int{
		{32, 11585}, {160, -11585}, {128, 0}, {8, 3196}, {-8, -3196}, {0, 0}, {64, 16384}, {65, 16379}, {127, 402},
		{129, -402}, {192, -16384}, {193, -16379}, {255, -402}, {math.MaxInt, -402},
	})
}

func TestCos(t *testing.T) {
	checkEverywhere(t, "P2.3: Cos", angle.Cos, func(a int) int { return sine(normal(a) + 64) }, [][2]int{
		{0, 16384}, {64, 0}, {8, 16069}, {128, -16384}, {192, 0}, {math.MaxInt, 16379}, {math.MinInt, 16384},
	})
}

func TestMirror(t *testing.T) {
	checkEverywhere(t, "P2.6: Mirror", angle.Mirror, func(a int) int { return normal(-normal(a)) }, [][2]int{
		{10, 246}, {0, 0}, {64, 192}, {-3, 3}, {128, 128}, {256, 0}, {math.MinInt, 0}, {math.MaxInt, 1},
	})
}

// passes says whether the way from a that has the length d, with its sign, has x strictly between its ends.
func passes(a, d, x int) bool {
	step := 1
	if d < 0 {
		step = -1
	}
	for i := step; i != d; i += step {
		if normal(a+i) == x {
			return true
		}
	}
	return false
}

// between looks for the shortest way by the definition.
func between(a, b, side int) int {
	for length := range 128 {
		if normal(a+length) == b {
			return length
		}
		if normal(a-length) == b {
			return -length
		}
	}
	if a == side || b == side {
		side = 0
	}
	if passes(a, 128, side) {
		return 128
	}
	return -128
}

func TestBetween(t *testing.T) {
	for _, c := range [][4]int{{250, 4, 64, 10}, {0, 128, 192, -128}, {0, 128, 64, 128}, {64, 192, 64, -128}, {192, 64, 64, 128}, {10, 138, 64, 128}, {138, 10, 64, -128}, {64, 192, 192, -128}, {192, 64, 192, 128}, {0, 129, 64, -127}, {5, 5, 192, 0}} {
		if n, e := angle.Between(c[0], c[1], c[2]); n != c[3] || e != api.OK {
			t.Errorf("P2.4: Between(%d, %d, %d) is %d, %d", c[0], c[1], c[2], n, e)
		}
	}
	for a := range 256 {
		for b := range 256 {
			for _, side := range []int{64, 192} {
				if n, e := angle.Between(a, b, side); n != between(a, b, side) || e != api.OK {
					t.Errorf("P2.4: Between(%d, %d, %d) is %d, %d", a, b, side, n, e)
				}
			}
		}
	}
}

func TestBetweenErrors(t *testing.T) {
	outside := []int{math.MinInt, -256, -1, 256, 300, math.MaxInt}
	inside := []int{0, 64, 128, 255}
	sides := []int{math.MinInt, -192, -64, -1, 0, 63, 65, 128, 191, 193, 256 + 64, math.MaxInt}
	check := func(a, b, side int, err api.Errno) {
		if n, e := angle.Between(a, b, side); n != 0 || e != err {
			t.Errorf("P1, P2.4: Between(%d, %d, %d) is %d, %d", a, b, side, n, e)
		}
	}
	for _, a := range outside {
		for _, b := range append(inside, outside...) {
			for _, side := range append(sides, 64, 192) {
				check(a, b, side, api.ErrRange)
				check(b, a, side, api.ErrRange)
			}
		}
	}
	for _, a := range inside {
		for _, b := range inside {
			for _, side := range sides {
				check(a, b, side, api.ErrKind)
			}
		}
	}
}

// isNearest says whether n is sum / One, rounded to the nearest integer, of two to the even one.
func isNearest(n, sum int) bool {
	distance := sum - n*api.One
	if distance < 0 {
		distance = -distance
	}
	return 2*distance < api.One || 2*distance == api.One && n%2 == 0
}

func checkTurned(t *testing.T, p api.Point, a int) {
	t.Helper()
	q, e := angle.Turned(p, a)
	sin, cos := sine(a), sine(normal(a)+64)
	if e != api.OK || !isNearest(q.X, p.X*cos+p.Y*sin) || !isNearest(q.Y, p.Y*cos-p.X*sin) {
		t.Errorf("P2.5: Turned(%v, %d) is %v, %d", p, a, q, e)
	}
}

func TestTurned(t *testing.T) {
	for _, c := range []struct {
		p    api.Point
		a    int
		want api.Point
		err  api.Errno
	}{
		{api.Point{X: 1000}, 32, api.Point{X: 707, Y: -707}, api.OK},
		{api.Point{X: 3, Y: 4}, 64, api.Point{X: 4, Y: -3}, api.OK},
		{api.Point{X: 100}, 16, api.Point{X: 92, Y: -38}, api.OK},
		{api.Point{X: 32768, Y: 32768}, 32, api.Point{X: 46340}, api.OK},
		{api.Point{X: -32768, Y: -32768}, 32, api.Point{X: -46340}, api.OK},
		{api.Point{X: 32769}, 0, api.Point{}, api.ErrRange},
		{api.Point{X: -32769}, 0, api.Point{}, api.ErrRange},
		{api.Point{Y: 32769}, 64, api.Point{}, api.ErrRange},
		{api.Point{Y: -32769}, 64, api.Point{}, api.ErrRange},
		{api.Point{X: math.MinInt, Y: math.MaxInt}, math.MinInt, api.Point{}, api.ErrRange},
	} {
		if q, e := angle.Turned(c.p, c.a); q != c.want || e != c.err {
			t.Errorf("P2.5: Turned(%v, %d) is %v, %d", c.p, c.a, q, e)
		}
	}
}

func TestTurnedEverywhere(t *testing.T) {
	numbers := []int{-32768, -32767, -16384, -8192, -601, -64, -3, -1, 0, 1, 2, 7, 600, 8191, 8192, 16384, 32767, 32768}
	for _, x := range numbers {
		for _, y := range numbers {
			for a := -260; a <= 260; a++ {
				checkTurned(t, api.Point{X: x, Y: y}, a)
			}
			checkTurned(t, api.Point{X: x, Y: y}, math.MaxInt)
			checkTurned(t, api.Point{X: x, Y: y}, math.MinInt)
		}
	}
}

// Sums that lie halfway between two multiples of One go to the even number.
func TestTurnedHalves(t *testing.T) {
	found := 0
	for a := range 256 {
		for x := 0; x <= api.MaxMM; x++ {
			sum := x * sine(a+64)
			if sum%api.One != api.One/2 && sum%api.One != -api.One/2 {
				continue
			}
			found++
			checkTurned(t, api.Point{X: x}, a)
			checkTurned(t, api.Point{X: -x}, a)
		}
	}
	if found == 0 {
		t.Error("P2.5: no halves were tried")
	}
}

// points are the corners of the floor, some near its middle, and some that are drawn.
func points() []api.Point {
	l := []api.Point{{}, {X: 1}, {Y: -1}, {X: 3, Y: 4}, {X: -7, Y: 5}}
	for _, x := range []int{-api.MaxMM, api.MaxMM} {
		for _, y := range []int{-api.MaxMM, api.MaxMM} {
			l = append(l, api.Point{X: x, Y: y})
		}
	}
	random := rand.New(rand.NewSource(2))
	for range 300 {
		l = append(l, api.Point{X: random.Intn(2*api.MaxMM+1) - api.MaxMM, Y: random.Intn(2*api.MaxMM+1) - api.MaxMM})
	}
	return l
}

func TestQuarters(t *testing.T) {
	turned := func(p api.Point, a int) api.Point {
		q, e := angle.Turned(p, a)
		if e != api.OK {
			t.Fatalf("P2.7: Turned(%v, %d) has the error %d", p, a, e)
		}
		return q
	}
	for _, p := range points() {
		once := turned(p, 64)
		if once != (api.Point{X: p.Y, Y: -p.X}) || turned(p, 0) != p {
			t.Errorf("P2.7: %v is turned to %v by 64, to %v by 0", p, once, turned(p, 0))
		}
		if q := turned(turned(turned(once, 64), 64), 64); q != p {
			t.Errorf("P2.7: four quarters lead from %v to %v", p, q)
		}
	}
	for a := -600; a <= 600; a++ {
		if angle.Sin(-a) != -angle.Sin(a) || angle.Sin(a+128) != -angle.Sin(a) {
			t.Errorf("P2.7: Sin(%d) is %d", a, angle.Sin(a))
		}
	}
}

func TestCircle(t *testing.T) {
	for a := -300; a <= 300; a++ {
		sin, cos := angle.Sin(a), angle.Cos(a)
		if d := sin*sin + cos*cos - api.One*api.One; d < -23172 || d > 23172 {
			t.Errorf("P2.8: the squares of %d differ by %d", a, d)
		}
	}
	for a := -64; a <= 63; a++ {
		if angle.Sin(a) > angle.Sin(a+1) {
			t.Errorf("P2.8: Sin falls after %d", a)
		}
	}
}

func TestLengths(t *testing.T) {
	for _, p := range points() {
		for a := range 256 {
			q, e := angle.Turned(p, a)
			d := math.Hypot(float64(q.X), float64(q.Y)) - math.Hypot(float64(p.X), float64(p.Y))
			if e != api.OK || math.Abs(d) > 3 {
				t.Errorf("P2.9: Turned(%v, %d) is %v, %d", p, a, q, e)
			}
		}
	}
}

func TestBack(t *testing.T) {
	for a := range 256 {
		for b := range 256 {
			for _, side := range []int{64, 192} {
				n, e1 := angle.Between(a, b, side)
				back, e2 := angle.Between(b, a, side)
				mirrored, e3 := angle.Between(angle.Mirror(a), angle.Mirror(b), angle.Mirror(side))
				if e1 != api.OK || e2 != api.OK || e3 != api.OK || back != -n || mirrored != -n || angle.Norm(a+n) != b {
					t.Errorf("P2.10: Between(%d, %d, %d) is %d, %d back, %d in the mirror", a, b, side, n, back, mirrored)
				}
			}
		}
	}
}
