package aim_test

import (
	"math"
	"math/rand"
	"testing"

	"dancestudio/aim"
	"dancestudio/api"
	"dancestudio/dir"
)

// extreme are integers far outside all bounds.
var extreme = []int{math.MinInt, math.MinInt + 1, math.MinInt + 64, -1 << 62, -1 << 50, -1 << 32, -1<<32 + 3, -1 << 31, -524288, -8192, -256, -255, 256, 257, 8192, 524289, 1 << 31, 1 << 32, 1<<32 + 3, 1 << 50, 1<<50 + 1, 1 << 62, math.MaxInt - 64, math.MaxInt - 1, math.MaxInt}

// noLimbs are integers that are no limb.
func noLimbs() []int { return append([]int{-2, -1, 6, 7, 8, 9}, extreme...) }

// allAims calls f with every valid aim, but only those with the bends that are listed.
func allAims(bends []int, f func(a api.Aim)) {
	for _, bend := range bends {
		for az := range 256 {
			for el := -63; el <= 63; el++ {
				f(api.Aim{Az: az, El: el, Bend: bend})
			}
		}
		f(api.Aim{El: 64, Bend: bend})
		f(api.Aim{El: -64, Bend: bend})
	}
}

// someAim is a valid aim, often up, down, or that of a direction.
func someAim(random *rand.Rand) api.Aim {
	bend := random.Intn(7)
	switch random.Intn(8) {
	case 0:
		return api.Aim{El: 64, Bend: bend}
	case 1:
		return api.Aim{El: -64, Bend: bend}
	case 2, 3:
		return api.Aim{Az: 32 * random.Intn(8), El: 32 * (random.Intn(3) - 1), Bend: bend}
	}
	return api.Aim{Az: random.Intn(256), El: random.Intn(127) - 63, Bend: bend}
}

// edgeAims are valid aims at the borders of their ranges and at the quarters of a turn.
func edgeAims() []api.Aim {
	var all []api.Aim
	for _, bend := range []int{0, 1, 6} {
		all = append(all, api.Aim{El: 64, Bend: bend}, api.Aim{El: -64, Bend: bend})
		for _, az := range []int{0, 1, 63, 64, 65, 127, 128, 129, 191, 192, 193, 254, 255} {
			for _, el := range []int{-63, -1, 0, 32, 63} {
				all = append(all, api.Aim{Az: az, El: el, Bend: bend})
			}
		}
	}
	return all
}

// wrongAims are not valid, by one component or by several.
func wrongAims() []api.Aim {
	var all []api.Aim
	for _, n := range append([]int{-100, -65, -7, -2, -1, 7, 8, 65, 66, 100}, extreme...) {
		for _, a := range []api.Aim{{Az: n}, {El: n}, {Bend: n}, {Az: n, El: n}, {El: n, Bend: n}, {Az: n, El: n, Bend: n}, {Az: n, El: 64}, {Az: n, El: -64, Bend: 6}, {Az: n, El: 65}, {Az: 255, El: 63, Bend: n}, {Az: 255, El: n, Bend: 6}, {Az: 64, El: -64, Bend: n}} {
			if check(0, a) != api.OK {
				all = append(all, a)
			}
		}
	}
	return all
}

// check is the definition of P18.1.
func check(limb int, a api.Aim) api.Errno {
	switch {
	case limb < 0 || limb > 5:
		return api.ErrKind
	case a.Az < 0 || a.Az > 255 || a.El < -64 || a.El > 64 || a.Bend < 0 || a.Bend > 6:
		return api.ErrRange
	case a.Az != 0 && (a.El == 64 || a.El == -64):
		return api.ErrForm
	}
	return api.OK
}

// aimOf is the definition of P18.2.
func aimOf(limb int, t api.Target) (api.Aim, api.Errno) {
	if limb < 0 || limb > 5 {
		return api.Aim{}, api.ErrKind
	}
	if t.Dir < 0 || t.Dir > 8 || t.Level < -1 || t.Level > 1 || t.Bend < 0 || t.Bend > 6 {
		return api.Aim{}, api.ErrRange
	}
	switch {
	case t.Dir > 0:
		az := []int{0, 32, 64, 96, 128, 160, 192, 224}[t.Dir-1]
		return api.Aim{Az: az, El: []int{-32, 0, 32}[t.Level+1], Bend: t.Bend}, api.OK
	case t.Level == 1:
		return api.Aim{El: 64, Bend: t.Bend}, api.OK
	case t.Level == 0 || limb == 2 || limb == 5:
		return api.Aim{}, api.ErrPlace
	}
	return api.Aim{El: -64, Bend: t.Bend}, api.OK
}

// targets are those of a limb, by their aims.
func targets(t *testing.T, limb int) map[api.Aim]api.Target {
	t.Helper()
	all := map[api.Aim]api.Target{}
	for _, target := range allTargets() {
		if a, err := aimOf(limb, target); err == api.OK {
			if other, twice := all[a]; twice {
				t.Fatalf("P18.3: %v is the aim of %v and of %v", a, other, target)
			}
			all[a] = target
		}
	}
	return all
}

// allTargets are all with a direction, a level and a bend, for whichever limb.
func allTargets() []api.Target {
	var all []api.Target
	for d := range 9 {
		for level := -1; level <= 1; level++ {
			for bend := range 7 {
				all = append(all, api.Target{Dir: d, Level: level, Bend: bend})
			}
		}
	}
	return all
}

// sides has the side of each limb.
var sides = []int{192, 64, 192, 192, 64, 192}

// normal is the angle from 0 to 255 that differs from a by whole turns.
func normal(a int) int {
	n := a % 256
	if n < 0 {
		n += 256
	}
	return n
}

// way is the shorter way from x to y: of two that are half turns the one on which the angle side is, or 0 if side is an end.
func way(x, y, side int) int {
	for length := range 128 {
		if normal(x+length) == y {
			return length
		}
		if normal(x-length) == y {
			return -length
		}
	}
	if x == side || y == side {
		side = 0
	}
	for step := 1; step < 128; step++ {
		if normal(x+step) == side {
			return 128
		}
	}
	return -128
}

// mean is (a * (d - k) + b * k) / d, to the nearest integer, of two to the even one.
func mean(a, b, k, d int) int {
	twice := 2 * (a*(d-k) + b*k)
	n := int(math.Floor(float64(twice) / float64(2*d)))
	// n is at most one away from the integers next to the quotient: the nearest is looked for exactly.
	best := n - 2
	for m := n - 1; m <= n+2; m++ {
		far, near := distance(2*d*m, twice), distance(2*d*best, twice)
		if far < near || far == near && m%2 == 0 {
			best = m
		}
	}
	return best
}

func distance(a, b int) int { return max(a-b, b-a) }

// isPole says whether an aim points up or down.
func isPole(a api.Aim) bool { return a.El == 64 || a.El == -64 }

// lerp is the definition of P18.4.
func lerp(limb int, a, b api.Aim, k, d int) (api.Aim, api.Errno) {
	for _, c := range []api.Aim{a, b} {
		if err := check(limb, c); err != api.OK {
			return api.Aim{}, err
		}
	}
	if d < 1 || d > 524288 || k < 0 || k > d {
		return api.Aim{}, api.ErrRange
	}
	x, y := a.Az, b.Az
	switch {
	case isPole(a) && isPole(b):
		x, y = sides[limb], sides[limb]
	case isPole(a):
		x = y
	case isPole(b):
		y = x
	case (limb == 2 || limb == 5) && distance(x, y) == 128:
		return api.Aim{}, api.ErrTwist
	}
	c := api.Aim{El: mean(a.El, b.El, k, d), Bend: mean(a.Bend, b.Bend, k, d)}
	if !isPole(c) {
		c.Az = normal(mean(x, x+way(x, y, sides[limb]), k, d))
	}
	return c, api.OK
}

// sine is One times the sine, rounded; no value is near to a half.
func sine(a int) int {
	return int(math.Round(16384 * math.Sin(float64(normal(a))*math.Pi/128)))
}

// vector is the definition of P18.7, for valid aims.
func vector(a api.Aim, facing int) api.Vec {
	azimuth := a.Az + normal(facing)
	flat := sine(a.El + 64)
	return api.Vec{X: mean(0, flat*sine(azimuth), 1, 16384), Y: mean(0, flat*sine(azimuth+64), 1, 16384), Z: sine(a.El)}
}

func checkCheck(t *testing.T, limb int, a api.Aim, err api.Errno) {
	t.Helper()
	if e := aim.Check(limb, a); e != err {
		t.Fatalf("P1, P18.1: Check(%d, %v) is %d, not %d", limb, a, e, err)
	}
}

func checkOf(t *testing.T, limb int, target api.Target, want api.Aim, err api.Errno) {
	t.Helper()
	if a, e := aim.Of(limb, target); a != want || e != err {
		t.Fatalf("P1, P18.2: Of(%d, %v) is %v, %d, not %v, %d", limb, target, a, e, want, err)
	}
}

func checkNotate(t *testing.T, limb int, a api.Aim, want api.Target, err api.Errno) {
	t.Helper()
	if target, e := aim.Notate(limb, a); target != want || e != err {
		t.Fatalf("P1, P18.3: Notate(%d, %v) is %v, %d, not %v, %d", limb, a, target, e, want, err)
	}
}

func checkLerp(t *testing.T, limb int, a, b api.Aim, k, d int, want api.Aim, err api.Errno) {
	t.Helper()
	if c, e := aim.Lerp(limb, a, b, k, d); c != want || e != err {
		t.Fatalf("P1, P18.4: Lerp(%d, %v, %v, %d, %d) is %v, %d, not %v, %d", limb, a, b, k, d, c, e, want, err)
	}
}

func checkMirror(t *testing.T, limb int, a, want api.Aim, err api.Errno) {
	t.Helper()
	if b, e := aim.Mirror(limb, a); b != want || e != err {
		t.Fatalf("P1, P18.5: Mirror(%d, %v) is %v, %d, not %v, %d", limb, a, b, e, want, err)
	}
}

func checkSwap(t *testing.T, limb, want int, err api.Errno) {
	t.Helper()
	if n, e := aim.Swap(limb); n != want || e != err {
		t.Fatalf("P1, P18.6: Swap(%d) is %d, %d, not %d, %d", limb, n, e, want, err)
	}
}

func checkVector(t *testing.T, a api.Aim, facing int, want api.Vec, err api.Errno) {
	t.Helper()
	if v, e := aim.Vector(a, facing); v != want || e != err {
		t.Fatalf("P1, P18.7: Vector(%v, %d) is %v, %d, not %v, %d", a, facing, v, e, want, err)
	}
}

// checkLerpDefined compares Lerp with its definition.
func checkLerpDefined(t *testing.T, limb int, a, b api.Aim, k, d int) {
	t.Helper()
	want, err := lerp(limb, a, b, k, d)
	checkLerp(t, limb, a, b, k, d, want, err)
}

func TestExamples(t *testing.T) {
	up, down := api.Aim{El: 64}, api.Aim{El: -64}
	checkOf(t, api.ArmLeft, api.Target{Dir: api.Right, Level: api.High, Bend: 2}, api.Aim{Az: 64, El: 32, Bend: 2}, api.OK)
	checkOf(t, api.ArmLeft, api.Target{Dir: api.Place, Level: api.Low}, down, api.OK)
	checkOf(t, api.Head, api.Target{Dir: api.Place, Level: api.Low}, api.Aim{}, api.ErrPlace)
	checkNotate(t, api.Head, api.Aim{Az: 192}, api.Target{Dir: api.Left}, api.OK)
	checkNotate(t, api.Head, api.Aim{Az: 10}, api.Target{}, api.ErrForm)
	checkNotate(t, api.Head, down, api.Target{}, api.ErrForm)
	for k, az := range []int{0, 16, 32, 48, 64} {
		checkLerp(t, api.ArmRight, api.Aim{}, api.Aim{Az: 64}, k, 4, api.Aim{Az: az}, api.OK)
	}
	checkLerp(t, api.ArmRight, api.Aim{}, api.Aim{Az: 128}, 1, 2, api.Aim{Az: 64}, api.OK)
	checkLerp(t, api.ArmLeft, api.Aim{}, api.Aim{Az: 128}, 1, 2, api.Aim{Az: 192}, api.OK)
	checkLerp(t, api.Torso, api.Aim{}, api.Aim{Az: 128}, 1, 2, api.Aim{}, api.ErrTwist)
	checkLerp(t, api.ArmRight, up, down, 1, 2, api.Aim{Az: 64}, api.OK)
	checkLerp(t, api.ArmRight, up, api.Aim{Az: 96}, 1, 2, api.Aim{Az: 96, El: 32}, api.OK)
	checkVector(t, api.Aim{}, 64, api.Vec{X: 16384}, api.OK)
	checkVector(t, api.Aim{El: 32}, 0, api.Vec{Y: 11585, Z: 11585}, api.OK)
}

// TestCheck has every value of each component, and those next to its range.
func TestCheck(t *testing.T) {
	for limb := -2; limb <= 7; limb++ {
		for az := -3; az <= 258; az++ {
			for el := -67; el <= 67; el++ {
				for bend := -2; bend <= 8; bend++ {
					a := api.Aim{Az: az, El: el, Bend: bend}
					checkCheck(t, limb, a, check(limb, a))
				}
			}
		}
	}
	checkCheck(t, 5, api.Aim{Az: 255, El: 63, Bend: 6}, api.OK)
	checkCheck(t, 0, api.Aim{Az: 255, El: 64}, api.ErrForm)
	checkCheck(t, 0, api.Aim{Az: 1, El: -64, Bend: 7}, api.ErrRange)
	checkCheck(t, 6, api.Aim{Az: 256, El: 64}, api.ErrKind)
}

// TestWrongAims tries all functions with aims that are not valid, also with other arguments that are not.
func TestWrongAims(t *testing.T) {
	for _, a := range wrongAims() {
		for limb := range 6 {
			err := check(limb, a)
			checkCheck(t, limb, a, err)
			checkNotate(t, limb, a, api.Target{}, err)
			checkMirror(t, limb, a, api.Aim{}, err)
			for _, n := range []int{0, 1, 2, math.MinInt, math.MaxInt} {
				checkLerp(t, limb, a, api.Aim{Az: 128}, n, 2, api.Aim{}, err)
				checkLerp(t, limb, api.Aim{El: 64}, a, 1, n, api.Aim{}, err)
				checkLerp(t, limb, a, a, n, n, api.Aim{}, err)
			}
		}
		for _, facing := range []int{0, 64, math.MinInt, math.MaxInt} {
			checkVector(t, a, facing, api.Vec{}, check(0, a))
		}
	}
}

// TestTwoWrongAims tries that the first of two aims that are not valid decides.
func TestTwoWrongAims(t *testing.T) {
	ranged, formed := api.Aim{Bend: 7}, api.Aim{Az: 9, El: 64}
	for limb := range 6 {
		for _, d := range []int{0, 1, 524288, 524289} {
			checkLerp(t, limb, ranged, formed, 0, d, api.Aim{}, api.ErrRange)
			checkLerp(t, limb, formed, ranged, 0, d, api.Aim{}, api.ErrForm)
			checkLerp(t, limb, formed, formed, 0, d, api.Aim{}, api.ErrForm)
		}
	}
}

// TestNoLimbs tries all functions with integers that are no limb, also with other arguments that are not valid.
func TestNoLimbs(t *testing.T) {
	for _, limb := range noLimbs() {
		checkSwap(t, limb, 0, api.ErrKind)
		for _, a := range append(wrongAims(), edgeAims()...) {
			checkCheck(t, limb, a, api.ErrKind)
			checkNotate(t, limb, a, api.Target{}, api.ErrKind)
			checkMirror(t, limb, a, api.Aim{}, api.ErrKind)
			checkLerp(t, limb, a, api.Aim{}, 1, 2, api.Aim{}, api.ErrKind)
			checkLerp(t, limb, api.Aim{}, a, 0, 0, api.Aim{}, api.ErrKind)
			checkLerp(t, limb, a, a, -1, math.MaxInt, api.Aim{}, api.ErrKind)
		}
		for _, target := range append(allTargets(), api.Target{Dir: 9}, api.Target{Dir: 1, Level: 2}, api.Target{Dir: 1, Bend: 7}, api.Target{Dir: -1, Level: -2, Bend: -1}) {
			checkOf(t, limb, target, api.Aim{}, api.ErrKind)
		}
	}
}

func TestOf(t *testing.T) {
	for limb := range 6 {
		for d := -2; d <= 10; d++ {
			for level := -3; level <= 3; level++ {
				for bend := -2; bend <= 8; bend++ {
					target := api.Target{Dir: d, Level: level, Bend: bend}
					want, err := aimOf(limb, target)
					checkOf(t, limb, target, want, err)
				}
			}
		}
	}
}

func TestOfExtremes(t *testing.T) {
	for limb := range 6 {
		for _, n := range extreme {
			for _, m := range []int{-1, 0, 1, 6, n} {
				checkOf(t, limb, api.Target{Dir: n, Level: m, Bend: m}, api.Aim{}, api.ErrRange)
				checkOf(t, limb, api.Target{Dir: m, Level: n, Bend: m}, api.Aim{}, api.ErrRange)
				checkOf(t, limb, api.Target{Dir: m, Level: m, Bend: n}, api.Aim{}, api.ErrRange)
			}
		}
	}
}

// TestNotate has every valid aim for every limb.
func TestNotate(t *testing.T) {
	for limb := range 6 {
		all := targets(t, limb)
		allAims([]int{0, 1, 2, 3, 4, 5, 6}, func(a api.Aim) {
			if target, ok := all[a]; ok {
				checkNotate(t, limb, a, target, api.OK)
				return
			}
			checkNotate(t, limb, a, api.Target{}, api.ErrForm)
		})
	}
}

// TestLerpAzimuths has every pair of azimuths for every limb.
func TestLerpAzimuths(t *testing.T) {
	steps := [][2]int{{0, 1}, {1, 1}, {1, 2}, {1, 3}, {3, 8}, {5, 7}}
	for x := range 256 {
		for y := range 256 {
			k, d := steps[(x+y)%6][0], steps[(x+y)%6][1]
			for limb := range 6 {
				checkLerpDefined(t, limb, api.Aim{Az: x}, api.Aim{Az: y}, 1, 2)
				checkLerpDefined(t, limb, api.Aim{Az: x, El: 63}, api.Aim{Az: y, El: -63, Bend: 3}, k, d)
			}
		}
	}
}

// TestHalfTurns has every half turn of every limb, at every tick of a way that meets every angle.
func TestHalfTurns(t *testing.T) {
	for limb := range 6 {
		for x := range 256 {
			for k := 0; k <= 128; k++ {
				checkLerpDefined(t, limb, api.Aim{Az: x}, api.Aim{Az: normal(x + 128)}, k, 128)
			}
		}
	}
}

// aimWith is the aim with an elevation, and with an azimuth where it may have one.
func aimWith(az, el, bend int) api.Aim {
	a := api.Aim{Az: az, El: el, Bend: bend}
	if isPole(a) {
		a.Az = 0
	}
	return a
}

// TestLerpElevations has every pair of elevations and, with one of them each, every pair of bends.
func TestLerpElevations(t *testing.T) {
	for from := -64; from <= 64; from++ {
		for to := -64; to <= 64; to++ {
			for limb := range 6 {
				a, b := aimWith(200, from, (from+64)%7), aimWith(90, to, (to+64)/7%7)
				for _, step := range [][2]int{{0, 1}, {1, 1}, {1, 2}, {1, 3}, {2, 3}, {1, 4}, {127, 128}, {1, 256}, {255, 256}} {
					checkLerpDefined(t, limb, a, b, step[0], step[1])
				}
			}
		}
	}
}

// TestLerpPoles has ways from and to up and down, with every azimuth of the other end.
func TestLerpPoles(t *testing.T) {
	for limb := range 6 {
		for _, el := range []int{-64, 64} {
			pole := api.Aim{El: el, Bend: 6}
			for az := range 256 {
				for _, other := range []int{-63, -62, 0, 1, 62, 63} {
					for k := range 9 {
						checkLerpDefined(t, limb, pole, api.Aim{Az: az, El: other}, k, 8)
						checkLerpDefined(t, limb, api.Aim{Az: az, El: other}, pole, k, 8)
					}
				}
			}
			for k := range 501 {
				checkLerpDefined(t, limb, pole, api.Aim{El: -el}, k, 500)
				checkLerpDefined(t, limb, pole, api.Aim{El: el}, k, 500)
			}
		}
	}
}

// TestRoundedToPoles tries that an aim that is rounded up to a pole has no azimuth.
func TestRoundedToPoles(t *testing.T) {
	for limb := range 6 {
		checkLerp(t, limb, api.Aim{El: 64}, api.Aim{Az: 100, El: 63}, 1, 2, api.Aim{El: 64}, api.OK)
		checkLerp(t, limb, api.Aim{Az: 100, El: -63}, api.Aim{El: -64}, 2, 3, api.Aim{El: -64}, api.OK)
		checkLerp(t, limb, api.Aim{Az: 100, El: -63}, api.Aim{El: -64}, 1, 3, api.Aim{Az: 100, El: -63}, api.OK)
	}
}

func TestLerpRandom(t *testing.T) {
	random := rand.New(rand.NewSource(18))
	for range 300000 {
		d := 1 + random.Intn(1<<(1+random.Intn(19)))
		checkLerpDefined(t, random.Intn(6), someAim(random), someAim(random), random.Intn(d+1), d)
	}
}

// TestLerpTicks has every combination of ticks at and beyond the borders.
func TestLerpTicks(t *testing.T) {
	ticks := append([]int{-2, -1, 0, 1, 2, 3, 8191, 524286, 524287, 524288, 524290, 1 << 20}, extreme...)
	pairs := [][2]api.Aim{{{}, {}}, {{Az: 255, El: -63}, {Az: 130, El: 63, Bend: 6}}, {{El: 64}, {El: -64, Bend: 5}}, {{Az: 64}, {Az: 192}}, {{Az: 192, El: 5}, {Az: 64, El: -5}}}
	for _, d := range ticks {
		for _, k := range append([]int{d - 1, d + 1}, ticks...) {
			for limb := range 6 {
				for _, pair := range pairs {
					checkLerpDefined(t, limb, pair[0], pair[1], k, d)
				}
			}
		}
	}
}

// TestTwist has every pair of azimuths that differ by a half turn, with ticks that are valid and such that are not.
func TestTwist(t *testing.T) {
	for _, limb := range []int{api.Torso, api.Head} {
		for x := range 256 {
			a, b := api.Aim{Az: x, El: 63}, api.Aim{Az: normal(x + 128), El: -63, Bend: 6}
			for k := range 3 {
				checkLerp(t, limb, a, b, k, 2, api.Aim{}, api.ErrTwist)
			}
			checkLerp(t, limb, a, b, 3, 2, api.Aim{}, api.ErrRange)
			checkLerp(t, limb, a, b, 0, 0, api.Aim{}, api.ErrRange)
			checkLerp(t, limb, a, b, 0, 524289, api.Aim{}, api.ErrRange)
			checkLerp(t, limb, a, b, -1, 2, api.Aim{}, api.ErrRange)
		}
		for _, el := range []int{-64, 64} {
			// The azimuth 0 of a pole is none: nothing is a half turn away from it.
			checkLerp(t, limb, api.Aim{El: el}, api.Aim{Az: 128}, 1, 2, api.Aim{Az: 128, El: el / 2}, api.OK)
			checkLerp(t, limb, api.Aim{Az: 128}, api.Aim{El: el}, 1, 2, api.Aim{Az: 128, El: el / 2}, api.OK)
			checkLerp(t, limb, api.Aim{El: el}, api.Aim{El: -el}, 1, 2, api.Aim{Az: 192}, api.OK)
		}
	}
}

// TestMirror has every valid aim for every limb.
func TestMirror(t *testing.T) {
	for limb := range 6 {
		allAims([]int{0, 1, 2, 3, 4, 5, 6}, func(a api.Aim) {
			checkMirror(t, limb, a, api.Aim{Az: normal(-a.Az), El: a.El, Bend: a.Bend}, api.OK)
		})
	}
}

func TestSwap(t *testing.T) {
	for limb, want := range []int{api.LegRight, api.LegLeft, api.Torso, api.ArmRight, api.ArmLeft, api.Head} {
		checkSwap(t, limb, want, api.OK)
	}
	for n := range 300 {
		checkSwap(t, -1-n, 0, api.ErrKind)
		checkSwap(t, 6+n, 0, api.ErrKind)
	}
}

// TestVector has every valid aim for some facings, and every facing for some aims.
func TestVector(t *testing.T) {
	for _, facing := range []int{0, 1, -77, math.MaxInt} {
		allAims([]int{0, 6}, func(a api.Aim) {
			checkVector(t, a, facing, vector(a, facing), api.OK)
		})
	}
	facings := append([]int{}, extreme...)
	for f := -600; f <= 600; f++ {
		facings = append(facings, f)
	}
	for _, a := range edgeAims() {
		for _, facing := range facings {
			checkVector(t, a, facing, vector(a, facing), api.OK)
		}
	}
}

// swapped is Swap of a limb that is one.
func swapped(limb int) int {
	n, _ := aim.Swap(limb)
	return n
}

func mirrored(limb int, a api.Aim) api.Aim {
	b, _ := aim.Mirror(limb, a)
	return b
}

// checkBack tries P18.8 for one way.
func checkBack(t *testing.T, limb int, a, b api.Aim, k, d int) {
	t.Helper()
	c, err := aim.Lerp(limb, a, b, k, d)
	if back, e := aim.Lerp(limb, b, a, d-k, d); back != c || e != err {
		t.Fatalf("P18.8: Lerp(%d, %v, %v, %d, %d) is %v, %d, and back %v, %d", limb, a, b, k, d, c, err, back, e)
	}
	if (limb == api.Torso || limb == api.Head) && isPole(a) && b.El == -a.El {
		return
	}
	m, e := aim.Lerp(swapped(limb), mirrored(limb, a), mirrored(limb, b), k, d)
	want := api.Aim{}
	if err == api.OK {
		want = mirrored(limb, c)
	}
	if m != want || e != err {
		t.Fatalf("P18.8: Lerp(%d, %v, %v, %d, %d) is %v, %d, and in the mirror %v, %d", limb, a, b, k, d, c, err, m, e)
	}
}

// checkEnds tries P18.10 for one way.
func checkEnds(t *testing.T, limb int, a, b api.Aim, k, d int) {
	t.Helper()
	c, err := aim.Lerp(limb, a, b, k, d)
	if err != api.OK {
		return
	}
	if k == 0 && c != a || k == d && c != b {
		t.Fatalf("P18.10: Lerp(%d, %v, %v, %d, %d) is %v", limb, a, b, k, d, c)
	}
	if c.El < min(a.El, b.El) || c.El > max(a.El, b.El) || c.Bend < min(a.Bend, b.Bend) || c.Bend > max(a.Bend, b.Bend) {
		t.Fatalf("P18.10: Lerp(%d, %v, %v, %d, %d) is %v", limb, a, b, k, d, c)
	}
	if e := aim.Check(limb, c); e != api.OK {
		t.Fatalf("P18.4: Check(%d, %v) is %d for the result of Lerp", limb, c, e)
	}
}

// TestWays tries P18.8 and P18.10.
func TestWays(t *testing.T) {
	for _, a := range edgeAims() {
		for _, b := range edgeAims() {
			for limb := range 6 {
				for k := range 4 {
					checkBack(t, limb, a, b, k, 3)
					checkEnds(t, limb, a, b, k, 3)
				}
				checkBack(t, limb, a, b, 1, 2)
			}
		}
	}
	random := rand.New(rand.NewSource(188))
	for range 200000 {
		limb, a, b := random.Intn(6), someAim(random), someAim(random)
		d := 1 + random.Intn(1<<(1+random.Intn(19)))
		for _, k := range []int{0, random.Intn(d + 1), d} {
			checkBack(t, limb, a, b, k, d)
			checkEnds(t, limb, a, b, k, d)
		}
	}
}

// TestTargets tries P18.9 for all targets.
func TestTargets(t *testing.T) {
	for limb := range 6 {
		for _, target := range allTargets() {
			a, err := aim.Of(limb, target)
			if err != api.OK {
				continue
			}
			if back, e := aim.Notate(limb, a); back != target || e != api.OK {
				t.Fatalf("P18.9: Notate(%d, %v) is %v, %d, not %v", limb, a, back, e, target)
			}
			mirror := target
			mirror.Dir, _ = dir.Mirror(target.Dir)
			if m, e := aim.Of(swapped(limb), mirror); m != mirrored(limb, a) || e != api.OK {
				t.Fatalf("P18.9: the aim of %v for the limb %d is %v, %d, and the mirrored one of %v is %v", mirror, swapped(limb), m, e, target, mirrored(limb, a))
			}
		}
	}
}

// TestVectors tries P18.11 for every aim.
func TestVectors(t *testing.T) {
	for _, facing := range []int{0, 3, 100, -1000, 1 << 40} {
		allAims([]int{0}, func(a api.Aim) {
			v, _ := aim.Vector(a, facing)
			if w, _ := aim.Vector(a, facing+64); w != (api.Vec{X: v.Y, Y: -v.X, Z: v.Z}) {
				t.Fatalf("P18.11: Vector(%v, %d) is %v, and a quarter further %v", a, facing, v, w)
			}
			if w, _ := aim.Vector(mirrored(0, a), -facing); w != (api.Vec{X: -v.X, Y: v.Y, Z: v.Z}) {
				t.Fatalf("P18.11: Vector(%v, %d) is %v, and in the mirror %v", a, facing, v, w)
			}
		})
	}
}
