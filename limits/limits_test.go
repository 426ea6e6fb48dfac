package limits_test

import (
	"math"
	"math/rand"
	"slices"
	"testing"

	"dancestudio/aim"
	"dancestudio/api"
	"dancestudio/limits"
	"dancestudio/posture"
)

// extreme are integers far outside all bounds.
var extreme = []int{math.MinInt, math.MinInt + 1, math.MinInt + 256, -1 << 62, -1 << 32, -1<<32 + 3, -1 << 31, -1 << 16, -256, 1 << 16, 1 << 31, 1 << 32, 1<<32 + 3, 1<<50 + 1, 1 << 62, math.MaxInt - 255, math.MaxInt - 1, math.MaxInt}

// swaps has the limb that is exchanged with each limb.
var swaps = [6]int{1, 0, 2, 4, 3, 5}

// same has the same limit for all limbs.
func same(x api.Limit) [api.Limbs]api.Limit {
	return [api.Limbs]api.Limit{x, x, x, x, x, x}
}

// wide are the limits of the chapter's examples.
func wide() api.Limits {
	return api.Limits{Limbs: same(api.Limit{Low: -64, High: 64, Width: 255, Bend: 6, Speed: 128}), Lows: true, Rises: true, Air: 8192, Spin: 128}
}

// tight are the narrowest limits.
func tight() api.Limits {
	return api.Limits{Limbs: same(api.Limit{Speed: 1}), Spin: 1}
}

// mixed are limits that differ for all limbs.
func mixed() api.Limits {
	l := api.Limits{Lows: true, Air: 5, Spin: 12}
	for limb, n := range [api.Limbs][6]int{{-64, 10, 0, 255, 6, 128}, {-64, -64, 200, 100, 1, 9}, {30, 64, 255, 0, 2, 20}, {-32, 32, 128, 127, 3, 30}, {-63, 63, 7, 13, 4, 1}, {64, 64, 255, 255, 5, 64}} {
		l.Limbs[limb] = api.Limit{Low: n[0], High: n[1], From: n[2], Width: n[3], Bend: n[4], Speed: n[5]}
	}
	return l
}

// upright is the pose of the chapter's examples.
func upright() api.Pose {
	down, up := api.Aim{El: -64}, api.Aim{El: 64}
	return api.Pose{Aims: [api.Limbs]api.Aim{down, down, up, down, down, up}}
}

// steady stands for some ticks.
func steady(ticks int) api.Movement {
	return api.Movement{Poses: slices.Repeat([]api.Pose{upright()}, ticks+1), Supports: slices.Repeat([]int{3}, ticks)}
}

func inside(n, least, greatest int) bool { return least <= n && n <= greatest }

// check is the definition of P22.1.
func check(l api.Limits) api.Errno {
	for _, x := range l.Limbs {
		elevations := inside(x.Low, -64, 64) && inside(x.High, -64, 64) && x.Low <= x.High
		if !elevations || !inside(x.From, 0, 255) || !inside(x.Width, 0, 255) || !inside(x.Bend, 0, 6) || !inside(x.Speed, 1, 128) {
			return api.ErrRange
		}
	}
	if !inside(l.Air, 0, 8192) || !inside(l.Spin, 1, 128) {
		return api.ErrRange
	}
	return api.OK
}

// sector is the definition of a sector: its azimuths, in their order.
func sector(x api.Limit) []int {
	var all []int
	for i := range x.Width + 1 {
		all = append(all, (x.From+i)%256)
	}
	return all
}

func vertical(a api.Aim) bool { return a.El == 64 || a.El == -64 }

// may says whether a valid limit allows a valid aim.
func may(x api.Limit, a api.Aim) bool {
	return inside(a.El, x.Low, x.High) && a.Bend <= x.Bend && (vertical(a) || slices.Contains(sector(x), a.Az))
}

// allowed is the definition of P22.2.
func allowed(l api.Limits, limb int, a api.Aim) (bool, api.Errno) {
	if err := check(l); err != api.OK {
		return false, err
	}
	if err := aim.Check(limb, a); err != api.OK {
		return false, err
	}
	return may(l.Limbs[limb], a), api.OK
}

// firstRun has the azimuths of the first run of those of all that are among the others.
func firstRun(all, others []int) []int {
	var run []int
	for _, az := range all {
		if slices.Contains(others, az) {
			run = append(run, az)
		} else if run != nil {
			break
		}
	}
	return run
}

// runs counts the runs of those of all that are among the others.
func runs(all, others []int) int {
	n, in := 0, false
	for _, az := range all {
		was := in
		in = slices.Contains(others, az)
		if in && !was {
			n++
		}
	}
	return n
}

// narrow is the definition of P22.3.
func narrow(a, b api.Limits) (api.Limits, api.Errno) {
	if check(a) != api.OK || check(b) != api.OK {
		return api.Limits{}, api.ErrRange
	}
	n := a
	for limb := range 6 {
		x, y := &n.Limbs[limb], b.Limbs[limb]
		run := firstRun(sector(*x), sector(y))
		x.Low, x.High = max(x.Low, y.Low), min(x.High, y.High)
		if x.Low > x.High || len(run) == 0 {
			return api.Limits{}, api.ErrLimit
		}
		x.From, x.Width = run[0], len(run)-1
		x.Bend, x.Speed = min(x.Bend, y.Bend), min(x.Speed, y.Speed)
	}
	n.Lows, n.Rises = a.Lows && b.Lows, a.Rises && b.Rises
	n.Air, n.Spin = min(a.Air, b.Air), min(a.Spin, b.Spin)
	return n, api.OK
}

// mirror is the definition of P22.4.
func mirror(l api.Limits) (api.Limits, api.Errno) {
	if err := check(l); err != api.OK {
		return api.Limits{}, err
	}
	m := l
	for limb, other := range swaps {
		x := l.Limbs[other]
		m.Limbs[limb] = api.Limit{Low: x.Low, High: x.High, From: (512 - x.From - x.Width) % 256, Width: x.Width, Bend: x.Bend, Speed: x.Speed}
	}
	return m, api.OK
}

// apart is the definition of a change.
func apart(a, b int) int {
	n := (b - a + 256) % 256
	return min(n, 256-n)
}

func distance(a, b int) int { return max(a-b, b-a) }

// faultAt is what P22.5 says of a tick.
func faultAt(l api.Limits, m api.Movement, k int) (api.Errno, int) {
	p := m.Poses[k]
	for limb := range 6 {
		x, a := l.Limbs[limb], p.Aims[limb]
		if !may(x, a) {
			return api.ErrLimit, limb
		}
		if k == 0 {
			continue
		}
		before := m.Poses[k-1].Aims[limb]
		if distance(a.El, before.El) > x.Speed {
			return api.ErrSpeed, limb
		}
		if !vertical(a) && !vertical(before) && apart(before.Az, a.Az) > x.Speed {
			return api.ErrSpeed, limb
		}
	}
	if p.Lift < 0 && !l.Lows || p.Lift > 0 && !l.Rises {
		return api.ErrLimit, 6
	}
	if k > 0 && apart(m.Poses[k-1].Facing, p.Facing) > l.Spin {
		return api.ErrSpeed, 6
	}
	if k > l.Air && !slices.ContainsFunc(m.Supports[k-l.Air-1:k], func(n int) bool { return n != 0 }) {
		return api.ErrAir, 6
	}
	return api.OK, 0
}

// first is the definition of P22.5.
func first(l api.Limits, m api.Movement) (api.Fault, api.Errno) {
	if err := check(l); err != api.OK {
		return api.Fault{}, err
	}
	if len(m.Supports) < 1 || len(m.Poses) != len(m.Supports)+1 {
		return api.Fault{}, api.ErrForm
	}
	for _, p := range m.Poses {
		if err := posture.Valid(p); err != api.OK {
			return api.Fault{}, err
		}
	}
	for k := range m.Poses {
		if err, part := faultAt(l, m, k); err != api.OK {
			return api.Fault{Err: err, Tick: k, Part: part}, api.OK
		}
	}
	return api.Fault{}, api.OK
}

// fields points to the numbers of limits.
func fields(l *api.Limits) []*int {
	all := []*int{&l.Air, &l.Spin}
	for limb := range l.Limbs {
		x := &l.Limbs[limb]
		all = append(all, &x.Low, &x.High, &x.From, &x.Width, &x.Bend, &x.Speed)
	}
	return all
}

// numbers points to the numbers of a pose.
func numbers(p *api.Pose) []*int {
	all := []*int{&p.At.X, &p.At.Y, &p.Facing, &p.Lift}
	for limb := range p.Aims {
		a := &p.Aims[limb]
		all = append(all, &a.Az, &a.El, &a.Bend)
	}
	return all
}

// someLimit is a valid limit, often one with a sector that is wide, empty but for one azimuth, or at the front.
func someLimit(r *rand.Rand) api.Limit {
	x := api.Limit{Low: r.Intn(129) - 64, High: r.Intn(129) - 64, From: r.Intn(256), Width: r.Intn(256), Bend: r.Intn(7), Speed: 1 + r.Intn(128)}
	x.Low, x.High = min(x.Low, x.High), max(x.Low, x.High)
	if r.Intn(2) == 0 {
		x.Low, x.High = -64, 64
	}
	switch r.Intn(8) {
	case 0:
		x.Width = 255
	case 1:
		x.Width = 0
	case 2:
		x.From = 0
	case 3:
		x.Width = 254 - r.Intn(3)
	}
	return x
}

func someLimits(r *rand.Rand) api.Limits {
	l := api.Limits{Lows: r.Intn(2) == 0, Rises: r.Intn(2) == 0, Air: r.Intn(8193), Spin: 1 + r.Intn(128)}
	for limb := range l.Limbs {
		l.Limbs[limb] = someLimit(r)
	}
	return l
}

// someAim is a valid aim, often up or down.
func someAim(r *rand.Rand) api.Aim {
	a := api.Aim{Az: r.Intn(256), El: r.Intn(129) - 64, Bend: r.Intn(7)}
	switch r.Intn(8) {
	case 0:
		a.El = 64
	case 1:
		a.El = -64
	}
	if vertical(a) {
		a.Az = 0
	}
	return a
}

// checkLimits compares Check and Mirror with their definitions.
func checkLimits(t *testing.T, l api.Limits) {
	t.Helper()
	if e, err := limits.Check(l), check(l); e != err {
		t.Fatalf("P1, P22.1: Check(%v) is %d, not %d", l, e, err)
	}
	want, err := mirror(l)
	if m, e := limits.Mirror(l); m != want || e != err {
		t.Fatalf("P1, P22.4: Mirror(%v) is %v, %d, not %v, %d", l, m, e, want, err)
	}
}

func checkAllows(t *testing.T, l api.Limits, limb int, a api.Aim) bool {
	t.Helper()
	want, err := allowed(l, limb, a)
	if ok, e := limits.Allows(l, limb, a); ok != want || e != err {
		t.Fatalf("P1, P22.2: Allows(%v, %d, %v) is %v, %d, not %v, %d", l, limb, a, ok, e, want, err)
	}
	return want
}

func checkNarrow(t *testing.T, a, b api.Limits) api.Errno {
	t.Helper()
	want, err := narrow(a, b)
	if n, e := limits.Narrow(a, b); n != want || e != err {
		t.Fatalf("P1, P22.3: Narrow(%v, %v) is %v, %d, not %v, %d", a, b, n, e, want, err)
	}
	return err
}

func checkFirst(t *testing.T, l api.Limits, m api.Movement) api.Fault {
	t.Helper()
	before := api.Movement{Poses: slices.Clone(m.Poses), Supports: slices.Clone(m.Supports)}
	want, err := first(l, m)
	f, e := limits.First(l, m)
	if f != want || e != err {
		t.Fatalf("P1, P22.5: First(%v, ..) of %d poses with the supports %v is %v, %d, not %v, %d", l, len(m.Poses), m.Supports, f, e, want, err)
	}
	if !slices.Equal(m.Poses, before.Poses) || !slices.Equal(m.Supports, before.Supports) {
		t.Fatal("P1, P22.5: First changes its argument")
	}
	return f
}

// TestRanges has each number of limits at, next to, and far outside of its borders.
func TestRanges(t *testing.T) {
	for _, base := range []api.Limits{wide(), tight(), mixed()} {
		values := slices.Clone(extreme)
		for _, border := range []int{-64, 0, 6, 64, 128, 255, 8192} {
			for n := border - 3; n <= border+3; n++ {
				values = append(values, n)
			}
		}
		for i := range fields(&base) {
			accepted := 0
			for _, n := range values {
				l := base
				*fields(&l)[i] = n
				checkLimits(t, l)
				checkAllows(t, l, i%6, api.Aim{Az: 5, El: 7, Bend: 1})
				checkNarrow(t, l, base)
				checkNarrow(t, base, l)
				checkFirst(t, l, steady(2))
				if check(l) == api.OK {
					accepted++
				}
			}
			if accepted == 0 {
				t.Errorf("P22.1: no value was accepted for the number %d of limits", i)
			}
		}
	}
	for _, l := range []api.Limits{wide(), tight(), mixed()} {
		if e := limits.Check(l); e != api.OK {
			t.Errorf("P22.1: Check(%v) is %d", l, e)
		}
	}
	if e := limits.Check(api.Limits{}); e != api.ErrRange {
		t.Errorf("P22.1: Check of zero limits is %d", e)
	}
}

// TestSectors has every azimuth for sectors of all widths, with six beginnings at a time.
func TestSectors(t *testing.T) {
	for width := range 256 {
		l := wide()
		for limb, from := range []int{0, 1, 127, 200, 255, (width * 7) % 256} {
			l.Limbs[limb].From, l.Limbs[limb].Width = from, width
		}
		for limb, x := range l.Limbs {
			n := 0
			for az := range 256 {
				if checkAllows(t, l, limb, api.Aim{Az: az}) {
					n++
				}
			}
			if n != width+1 {
				t.Fatalf("P22.2: %v has %d azimuths", x, n)
			}
			for _, el := range []int{-64, 64} {
				if !checkAllows(t, l, limb, api.Aim{El: el}) {
					t.Fatalf("P22.2: %v does not allow the elevation %d", x, el)
				}
			}
		}
	}
}

// TestElevationsAndBends has every elevation and every bend at all borders.
func TestElevationsAndBends(t *testing.T) {
	for _, low := range []int{-64, -63, -1, 0, 1, 63, 64} {
		for _, high := range []int{-64, -63, -1, 0, 1, 63, 64} {
			for bend := range 7 {
				l := wide()
				l.Limbs[3].Low, l.Limbs[3].High, l.Limbs[3].Bend = low, high, bend
				l.Limbs[3].From, l.Limbs[3].Width = 10, 2
				for el := -64; el <= 64; el++ {
					for b := range 7 {
						az := 11
						if el*el == 64*64 {
							az = 0
						}
						checkAllows(t, l, 3, api.Aim{Az: az, El: el, Bend: b})
						checkAllows(t, l, 4, api.Aim{Az: az, El: el, Bend: b})
					}
				}
			}
		}
	}
}

func TestAllowsErrors(t *testing.T) {
	for i, c := range []struct {
		l    api.Limits
		limb int
		a    api.Aim
		err  api.Errno
	}{
		{api.Limits{}, 6, api.Aim{}, api.ErrRange},
		{api.Limits{}, -1, api.Aim{Az: 1, El: 64}, api.ErrRange},
		{api.Limits{}, 0, api.Aim{Az: 1, El: 64}, api.ErrRange},
		{wide(), 6, api.Aim{Az: 256}, api.ErrKind},
		{wide(), -1, api.Aim{Az: 1, El: 64}, api.ErrKind},
		{wide(), 5, api.Aim{Az: 256, El: 64}, api.ErrRange},
		{wide(), 5, api.Aim{Az: 1, El: -64}, api.ErrForm},
		{wide(), 5, api.Aim{Bend: 7}, api.ErrRange},
		{tight(), 5, api.Aim{El: 65}, api.ErrRange},
	} {
		if ok, e := limits.Allows(c.l, c.limb, c.a); ok || e != c.err {
			t.Errorf("P1, P22.2: case %d: Allows is %v, %d, not the error %d", i, ok, e, c.err)
		}
	}
	for _, n := range append([]int{-2, -1, 0, 1, 5, 6, 7, 8, 63, 64, 65, 255, 256, -63, -64, -65}, extreme...) {
		for _, l := range []api.Limits{wide(), tight(), mixed(), {}} {
			checkAllows(t, l, n, api.Aim{})
			checkAllows(t, l, 2, api.Aim{Az: n})
			checkAllows(t, l, 2, api.Aim{Az: n, El: 64})
			checkAllows(t, l, 2, api.Aim{El: n})
			checkAllows(t, l, 2, api.Aim{Bend: n})
			checkAllows(t, l, 2, api.Aim{Az: 1, El: n})
		}
	}
}

func TestRandomAims(t *testing.T) {
	r := rand.New(rand.NewSource(22))
	n := map[bool]int{}
	for range 40000 {
		n[checkAllows(t, someLimits(r), r.Intn(6), someAim(r))]++
	}
	if min(n[true], n[false]) < 5000 {
		t.Errorf("P22.2: too few cases of a kind were tried: %v", n)
	}
}

// TestNarrowSectors has pairs of sectors whose ends lie next to each other, at the front and elsewhere.
func TestNarrowSectors(t *testing.T) {
	ends := []int{0, 1, 2, 44, 127, 128, 200, 254, 255}
	n := map[api.Errno]int{}
	for _, from := range ends {
		for _, width := range ends {
			for _, otherFrom := range ends {
				for _, otherWidth := range ends {
					a, b := wide(), wide()
					a.Limbs[3].From, a.Limbs[3].Width = from, width
					b.Limbs[3].From, b.Limbs[3].Width = otherFrom, otherWidth
					n[checkNarrow(t, a, b)]++
				}
			}
		}
	}
	if min(n[api.OK], n[api.ErrLimit]) < 1000 || len(n) != 2 {
		t.Errorf("P22.3: too few cases of a kind were tried: %v", n)
	}
}

func TestNarrowExamples(t *testing.T) {
	type of struct{ from, width int }
	for _, c := range []struct {
		a, b, want of
		err        api.Errno
	}{
		{of{200, 100}, of{250, 20}, of{250, 20}, api.OK},
		{of{0, 255}, of{200, 100}, of{0, 44}, api.OK},
		// Both are whole, and the sector of a decides where the result begins.
		{of{17, 255}, of{90, 255}, of{17, 255}, api.OK},
		{of{17, 254}, of{90, 255}, of{17, 254}, api.OK},
		// Two runs in common: the first one is taken, even if it is the shorter one.
		{of{0, 200}, of{190, 80}, of{0, 14}, api.OK},
		{of{10, 200}, of{150, 117}, of{10, 1}, api.OK},
		// The last azimuth is the only one in common, and one too few.
		{of{100, 28}, of{128, 0}, of{128, 0}, api.OK},
		{of{100, 27}, of{128, 0}, of{}, api.ErrLimit},
		{of{250, 6}, of{0, 5}, of{0, 0}, api.OK},
		{of{250, 5}, of{0, 5}, of{}, api.ErrLimit},
		{of{0, 5}, of{250, 6}, of{0, 0}, api.OK},
		{of{0, 5}, of{250, 5}, of{}, api.ErrLimit},
	} {
		for limb := range 6 {
			a, b, want := wide(), wide(), wide()
			a.Limbs[limb].From, a.Limbs[limb].Width = c.a.from, c.a.width
			b.Limbs[limb].From, b.Limbs[limb].Width = c.b.from, c.b.width
			want.Limbs[limb].From, want.Limbs[limb].Width = c.want.from, c.want.width
			if c.err != api.OK {
				want = api.Limits{}
			}
			if n, e := limits.Narrow(a, b); n != want || e != c.err {
				t.Errorf("P22.3: the limb %d with %v, narrowed by %v, is %v, %d", limb, c.a, c.b, n.Limbs[limb], e)
			}
		}
	}
}

// TestNarrowFields narrows each number of limits alone, from both sides.
func TestNarrowFields(t *testing.T) {
	// In the middle, so that each number may be greater or smaller.
	middle := api.Limits{Limbs: same(api.Limit{Low: -20, High: 20, From: 60, Width: 80, Bend: 3, Speed: 50}), Air: 100, Spin: 50}
	for i := range fields(&middle) {
		for _, by := range []int{-3, -2, -1, 1, 2, 3} {
			changed := middle
			*fields(&changed)[i] += by
			checkNarrow(t, middle, changed)
			checkNarrow(t, changed, middle)
		}
	}
	for flags := range 16 {
		a, b := wide(), wide()
		a.Lows, a.Rises, b.Lows, b.Rises = flags&1 != 0, flags&2 != 0, flags&4 != 0, flags&8 != 0
		checkNarrow(t, a, b)
	}
	for low := 18; low <= 22; low++ {
		for limb := range 6 {
			a, b := middle, middle
			b.Limbs[limb].Low, b.Limbs[limb].High = low, 22
			ab, ba := checkNarrow(t, a, b), checkNarrow(t, b, a)
			if (ab == api.ErrLimit) != (low > 20) || ba != ab {
				t.Errorf("P22.3: the elevations up to 20, narrowed by those from %d on, have the errors %d and %d", low, ab, ba)
			}
		}
	}
}

func TestNarrowErrors(t *testing.T) {
	// Nothing is in common to the elevations, the sectors, or both.
	high, left, both := wide(), wide(), wide()
	high.Limbs[2].Low, left.Limbs[2].From, left.Limbs[2].Width = 1, 129, 126
	both.Limbs[2] = left.Limbs[2]
	both.Limbs[2].Low = 1
	lowRight := wide()
	lowRight.Limbs[2].High, lowRight.Limbs[2].Width = 0, 128
	wrong := wide()
	wrong.Limbs[5].Speed = 0
	spins := wide()
	spins.Spin = 0
	for i, c := range []struct {
		a, b api.Limits
		err  api.Errno
	}{
		{lowRight, high, api.ErrLimit},
		{lowRight, left, api.ErrLimit},
		{lowRight, both, api.ErrLimit},
		{wrong, lowRight, api.ErrRange},
		{lowRight, wrong, api.ErrRange},
		{spins, spins, api.ErrRange},
		{api.Limits{}, api.Limits{}, api.ErrRange},
		{wrong, wrong, api.ErrRange},
	} {
		for j, pair := range [][2]api.Limits{{c.a, c.b}, {c.b, c.a}} {
			if n, e := limits.Narrow(pair[0], pair[1]); n != (api.Limits{}) || e != c.err {
				t.Errorf("P1, P22.3: case %d, %d: Narrow is %v, %d, not the error %d", i, j, n, e, c.err)
			}
		}
	}
	highWrong := high
	highWrong.Spin = 129
	if n, e := limits.Narrow(lowRight, highWrong); n != (api.Limits{}) || e != api.ErrRange {
		t.Errorf("P1, P22.3: Narrow is %v, %d: limits that are not valid come first", n, e)
	}
}

// TestNarrowRandom has P22.3 and P22.6.
func TestNarrowRandom(t *testing.T) {
	r := rand.New(rand.NewSource(23))
	n := map[api.Errno]int{}
	single, several := 0, 0
	for range 8000 {
		a, b := someLimits(r), someLimits(r)
		for limb := range 6 {
			// Six pairs of random limits have seldom something in common.
			if r.Intn(3) != 0 {
				b.Limbs[limb] = wide().Limbs[limb]
			}
		}
		err := checkNarrow(t, a, b)
		n[err]++
		if err != api.OK {
			continue
		}
		narrowed, _ := limits.Narrow(a, b)
		if e := limits.Check(narrowed); e != api.OK {
			t.Fatalf("P22.3: Narrow(%v, %v) is %v, which is not valid", a, b, narrowed)
		}
		for limb := range 6 {
			isSingle := runs(sector(a.Limbs[limb]), sector(b.Limbs[limb])) == 1
			for range 10 {
				aimed := someAim(r)
				inA, _ := limits.Allows(a, limb, aimed)
				inB, _ := limits.Allows(b, limb, aimed)
				inBoth, _ := limits.Allows(narrowed, limb, aimed)
				if inBoth && (!inA || !inB) || isSingle && inA && inB && !inBoth {
					t.Fatalf("P22.6: the limb %d may have %v: with %v: %v, with %v: %v, with Narrow: %v", limb, aimed, a, inA, b, inB, inBoth)
				}
			}
			if isSingle {
				single++
			} else {
				several++
			}
		}
	}
	if min(n[api.OK], n[api.ErrLimit], single, several) < 500 {
		t.Errorf("P22.3, P22.6: too few cases of a kind were tried: %v, %d, %d", n, single, several)
	}
}

func TestNarrowBySame(t *testing.T) {
	r := rand.New(rand.NewSource(24))
	all := []api.Limits{wide(), tight(), mixed()}
	for range 5000 {
		all = append(all, someLimits(r))
	}
	for _, l := range all {
		if n, e := limits.Narrow(l, l); n != l || e != api.OK {
			t.Fatalf("P22.6: Narrow(l, l) for %v is %v, %d", l, n, e)
		}
	}
}

// TestMirror has P22.4 and P22.7.
func TestMirror(t *testing.T) {
	r := rand.New(rand.NewSource(25))
	for range 8000 {
		l := someLimits(r)
		checkLimits(t, l)
		m, _ := limits.Mirror(l)
		if back, e := limits.Mirror(m); back != l || e != api.OK {
			t.Fatalf("P22.7: the mirror image of that of %v is %v, %d", l, back, e)
		}
		for limb, other := range swaps {
			a := someAim(r)
			image, _ := aim.Mirror(limb, a)
			want, _ := limits.Allows(l, limb, a)
			if ok, e := limits.Allows(m, other, image); ok != want || e != api.OK {
				t.Fatalf("P22.7: %v allows %v for %d: %v, but the mirror image %v allows %v: %v, %d", l, a, limb, want, m, image, ok, e)
			}
		}
	}
	for width := range 256 {
		for from := range 256 {
			l := wide()
			l.Limbs[3].From, l.Limbs[3].Width, l.Limbs[0].From, l.Limbs[5].Width = from, width, from, width
			checkLimits(t, l)
		}
	}
	if m, e := limits.Mirror(api.Limits{}); m != (api.Limits{}) || e != api.ErrRange {
		t.Errorf("P1, P22.4: Mirror of zero limits is %v, %d", m, e)
	}
}

func TestExamples(t *testing.T) {
	l := wide()
	l.Limbs[3].Low = -32
	for _, c := range []struct {
		a    api.Aim
		want bool
	}{{api.Aim{El: -33}, false}, {api.Aim{El: -32}, true}} {
		if ok, e := limits.Allows(l, 3, c.a); ok != c.want || e != api.OK {
			t.Errorf("P22.2: %v is allowed: %v, %d", c.a, ok, e)
		}
	}
	l.Limbs[3].From, l.Limbs[3].Width = 200, 100
	for az, want := range map[int]bool{44: true, 45: false, 199: false, 200: true} {
		if ok, e := limits.Allows(l, 3, api.Aim{Az: az}); ok != want || e != api.OK {
			t.Errorf("P22.2: the azimuth %d is allowed: %v, %d", az, ok, e)
		}
	}
	m, e := limits.Mirror(l)
	if x := m.Limbs[4]; x.From != 212 || x.Width != 100 || x.Low != -32 || e != api.OK {
		t.Errorf("P22.4: the mirror image of %v is %v, %d", l.Limbs[3], x, e)
	}
	x := steady(1)
	x.Poses[0].Aims[3], x.Poses[1].Aims[3] = api.Aim{}, api.Aim{Az: 40}
	x.Supports[0] = 0
	slow, grounded := wide(), wide()
	slow.Limbs[3].Speed, grounded.Air = 20, 0
	for _, c := range []struct {
		l    api.Limits
		want api.Fault
	}{{wide(), api.Fault{}}, {slow, api.Fault{Err: api.ErrSpeed, Tick: 1, Part: 3}}, {grounded, api.Fault{Err: api.ErrAir, Tick: 1, Part: 6}}} {
		if f, e := limits.First(c.l, x); f != c.want || e != api.OK {
			t.Errorf("P22.5: First is %v, %d, not %v", f, e, c.want)
		}
	}
}

// TestFirstErrors has P1: the order of the errors of First.
func TestFirstErrors(t *testing.T) {
	far, twisted, bent := steady(3), steady(3), steady(3)
	far.Poses[3].At.X = 32769
	twisted.Poses[1].Aims[5].Az = 1
	bent.Poses[2].Aims[0].Bend = 7
	both := steady(3)
	both.Poses[1], both.Poses[3] = twisted.Poses[1], far.Poses[3]
	reversed := steady(3)
	reversed.Poses[1], reversed.Poses[3] = far.Poses[3], twisted.Poses[1]
	short := twisted
	short.Supports = short.Supports[1:]
	// The pose at the tick 0 is a fault, which comes after all errors.
	fault := steady(3)
	fault.Poses[0].Aims[0], fault.Poses[3].Aims[5].Az = api.Aim{}, 1
	strict := wide()
	strict.Limbs[0].High = -64
	for i, c := range []struct {
		l   api.Limits
		m   api.Movement
		err api.Errno
	}{
		{api.Limits{}, api.Movement{}, api.ErrRange},
		{api.Limits{}, twisted, api.ErrRange},
		{wide(), api.Movement{}, api.ErrForm},
		{wide(), api.Movement{Poses: []api.Pose{upright()}}, api.ErrForm},
		{wide(), api.Movement{Supports: []int{3}}, api.ErrForm},
		{wide(), short, api.ErrForm},
		{wide(), far, api.ErrRange},
		{wide(), twisted, api.ErrForm},
		{wide(), bent, api.ErrRange},
		{wide(), both, api.ErrForm},
		{wide(), reversed, api.ErrRange},
		{strict, fault, api.ErrForm},
	} {
		if f, e := limits.First(c.l, c.m); f != (api.Fault{}) || e != c.err {
			t.Errorf("P1, P22.5: case %d: First is %v, %d, not the error %d", i, f, e, c.err)
		}
	}
	for poses := range 6 {
		for supports := range 6 {
			m := api.Movement{Poses: slices.Repeat([]api.Pose{upright()}, poses), Supports: slices.Repeat([]int{1}, supports)}
			checkFirst(t, wide(), m)
			checkFirst(t, api.Limits{}, m)
			if poses > 0 {
				m.Poses[poses-1].Aims[5].Az = 1
				checkFirst(t, wide(), m)
			}
		}
	}
}

func TestFirstExtremes(t *testing.T) {
	for _, n := range append([]int{-32769, -32768, -65, -64, -9, -8, -1, 0, 1, 6, 7, 8, 9, 64, 65, 255, 256, 32768, 32769}, extreme...) {
		for i := range numbers(&api.Pose{}) {
			for k := range 3 {
				m := steady(2)
				*numbers(&m.Poses[k])[i] = n
				checkFirst(t, wide(), m)
				checkFirst(t, mixed(), m)
			}
		}
	}
	// A support is any integer: the body is in the air only if it is 0.
	l := wide()
	l.Air = 0
	for _, n := range append([]int{-1, 0, 1, 2, 3, 4, 5}, extreme...) {
		m := steady(2)
		m.Supports[1] = n
		want := api.Fault{}
		if n == 0 {
			want = api.Fault{Err: api.ErrAir, Tick: 2, Part: 6}
		}
		if f := checkFirst(t, l, m); f != want {
			t.Errorf("P22.5: with the support %d First is %v, not %v", n, f, want)
		}
	}
}

// TestOrderOfFaults puts every choice of faults into one tick: the one that is named first is found.
func TestOrderOfFaults(t *testing.T) {
	l := wide()
	l.Limbs[1].Bend, l.Limbs[1].Speed = 2, 10
	l.Limbs[4].High, l.Limbs[4].Speed = 50, 10
	l.Rises, l.Spin, l.Air = false, 10, 1
	for _, c := range []struct{ tick, ticks int }{{2, 2}, {2, 4}, {5, 9}} {
		for flags := range 1 << 7 {
			m := steady(c.ticks)
			for k := range m.Poses {
				// The limbs 1 and 4 turn by 10 in every tick.
				m.Poses[k].Aims[1], m.Poses[k].Aims[4] = api.Aim{Az: 10 * k}, api.Aim{Az: 10 * k, El: 48}
			}
			k := c.tick
			p := &m.Poses[k]
			want := api.Fault{}
			for i, fault := range []struct {
				err  api.Errno
				part int
				make func()
			}{
				{api.ErrLimit, 1, func() { p.Aims[1].Bend = 3 }},
				{api.ErrSpeed, 1, func() { p.Aims[1].Az++ }},
				{api.ErrLimit, 4, func() { p.Aims[4].El = 51 }},
				{api.ErrSpeed, 4, func() { p.Aims[4].Az++ }},
				{api.ErrLimit, 6, func() { p.Lift = 1 }},
				{api.ErrSpeed, 6, func() { p.Facing = 11 }},
				{api.ErrAir, 6, func() { m.Supports[k-2], m.Supports[k-1] = 0, 0 }},
			} {
				if flags>>i&1 == 0 {
					continue
				}
				fault.make()
				if want == (api.Fault{}) {
					want = api.Fault{Err: fault.err, Tick: k, Part: fault.part}
				}
			}
			if f := checkFirst(t, l, m); f != want {
				t.Fatalf("P22.5: with the faults %b at the tick %d of %d First is %v, not %v", flags, k, c.ticks, f, want)
			}
		}
	}
}

// TestFirstTick has faults at the tick 0, at which nothing has changed yet.
func TestFirstTick(t *testing.T) {
	l := tight()
	for limb := range 6 {
		l.Limbs[limb] = api.Limit{Low: -64, High: 64, From: 100, Width: 0, Bend: 0, Speed: 1}
	}
	for limb := range 6 {
		m := steady(1)
		m.Poses[0].Aims[limb] = api.Aim{Az: 101}
		if f := checkFirst(t, l, m); f != (api.Fault{Err: api.ErrLimit, Part: limb}) {
			t.Errorf("P22.5: First is %v, not ErrLimit of the limb %d", f, limb)
		}
		m.Poses[0].Aims[limb] = api.Aim{Az: 100}
		if f := checkFirst(t, l, m); f != (api.Fault{Err: api.ErrSpeed, Tick: 1, Part: limb}) {
			t.Errorf("P22.5: First is %v, not ErrSpeed of the limb %d", f, limb)
		}
	}
	for lift := -8; lift <= 8; lift++ {
		for flags := range 4 {
			l.Lows, l.Rises = flags&1 != 0, flags&2 != 0
			m := steady(1)
			m.Poses[0].Lift, m.Poses[0].Facing, m.Poses[1].Facing = lift, 200, 201
			checkFirst(t, l, m)
			m.Poses[1].Lift = -lift
			checkFirst(t, l, m)
			m.Poses[0].Lift = 0
			checkFirst(t, l, m)
		}
	}
}

// TestChanges has all changes of azimuths and facings, for some speeds.
func TestChanges(t *testing.T) {
	for _, speed := range []int{1, 2, 63, 64, 65, 126, 127, 128} {
		l, spinning := wide(), wide()
		l.Limbs[0].Speed, l.Limbs[5].Speed, spinning.Spin = speed, speed, speed
		for from := 0; from < 256; from += 5 {
			for to := range 256 {
				m := steady(1)
				m.Poses[0].Aims[0], m.Poses[1].Aims[0] = api.Aim{Az: from}, api.Aim{Az: to}
				checkFirst(t, l, m)
				m = steady(1)
				m.Poses[0].Aims[5], m.Poses[1].Aims[5] = api.Aim{Az: to}, api.Aim{Az: from, El: 1}
				checkFirst(t, l, m)
				m = steady(1)
				m.Poses[0].Facing, m.Poses[1].Facing = from, to
				checkFirst(t, spinning, m)
			}
		}
	}
}

// TestVerticalChanges has all changes of elevations, with azimuths that do not matter where a limb points up or down.
func TestVerticalChanges(t *testing.T) {
	for _, speed := range []int{1, 2, 31, 64, 127, 128} {
		l := wide()
		l.Limbs[2].Speed = speed
		for from := -64; from <= 64; from++ {
			for to := -64; to <= 64; to++ {
				a, b := api.Aim{Az: 130, El: from}, api.Aim{Az: 130 + speed/2 + 1, El: to}
				if vertical(a) {
					a.Az = 0
				}
				if vertical(b) {
					b.Az = 0
				}
				m := steady(1)
				m.Poses[0].Aims[2], m.Poses[1].Aims[2] = a, b
				checkFirst(t, l, m)
			}
		}
	}
	l := wide()
	l.Limbs[2].Speed = 5
	for _, c := range []struct {
		from, to api.Aim
		want     api.Errno
	}{
		{api.Aim{El: 64}, api.Aim{Az: 128, El: 59}, api.OK},
		{api.Aim{El: 64}, api.Aim{Az: 128, El: 58}, api.ErrSpeed},
		{api.Aim{Az: 128, El: 63}, api.Aim{El: 64}, api.OK},
		{api.Aim{Az: 128, El: -59}, api.Aim{El: -64}, api.OK},
		{api.Aim{Az: 128, El: -58}, api.Aim{El: -64}, api.ErrSpeed},
		{api.Aim{Az: 128, El: 63}, api.Aim{El: 63}, api.ErrSpeed},
		{api.Aim{El: 64}, api.Aim{El: -64}, api.ErrSpeed},
	} {
		m := steady(1)
		m.Poses[0].Aims[2], m.Poses[1].Aims[2] = c.from, c.to
		want := api.Fault{}
		if c.want != api.OK {
			want = api.Fault{Err: c.want, Tick: 1, Part: 2}
		}
		if f := checkFirst(t, l, m); f != want {
			t.Errorf("P22.5: from %v to %v First is %v, not %v", c.from, c.to, f, want)
		}
	}
}

// TestAir has all supports of up to nine ticks, for all numbers of ticks in the air.
func TestAir(t *testing.T) {
	for ticks := 1; ticks <= 9; ticks++ {
		for supports := range 1 << ticks {
			m := steady(ticks)
			for k := range ticks {
				m.Supports[k] = supports >> k & 1
			}
			for air := range ticks + 2 {
				l := wide()
				l.Air = air
				checkFirst(t, l, m)
			}
		}
	}
	m := steady(8200)
	clear(m.Supports)
	l := wide()
	for _, air := range []int{8191, 8192} {
		l.Air = air
		if f := checkFirst(t, l, m); f != (api.Fault{Err: api.ErrAir, Tick: air + 1, Part: 6}) {
			t.Errorf("P22.5: with at most %d ticks in the air First is %v", air, f)
		}
	}
	m.Supports[8192] = 1
	if f := checkFirst(t, l, m); f != (api.Fault{}) {
		t.Errorf("P22.5: with 8192 ticks in the air First is %v", f)
	}
}

// stepped is an integer that is at most far away from n, and inside of both borders.
func stepped(r *rand.Rand, n, far, least, greatest int) int {
	return min(max(n+r.Intn(2*far+1)-far, least), greatest)
}

// walk is a movement in which everything changes a little from tick to tick.
func walk(r *rand.Rand, ticks, far int) api.Movement {
	p := api.Pose{Facing: r.Intn(256), Lift: 3}
	for limb := range p.Aims {
		p.Aims[limb] = someAim(r)
	}
	m := api.Movement{Poses: []api.Pose{p}}
	for range ticks {
		p.Facing = (p.Facing + r.Intn(2*far+1) - far + 256) % 256
		p.Lift = stepped(r, p.Lift, 1, -8, 8)
		for limb := range p.Aims {
			a := &p.Aims[limb]
			a.El, a.Bend = stepped(r, a.El, far, -64, 64), stepped(r, a.Bend, 1, 0, 6)
			a.Az = (a.Az + r.Intn(2*far+1) - far + 256) % 256
			if vertical(*a) {
				a.Az = 0
			}
		}
		m.Poses = append(m.Poses, p)
		m.Supports = append(m.Supports, r.Intn(4))
	}
	return m
}

// TestFirstRandom has P22.5 and P22.8.
func TestFirstRandom(t *testing.T) {
	r := rand.New(rand.NewSource(26))
	found := map[api.Errno]int{}
	late := 0
	for range 6000 {
		far := 1 + r.Intn(20)
		m := walk(r, 1+r.Intn(30), far)
		l := wide()
		l.Lows, l.Rises = r.Intn(3) != 0, r.Intn(3) != 0
		l.Air, l.Spin = r.Intn(4), stepped(r, far, 3, 1, 128)
		for limb := range l.Limbs {
			l.Limbs[limb].Speed = stepped(r, far+2, 3, 1, 128)
			if r.Intn(4) == 0 {
				l.Limbs[limb].Width = 254 - r.Intn(20)
			}
		}
		f := checkFirst(t, l, m)
		found[f.Err]++
		switch {
		case f == (api.Fault{}):
			for k, p := range m.Poses {
				for limb, a := range p.Aims {
					if ok, e := limits.Allows(l, limb, a); !ok || e != api.OK {
						t.Fatalf("P22.8: without a fault the limb %d may have %v at the tick %d: %v, %d", limb, a, k, ok, e)
					}
				}
			}
		case f.Tick >= 2:
			late++
			before := api.Movement{Poses: m.Poses[:f.Tick], Supports: m.Supports[:f.Tick-1]}
			if g, e := limits.First(l, before); g != (api.Fault{}) || e != api.OK {
				t.Fatalf("P22.8: the movement has the fault %v, and %v, %d before it", f, g, e)
			}
		}
	}
	for _, err := range []api.Errno{api.OK, api.ErrLimit, api.ErrSpeed, api.ErrAir} {
		if found[err] < 100 {
			t.Errorf("P22.5: only %d movements with the fault %d were tried", found[err], err)
		}
	}
	if late < 1000 {
		t.Errorf("P22.8: only %d movements with late faults were tried", late)
	}
}
