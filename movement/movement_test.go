package movement_test

import (
	"cmp"
	"math"
	"math/rand"
	"slices"
	"testing"

	"dancestudio/api"
	"dancestudio/build"
	"dancestudio/context"
	"dancestudio/gesture"
	"dancestudio/movement"
	"dancestudio/posture"
	"dancestudio/staff"
	"dancestudio/symbol"
	"dancestudio/travel"
)

// extreme are integers far outside all bounds.
var extreme = []int{math.MinInt, math.MinInt + 1, -1 << 62, -1 << 32, -1<<32 + 1, -1 << 31, -1 << 16, -8193, 8193, 1 << 16, 1 << 31, 1 << 32, 1<<32 + 1, 1 << 62, math.MaxInt - 8192, math.MaxInt}

var (
	down = api.Target{Dir: api.Place, Level: api.Low}
	up   = api.Target{Dir: api.Place, Level: api.High}
)

// body makes steps of so many millimetres.
func body(step int) api.Build {
	return api.Build{Leg: 900, Torso: 500, Neck: 200, Arm: 600, Hip: 100, Shoulder: 200, Step: step, Drop: 100, Rise: 100, Foot: 100, Radius: 300, Masses: [4]int{30000, 5000, 4000, 12000}}
}

// stand is the start of the examples.
func stand() api.Start {
	return api.Start{Support: 3, Targets: [api.Limbs]api.Target{down, down, up, down, down, up}}
}

// straight are the aims of straight limbs.
func straight() [api.Limbs]api.Aim {
	below, above := api.Aim{El: -64}, api.Aim{El: 64}
	return [api.Limbs]api.Aim{below, below, above, below, below, above}
}

func sym(kind, column, begin, n, dir, level, amount int) api.Symbol {
	return api.Symbol{Kind: kind, Column: column, Begin: begin, Len: n, Dir: dir, Level: level, Amount: amount}
}

func hold(column, begin, n int) api.Symbol { return sym(api.Hold, column, begin, n, 0, 0, 0) }

func step(column, begin, n, dir, level int) api.Symbol {
	return sym(api.Step, column, begin, n, dir, level, 0)
}

func turn(begin, n, eighths int) api.Symbol {
	return sym(api.Turn, api.TurnColumn, begin, n, 0, 0, eighths)
}

// to is a gesture to a target.
func to(limb, begin, n int, t api.Target) api.Symbol {
	return sym(api.Gesture, 2+limb, begin, n, t.Dir, t.Level, t.Bend)
}

// inOrder sorts a list by Begin, then by Column.
func inOrder(l []api.Symbol) []api.Symbol {
	slices.SortStableFunc(l, func(a, b api.Symbol) int {
		return cmp.Or(cmp.Compare(a.Begin, b.Begin), cmp.Compare(a.Column, b.Column))
	})
	return l
}

// example is the phrase of the first example.
func example() api.Phrase {
	return api.Phrase{Start: stand(), Len: 6, Symbols: []api.Symbol{step(0, 0, 4, api.Forward, 0), hold(0, 4, 2)}}
}

// same compares movements without the package.
func same(a, b api.Movement) bool {
	return slices.Equal(a.Poses, b.Poses) && slices.Equal(a.Supports, b.Supports)
}

func clone(m api.Movement) api.Movement {
	return api.Movement{Poses: slices.Clone(m.Poses), Supports: slices.Clone(m.Supports)}
}

// of returns the movement of a phrase that has one.
func of(t *testing.T, b api.Build, p api.Phrase) api.Movement {
	t.Helper()
	m, err := movement.Of(b, p)
	if err != api.OK || len(m.Poses) != p.Len+1 || len(m.Supports) != p.Len {
		t.Fatalf("P29.1: Of(%v, %v) has the error %d, %d poses and %d supports", b, p, err, len(m.Poses), len(m.Supports))
	}
	return m
}

// counts says how often each error was the right one.
type counts map[api.Errno]int

// tried reports errors that were the right ones too seldom.
func (n counts) tried(t *testing.T, promise string, least int, all ...api.Errno) {
	t.Helper()
	for _, err := range all {
		if n[err] < least {
			t.Errorf("%s: the error %d was right only %d times", promise, err, n[err])
		}
	}
}

// checkOf is the definition of the errors of P29.1.
func checkOf(b api.Build, p api.Phrase) api.Errno {
	if err := build.Check(b); err != api.OK {
		return err
	}
	if p.Len < 1 || p.Len > 8192 {
		return api.ErrRange
	}
	if err := context.Check(p.Start, p.Symbols, p.Len); err != api.OK {
		return err
	}
	_, err := travel.Path(b, p.Start, p.Symbols, p.Len)
	return err
}

// wantedOf is the definition of P29.1, limb by limb.
func wantedOf(t *testing.T, b api.Build, p api.Phrase) (api.Movement, api.Errno) {
	t.Helper()
	if err := checkOf(b, p); err != api.OK {
		return api.Movement{}, err
	}
	path, e := travel.Path(b, p.Start, p.Symbols, p.Len)
	facing, f := travel.Facing(p.Start, p.Symbols, p.Len)
	lift, g := travel.Lift(p.Start, p.Symbols, p.Len)
	supports, h := context.Supports(p.Start, p.Symbols, p.Len)
	if e != api.OK || f != api.OK || g != api.OK || h != api.OK {
		t.Fatalf("the lower layers have the errors %d, %d, %d and %d for %v", e, f, g, h, p)
	}
	poses := make([]api.Pose, p.Len+1)
	for tick := range poses {
		poses[tick] = api.Pose{At: path[tick], Facing: facing[tick], Lift: lift[tick]}
	}
	for limb := range api.Limbs {
		aims, err := gesture.Aims(p.Start, p.Symbols, p.Len, limb)
		if err != api.OK {
			t.Fatalf("the limb %d has the error %d in %v", limb, err, p)
		}
		for tick := range poses {
			poses[tick].Aims[limb] = aims[tick]
		}
	}
	return api.Movement{Poses: poses, Supports: supports}, api.OK
}

// compareOf compares Of with its definition.
func (n counts) compareOf(t *testing.T, b api.Build, p api.Phrase) api.Movement {
	t.Helper()
	want, err := wantedOf(t, b, p)
	got, e := movement.Of(b, p)
	if !same(got, want) || e != err {
		t.Fatalf("P1, P29.1: Of(%v, %v) is %v, %d, not %v, %d", b, p, got, e, want, err)
	}
	n[err]++
	return got
}

// check is the definition of P29.2.
func check(m api.Movement) api.Errno {
	if len(m.Poses)-1 != len(m.Supports) || len(m.Supports) < 1 || len(m.Supports) > 8192 {
		return api.ErrForm
	}
	for _, p := range m.Poses {
		if err := posture.Valid(p); err != api.OK {
			return err
		}
	}
	for _, support := range m.Supports {
		if support != 0 && support != 1 && support != 2 && support != 3 {
			return api.ErrRange
		}
	}
	return api.OK
}

// wantedMirror is the definition of Mirror in P29.4.
func wantedMirror(t *testing.T, m api.Movement) (api.Movement, api.Errno) {
	t.Helper()
	if err := check(m); err != api.OK {
		return api.Movement{}, err
	}
	var image api.Movement
	for _, p := range m.Poses {
		other, err := posture.MirrorPose(p)
		if err != api.OK {
			t.Fatalf("the pose %v has the error %d", p, err)
		}
		image.Poses = append(image.Poses, other)
	}
	for _, support := range m.Supports {
		image.Supports = append(image.Supports, []int{0, 2, 1, 3}[support])
	}
	return image, api.OK
}

// wantedReverse is the definition of Reverse in P29.4.
func wantedReverse(m api.Movement) (api.Movement, api.Errno) {
	if err := check(m); err != api.OK {
		return api.Movement{}, err
	}
	back := clone(m)
	slices.Reverse(back.Poses)
	slices.Reverse(back.Supports)
	return back, api.OK
}

// wantedRotate is the definition of Rotate in P29.4.
func wantedRotate(t *testing.T, m api.Movement, quarters int) (api.Movement, api.Errno) {
	t.Helper()
	if err := check(m); err != api.OK {
		return api.Movement{}, err
	}
	turned := clone(m)
	for i, p := range m.Poses {
		other, err := posture.RotatePose(p, quarters)
		if err != api.OK {
			t.Fatalf("the pose %v has the error %d", p, err)
		}
		turned.Poses[i] = other
	}
	return turned, api.OK
}

// wantedJoin is the definition of P29.5.
func wantedJoin(a, b api.Movement) (api.Movement, api.Errno) {
	for _, m := range []api.Movement{a, b} {
		if err := check(m); err != api.OK {
			return api.Movement{}, err
		}
	}
	if a.Poses[len(a.Poses)-1] != b.Poses[0] {
		return api.Movement{}, api.ErrJoin
	}
	if len(a.Supports)+len(b.Supports) > 8192 {
		return api.Movement{}, api.ErrRange
	}
	both := clone(a)
	both.Poses = append(both.Poses, b.Poses[1:]...)
	both.Supports = append(both.Supports, b.Supports...)
	return both, api.OK
}

// wantedEvery is the definition of P29.6.
func wantedEvery(m api.Movement, n int) (api.Movement, api.Errno) {
	if err := check(m); err != api.OK {
		return api.Movement{}, err
	}
	length := len(m.Supports)
	if n <= 0 || n > length || length%n > 0 {
		return api.Movement{}, api.ErrRange
	}
	few := api.Movement{Poses: []api.Pose{m.Poses[0]}}
	for k := 0; k*n < length; k++ {
		for i := 1; i < n; i++ {
			if m.Supports[k*n+i] != m.Supports[k*n] {
				return api.Movement{}, api.ErrForm
			}
		}
		few.Poses = append(few.Poses, m.Poses[k*n+n])
		few.Supports = append(few.Supports, m.Supports[k*n])
	}
	return few, api.OK
}

// compareOne compares all functions that take one movement with their definitions.
func (n counts) compareOne(t *testing.T, m api.Movement, quarters int) {
	t.Helper()
	fault := check(m)
	if e := movement.Check(m); e != fault {
		t.Fatalf("P1, P29.2: Check(%v) is %d, not %d", m, e, fault)
	}
	n[fault]++
	want, err := wantedMirror(t, m)
	if got, e := movement.Mirror(m); !same(got, want) || e != err {
		t.Fatalf("P1, P29.4: Mirror(%v) is %v, %d, not %v, %d", m, got, e, want, err)
	}
	want, err = wantedReverse(m)
	if got, e := movement.Reverse(m); !same(got, want) || e != err {
		t.Fatalf("P1, P29.4: Reverse(%v) is %v, %d, not %v, %d", m, got, e, want, err)
	}
	want, err = wantedRotate(t, m, quarters)
	if got, e := movement.Rotate(m, quarters); !same(got, want) || e != err {
		t.Fatalf("P1, P29.4: Rotate(%v, %d) is %v, %d, not %v, %d", m, quarters, got, e, want, err)
	}
	if !movement.Same(m, clone(m)) {
		t.Fatalf("P29.3: %v is not the same as itself", m)
	}
}

// compareJoin compares Join and Same with their definitions.
func (n counts) compareJoin(t *testing.T, a, b api.Movement) {
	t.Helper()
	want, err := wantedJoin(a, b)
	if got, e := movement.Join(a, b); !same(got, want) || e != err {
		t.Fatalf("P1, P29.5: Join(%v, %v) is %v, %d, not %v, %d", a, b, got, e, want, err)
	}
	n[err]++
	if movement.Same(a, b) != same(a, b) || movement.Same(b, a) != same(a, b) {
		t.Fatalf("P29.3: Same(%v, %v) is not %v", a, b, same(a, b))
	}
}

// compareEvery compares Every with its definition.
func (n counts) compareEvery(t *testing.T, m api.Movement, every int) {
	t.Helper()
	want, err := wantedEvery(m, every)
	if got, e := movement.Every(m, every); !same(got, want) || e != err {
		t.Fatalf("P1, P29.6: Every(%v, %d) is %v, %d, not %v, %d", m, every, got, e, want, err)
	}
	n[err]++
}

// compare compares all functions that take movements with their definitions.
func (n counts) compare(t *testing.T, m api.Movement) {
	t.Helper()
	n.compareOne(t, m, len(m.Poses)-4)
	for _, every := range []int{-1, 0, 1, 2, 3, len(m.Supports)} {
		n.compareEvery(t, m, every)
	}
	n.compareJoin(t, m, m)
}

// points returns the points of a movement.
func points(m api.Movement) []api.Point {
	var all []api.Point
	for _, p := range m.Poses {
		all = append(all, p.At)
	}
	return all
}

// isStraight says whether all poses have straight limbs, this facing and the lift 0.
func isStraight(m api.Movement, facing int) bool {
	return !slices.ContainsFunc(m.Poses, func(p api.Pose) bool {
		return p.Aims != straight() || p.Facing != facing || p.Lift != 0
	})
}

func TestExamples(t *testing.T) {
	ahead := []api.Point{{}, {Y: 150}, {Y: 300}, {Y: 450}, {Y: 600}, {Y: 600}, {Y: 600}}
	m := of(t, body(600), example())
	if !slices.Equal(points(m), ahead) || !isStraight(m, 0) || !slices.Equal(m.Supports, []int{1, 1, 1, 1, 1, 1}) {
		t.Errorf("P29.1: the movement of the first example is %v", m)
	}
	p := example()
	p.Symbols = inOrder(append(p.Symbols, turn(0, 4, 2)))
	turned := of(t, body(600), p)
	for tick, facing := range []int{0, 16, 32, 48, 64, 64, 64} {
		if turned.Poses[tick].Facing != facing || turned.Poses[tick].At != ahead[tick] {
			t.Errorf("P29.1: the pose of the second example at %d is %v", tick, turned.Poses[tick])
		}
	}
	right, err := movement.Rotate(m, 1)
	want := []api.Point{{}, {X: 150}, {X: 300}, {X: 450}, {X: 600}, {X: 600}, {X: 600}}
	if err != api.OK || !slices.Equal(points(right), want) || !isStraight(right, 64) || !slices.Equal(right.Supports, m.Supports) {
		t.Errorf("P29.4: Rotate of the first example is %v, %d", right, err)
	}
	image, err := movement.Mirror(m)
	if err != api.OK || !slices.Equal(points(image), ahead) || !isStraight(image, 0) || !slices.Equal(image.Supports, []int{2, 2, 2, 2, 2, 2}) {
		t.Errorf("P29.4: Mirror of the first example is %v, %d", image, err)
	}
	few, err := movement.Every(m, 2)
	if err != api.OK || !slices.Equal(points(few), []api.Point{{}, {Y: 300}, {Y: 600}, {Y: 600}}) || !isStraight(few, 0) || !slices.Equal(few.Supports, []int{1, 1, 1}) {
		t.Errorf("P29.6: Every of the first example is %v, %d", few, err)
	}
	if few, err := movement.Every(m, 4); !same(few, api.Movement{}) || err != api.ErrRange {
		t.Errorf("P29.6: Every 4 of the first example is %v, %d", few, err)
	}
}

// whole is a phrase in which everything moves, and its poses and supports, which were worked out by hand.
func whole() (api.Phrase, api.Movement) {
	s := stand()
	s.At, s.Facing, s.Level = api.Point{X: 10, Y: -20}, 2, api.High
	l := []api.Symbol{
		step(0, 0, 2, api.Forward, api.Low),
		to(api.LegRight, 0, 2, api.Target{Dir: api.Back, Level: api.Low, Bend: 2}),
		to(api.ArmLeft, 0, 4, api.Target{Dir: api.Left}),
		to(api.ArmRight, 1, 2, api.Target{Dir: api.Place, Level: api.High}),
		hold(0, 2, 1),
		to(api.Torso, 2, 2, api.Target{Dir: api.Forward}),
		turn(2, 2, -3),
		to(api.LegRight, 3, 1, down),
		to(api.Head, 3, 1, api.Target{Dir: api.Right, Level: api.High}),
		step(0, 4, 1, api.Place, api.Middle),
		step(1, 4, 1, api.Place, api.Middle),
	}
	pose := func(x, facing, lift int, change func(a *[api.Limbs]api.Aim)) api.Pose {
		p := api.Pose{At: api.Point{X: x, Y: -20}, Facing: facing, Lift: lift, Aims: straight()}
		change(&p.Aims)
		return p
	}
	at4 := func(a *[api.Limbs]api.Aim) {
		a[api.Torso], a[api.ArmLeft], a[api.ArmRight], a[api.Head] = api.Aim{}, api.Aim{Az: 192}, api.Aim{El: 64}, api.Aim{Az: 64, El: 32}
	}
	return api.Phrase{Start: s, Len: 5, Symbols: l}, api.Movement{
		Poses: []api.Pose{
			pose(10, 64, 8, func(a *[api.Limbs]api.Aim) {}),
			pose(60, 64, 0, func(a *[api.Limbs]api.Aim) {
				a[api.LegRight], a[api.ArmLeft] = api.Aim{Az: 128, El: -48, Bend: 1}, api.Aim{Az: 192, El: -48}
			}),
			pose(110, 64, -8, func(a *[api.Limbs]api.Aim) {
				a[api.LegRight], a[api.ArmLeft], a[api.ArmRight] = api.Aim{Az: 128, El: -32, Bend: 2}, api.Aim{Az: 192, El: -32}, api.Aim{Az: 64}
			}),
			pose(110, 16, -8, func(a *[api.Limbs]api.Aim) {
				a[api.LegRight], a[api.ArmLeft], a[api.ArmRight] = api.Aim{Az: 128, El: -32, Bend: 2}, api.Aim{Az: 192, El: -16}, api.Aim{El: 64}
				a[api.Torso] = api.Aim{El: 32}
			}),
			pose(110, 224, -8, at4),
			pose(110, 224, 0, at4),
		},
		Supports: []int{1, 1, 1, 0, 3},
	}
}

// TestWhole has a phrase in which everything moves.
func TestWhole(t *testing.T) {
	p, want := whole()
	if got := of(t, body(100), p); !same(got, want) {
		t.Errorf("P29.1: the movement is %v, not %v", got, want)
	}
	counts{}.compareOf(t, body(100), p)
	counts{}.compare(t, want)
}

// TestKnownImages has the mirror image, the reverse and the rotations of a movement, worked out by hand.
func TestKnownImages(t *testing.T) {
	a := api.Pose{At: api.Point{X: 5, Y: -7}, Facing: 3, Lift: -2, Aims: [api.Limbs]api.Aim{{Az: 1, El: 2, Bend: 3}, {Az: 128, El: -5}, {Az: 255, El: 7, Bend: 6}, {El: 64, Bend: 4}, {Az: 64, El: 9, Bend: 1}, {Az: 10, El: -11, Bend: 2}}}
	b := api.Pose{At: api.Point{X: -32768, Y: 32768}, Facing: 192, Lift: 8, Aims: straight()}
	c := api.Pose{Facing: 128, Aims: straight()}
	m := api.Movement{Poses: []api.Pose{a, b, c, c, a}, Supports: []int{0, 1, 2, 3}}
	x := api.Pose{At: api.Point{X: -5, Y: -7}, Facing: 253, Lift: -2, Aims: [api.Limbs]api.Aim{{Az: 128, El: -5}, {Az: 255, El: 2, Bend: 3}, {Az: 1, El: 7, Bend: 6}, {Az: 192, El: 9, Bend: 1}, {El: 64, Bend: 4}, {Az: 246, El: -11, Bend: 2}}}
	y := api.Pose{At: api.Point{X: 32768, Y: 32768}, Facing: 64, Lift: 8, Aims: straight()}
	want := api.Movement{Poses: []api.Pose{x, y, c, c, x}, Supports: []int{0, 2, 1, 3}}
	if got, err := movement.Mirror(m); !same(got, want) || err != api.OK {
		t.Errorf("P29.4: Mirror is %v, %d, not %v", got, err, want)
	}
	want = api.Movement{Poses: []api.Pose{a, c, c, b, a}, Supports: []int{3, 2, 1, 0}}
	if got, err := movement.Reverse(m); !same(got, want) || err != api.OK {
		t.Errorf("P29.4: Reverse is %v, %d, not %v", got, err, want)
	}
	for quarters, at := range [][3]api.Point{
		{{X: 5, Y: -7}, {X: -32768, Y: 32768}, {}},
		{{X: -7, Y: -5}, {X: 32768, Y: 32768}, {}},
		{{X: -5, Y: 7}, {X: 32768, Y: -32768}, {}},
		{{X: 7, Y: 5}, {X: -32768, Y: -32768}, {}},
	} {
		want := api.Movement{Poses: []api.Pose{a, b, c, c, a}, Supports: m.Supports}
		for i := range want.Poses {
			p := &want.Poses[i]
			p.At, p.Facing = at[[]int{0, 1, 2, 2, 0}[i]], (p.Facing+64*quarters)%256
		}
		for _, turns := range []int{0, 4, -4, 400, math.MinInt, math.MaxInt - 3} {
			if got, err := movement.Rotate(m, quarters+turns); !same(got, want) || err != api.OK {
				t.Errorf("P29.4: Rotate by %d is %v, %d, not %v", quarters+turns, got, err, want)
			}
		}
	}
	counts{}.compare(t, m)
}

// anyTarget returns a target of a limb.
func anyTarget(r *rand.Rand, limb int) api.Target {
	if limb <= 1 && r.Intn(3) > 0 {
		return down
	}
	return api.Target{Dir: 1 + r.Intn(8), Level: r.Intn(3) - 1, Bend: r.Intn(7)}
}

// anyStart returns a valid start.
func anyStart(r *rand.Rand) api.Start {
	s := api.Start{Facing: r.Intn(8), Level: r.Intn(3) - 1, Support: 1 + r.Intn(3)}
	s.At = api.Point{X: r.Intn(40001) - 20000, Y: r.Intn(99)}
	if r.Intn(4) == 0 {
		s.At.X = 32768 - r.Intn(2000)
	}
	for limb := range api.Limbs {
		s.Targets[limb] = anyTarget(r, limb)
		if limb <= 1 && s.Support&(1<<limb) != 0 {
			s.Targets[limb] = down
		}
	}
	return s
}

// both is a step of both feet.
func both(begin, n, dir, level int) []api.Symbol {
	return []api.Symbol{step(0, begin, n, dir, level), step(1, begin, n, dir, level)}
}

// anySymbols returns a symbol of a staff, or two that go together.
func anySymbols(r *rand.Rand, length int) []api.Symbol {
	begin := r.Intn(length)
	n := 1 + r.Intn(min(12, length-begin))
	switch r.Intn(10) {
	case 0, 1:
		return []api.Symbol{hold(r.Intn(2), begin, n)}
	case 2, 3:
		return []api.Symbol{step(r.Intn(2), begin, n, r.Intn(9), r.Intn(3)-1)}
	case 4:
		return both(begin, n, r.Intn(9), r.Intn(3)-1)
	case 5, 6:
		return []api.Symbol{turn(begin, n, []int{-16, -3, -2, -1, 1, 2, 3, 16}[r.Intn(8)])}
	default:
		limb := r.Intn(6)
		return []api.Symbol{to(limb, begin, n, anyTarget(r, limb))}
	}
}

func faultOf(p api.Phrase) api.Errno { return context.Check(p.Start, p.Symbols, p.Len) }

// extended returns the phrase with symbols more, without those with which it would have a fault at a symbol.
func extended(p api.Phrase, symbols []api.Symbol) api.Phrase {
	for _, s := range symbols {
		l, err := staff.Put(p.Symbols, p.Len, s)
		if err != api.OK {
			continue
		}
		if fault := context.Check(p.Start, l, p.Len); fault == api.OK || fault == api.ErrAir {
			p.Symbols = l
		}
	}
	return p
}

// anyPhrase returns a phrase without faults, to which symbols were added one after the other.
func anyPhrase(r *rand.Rand, most, tries int) api.Phrase {
	for {
		p := api.Phrase{Start: anyStart(r), Len: 1 + r.Intn(most)}
		for side := range 2 {
			// Feet that stand at the start often go on doing so for a while.
			if n := r.Intn(p.Len + 1); n > 0 && r.Intn(2) == 0 {
				p = extended(p, []api.Symbol{hold(side, 0, n)})
			}
		}
		for range tries {
			p = extended(p, anySymbols(r, p.Len))
		}
		if last := r.Intn(p.Len); faultOf(p) == api.ErrAir {
			p = extended(p, both(last, p.Len-last, api.Forward, api.Low))
		}
		if faultOf(p) == api.OK {
			return p
		}
	}
}

func anyBody(r *rand.Rand) api.Build { return body(100 + r.Intn(1101)) }

// TestAnyPhrases compares Of with its definition, and the rest with theirs for its movements.
func TestAnyPhrases(t *testing.T) {
	r := rand.New(rand.NewSource(1))
	n, moved := counts{}, counts{}
	for range 3000 {
		p := anyPhrase(r, []int{4, 20, 60}[r.Intn(3)], 5+r.Intn(40))
		if m := n.compareOf(t, anyBody(r), p); len(m.Poses) > 0 {
			moved.compare(t, m)
		}
	}
	n.tried(t, "P29.1", 40, api.OK, api.ErrRange)
}

// TestSpoiledPhrases has phrases in which something was changed.
func TestSpoiledPhrases(t *testing.T) {
	r := rand.New(rand.NewSource(2))
	n := counts{}
	for range 8000 {
		p, b := anyPhrase(r, []int{4, 20}[r.Intn(2)], 5+r.Intn(20)), anyBody(r)
		for range 1 + r.Intn(2) {
			switch choice := r.Intn(8); {
			case choice == 0:
				p.Start.Support = r.Intn(5)
			case choice == 1:
				p.Start.Targets[r.Intn(6)] = api.Target{Dir: r.Intn(10), Level: r.Intn(3) - 1, Bend: r.Intn(8)}
			case choice == 2:
				p.Len += r.Intn(5) - 3
			case choice == 3:
				b.Step = 95 + r.Intn(10)
			case choice == 4:
				p.Start.At.Y = 32765 + r.Intn(5)
			case len(p.Symbols) == 0:
			case choice == 5:
				i := r.Intn(len(p.Symbols))
				p.Symbols = slices.Delete(p.Symbols, i, i+1)
			default:
				s := &p.Symbols[r.Intn(len(p.Symbols))]
				field := []*int{&s.Kind, &s.Column, &s.Begin, &s.Len, &s.Dir, &s.Level, &s.Amount}[r.Intn(7)]
				*field += r.Intn(7) - 3
			}
		}
		n.compareOf(t, b, p)
	}
	n.tried(t, "P29.1", 20, api.OK, api.ErrBuild, api.ErrRange, api.ErrKind, api.ErrColumn, api.ErrOrder, api.ErrForm, api.ErrPlace, api.ErrOverlap, api.ErrWeight, api.ErrTwist, api.ErrAir)
}

// TestOrderOfErrorsOf has arguments of Of with several errors, of which the first one counts.
func TestOrderOfErrorsOf(t *testing.T) {
	lifted, far, placed := stand(), stand(), stand()
	lifted.Targets[api.LegRight] = api.Target{Dir: api.Right}
	placed.Targets[api.Head] = api.Target{Dir: api.Place}
	far.At.X = 32768
	far.Facing = 2
	ahead := []api.Symbol{step(0, 0, 4, api.Forward, 0)}
	unordered := []api.Symbol{hold(1, 0, 2), hold(0, 0, 2)}
	many := slices.Repeat(unordered, 129)
	for i, c := range []struct {
		p    api.Phrase
		want api.Errno
	}{
		// The length comes before the fault of a start or a staff.
		{api.Phrase{Start: lifted, Len: 0, Symbols: unordered}, api.ErrRange},
		{api.Phrase{Start: placed, Len: -1, Symbols: many}, api.ErrRange},
		{api.Phrase{Start: lifted, Len: 8193, Symbols: unordered}, api.ErrRange},
		{api.Phrase{Start: stand(), Len: 0}, api.ErrRange},
		{api.Phrase{Start: lifted, Len: 4, Symbols: many}, api.ErrWeight},
		{api.Phrase{Start: placed, Len: 4, Symbols: many}, api.ErrPlace},
		{api.Phrase{Start: far, Len: 4, Symbols: many}, api.ErrFull},
		{api.Phrase{Start: far, Len: 4, Symbols: unordered}, api.ErrOrder},
		{api.Phrase{Start: far, Len: 5, Symbols: ahead}, api.ErrAir},
		{api.Phrase{Start: far, Len: 4, Symbols: append(ahead[:1:1], turn(1, 3, 1), turn(3, 1, 2))}, api.ErrOverlap},
		{api.Phrase{Start: far, Len: 4, Symbols: append(ahead[:1:1], turn(1, 3, 1))}, api.ErrRange},
		{api.Phrase{Start: far, Len: 4, Symbols: ahead}, api.ErrRange},
		{api.Phrase{Start: stand(), Len: 4, Symbols: ahead}, api.OK},
	} {
		if m, err := movement.Of(body(600), c.p); err != c.want || err != api.OK && !same(m, api.Movement{}) {
			t.Errorf("P29.1: Of the phrase %d is %v, %d, not %d", i, m, err, c.want)
		}
		counts{}.compareOf(t, body(600), c.p)
		// The body comes before all.
		for _, long := range append([]int{-1, 0, 99, 1201}, extreme...) {
			if m, err := movement.Of(body(long), c.p); err != api.ErrBuild || !same(m, api.Movement{}) {
				t.Errorf("P29.1: Of the phrase %d for steps of %d is %v, %d", i, long, m, err)
			}
		}
	}
}

// TestExtremePhrases has numbers far outside of their borders.
func TestExtremePhrases(t *testing.T) {
	n := counts{}
	p, _ := whole()
	for _, number := range append([]int{-32769, -32768, -2, -1, 0, 1, 2, 3, 4, 5, 6, 7, 8, 9, 100, 8191, 8192, 32768, 32769}, extreme...) {
		other := p
		other.Len = number
		n.compareOf(t, body(100), other)
		for i := range p.Symbols {
			for field := range 7 {
				other := p
				other.Symbols = slices.Clone(p.Symbols)
				s := &other.Symbols[i]
				*[]*int{&s.Kind, &s.Column, &s.Begin, &s.Len, &s.Dir, &s.Level, &s.Amount}[field] = number
				n.compareOf(t, body(100), other)
			}
		}
		for field := range 5 {
			other := p
			s := &other.Start
			*[]*int{&s.At.X, &s.At.Y, &s.Facing, &s.Level, &s.Support}[field] = number
			n.compareOf(t, body(100), other)
		}
		b := body(100)
		b.Masses[3] = number
		n.compareOf(t, b, p)
	}
	n.tried(t, "P29.1", 10, api.OK, api.ErrBuild, api.ErrRange, api.ErrKind, api.ErrColumn, api.ErrForm)
}

// TestLongPhrases has phrases at the limits of symbols and ticks.
func TestLongPhrases(t *testing.T) {
	n := counts{}
	var l []api.Symbol
	for i := range 128 {
		l = append(l, step(i%2, 64*i, 64, 1+i%8, i%3-1), to(api.ArmLeft+i%2, 64*i, 64, api.Target{Dir: 1 + i%7, Level: i%3 - 1, Bend: i % 7}))
	}
	p := api.Phrase{Start: stand(), Len: 8192, Symbols: l}
	m := n.compareOf(t, body(600), p)
	if len(m.Poses) != 8193 || len(m.Supports) != 8192 {
		t.Errorf("P29.1: a phrase of 8192 ticks has %d poses and %d supports", len(m.Poses), len(m.Supports))
	}
	n.compareOne(t, m, 3)
	p.Symbols = append(l[:256:256], turn(8191, 1, 1))
	n.compareOf(t, body(600), p)
	p.Len, p.Symbols = 8193, []api.Symbol{hold(0, 0, 8192)}
	n.compareOf(t, body(600), p)
	n.tried(t, "P29.1", 1, api.OK, api.ErrFull, api.ErrRange)
}

// anyAim is a valid aim, often up or down.
func anyAim(r *rand.Rand) api.Aim {
	a := api.Aim{Az: r.Intn(256), El: r.Intn(129) - 64, Bend: r.Intn(7)}
	if r.Intn(4) == 0 {
		a.El = 64 - 128*r.Intn(2)
	}
	if a.El == 64 || a.El == -64 {
		a.Az = 0
	}
	return a
}

// anyCoordinate is often at a border.
func anyCoordinate(r *rand.Rand) int {
	if r.Intn(4) == 0 {
		return []int{-32768, 0, 32768}[r.Intn(3)]
	}
	return r.Intn(65537) - 32768
}

func anyPose(r *rand.Rand) api.Pose {
	p := api.Pose{At: api.Point{X: anyCoordinate(r), Y: anyCoordinate(r)}, Facing: r.Intn(256), Lift: r.Intn(17) - 8}
	for limb := range p.Aims {
		p.Aims[limb] = anyAim(r)
	}
	return p
}

// anyMovement returns a valid movement of so many ticks, whose supports change after so many ticks or a multiple of them.
func anyMovement(r *rand.Rand, length, steady int) api.Movement {
	m := api.Movement{Poses: []api.Pose{anyPose(r)}}
	support := r.Intn(4)
	for tick := range length {
		if tick%steady == 0 {
			support = r.Intn(4)
		}
		m.Poses, m.Supports = append(m.Poses, anyPose(r)), append(m.Supports, support)
	}
	return m
}

// anyQuarters is any integer, often a small or an extreme one.
func anyQuarters(r *rand.Rand) int {
	switch r.Intn(4) {
	case 0:
		return extreme[r.Intn(len(extreme))]
	case 1:
		return int(r.Uint64())
	}
	return r.Intn(21) - 10
}

// TestAnyMovements compares all functions with their definitions for valid movements, which no phrase need denote.
func TestAnyMovements(t *testing.T) {
	r := rand.New(rand.NewSource(3))
	one, joined, every := counts{}, counts{}, counts{}
	for range 5000 {
		steady := 1 + r.Intn(6)
		a, b := anyMovement(r, steady*(1+r.Intn(6)), steady), anyMovement(r, 1+r.Intn(20), 1)
		one.compareOne(t, a, anyQuarters(r))
		if r.Intn(4) > 0 {
			b.Poses[0] = a.Poses[len(a.Poses)-1]
		}
		joined.compareJoin(t, a, b)
		every.compareEvery(t, a, 1+r.Intn(len(a.Supports)))
		every.compareEvery(t, a, steady)
	}
	one.tried(t, "P29.2", 5000, api.OK)
	joined.tried(t, "P29.5", 1000, api.OK, api.ErrJoin)
	every.tried(t, "P29.6", 500, api.OK, api.ErrRange, api.ErrForm)
}

// numbers returns all numbers of a pose.
func numbers(p *api.Pose) []*int {
	all := []*int{&p.At.X, &p.At.Y, &p.Facing, &p.Lift}
	for limb := range p.Aims {
		a := &p.Aims[limb]
		all = append(all, &a.Az, &a.El, &a.Bend)
	}
	return all
}

// wrongs are numbers at, next to, and far outside of the borders.
var wrongs = append([]int{-32769, -32768, -65, -64, -9, -8, -1, 0, 6, 7, 8, 9, 64, 65, 255, 256, 32768, 32769}, extreme...)

// TestWrongPoses has each number of each pose at, next to, and far outside of its borders.
func TestWrongPoses(t *testing.T) {
	r := rand.New(rand.NewSource(4))
	n := counts{}
	good := anyMovement(r, 3, 3)
	for i := range good.Poses {
		for field := range numbers(&good.Poses[i]) {
			for _, number := range wrongs {
				m := clone(good)
				*numbers(&m.Poses[i])[field] = number
				n.compareOne(t, m, field)
				n.compareEvery(t, m, 3)
				n.compareEvery(t, m, number)
				n.compareJoin(t, m, good)
				n.compareJoin(t, good, m)
				m.Supports[0] = 4
				n.compareOne(t, m, field)
			}
		}
	}
	n.tried(t, "P29.2", 100, api.OK, api.ErrRange, api.ErrForm, api.ErrJoin)
}

// TestWrongSupports has each support at, next to, and far outside of its borders.
func TestWrongSupports(t *testing.T) {
	r := rand.New(rand.NewSource(5))
	good := anyMovement(r, 4, 2)
	for i := range good.Supports {
		for _, support := range append([]int{-2, -1, 0, 1, 2, 3, 4, 5}, extreme...) {
			m := clone(good)
			m.Supports[i] = support
			want := api.OK
			if support < 0 || support > 3 {
				want = api.ErrRange
			}
			if err := movement.Check(m); err != want {
				t.Errorf("P29.2: Check with the support %d at %d is %d, not %d", support, i, err, want)
			}
			counts{}.compare(t, m)
			// A wrong pose comes before each wrong support.
			m.Poses[len(m.Poses)-1].Aims[api.Head] = api.Aim{Az: 1, El: 64}
			if err := movement.Check(m); err != api.ErrForm {
				t.Errorf("P29.2: Check with the support %d at %d and a wrong pose is %d", support, i, err)
			}
			counts{}.compare(t, m)
		}
	}
}

// TestLengths has all small numbers of poses and of supports, and those at the limits.
func TestLengths(t *testing.T) {
	r := rand.New(rand.NewSource(6))
	ranged, formed := api.Pose{Facing: 256}, api.Pose{}
	formed.Aims[api.Torso] = api.Aim{Az: 1, El: -64}
	long := api.Movement{Poses: slices.Repeat([]api.Pose{anyPose(r)}, 8195), Supports: make([]int, 8195)}
	few := []int{0, 1, 2, 3, 4, 8191, 8192, 8193, 8194}
	for _, poses := range few {
		for _, supports := range few {
			m := api.Movement{Poses: long.Poses[:poses], Supports: long.Supports[:supports]}
			want := api.ErrForm
			if 1 <= supports && supports <= 8192 && poses == supports+1 {
				want = api.OK
			}
			if err := movement.Check(m); err != want {
				t.Errorf("P29.2: Check with %d poses and %d supports is %d, not %d", poses, supports, err, want)
			}
			if poses < 100 && supports < 100 || want == api.ErrForm {
				counts{}.compare(t, m)
			}
			// The numbers of both come before all.
			m = clone(m)
			for i := range m.Supports {
				m.Supports[i] = 4
			}
			if want == api.OK {
				want = api.ErrRange
			}
			if err := movement.Check(m); err != want {
				t.Errorf("P29.2: Check with %d poses and %d wrong supports is %d, not %d", poses, supports, err, want)
			}
			for i := range m.Poses {
				m.Poses[i] = ranged
			}
			if err := movement.Check(m); err != want {
				t.Errorf("P29.2: Check with %d wrong poses and %d supports is %d, not %d", poses, supports, err, want)
			}
		}
	}
	// Of several wrong poses the first one counts.
	for first := range 5 {
		for second := first + 1; second < 5; second++ {
			m := anyMovement(r, 4, 4)
			m.Poses[first], m.Poses[second] = ranged, formed
			if err := movement.Check(m); err != api.ErrRange {
				t.Errorf("P29.2: Check with wrong poses at %d and %d is %d", first, second, err)
			}
			m.Poses[first], m.Poses[second] = formed, ranged
			if err := movement.Check(m); err != api.ErrForm {
				t.Errorf("P29.2: Check with wrong poses at %d and %d is %d", first, second, err)
			}
		}
	}
}

// TestSame has movements that differ in one number, or in their lengths, valid or not.
func TestSame(t *testing.T) {
	r := rand.New(rand.NewSource(7))
	none, empty := api.Movement{}, api.Movement{Poses: []api.Pose{}, Supports: []int{}}
	if !movement.Same(none, empty) || !movement.Same(empty, none) || !movement.Same(none, none) {
		t.Error("P29.3: nil and empty lists are not the same")
	}
	for _, length := range []int{1, 2, 7} {
		m := anyMovement(r, length, 1)
		n := clone(m)
		if !movement.Same(m, n) {
			t.Errorf("P29.3: %v is not the same as itself", m)
		}
		differs := func(why string) {
			t.Helper()
			if movement.Same(m, n) || movement.Same(n, m) {
				t.Errorf("P29.3: %v and %v, which differ in %s, are the same", m, n, why)
			}
			n = clone(m)
		}
		for i := range m.Poses {
			for field := range numbers(&m.Poses[i]) {
				for _, by := range []int{1, -1, 256, 1 << 40} {
					*numbers(&n.Poses[i])[field] += by
					differs("a pose")
				}
			}
		}
		for i := range m.Supports {
			n.Supports[i]++
			differs("a support")
			n.Supports[i] += 4
			differs("a support")
		}
		n.Poses = n.Poses[:length]
		differs("their last pose")
		n.Poses = n.Poses[1:]
		differs("their first pose")
		n.Supports = n.Supports[:length-1]
		differs("their last support")
		n.Poses, n.Supports = n.Poses[:length], n.Supports[:length-1]
		differs("their length")
		n.Poses = nil
		differs("all poses")
		n.Supports = nil
		differs("all supports")
		// Movements that are not valid may be the same.
		m.Poses, m.Supports = m.Poses[1:], slices.Repeat([]int{-5}, 3*length)
		m.Poses[0].Facing = math.MinInt
		if !movement.Same(m, clone(m)) {
			t.Errorf("P29.3: %v, which is not valid, is not the same as itself", m)
		}
	}
}

// lasting returns a movement of so many ticks in which nothing moves.
func lasting(p api.Pose, length, support int) api.Movement {
	return api.Movement{Poses: slices.Repeat([]api.Pose{p}, length+1), Supports: slices.Repeat([]int{support}, length)}
}

func TestKnownJoin(t *testing.T) {
	r := rand.New(rand.NewSource(8))
	p, q, u := anyPose(r), anyPose(r), anyPose(r)
	// Each number of this pose may be greater by 1.
	s := api.Pose{At: api.Point{X: 1, Y: -1}, Facing: 9, Lift: 7}
	a := api.Movement{Poses: []api.Pose{p, q, s}, Supports: []int{0, 3}}
	b := api.Movement{Poses: []api.Pose{s, u}, Supports: []int{2}}
	want := api.Movement{Poses: []api.Pose{p, q, s, u}, Supports: []int{0, 3, 2}}
	if got, err := movement.Join(a, b); !same(got, want) || err != api.OK {
		t.Errorf("P29.5: Join is %v, %d, not %v", got, err, want)
	}
	if got, err := movement.Join(b, a); !same(got, api.Movement{}) || err != api.ErrJoin {
		t.Errorf("P29.5: Join of what does not go on is %v, %d", got, err)
	}
	// Each number of the pose must be the same, and no other pose matters.
	for field := range numbers(&api.Pose{}) {
		other := clone(b)
		*numbers(&other.Poses[0])[field]++
		counts{}.compareJoin(t, a, other)
		if got, err := movement.Join(a, other); !same(got, api.Movement{}) || err != api.ErrJoin {
			t.Errorf("P29.5: Join with another number %d of the pose is %v, %d", field, got, err)
		}
	}
}

// TestJoinLengths has lengths at the limit.
func TestJoinLengths(t *testing.T) {
	r := rand.New(rand.NewSource(9))
	p := anyPose(r)
	for _, c := range [][2]int{{8191, 1}, {1, 8191}, {4096, 4096}, {8192, 1}, {1, 8192}, {4096, 4097}, {4097, 4096}, {8192, 8192}} {
		a, b := lasting(p, c[0], 1), lasting(p, c[1], 2)
		want := api.OK
		if c[0]+c[1] > 8192 {
			want = api.ErrRange
		}
		got, err := movement.Join(a, b)
		if err != want || err == api.OK && (len(got.Poses) != 8193 || len(got.Supports) != 8192) {
			t.Errorf("P29.5: Join of %d and %d ticks has %d poses, %d supports and the error %d, not %d", c[0], c[1], len(got.Poses), len(got.Supports), err, want)
		}
		counts{}.compareJoin(t, a, b)
		// What does not go on comes before the length.
		b.Poses[0].Facing = (p.Facing + 1) % 256
		if got, err := movement.Join(a, b); !same(got, api.Movement{}) || err != api.ErrJoin {
			t.Errorf("P29.5: Join of %d and %d ticks that do not go on is %v, %d", c[0], c[1], got, err)
		}
	}
}

// TestOrderOfErrorsOfTwo has two movements with errors, of which the first one counts.
func TestOrderOfErrorsOfTwo(t *testing.T) {
	r := rand.New(rand.NewSource(10))
	good, ranged, short := anyMovement(r, 2, 1), anyMovement(r, 2, 1), anyMovement(r, 2, 1)
	ranged.Supports[1] = 4
	short.Supports = short.Supports[:1]
	for _, c := range []struct {
		a, b api.Movement
		want api.Errno
	}{
		{ranged, short, api.ErrRange},
		{short, ranged, api.ErrForm},
		{good, short, api.ErrForm},
		{good, ranged, api.ErrRange},
		{ranged, good, api.ErrRange},
		{api.Movement{}, ranged, api.ErrForm},
		{ranged, api.Movement{}, api.ErrRange},
		{api.Movement{}, api.Movement{}, api.ErrForm},
	} {
		if got, err := movement.Join(c.a, c.b); !same(got, api.Movement{}) || err != c.want {
			t.Errorf("P29.5: Join(%v, %v) is %v, %d, not %d", c.a, c.b, got, err, c.want)
		}
		counts{}.compareJoin(t, c.a, c.b)
	}
	for _, every := range append([]int{-1, 0, 1, 2, 3}, extreme...) {
		if got, err := movement.Every(ranged, every); !same(got, api.Movement{}) || err != api.ErrRange {
			t.Errorf("P29.6: Every %d of a wrong support is %v, %d", every, got, err)
		}
		if got, err := movement.Every(short, every); !same(got, api.Movement{}) || err != api.ErrForm {
			t.Errorf("P29.6: Every %d of too few supports is %v, %d", every, got, err)
		}
	}
}

// TestSupportsOfEvery has all supports of up to six ticks, with all numbers near them.
func TestSupportsOfEvery(t *testing.T) {
	r := rand.New(rand.NewSource(11))
	n := counts{}
	p := anyMovement(r, 6, 6).Poses
	var longer func(supports []int)
	longer = func(supports []int) {
		m := api.Movement{Poses: p[:len(supports)+1], Supports: supports}
		for every := -1; every <= len(supports)+2; every++ {
			n.compareEvery(t, m, every)
		}
		if len(supports) == 6 {
			return
		}
		for support := range 4 {
			longer(append(slices.Clone(supports), support))
		}
	}
	longer(nil)
	n.tried(t, "P29.6", 1000, api.OK, api.ErrRange, api.ErrForm)
}

// TestNumbersOfEvery has all lengths up to 60, and the greatest ones, with all numbers near them and extreme ones.
func TestNumbersOfEvery(t *testing.T) {
	r := rand.New(rand.NewSource(12))
	n := counts{}
	for length := 1; length <= 60; length++ {
		m := anyMovement(r, length, length)
		for every := -3; every <= length+3; every++ {
			n.compareEvery(t, m, every)
		}
		for _, every := range extreme {
			n.compareEvery(t, m, every)
		}
	}
	for _, length := range []int{8190, 8191, 8192} {
		m := lasting(anyPose(r), length, 3)
		for _, every := range append([]int{1, 2, 3, 4, 4095, 4096, 8190, 8191, 8192}, extreme...) {
			n.compareEvery(t, m, every)
		}
		m.Supports[length-1] = 0
		for _, every := range []int{1, 2, length} {
			n.compareEvery(t, m, every)
		}
	}
	n.tried(t, "P29.6", 100, api.OK, api.ErrRange)
	// What does not divide the length comes before uneven supports.
	m := anyMovement(r, 5, 5)
	m.Supports = []int{0, 1, 2, 3, 0}
	for every, want := range []api.Errno{api.ErrRange, api.OK, api.ErrRange, api.ErrRange, api.ErrRange, api.ErrForm, api.ErrRange} {
		if _, err := movement.Every(m, every); err != want {
			t.Errorf("P29.6: Every %d of uneven supports is %d, not %d", every, err, want)
		}
	}
}

// must returns a movement that has no error.
func must(t *testing.T) func(m api.Movement, err api.Errno) api.Movement {
	return func(m api.Movement, err api.Errno) api.Movement {
		t.Helper()
		if e := movement.Check(m); err != api.OK || e != api.OK {
			t.Fatalf("P29.8, P29.9: %v has the error %d, and Check of it %d", m, err, e)
		}
		return m
	}
}

// TestOnce tries P2 and P29.7.
func TestOnce(t *testing.T) {
	r := rand.New(rand.NewSource(13))
	for range 1500 {
		p, b := anyPhrase(r, []int{4, 20, 100}[r.Intn(3)], 5+r.Intn(40)), anyBody(r)
		m, err := movement.Of(b, p)
		if _, e := travel.Path(b, p.Start, p.Symbols, p.Len); e != err {
			t.Fatalf("P29.7: the movement of %v has the error %d, its path %d", p, err, e)
		}
		if err != api.OK {
			continue
		}
		if e := movement.Check(m); e != api.OK {
			t.Fatalf("P29.2: Check of the movement of %v is %d", p, e)
		}
		if first, e := posture.Pose(p.Start); m.Poses[0] != first || e != api.OK {
			t.Fatalf("P29.7: the movement of %v begins with %v, not with %v, %d", p, m.Poses[0], first, e)
		}
		if again := of(t, b, p); !same(again, m) {
			t.Fatalf("P29.7: the movement of %v is %v, and then %v", p, m, again)
		}
		ends(t, p, m)
	}
}

// ends tries that a movement ends with the pose with which its phrase ends, as chapter 31 says.
func ends(t *testing.T, p api.Phrase, m api.Movement) {
	t.Helper()
	turned, err := travel.Turns(p.Start, p.Symbols, p.Len)
	if err != api.OK {
		t.Fatalf("%v has the error %d", p, err)
	}
	last := m.Poses[p.Len]
	end := api.Start{At: last.At, Facing: (p.Start.Facing + turned + 8*8192) % 8, Level: p.Start.Level, Support: m.Supports[p.Len-1]}
	for _, s := range p.Symbols {
		if s.Kind == api.Step {
			end.Level = s.Level
		}
	}
	for limb := range api.Limbs {
		target, err := gesture.Rest(p.Start, p.Symbols, p.Len, limb, p.Len)
		if err != api.OK {
			t.Fatalf("the limb %d of %v has the error %d", limb, p, err)
		}
		end.Targets[limb] = target
	}
	if pose, err := posture.Pose(end); pose != last || err != api.OK {
		t.Fatalf("P2: the movement of %v ends with %v, not with %v, %d", p, last, pose, err)
	}
}

// TestGroup tries P29.8.
func TestGroup(t *testing.T) {
	r := rand.New(rand.NewSource(14))
	ok := must(t)
	for range 2000 {
		// The sum of two such numbers does not wrap around.
		m, q, k := anyMovement(r, 1+r.Intn(10), 1), anyQuarters(r)/2, anyQuarters(r)/2
		image, back, turned := ok(movement.Mirror(m)), ok(movement.Reverse(m)), ok(movement.Rotate(m, q))
		for i, pair := range [][2]api.Movement{
			{ok(movement.Mirror(image)), m},
			{ok(movement.Reverse(back)), m},
			{ok(movement.Rotate(turned, -q)), m},
			{ok(movement.Rotate(m, 4)), m},
			{ok(movement.Rotate(m, 0)), m},
			{ok(movement.Mirror(back)), ok(movement.Reverse(image))},
			{ok(movement.Mirror(turned)), ok(movement.Rotate(image, -q))},
			{ok(movement.Rotate(back, q)), ok(movement.Reverse(turned))},
			{ok(movement.Rotate(turned, k)), ok(movement.Rotate(m, q+k))},
		} {
			if !same(pair[0], pair[1]) || !movement.Same(pair[0], pair[1]) {
				t.Fatalf("P29.8: the law %d with the quarters %d and %d is broken for %v: %v is not %v", i, q, k, m, pair[0], pair[1])
			}
		}
	}
}

// TestJoins tries P29.9, and that symmetries keep joins.
func TestJoins(t *testing.T) {
	r := rand.New(rand.NewSource(15))
	ok := must(t)
	for range 2000 {
		n, k := 1+r.Intn(5), 1+r.Intn(5)
		a, b := anyMovement(r, n*k*(1+r.Intn(4)), n*k), anyMovement(r, n*k*(1+r.Intn(4)), n*k)
		b.Poses[0] = a.Poses[len(a.Supports)]
		m, q := ok(movement.Join(a, b)), anyQuarters(r)
		for i, pair := range [][2]api.Movement{
			{ok(movement.Reverse(m)), ok(movement.Join(ok(movement.Reverse(b)), ok(movement.Reverse(a))))},
			{ok(movement.Mirror(m)), ok(movement.Join(ok(movement.Mirror(a)), ok(movement.Mirror(b))))},
			{ok(movement.Rotate(m, q)), ok(movement.Join(ok(movement.Rotate(a, q)), ok(movement.Rotate(b, q))))},
			{ok(movement.Every(m, n)), ok(movement.Join(ok(movement.Every(a, n)), ok(movement.Every(b, n))))},
			{ok(movement.Every(m, 1)), m},
			{ok(movement.Every(ok(movement.Every(m, n)), k)), ok(movement.Every(m, n*k))},
		} {
			if !same(pair[0], pair[1]) {
				t.Fatalf("P29.9: the law %d with %d, %d and the quarters %d is broken for %v: %v is not %v", i, n, k, q, m, pair[0], pair[1])
			}
		}
	}
}

// mirrored returns the mirror image of a phrase, as chapter 32 says.
func mirrored(t *testing.T, p api.Phrase) api.Phrase {
	t.Helper()
	start, err := posture.Mirror(p.Start)
	if err != api.OK {
		t.Fatalf("the start %v has the error %d", p.Start, err)
	}
	image := api.Phrase{Start: start, Len: p.Len}
	for _, s := range p.Symbols {
		other, err := symbol.Mirror(s)
		if err != api.OK {
			t.Fatalf("the symbol %v has the error %d", s, err)
		}
		image.Symbols = append(image.Symbols, other)
	}
	inOrder(image.Symbols)
	return image
}

// stretched returns a phrase that is n times as long.
func stretched(p api.Phrase, n int) api.Phrase {
	p.Len *= n
	p.Symbols = slices.Clone(p.Symbols)
	for i := range p.Symbols {
		p.Symbols[i].Begin *= n
		p.Symbols[i].Len *= n
	}
	return p
}

// TestDenotation tries that the movements of mirrored, rotated and stretched phrases are mirrored, rotated and stretched.
func TestDenotation(t *testing.T) {
	r := rand.New(rand.NewSource(16))
	ok := must(t)
	tried := 0
	for range 2000 {
		p, b, q := anyPhrase(r, []int{4, 20, 60}[r.Intn(3)], 5+r.Intn(40)), anyBody(r), r.Intn(9)-4
		m, err := movement.Of(b, p)
		rotated := p
		rotated.Start, _ = posture.Rotate(p.Start, q)
		n := 1 + r.Intn(4)
		if err != api.OK {
			for _, other := range []api.Phrase{mirrored(t, p), rotated, stretched(p, n)} {
				if _, e := movement.Of(b, other); e != err {
					t.Fatalf("P3: %v has the error %d, and %v the error %d", p, err, other, e)
				}
			}
			continue
		}
		tried++
		for i, pair := range [][2]api.Movement{
			{of(t, b, mirrored(t, p)), ok(movement.Mirror(m))},
			{of(t, b, rotated), ok(movement.Rotate(m, q))},
			{ok(movement.Every(of(t, b, stretched(p, n)), n)), m},
		} {
			if !same(pair[0], pair[1]) {
				t.Fatalf("P3: the law %d with %d and the quarters %d is broken for %v: %v is not %v", i, n, q, p, pair[0], pair[1])
			}
		}
	}
	if tried < 500 {
		t.Errorf("P3: only %d phrases were tried", tried)
	}
}

// roomy returns a copy of a list with room behind it, and the list with this room, in which something stands.
func roomy[T any](l []T, filler T) (short, long []T) {
	long = append(slices.Clone(l), slices.Repeat([]T{filler}, 20)...)
	return long[:len(l)], long
}

// spoil changes everything in a movement, also behind its ends.
func spoil(m api.Movement) {
	poses, supports := m.Poses[:cap(m.Poses)], m.Supports[:cap(m.Supports)]
	for i := range poses {
		poses[i] = api.Pose{Facing: -999}
	}
	for i := range supports {
		supports[i] = -999
	}
}

// TestMemory tries that arguments are not changed, and that results are new memory.
func TestMemory(t *testing.T) {
	r := rand.New(rand.NewSource(17))
	ok := must(t)
	for range 300 {
		a, b := anyMovement(r, 1+r.Intn(8), 1), anyMovement(r, 1+r.Intn(8), 1)
		b.Poses[0] = a.Poses[len(a.Supports)]
		var poses [2][]api.Pose
		var supports [2][]int
		for i, m := range []*api.Movement{&a, &b} {
			m.Poses, poses[i] = roomy(m.Poses, api.Pose{Facing: -7})
			m.Supports, supports[i] = roomy(m.Supports, -7)
		}
		beforePoses, beforeSupports := [2][]api.Pose{slices.Clone(poses[0]), slices.Clone(poses[1])}, [2][]int{slices.Clone(supports[0]), slices.Clone(supports[1])}
		unchanged := func() {
			t.Helper()
			for i := range 2 {
				if !slices.Equal(poses[i], beforePoses[i]) || !slices.Equal(supports[i], beforeSupports[i]) {
					t.Fatalf("P29.3 to P29.6: the movement %v, %v was changed into %v, %v", beforePoses[i], beforeSupports[i], poses[i], supports[i])
				}
			}
		}
		movement.Same(a, b)
		unchanged()
		for _, result := range []func() (api.Movement, api.Errno){
			func() (api.Movement, api.Errno) { return movement.Mirror(a) },
			func() (api.Movement, api.Errno) { return movement.Reverse(a) },
			func() (api.Movement, api.Errno) { return movement.Rotate(a, 4*r.Intn(2)+r.Intn(2)) },
			func() (api.Movement, api.Errno) { return movement.Join(a, b) },
			func() (api.Movement, api.Errno) { return movement.Every(a, 1) },
		} {
			m := ok(result())
			unchanged()
			spoil(m)
			unchanged()
		}
	}
}

// TestMemoryOf tries that a phrase is not changed, and that its movement is new memory.
func TestMemoryOf(t *testing.T) {
	r := rand.New(rand.NewSource(18))
	for range 500 {
		p, b := anyPhrase(r, 20, 5+r.Intn(30)), anyBody(r)
		var room []api.Symbol
		p.Symbols, room = roomy(p.Symbols, sym(-1, -2, -3, -4, -5, -6, -7))
		before := slices.Clone(room)
		if m, err := movement.Of(b, p); err == api.OK {
			spoil(m)
		}
		counts{}.compareOf(t, b, p)
		if !slices.Equal(room, before) {
			t.Fatalf("P29.1: the staff %v was changed into %v", before, room)
		}
	}
}
