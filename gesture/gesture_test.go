package gesture_test

import (
	"cmp"
	"math"
	"math/rand"
	"slices"
	"testing"

	"dancestudio/aim"
	"dancestudio/api"
	"dancestudio/context"
	"dancestudio/gesture"
	"dancestudio/posture"
	"dancestudio/span"
	"dancestudio/staff"
	"dancestudio/symbol"
)

// extreme are integers far outside all bounds.
var extreme = []int{math.MinInt, math.MinInt + 1, -1 << 62, -1 << 32, -1<<32 + 1, -1 << 31, -1 << 16, -8193, 8193, 1 << 16, 1 << 31, 1 << 32, 1<<32 + 1, 1 << 62, math.MaxInt - 8192, math.MaxInt}

var (
	down = api.Target{Dir: api.Place, Level: api.Low}
	up   = api.Target{Dir: api.Place, Level: api.High}
)

func sym(kind, column, begin, n, dir, level, amount int) api.Symbol {
	return api.Symbol{Kind: kind, Column: column, Begin: begin, Len: n, Dir: dir, Level: level, Amount: amount}
}

func hold(column, begin, n int) api.Symbol { return sym(api.Hold, column, begin, n, 0, 0, 0) }

func step(column, begin, n int) api.Symbol {
	return sym(api.Step, column, begin, n, api.Forward, api.Middle, 0)
}

func turn(begin, n, eighths int) api.Symbol {
	return sym(api.Turn, api.TurnColumn, begin, n, 0, 0, eighths)
}

// to is a gesture to a target.
func to(limb, begin, n int, t api.Target) api.Symbol {
	return sym(api.Gesture, 2+limb, begin, n, t.Dir, t.Level, t.Bend)
}

// lead is a gesture to a direction at the level Middle.
func lead(limb, begin, n, dir int) api.Symbol { return to(limb, begin, n, api.Target{Dir: dir}) }

// inOrder sorts a list by Begin, then by Column.
func inOrder(l []api.Symbol) []api.Symbol {
	slices.SortStableFunc(l, func(a, b api.Symbol) int {
		return cmp.Or(cmp.Compare(a.Begin, b.Begin), cmp.Compare(a.Column, b.Column))
	})
	return l
}

// stand is the start of the examples.
func stand() api.Start {
	return api.Start{Support: 3, Targets: [api.Limbs]api.Target{down, down, up, down, down, up}}
}

// part is a start with a staff of a length: the definitions of the chapter.
type part struct {
	start  api.Start
	l      []api.Symbol
	length int
}

// supportedBefore says for each tick from 0 to length whether a foot supported before it.
func (p part) supportedBefore(side int) []bool {
	before := make([]bool, p.length+1)
	before[0] = p.start.Support == 3 || p.start.Support == side+1
	for _, s := range p.l {
		for tick := s.Begin; s.Column == side && tick < s.Begin+s.Len; tick++ {
			before[tick+1] = true
		}
	}
	return before
}

// underWay returns the gesture of a limb that is under way at a tick, if there is one.
func (p part) underWay(limb, tick int) (api.Symbol, bool) {
	for _, s := range p.l {
		if s.Kind == 3 && s.Column-2 == limb && s.Begin < tick && tick < s.Begin+s.Len {
			return s, true
		}
	}
	return api.Symbol{}, false
}

// lastEnded returns the last gesture of a limb that ended at a tick or earlier, if there is one.
func (p part) lastEnded(limb, tick int) (api.Symbol, bool) {
	for _, s := range slices.Backward(p.l) {
		if s.Kind == 3 && s.Column-2 == limb && s.Begin+s.Len <= tick {
			return s, true
		}
	}
	return api.Symbol{}, false
}

// target is the definition of the target of a limb at a tick.
func (p part) target(limb, tick int) api.Target {
	after, target := -1, p.start.Targets[limb]
	if s, ok := p.lastEnded(limb, tick); ok {
		after, target = s.Begin, api.Target{Dir: s.Dir, Level: s.Level, Bend: s.Amount}
	}
	if limb > 1 {
		return target
	}
	if slices.Contains(p.supportedBefore(limb)[after+1:tick+1], true) {
		return down
	}
	return target
}

// of returns the aim of a target that has one.
func of(t *testing.T, limb int, target api.Target) api.Aim {
	t.Helper()
	a, err := aim.Of(limb, target)
	if err != api.OK {
		t.Fatalf("the target %v of the limb %d has the error %d", target, limb, err)
	}
	return a
}

// aim is the definition of the aim of a limb at a tick.
func (p part) aim(t *testing.T, limb, tick int) api.Aim {
	t.Helper()
	s, ok := p.underWay(limb, tick)
	if !ok {
		return of(t, limb, p.target(limb, tick))
	}
	from := of(t, limb, p.target(limb, s.Begin))
	own := of(t, limb, api.Target{Dir: s.Dir, Level: s.Level, Bend: s.Amount})
	a, err := aim.Lerp(limb, from, own, tick-s.Begin, s.Len)
	if err != api.OK {
		t.Fatalf("the gesture %v from %v has the error %d", s, from, err)
	}
	return a
}

// aims is the definition of P27.1.
func (p part) aims(t *testing.T, limb int) ([]api.Aim, api.Errno) {
	t.Helper()
	if limb < 0 || limb > 5 {
		return nil, api.ErrKind
	}
	if err := context.Check(p.start, p.l, p.length); err != api.OK {
		return nil, err
	}
	var all []api.Aim
	for tick := 0; tick <= p.length; tick++ {
		all = append(all, p.aim(t, limb, tick))
	}
	return all, api.OK
}

// rest is the definition of P27.3.
func (p part) rest(limb, tick int) (api.Target, api.Errno) {
	if limb < 0 || limb > 5 {
		return api.Target{}, api.ErrKind
	}
	if err := context.Check(p.start, p.l, p.length); err != api.OK {
		return api.Target{}, err
	}
	if tick < 0 || tick > p.length {
		return api.Target{}, api.ErrRange
	}
	if _, ok := p.underWay(limb, tick); ok {
		return api.Target{}, api.ErrState
	}
	return p.target(limb, tick), api.OK
}

// quiet is the definition of P27.4: the ticks one by one, put together by span.Norm.
func (p part) quiet(t *testing.T) ([]api.Span, api.Errno) {
	t.Helper()
	if err := context.Check(p.start, p.l, p.length); err != api.OK {
		return nil, err
	}
	has := make([]bool, p.length)
	for _, s := range p.l {
		for tick := s.Begin; s.Kind == 3 && tick < s.Begin+s.Len; tick++ {
			has[tick] = true
		}
	}
	var all []api.Span
	for tick := range p.length {
		switch {
		case has[tick]:
		case tick > 0 && !has[tick-1]:
			all[len(all)-1].To++
		default:
			all = append(all, api.Span{From: tick, To: tick + 1})
		}
	}
	if len(all) <= api.MaxSpans {
		if normal, err := span.Norm(all); err != api.OK || !slices.Equal(normal, all) {
			t.Fatalf("%v is not in normal form", all)
		}
	}
	return all, api.OK
}

// counts says how often each error was the right one.
type counts map[api.Errno]int

// compareRest compares Rest with its definition.
func (n counts) compareRest(t *testing.T, p part, limb, tick int) {
	t.Helper()
	want, err := p.rest(limb, tick)
	if got, e := gesture.Rest(p.start, p.l, p.length, limb, tick); got != want || e != err {
		t.Fatalf("P1, P27.3: Rest(%v, %v, %d, %d, %d) is %v, %d, not %v, %d", p.start, p.l, p.length, limb, tick, got, e, want, err)
	}
	n[err]++
}

// compareAll compares Aims, All and Quiet with their definitions.
func (n counts) compareAll(t *testing.T, p part) {
	t.Helper()
	fault := context.Check(p.start, p.l, p.length)
	all, e := gesture.All(p.start, p.l, p.length)
	if e != fault {
		t.Fatalf("P1, P27.2: All(%v, %v, %d) has the error %d, not %d", p.start, p.l, p.length, e, fault)
	}
	for limb := -1; limb <= 6; limb++ {
		want, err := p.aims(t, limb)
		if got, e := gesture.Aims(p.start, p.l, p.length, limb); !slices.Equal(got, want) || e != err {
			t.Fatalf("P1, P27.1: Aims(%v, %v, %d, %d) is %v, %d, not %v, %d", p.start, p.l, p.length, limb, got, e, want, err)
		}
		if 0 <= limb && limb <= 5 && !slices.Equal(all[limb], want) {
			t.Fatalf("P1, P27.2: All(%v, %v, %d) has %v for the limb %d, not %v", p.start, p.l, p.length, all[limb], limb, want)
		}
	}
	want, err := p.quiet(t)
	if got, e := gesture.Quiet(p.start, p.l, p.length); !slices.Equal(got, want) || e != err {
		t.Fatalf("P1, P27.4: Quiet(%v, %v, %d) is %v, %d, not %v, %d", p.start, p.l, p.length, got, e, want, err)
	}
	n[fault]++
}

// compare compares all functions with their definitions; its staff is so short that this can be done at all ticks.
func (n counts) compare(t *testing.T, p part) {
	t.Helper()
	n.compareAll(t, p)
	for limb := -1; limb <= 6; limb++ {
		for tick := -1; tick <= min(p.length, 200)+1; tick++ {
			n.compareRest(t, p, limb, tick)
		}
	}
}

// tried reports errors that were the right ones too seldom.
func (n counts) tried(t *testing.T, least int, all ...api.Errno) {
	t.Helper()
	for _, err := range all {
		if n[err] < least {
			t.Errorf("P27.1: the error %d was right only %d times", err, n[err])
		}
	}
}

// example is the part of the examples.
func example() part {
	return part{stand(), []api.Symbol{hold(0, 0, 8), lead(api.ArmRight, 0, 4, api.Right), to(api.LegRight, 2, 4, api.Target{Dir: api.Forward, Level: api.Low})}, 8}
}

func TestExampleAims(t *testing.T) {
	below, above := api.Aim{El: -64}, api.Aim{El: 64}
	low, side := api.Aim{El: -32}, api.Aim{Az: 64}
	want := [api.Limbs][]api.Aim{
		{below, below, below, below, below, below, below, below, below},
		{below, below, below, {El: -56}, {El: -48}, {El: -40}, low, low, low},
		{above, above, above, above, above, above, above, above, above},
		{below, below, below, below, below, below, below, below, below},
		{below, {Az: 64, El: -48}, {Az: 64, El: -32}, {Az: 64, El: -16}, side, side, side, side, side},
		{above, above, above, above, above, above, above, above, above},
	}
	p := example()
	all, e := gesture.All(p.start, p.l, p.length)
	if e != api.OK {
		t.Errorf("P27.2: All has the error %d", e)
	}
	for limb, aims := range want {
		if !slices.Equal(all[limb], aims) {
			t.Errorf("P27.2: All has %v for the limb %d, not %v", all[limb], limb, aims)
		}
		if got, err := gesture.Aims(p.start, p.l, p.length, limb); !slices.Equal(got, aims) || err != api.OK {
			t.Errorf("P27.1: Aims of the limb %d is %v, %d, not %v", limb, got, err, aims)
		}
	}
	counts{}.compare(t, p)
}

func TestExampleRest(t *testing.T) {
	p := example()
	lifted := api.Target{Dir: api.Forward, Level: api.Low}
	for _, c := range []struct {
		limb, tick int
		want       api.Target
		err        api.Errno
	}{
		{api.ArmRight, 0, down, api.OK},
		{api.ArmRight, 1, api.Target{}, api.ErrState},
		{api.ArmRight, 2, api.Target{}, api.ErrState},
		{api.ArmRight, 3, api.Target{}, api.ErrState},
		{api.ArmRight, 4, api.Target{Dir: api.Right}, api.OK},
		{api.ArmRight, 8, api.Target{Dir: api.Right}, api.OK},
		{api.ArmRight, 9, api.Target{}, api.ErrRange},
		{api.ArmRight, -1, api.Target{}, api.ErrRange},
		{api.LegRight, 2, down, api.OK},
		{api.LegRight, 3, api.Target{}, api.ErrState},
		{api.LegRight, 5, api.Target{}, api.ErrState},
		{api.LegRight, 6, lifted, api.OK},
		{api.LegRight, 8, lifted, api.OK},
		{api.LegLeft, 3, down, api.OK},
		{api.Torso, 8, up, api.OK},
		{api.Head, 0, up, api.OK},
		{6, 4, api.Target{}, api.ErrKind},
		{6, 9, api.Target{}, api.ErrKind},
		{-1, -1, api.Target{}, api.ErrKind},
	} {
		if got, err := gesture.Rest(p.start, p.l, p.length, c.limb, c.tick); got != c.want || err != c.err {
			t.Errorf("P27.3: Rest of the limb %d at %d is %v, %d, not %v, %d", c.limb, c.tick, got, err, c.want, c.err)
		}
	}
}

// TestKnownQuiet has spans that were worked out by hand.
func TestKnownQuiet(t *testing.T) {
	rest := hold(0, 0, 8)
	for i, c := range []struct {
		l    []api.Symbol
		want []api.Span
	}{
		{example().l, []api.Span{{From: 6, To: 8}}},
		{[]api.Symbol{rest}, []api.Span{{From: 0, To: 8}}},
		// Steps, holds and turns are no gestures.
		{[]api.Symbol{step(0, 0, 4), turn(0, 4, 9), hold(0, 4, 4), turn(4, 2, 1)}, []api.Span{{From: 0, To: 8}}},
		{[]api.Symbol{rest, lead(api.Head, 0, 8, api.Left)}, nil},
		{[]api.Symbol{rest, lead(api.Head, 0, 4, api.Left), lead(api.Torso, 4, 4, api.Left)}, nil},
		{[]api.Symbol{rest, lead(api.Head, 0, 1, api.Left)}, []api.Span{{From: 1, To: 8}}},
		{[]api.Symbol{rest, lead(api.Head, 7, 1, api.Left)}, []api.Span{{From: 0, To: 7}}},
		{[]api.Symbol{rest, lead(api.Head, 3, 2, api.Left)}, []api.Span{{From: 0, To: 3}, {From: 5, To: 8}}},
		// A gesture that moves nothing is one.
		{[]api.Symbol{rest, to(api.Head, 3, 2, up)}, []api.Span{{From: 0, To: 3}, {From: 5, To: 8}}},
		// The gesture that begins last does not end last.
		{[]api.Symbol{rest, lead(api.ArmLeft, 1, 6, api.Left), lead(api.ArmRight, 2, 1, api.Left)}, []api.Span{{From: 0, To: 1}, {From: 7, To: 8}}},
		{[]api.Symbol{rest, lead(api.ArmLeft, 1, 2, api.Left), lead(api.ArmRight, 2, 1, api.Left), lead(api.Head, 3, 1, api.Left), lead(api.ArmLeft, 6, 1, api.Left)}, []api.Span{{From: 0, To: 1}, {From: 4, To: 6}, {From: 7, To: 8}}},
	} {
		if got, err := gesture.Quiet(stand(), c.l, 8); !slices.Equal(got, c.want) || err != api.OK {
			t.Errorf("P27.4: Quiet of the staff %d is %v, %d, not %v", i, got, err, c.want)
		}
	}
}

// TestKnownAims has aims that were worked out by hand.
func TestKnownAims(t *testing.T) {
	below, forward := api.Aim{El: -64}, api.Target{Dir: api.Forward}
	lifted := stand()
	lifted.Support, lifted.Targets[api.LegRight] = 1, forward
	for i, c := range []struct {
		start api.Start
		l     []api.Symbol
		limb  int
		want  []api.Aim
	}{
		// Between two gestures, and after the last one, the limb stays where it is.
		{stand(), []api.Symbol{hold(0, 0, 6), lead(api.ArmLeft, 0, 2, api.Left), to(api.ArmLeft, 3, 2, api.Target{Dir: api.Left, Level: api.High, Bend: 4})}, api.ArmLeft,
			[]api.Aim{below, {Az: 192, El: -32}, {Az: 192}, {Az: 192}, {Az: 192, El: 16, Bend: 2}, {Az: 192, El: 32, Bend: 4}, {Az: 192, El: 32, Bend: 4}}},
		// One gesture goes on from the end of the other one, around the side of the arm.
		{stand(), []api.Symbol{hold(0, 0, 6), lead(api.ArmRight, 0, 2, api.Forward), lead(api.ArmRight, 2, 4, api.Back)}, api.ArmRight,
			[]api.Aim{below, {El: -32}, {}, {Az: 32}, {Az: 64}, {Az: 96}, {Az: 128}}},
		{stand(), []api.Symbol{hold(0, 0, 6), lead(api.ArmLeft, 0, 2, api.Forward), lead(api.ArmLeft, 2, 4, api.Back)}, api.ArmLeft,
			[]api.Aim{below, {El: -32}, {}, {Az: 224}, {Az: 192}, {Az: 160}, {Az: 128}}},
		// A leg of the start that is in the air stays there, sinks, and takes weight.
		{lifted, []api.Symbol{hold(0, 0, 6), to(api.LegRight, 1, 2, down), step(1, 4, 2)}, api.LegRight,
			[]api.Aim{{}, {}, {El: -32}, below, below, below, below}},
		{lifted, []api.Symbol{hold(0, 0, 6)}, api.LegRight, []api.Aim{{}, {}, {}, {}, {}, {}, {}}},
		// After a support a leg leads from straight down, once more after the second one.
		{lifted, []api.Symbol{hold(0, 0, 6), to(api.LegRight, 0, 1, down), step(1, 1, 1), lead(api.LegRight, 2, 2, api.Right), to(api.LegRight, 4, 2, down)}, api.LegRight,
			[]api.Aim{{}, below, below, {Az: 64, El: -32}, {Az: 64}, {Az: 64, El: -32}, below}},
		{stand(), []api.Symbol{hold(0, 0, 2), step(1, 0, 6), lead(api.LegLeft, 3, 2, api.Back)}, api.LegLeft,
			[]api.Aim{below, below, below, below, {Az: 128, El: -32}, {Az: 128}, {Az: 128}}},
		// A bent leg is not straight down, and goes there without a change of its direction.
		{stand(), []api.Symbol{hold(0, 0, 6), to(api.LegRight, 0, 2, api.Target{Level: api.Low, Bend: 4}), to(api.LegRight, 2, 2, down), step(1, 5, 1)}, api.LegRight,
			[]api.Aim{below, {El: -64, Bend: 2}, {El: -64, Bend: 4}, {El: -64, Bend: 2}, below, below, below}},
	} {
		if got, err := gesture.Aims(c.start, c.l, 6, c.limb); !slices.Equal(got, c.want) || err != api.OK {
			t.Errorf("P27.1: Aims of the staff %d is %v, %d, not %v", i, got, err, c.want)
		}
		counts{}.compare(t, part{c.start, c.l, 6})
	}
}

// staves calls f with all staves of up to so many symbols out of a list that is in order, and of some that they all have.
func staves(always, all []api.Symbol, most, length int, f func(l []api.Symbol)) {
	var longer func(l []api.Symbol, rest []api.Symbol)
	longer = func(l []api.Symbol, rest []api.Symbol) {
		if staff.Check(l, length) != api.OK {
			return
		}
		f(inOrder(slices.Concat(always, l)))
		if len(l) == most {
			return
		}
		for i, s := range rest {
			longer(append(slices.Clone(l), s), rest[i+1:])
		}
	}
	longer(nil, all)
}

// free is stand on one foot, with a target of the leg that is free.
func free(leg int, target api.Target) api.Start {
	s := stand()
	s.Support, s.Targets[leg] = 2-leg, target
	return s
}

// TestSmallLegs has all small staves of a leg and its foot, on both feet and with the leg in the air at the start, while the other foot supports all the time or not.
func TestSmallLegs(t *testing.T) {
	n := counts{}
	side := api.Target{Dir: api.Right, Level: api.Low, Bend: 3}
	for leg := range 2 {
		var all []api.Symbol
		for begin := range 4 {
			for ticks := 1; ticks <= 2; ticks++ {
				all = append(all, hold(leg, begin, ticks), step(leg, begin, ticks), to(leg, begin, ticks, down), lead(leg, begin, ticks, api.Back))
			}
		}
		for _, start := range []api.Start{stand(), free(leg, down), free(leg, side)} {
			for _, other := range [][]api.Symbol{{hold(1-leg, 0, 4)}, {hold(1-leg, 0, 2)}} {
				staves(other, inOrder(all), 3, 4, func(l []api.Symbol) { n.compare(t, part{start, l, 4}) })
			}
		}
	}
	n.tried(t, 500, api.OK, api.ErrKind, api.ErrRange, api.ErrState, api.ErrWeight, api.ErrAir)
}

// TestSmallGestures has all small staves of three limbs.
func TestSmallGestures(t *testing.T) {
	n := counts{}
	var all []api.Symbol
	for begin := range 4 {
		for ticks := 1; ticks <= 3; ticks++ {
			all = append(all, lead(api.LegRight, begin, ticks, api.Back), lead(api.Torso, begin, ticks, api.Forward), lead(api.Torso, begin, ticks, api.Back), to(api.ArmLeft, begin, ticks, api.Target{Dir: api.Left, Level: api.High, Bend: 6}))
		}
	}
	staves([]api.Symbol{hold(0, 0, 4)}, inOrder(all), 3, 4, func(l []api.Symbol) { n.compare(t, part{stand(), l, 4}) })
	n.tried(t, 500, api.OK, api.ErrKind, api.ErrRange, api.ErrState, api.ErrTwist)
}

// targets are all targets of a limb with some bends.
func targets(limb int) []api.Target {
	var all []api.Target
	for dir := range 9 {
		for level := api.Low; level <= api.High; level++ {
			target := api.Target{Dir: dir, Level: level, Bend: (dir + level + 7) % 7}
			if _, err := aim.Of(limb, target); err == api.OK {
				all = append(all, target)
			}
		}
	}
	return append(all, up)
}

// TestWays has all ways of each limb from a target of the start, and from one of a gesture.
func TestWays(t *testing.T) {
	n := counts{}
	for limb := range api.Limbs {
		leg := 0
		if limb == api.LegLeft {
			leg = 1
		}
		for _, a := range targets(limb) {
			for _, b := range targets(limb) {
				start := stand()
				start.Support = leg + 1
				n.compareAll(t, part{start, []api.Symbol{hold(leg, 0, 12), to(limb, 0, 3, a), to(limb, 5, 6, b)}, 12})
				start.Targets[limb] = a
				n.compareAll(t, part{start, []api.Symbol{hold(leg, 0, 12), to(limb, 1, 11, b)}, 12})
			}
		}
	}
	n.tried(t, 200, api.OK, api.ErrTwist)
}

// anyTarget returns a target of a limb; legs are often straight down.
func anyTarget(r *rand.Rand, limb int) api.Target {
	switch choice := r.Intn(6); {
	case limb <= 1 && choice <= 2:
		return down
	case limb != api.Torso && limb != api.Head && choice == 3:
		return api.Target{Dir: api.Place, Level: api.Low, Bend: r.Intn(7)}
	case choice == 4:
		return api.Target{Dir: api.Place, Level: api.High, Bend: r.Intn(7)}
	default:
		return api.Target{Dir: 1 + r.Intn(8), Level: r.Intn(3) - 1, Bend: r.Intn(7)}
	}
}

// anyStart returns a valid start.
func anyStart(r *rand.Rand) api.Start {
	s := api.Start{At: api.Point{X: r.Intn(65537) - 32768, Y: r.Intn(99)}, Facing: r.Intn(8), Level: r.Intn(3) - 1, Support: 1 + r.Intn(3)}
	for limb := range api.Limbs {
		s.Targets[limb] = anyTarget(r, limb)
		if limb <= 1 && s.Support&(1<<limb) != 0 {
			s.Targets[limb] = down
		}
	}
	return s
}

// anySymbol returns a symbol of a staff; supports are frequent.
func anySymbol(r *rand.Rand, length int) api.Symbol {
	begin := r.Intn(length)
	n := 1 + r.Intn(min(12, length-begin))
	switch r.Intn(9) {
	case 0, 1:
		return hold(r.Intn(2), begin, n)
	case 2, 3:
		return sym(api.Step, r.Intn(2), begin, n, r.Intn(9), r.Intn(3)-1, 0)
	case 4:
		return turn(begin, n, 1+r.Intn(2))
	default:
		limb := r.Intn(6)
		return to(limb, begin, n, anyTarget(r, limb))
	}
}

// extended returns the part with a symbol more, or as it is if it would have a fault at a symbol.
func (p part) extended(s api.Symbol) part {
	l, err := staff.Put(p.l, p.length, s)
	if err != api.OK {
		return p
	}
	if fault := context.Check(p.start, l, p.length); fault != api.OK && fault != api.ErrAir {
		return p
	}
	p.l = l
	return p
}

// anyPart returns a part without faults, to which symbols were added one after the other.
func anyPart(r *rand.Rand, most, tries int) part {
	for {
		p := part{start: anyStart(r), length: 1 + r.Intn(most)}
		for side := range 2 {
			// Feet that stand at the start often go on doing so for a while.
			if n := r.Intn(p.length + 1); n > 0 {
				p = p.extended(hold(side, 0, n))
			}
		}
		for range tries {
			p = p.extended(anySymbol(r, p.length))
		}
		last := r.Intn(p.length)
		for _, s := range []api.Symbol{step(0, last, p.length-last), step(1, last, p.length-last)} {
			if context.Check(p.start, p.l, p.length) == api.ErrAir {
				p = p.extended(s)
			}
		}
		if context.Check(p.start, p.l, p.length) == api.OK {
			return p
		}
	}
}

func TestAnyParts(t *testing.T) {
	r := rand.New(rand.NewSource(1))
	n := counts{}
	for range 1500 {
		n.compare(t, anyPart(r, []int{4, 20, 60}[r.Intn(3)], 5+r.Intn(50)))
	}
	n.tried(t, 500, api.OK, api.ErrKind, api.ErrRange, api.ErrState)
}

// TestSpoiledParts has parts in which something was changed.
func TestSpoiledParts(t *testing.T) {
	r := rand.New(rand.NewSource(2))
	n := counts{}
	for range 6000 {
		p := anyPart(r, []int{4, 20}[r.Intn(2)], 5+r.Intn(20))
		for range 1 + r.Intn(2) {
			switch choice := r.Intn(6); {
			case choice == 0:
				p.start.Support = r.Intn(5)
			case choice == 1:
				p.start.Targets[r.Intn(6)] = api.Target{Dir: r.Intn(10), Level: r.Intn(3) - 1, Bend: r.Intn(8)}
			case choice == 2:
				p.length += r.Intn(5) - 3
			case len(p.l) == 0:
			case choice == 3:
				i := r.Intn(len(p.l))
				p.l = slices.Delete(p.l, i, i+1)
			default:
				s := &p.l[r.Intn(len(p.l))]
				field := []*int{&s.Kind, &s.Column, &s.Begin, &s.Len, &s.Dir, &s.Level, &s.Amount}[r.Intn(7)]
				*field += r.Intn(7) - 3
			}
		}
		n.compareAll(t, p)
		n.compareRest(t, p, r.Intn(8)-1, r.Intn(25)-2)
	}
	n.tried(t, 20, api.OK, api.ErrRange, api.ErrKind, api.ErrColumn, api.ErrOrder, api.ErrForm, api.ErrPlace, api.ErrOverlap, api.ErrWeight, api.ErrAir, api.ErrState)
}

// row returns n holds of the left foot that follow each other from 0 on, with as many ticks each.
func row(n, ticks int) []api.Symbol {
	var l []api.Symbol
	for i := range n {
		l = append(l, hold(0, i*ticks, ticks))
	}
	return l
}

// TestLongStaves has staves at the limits of symbols and ticks.
func TestLongStaves(t *testing.T) {
	n := counts{}
	whole := hold(0, 0, 8192)
	many, steps := []api.Symbol{whole}, []api.Symbol{whole}
	for i := range 255 {
		many = append(many, lead(2+i%4, 1+2*i, 1, 1+i%3))
		if i%3 == 0 {
			steps = append(steps, step(1, 32*i, 20))
		} else {
			steps = append(steps, []api.Symbol{to(api.LegRight, 32*i, 31, down), lead(api.LegRight, 32*i, 32, api.Right)}[i%3%2])
		}
	}
	for _, p := range []part{
		{stand(), many, 8192},
		{stand(), many, 510},
		{stand(), steps, 8192},
		{stand(), row(256, 32), 8192},
		{stand(), row(257, 1), 8192},
		{stand(), nil, 8192},
		{stand(), []api.Symbol{whole}, 8193},
		{stand(), []api.Symbol{whole, lead(api.LegRight, 0, 8192, api.Right), to(api.ArmLeft, 1, 8191, up), lead(api.ArmRight, 8191, 1, api.Back)}, 8192},
		{free(api.LegRight, up), []api.Symbol{whole, to(api.LegRight, 8000, 191, down), step(1, 8191, 1)}, 8192},
	} {
		n.compareAll(t, p)
		for limb := range api.Limbs {
			for _, tick := range []int{0, 1, 31, 32, 4095, 8190, 8191, 8192, 8193} {
				n.compareRest(t, p, limb, tick)
			}
		}
	}
	if spans, err := gesture.Quiet(stand(), many, 8192); len(spans) != 256 || err != api.OK {
		t.Errorf("P27.4: Quiet of 255 gestures is %v, %d", spans, err)
	}
	n.tried(t, 5, api.OK, api.ErrState)
	n.tried(t, 1, api.ErrFull, api.ErrAir)
}

// TestOrderOfErrors has arguments with several errors, of which the first one counts.
func TestOrderOfErrors(t *testing.T) {
	n := counts{}
	wrong, lifted, placed := stand(), stand(), stand()
	wrong.Support = 0
	lifted.Targets[api.LegRight] = api.Target{Dir: api.Right}
	placed.Targets[api.Head] = api.Target{Dir: api.Place}
	unordered := []api.Symbol{hold(1, 0, 2), hold(0, 0, 2)}
	for i, c := range []struct {
		p    part
		want api.Errno
	}{
		{part{wrong, unordered, 4}, api.ErrRange},
		{part{lifted, unordered, 0}, api.ErrWeight},
		{part{placed, unordered, 0}, api.ErrPlace},
		{part{stand(), unordered, 0}, api.ErrRange},
		{part{stand(), row(257, 1), 4}, api.ErrFull},
		{part{stand(), unordered, 4}, api.ErrOrder},
		{part{stand(), []api.Symbol{{Kind: 5, Len: 1}}, 4}, api.ErrKind},
		{part{stand(), []api.Symbol{hold(0, 1, 3)}, 4}, api.ErrWeight},
		{part{stand(), []api.Symbol{hold(0, 0, 4), lead(api.LegLeft, 0, 2, api.Left)}, 4}, api.ErrWeight},
		{part{stand(), []api.Symbol{hold(0, 0, 4), lead(api.Head, 0, 2, api.Left), lead(api.Head, 2, 2, api.Right)}, 4}, api.ErrTwist},
		{part{stand(), nil, 4}, api.ErrAir},
	} {
		n.compare(t, c.p)
		if l, err := gesture.Aims(c.p.start, c.p.l, c.p.length, 0); len(l) != 0 || err != c.want {
			t.Errorf("P27.1: Aims of the part %d is %v, %d, not %d", i, l, err, c.want)
		}
		if _, err := gesture.All(c.p.start, c.p.l, c.p.length); err != c.want {
			t.Errorf("P27.2: All of the part %d has the error %d, not %d", i, err, c.want)
		}
		// The tick comes after the staff.
		if target, err := gesture.Rest(c.p.start, c.p.l, c.p.length, 0, -1); target != (api.Target{}) || err != c.want {
			t.Errorf("P27.3: Rest of the part %d is %v, %d, not %d", i, target, err, c.want)
		}
		if l, err := gesture.Quiet(c.p.start, c.p.l, c.p.length); len(l) != 0 || err != c.want {
			t.Errorf("P27.4: Quiet of the part %d is %v, %d, not %d", i, l, err, c.want)
		}
		// The limb comes before all.
		for _, limb := range append([]int{-1, 6, 7, 8}, extreme...) {
			if l, err := gesture.Aims(c.p.start, c.p.l, c.p.length, limb); len(l) != 0 || err != api.ErrKind {
				t.Errorf("P27.1: Aims of the limb %d of the part %d is %v, %d", limb, i, l, err)
			}
			if target, err := gesture.Rest(c.p.start, c.p.l, c.p.length, limb, -1); target != (api.Target{}) || err != api.ErrKind {
				t.Errorf("P27.3: Rest of the limb %d of the part %d is %v, %d", limb, i, target, err)
			}
		}
	}
}

// TestExtremes has numbers far outside of their borders.
func TestExtremes(t *testing.T) {
	n := counts{}
	for _, number := range append([]int{-2, -1, 0, 1, 2, 3, 4, 5, 7, 8, 9, 12, 13, 8191, 8192}, extreme...) {
		l := []api.Symbol{hold(0, 0, 12), lead(api.LegRight, 0, 4, api.Forward), lead(api.ArmLeft, 2, 10, api.Left)}
		n.compareAll(t, part{stand(), l, number})
		n.compareAll(t, part{stand(), nil, number})
		for limb := -1; limb <= 6; limb++ {
			n.compareRest(t, part{stand(), l, 12}, limb, number)
			n.compareRest(t, part{stand(), l, number}, limb, number)
		}
		n.compareRest(t, part{stand(), l, 12}, number, number)
		n.compareRest(t, part{stand(), l, 12}, number, 3)
		for i := range l {
			for field := range 7 {
				wrong := slices.Clone(l)
				s := &wrong[i]
				*[]*int{&s.Kind, &s.Column, &s.Begin, &s.Len, &s.Dir, &s.Level, &s.Amount}[field] = number
				n.compareAll(t, part{stand(), wrong, 12})
				n.compareAll(t, part{stand(), inOrder(wrong), 12})
			}
		}
		for limb := range api.Limbs {
			for field := range 3 {
				p := part{stand(), l, 12}
				target := &p.start.Targets[limb]
				*[]*int{&target.Dir, &target.Level, &target.Bend}[field] = number
				n.compareAll(t, p)
				p.start.Support = 1
				n.compareAll(t, p)
			}
		}
		for field := range 5 {
			p := part{stand(), l, 12}
			s := &p.start
			*[]*int{&s.At.X, &s.At.Y, &s.Facing, &s.Level, &s.Support}[field] = number
			n.compareAll(t, p)
		}
	}
	n.tried(t, 10, api.OK, api.ErrRange, api.ErrKind, api.ErrWeight, api.ErrAir, api.ErrState)
}

// ends tries P27.5.
func ends(t *testing.T, p part, all [api.Limbs][]api.Aim) {
	t.Helper()
	moves := [api.Limbs][]bool{}
	for limb := range moves {
		moves[limb] = make([]bool, p.length)
	}
	for _, s := range p.l {
		if s.Kind != api.Gesture {
			continue
		}
		limb := s.Column - api.FirstGesture
		target, err := symbol.Target(s)
		if a := all[limb][s.Begin+s.Len]; err != api.OK || a != of(t, limb, target) {
			t.Fatalf("P27.5: in %v the limb %d has the aim %v at the end of %v", p, limb, a, s)
		}
		for tick := range s.Len {
			moves[limb][s.Begin+tick] = true
		}
	}
	for limb, aims := range all {
		for tick, isMoved := range moves[limb] {
			if !isMoved && aims[tick] != aims[tick+1] {
				t.Fatalf("P27.5: in %v the limb %d is at %v and then at %v after the tick %d, which no gesture has", p, limb, aims[tick], aims[tick+1], tick)
			}
		}
	}
}

// begins tries P27.6.
func begins(t *testing.T, p part, all [api.Limbs][]api.Aim) {
	t.Helper()
	pose, err := posture.Pose(p.start)
	if err != api.OK {
		t.Fatalf("the start %v has the error %d", p.start, err)
	}
	for limb, aims := range all {
		if aims[0] != pose.Aims[limb] {
			t.Fatalf("P27.6: in %v the limb %d begins at %v", p, limb, aims[0])
		}
		for tick, a := range aims {
			if err := aim.Check(limb, a); err != api.OK {
				t.Fatalf("P27.6: in %v the limb %d has the aim %v, with the error %d, at %d", p, limb, a, err, tick)
			}
		}
	}
}

// stands tries P27.7.
func stands(t *testing.T, p part, all [api.Limbs][]api.Aim) {
	t.Helper()
	supports, err := context.Supports(p.start, p.l, p.length)
	if err != api.OK {
		t.Fatalf("%v has the error %d", p, err)
	}
	below := api.Aim{El: -64}
	for tick, feet := range supports {
		for leg := range 2 {
			if feet&(1<<leg) != 0 && (all[leg][tick] != below || all[leg][tick+1] != below) {
				t.Fatalf("P27.7: in %v the leg %d has the aims %v and %v around the tick %d, in which its foot supports", p, leg, all[leg][tick], all[leg][tick+1], tick)
			}
		}
	}
}

// rests tries P27.8.
func rests(t *testing.T, p part, all [api.Limbs][]api.Aim) {
	t.Helper()
	for limb, aims := range all {
		for tick, a := range aims {
			target, err := gesture.Rest(p.start, p.l, p.length, limb, tick)
			if err == api.OK && of(t, limb, target) != a {
				t.Fatalf("P27.8: in %v the limb %d rests at %v at %d, but has the aim %v", p, limb, target, tick, a)
			}
		}
	}
}

// mirrored returns the mirror image of a part.
func mirrored(t *testing.T, p part) part {
	t.Helper()
	start, err := posture.Mirror(p.start)
	if err != api.OK {
		t.Fatalf("the start %v has the error %d", p.start, err)
	}
	image := part{start: start, length: p.length}
	for _, s := range p.l {
		other, err := symbol.Mirror(s)
		if err != api.OK {
			t.Fatalf("%v has the error %d", s, err)
		}
		image.l = append(image.l, other)
	}
	inOrder(image.l)
	return image
}

// mirrors tries P27.9.
func mirrors(t *testing.T, p part, all [api.Limbs][]api.Aim) {
	t.Helper()
	image := mirrored(t, p)
	images, err := gesture.All(image.start, image.l, image.length)
	if err != api.OK {
		t.Fatalf("P27.9: the mirror image of %v has the error %d", p, err)
	}
	for limb, aims := range all {
		other, _ := aim.Swap(limb)
		for tick, a := range aims {
			want, err := aim.Mirror(limb, a)
			if err != api.OK || images[other][tick] != want {
				t.Fatalf("P27.9: in %v the limb %d has the aim %v at %d, but in the mirror the limb %d has %v", p, limb, a, tick, other, images[other][tick])
			}
		}
	}
}

// TestConsequences tries P27.5 to P27.9 for parts without faults.
func TestConsequences(t *testing.T) {
	r := rand.New(rand.NewSource(3))
	for range 1500 {
		p := anyPart(r, []int{4, 20, 100}[r.Intn(3)], 5+r.Intn(60))
		all, err := gesture.All(p.start, p.l, p.length)
		if err != api.OK {
			t.Fatalf("P27.2: All of %v has the error %d", p, err)
		}
		for _, try := range []func(t *testing.T, p part, all [api.Limbs][]api.Aim){ends, begins, stands, rests, mirrors} {
			try(t, p, all)
		}
	}
}

// TestMemory tries that arguments are not changed, and that results are new memory.
func TestMemory(t *testing.T) {
	r := rand.New(rand.NewSource(4))
	for range 300 {
		p := anyPart(r, 20, 5+r.Intn(30))
		room := slices.Grow(slices.Clone(p.l), 9)
		beyond := room[:len(room)+9]
		for i := len(p.l); i < len(beyond); i++ {
			beyond[i] = sym(-1, -2, -3, -4, -5, -6, i)
		}
		before := slices.Clone(beyond)
		all, _ := gesture.All(p.start, room, p.length)
		one, _ := gesture.Aims(p.start, room, p.length, api.ArmLeft)
		spans, _ := gesture.Quiet(p.start, room, p.length)
		gesture.Rest(p.start, room, p.length, api.LegLeft, p.length)
		if !slices.Equal(beyond, before) {
			t.Fatalf("P27.1, P27.2, P27.3, P27.4: the staff %v was changed into %v", before, beyond)
		}
		for limb := range all {
			want, _ := p.aims(t, limb)
			if !slices.Equal(all[limb], want) {
				t.Fatalf("P27.2: another result of All of %v was changed", p)
			}
			grown := append(all[limb], api.Aim{Az: 1}, api.Aim{Az: 2})
			for i := range grown {
				grown[i] = api.Aim{Az: -1}
			}
			for i := range all[limb] {
				all[limb][i] = api.Aim{Az: -1}
			}
		}
		for i := range spans {
			spans[i] = api.Span{From: -1}
		}
		if want, _ := p.aims(t, api.ArmLeft); !slices.Equal(one, want) {
			t.Fatalf("P27.1: a result of Aims of %v was changed", p)
		}
		for i := range one {
			one[i] = api.Aim{Az: -1}
		}
		counts{}.compareAll(t, part{p.start, room, p.length})
	}
}
