package travel_test

import (
	"cmp"
	"math"
	"math/rand"
	"slices"
	"testing"

	"dancestudio/angle"
	"dancestudio/api"
	"dancestudio/build"
	"dancestudio/context"
	"dancestudio/dir"
	"dancestudio/gesture"
	"dancestudio/num"
	"dancestudio/posture"
	"dancestudio/staff"
	"dancestudio/symbol"
	"dancestudio/travel"
)

// extreme are integers far outside all bounds.
var extreme = []int{math.MinInt, math.MinInt + 1, -1 << 62, -1 << 32, -1<<32 + 1, -1 << 31, -1 << 16, -8193, 8193, 1 << 16, 1 << 31, 1 << 32, 1<<32 + 1, 1 << 62, math.MaxInt - 8192, math.MaxInt}

var (
	down = api.Target{Dir: api.Place, Level: api.Low}
	up   = api.Target{Dir: api.Place, Level: api.High}
)

// body makes steps of so many millimetres.
func body(step int) api.Build {
	return api.Build{Leg: 800, Torso: 500, Neck: 200, Arm: 600, Hip: 100, Shoulder: 200, Step: step, Drop: 100, Rise: 50, Foot: 100, Radius: 300, Masses: [4]int{30000, 5000, 4000, 10000}}
}

// stand is the start of the examples.
func stand() api.Start {
	return api.Start{Facing: 2, Support: 3, Targets: [api.Limbs]api.Target{down, down, up, down, down, up}}
}

func sym(kind, column, begin, n, dir, level, amount int) api.Symbol {
	return api.Symbol{Kind: kind, Column: column, Begin: begin, Len: n, Dir: dir, Level: level, Amount: amount}
}

func hold(column, begin, n int) api.Symbol { return sym(api.Hold, column, begin, n, 0, 0, 0) }

// step is a step at the level Middle.
func step(column, begin, n, dir int) api.Symbol { return lift(column, begin, n, dir, api.Middle) }

func lift(column, begin, n, dir, level int) api.Symbol {
	return sym(api.Step, column, begin, n, dir, level, 0)
}

func turn(begin, n, eighths int) api.Symbol {
	return sym(api.Turn, api.TurnColumn, begin, n, 0, 0, eighths)
}

// to is a gesture to a target.
func to(limb, begin, n int, t api.Target) api.Symbol {
	return sym(api.Gesture, 2+limb, begin, n, t.Dir, t.Level, t.Bend)
}

// inOrder sorts a list by Begin, then by Column.
func inOrder(l []api.Symbol) []api.Symbol {
	slices.SortStableFunc(l, func(a, b api.Symbol) int {
		return cmp.Or(cmp.Compare(a.Begin, b.Begin), cmp.Compare(a.Column, b.Column))
	})
	return l
}

// part is a start with a staff of a length: the definitions of the chapter.
type part struct {
	start  api.Start
	l      []api.Symbol
	length int
}

func (p part) fault() api.Errno { return context.Check(p.start, p.l, p.length) }

// steps returns the steps: of those with the same Begin there is one.
func (p part) steps() []api.Symbol {
	var all []api.Symbol
	seen := map[int]bool{}
	for _, s := range p.l {
		if s.Kind == 1 && !seen[s.Begin] {
			all = append(all, s)
		}
		seen[s.Begin] = seen[s.Begin] || s.Kind == 1
	}
	return all
}

// lerp is num.Lerp without an error.
func lerp(t *testing.T, a, b, k, d int) int {
	t.Helper()
	n, err := num.Lerp(a, b, k, d)
	if err != api.OK {
		t.Fatalf("Lerp(%d, %d, %d, %d) has the error %d", a, b, k, d, err)
	}
	return n
}

// facing is the definition of P28.1 at a tick.
func (p part) facing(t *testing.T, tick int) int {
	t.Helper()
	sum := 32 * p.start.Facing
	for _, s := range p.l {
		switch {
		case s.Kind != 4:
		case s.Begin+s.Len <= tick:
			sum += 32 * s.Amount
		case s.Begin < tick:
			sum += lerp(t, 0, 32*s.Amount, tick-s.Begin, s.Len)
		}
	}
	return angle.Norm(sum)
}

// begun returns the steps that have begun at a tick.
func (p part) begun(tick int) []api.Symbol {
	var all []api.Symbol
	for _, s := range p.steps() {
		if s.Begin < tick {
			all = append(all, s)
		}
	}
	return all
}

// lift is the definition of P28.2 at a tick.
func (p part) lift(t *testing.T, tick int) int {
	t.Helper()
	begun := p.begun(tick)
	if len(begun) == 0 {
		return 8 * p.start.Level
	}
	last, x := begun[len(begun)-1], p.start.Level
	if len(begun) > 1 {
		x = begun[len(begun)-2].Level
	}
	if last.Begin+last.Len <= tick {
		return 8 * last.Level
	}
	return lerp(t, 8*x, 8*last.Level, tick-last.Begin, last.Len)
}

// way is the way of a step.
func (p part) way(t *testing.T, b api.Build, s api.Symbol) api.Point {
	t.Helper()
	if s.Dir == api.Place {
		return api.Point{}
	}
	facing := p.facing(t, s.Begin)
	if facing%32 != 0 {
		t.Fatalf("P28.3: in %v a turn is under way at the Begin of %v", p, s)
	}
	eighth, err := dir.Eighth(s.Dir)
	w, e := build.Step(b, (eighth+facing/32)%8)
	if err != api.OK || e != api.OK {
		t.Fatalf("the step %v of %v has the errors %d and %d", s, b, err, e)
	}
	return w
}

// path is the definition of P28.3 without its errors: places are kept as the definition goes from tick to tick.
func (p part) path(t *testing.T, b api.Build) []api.Point {
	t.Helper()
	var all []api.Point
	for tick := 0; tick <= p.length; tick++ {
		begun := p.begun(tick)
		if len(begun) == 0 {
			all = append(all, p.start.At)
			continue
		}
		last := begun[len(begun)-1]
		from, w := all[last.Begin], p.way(t, b, last)
		at := api.Point{X: from.X + w.X, Y: from.Y + w.Y}
		if tick < last.Begin+last.Len {
			at = api.Point{X: lerp(t, from.X, at.X, tick-last.Begin, last.Len), Y: lerp(t, from.Y, at.Y, tick-last.Begin, last.Len)}
		}
		all = append(all, at)
	}
	return all
}

func isOutside(p api.Point) bool { return max(p.X, p.Y) > 32768 || min(p.X, p.Y) < -32768 }

// wantedPath is the definition of P28.3.
func (p part) wantedPath(t *testing.T, b api.Build) ([]api.Point, api.Errno) {
	t.Helper()
	if err := build.Check(b); err != api.OK {
		return nil, err
	}
	if err := p.fault(); err != api.OK {
		return nil, err
	}
	path := p.path(t, b)
	if slices.ContainsFunc(path, isOutside) {
		return nil, api.ErrRange
	}
	return path, api.OK
}

// atTicks returns what a function has at the ticks, if the staff is valid.
func (p part) atTicks(t *testing.T, at func(t *testing.T, tick int) int) ([]int, api.Errno) {
	t.Helper()
	if err := p.fault(); err != api.OK {
		return nil, err
	}
	var all []int
	for tick := 0; tick <= p.length; tick++ {
		all = append(all, at(t, tick))
	}
	return all, api.OK
}

// count returns the sum of Turns, and the steps of both feet, by their definitions.
func (p part) count() (turns, left, right int) {
	if p.fault() != api.OK {
		return 0, 0, 0
	}
	for _, s := range p.l {
		switch {
		case s.Kind == 4:
			turns += s.Amount
		case s.Kind == 1 && s.Column == 0:
			left++
		case s.Kind == 1 && s.Column == 1:
			right++
		}
	}
	return turns, left, right
}

// counts says how often each error was the right one.
type counts map[api.Errno]int

// comparePath compares Path with its definition.
func (n counts) comparePath(t *testing.T, b api.Build, p part) {
	t.Helper()
	want, err := p.wantedPath(t, b)
	if got, e := travel.Path(b, p.start, p.l, p.length); !slices.Equal(got, want) || e != err {
		t.Fatalf("P1, P28.3: Path(%v, %v, %v, %d) is %v, %d, not %v, %d", b, p.start, p.l, p.length, got, e, want, err)
	}
	n[err]++
}

// compare compares all functions with their definitions.
func (n counts) compare(t *testing.T, b api.Build, p part) {
	t.Helper()
	want, fault := p.atTicks(t, p.facing)
	if got, e := travel.Facing(p.start, p.l, p.length); !slices.Equal(got, want) || e != fault {
		t.Fatalf("P1, P28.1: Facing(%v, %v, %d) is %v, %d, not %v, %d", p.start, p.l, p.length, got, e, want, fault)
	}
	want, _ = p.atTicks(t, p.lift)
	if got, e := travel.Lift(p.start, p.l, p.length); !slices.Equal(got, want) || e != fault {
		t.Fatalf("P1, P28.2: Lift(%v, %v, %d) is %v, %d, not %v, %d", p.start, p.l, p.length, got, e, want, fault)
	}
	n.comparePath(t, b, p)
	turns, left, right := p.count()
	if sum, e := travel.Turns(p.start, p.l, p.length); sum != turns || e != fault {
		t.Fatalf("P1, P28.4: Turns(%v, %v, %d) is %d, %d, not %d, %d", p.start, p.l, p.length, sum, e, turns, fault)
	}
	if x, y, e := travel.Steps(p.start, p.l, p.length); x != left || y != right || e != fault {
		t.Fatalf("P1, P28.5: Steps(%v, %v, %d) is %d, %d, %d, not %d, %d, %d", p.start, p.l, p.length, x, y, e, left, right, fault)
	}
}

// tried reports errors that were the right ones too seldom.
func (n counts) tried(t *testing.T, least int, all ...api.Errno) {
	t.Helper()
	for _, err := range all {
		if n[err] < least {
			t.Errorf("P28.3: the error %d was right only %d times", err, n[err])
		}
	}
}

// both is a step of both feet.
func both(begin, n, dir, level int) []api.Symbol {
	return []api.Symbol{lift(0, begin, n, dir, level), lift(1, begin, n, dir, level)}
}

func TestKnownFacing(t *testing.T) {
	rest := hold(0, 0, 4)
	for i, c := range []struct {
		facing int
		l      []api.Symbol
		want   []int
		sum    int
	}{
		{2, []api.Symbol{rest}, []int{64, 64, 64, 64, 64}, 0},
		{0, []api.Symbol{rest}, []int{0, 0, 0, 0, 0}, 0},
		{7, []api.Symbol{rest}, []int{224, 224, 224, 224, 224}, 0},
		{2, []api.Symbol{rest, turn(0, 4, 2)}, []int{64, 80, 96, 112, 128}, 2},
		{2, []api.Symbol{rest, turn(0, 4, -3)}, []int{64, 40, 16, 248, 224}, -3},
		// Before and after a turn nothing changes.
		{1, []api.Symbol{rest, turn(1, 2, 3)}, []int{32, 32, 80, 128, 128}, 3},
		{7, []api.Symbol{rest, turn(0, 2, 1), turn(3, 1, 1)}, []int{224, 240, 0, 0, 32}, 2},
		// Whole turns, and more of them, lead to the same facing, on their way through all others.
		{2, []api.Symbol{rest, turn(0, 4, 16)}, []int{64, 192, 64, 192, 64}, 16},
		{2, []api.Symbol{rest, turn(0, 4, -16)}, []int{64, 192, 64, 192, 64}, -16},
		{0, []api.Symbol{rest, turn(0, 3, -8), turn(3, 1, 8)}, []int{0, 171, 85, 0, 0}, 0},
		// Halves go to the even number, counted from the turn's own begin.
		{0, []api.Symbol{hold(0, 0, 64), turn(0, 64, 1)}, []int{0, 0, 1, 2, 2, 2, 3, 4, 4, 4}, 1},
		{1, []api.Symbol{hold(0, 0, 64), turn(0, 64, -1)}, []int{32, 32, 31, 30, 30, 30, 29, 28, 28, 28}, -1},
		// Nothing but turns turns the body.
		{2, []api.Symbol{step(0, 0, 1, api.Right), to(api.Head, 0, 4, api.Target{Dir: api.Right}), hold(0, 1, 3)}, []int{64, 64, 64, 64, 64}, 0},
	} {
		length := 4
		if c.l[0].Len == 64 {
			length = 64
		}
		s := stand()
		s.Facing = c.facing
		got, err := travel.Facing(s, c.l, length)
		if err != api.OK || len(got) != length+1 || !slices.Equal(got[:len(c.want)], c.want) {
			t.Errorf("P28.1: Facing of the staff %d is %v, %d, not %v", i, got, err, c.want)
		}
		if sum, err := travel.Turns(s, c.l, length); sum != c.sum || err != api.OK {
			t.Errorf("P28.4: Turns of the staff %d is %d, %d, not %d", i, sum, err, c.sum)
		}
		counts{}.compare(t, body(600), part{s, c.l, length})
	}
}

func TestKnownLift(t *testing.T) {
	for i, c := range []struct {
		level int
		l     []api.Symbol
		want  []int
	}{
		{api.Middle, []api.Symbol{hold(0, 0, 6)}, []int{0, 0, 0, 0, 0, 0, 0}},
		{api.High, []api.Symbol{hold(0, 0, 6)}, []int{8, 8, 8, 8, 8, 8, 8}},
		{api.Low, []api.Symbol{hold(0, 0, 6)}, []int{-8, -8, -8, -8, -8, -8, -8}},
		{api.Middle, []api.Symbol{lift(0, 0, 4, api.Forward, api.Low), hold(0, 4, 2)}, []int{0, -2, -4, -6, -8, -8, -8}},
		// Nothing changes before, between and after steps, also in the air.
		{api.High, []api.Symbol{hold(0, 0, 1), lift(1, 2, 2, api.Place, api.Low), lift(0, 5, 1, api.Left, api.Middle)}, []int{8, 8, 8, 0, -8, -8, 0}},
		// Each step leads on from the one before it, of either foot.
		{api.Low, []api.Symbol{lift(0, 0, 3, api.Forward, api.High), lift(1, 3, 3, api.Forward, api.Low)}, []int{-8, -3, 3, 8, 3, -3, -8}},
		{api.Low, []api.Symbol{lift(0, 0, 2, api.Forward, api.Middle), lift(0, 2, 2, api.Forward, api.High), lift(0, 4, 2, api.Forward, api.Middle)}, []int{-8, -4, 0, 4, 8, 4, 0}},
		{api.High, []api.Symbol{lift(1, 0, 6, api.Back, api.High)}, []int{8, 8, 8, 8, 8, 8, 8}},
		// A step of both feet is one step.
		{api.High, append(both(0, 4, api.Place, api.Low), both(4, 2, api.Back, api.Middle)...), []int{8, 4, 0, -4, -8, -4, 0}},
		{api.Low, append(both(2, 4, api.Place, api.High), hold(0, 0, 2)), []int{-8, -8, -8, -4, 0, 4, 8}},
	} {
		s := stand()
		s.Level = c.level
		l := inOrder(c.l)
		if got, err := travel.Lift(s, l, 6); !slices.Equal(got, c.want) || err != api.OK {
			t.Errorf("P28.2: Lift of the staff %d is %v, %d, not %v", i, got, err, c.want)
		}
		counts{}.compare(t, body(600), part{s, l, 6})
	}
	// Halves go to the even number.
	want := []int{0, 0, 1, 2, 2, 2, 3, 4, 4, 4, 5, 6, 6, 6, 7, 8, 8}
	if got, err := travel.Lift(stand(), []api.Symbol{lift(0, 0, 16, api.Forward, api.High)}, 16); !slices.Equal(got, want) || err != api.OK {
		t.Errorf("P28.2: Lift of a long step is %v, %d, not %v", got, err, want)
	}
}

func TestKnownPath(t *testing.T) {
	for i, c := range []struct {
		l    []api.Symbol
		want []api.Point
	}{
		{[]api.Symbol{hold(1, 0, 4)}, []api.Point{{}, {}, {}, {}, {}}},
		{[]api.Symbol{step(0, 0, 4, api.Forward)}, []api.Point{{}, {X: 150}, {X: 300}, {X: 450}, {X: 600}}},
		{[]api.Symbol{step(1, 0, 4, api.Left)}, []api.Point{{}, {Y: 150}, {Y: 300}, {Y: 450}, {Y: 600}}},
		{[]api.Symbol{step(1, 0, 4, api.Place)}, []api.Point{{}, {}, {}, {}, {}}},
		{both(0, 4, api.Forward, api.Middle), []api.Point{{}, {X: 150}, {X: 300}, {X: 450}, {X: 600}}},
		// Steps of both feet, and of one, follow each other.
		{append(both(0, 1, api.Back, api.Low), append(both(1, 2, api.Back, api.Low), step(1, 3, 1, api.Right))...), []api.Point{{}, {X: -600}, {X: -900}, {X: -1200}, {X: -1200, Y: -600}}},
		// Before and after a step nothing changes.
		{[]api.Symbol{hold(1, 0, 1), step(0, 1, 2, api.BackRight), hold(0, 3, 1)}, []api.Point{{}, {}, {X: -212, Y: -212}, {X: -424, Y: -424}, {X: -424, Y: -424}}},
		// Through the air.
		{[]api.Symbol{step(0, 0, 1, api.Forward), step(0, 3, 1, api.ForwardLeft)}, []api.Point{{}, {X: 600}, {X: 600}, {X: 600}, {X: 1024, Y: 424}}},
		// A step leads from the facing at its begin, also during a turn.
		{[]api.Symbol{hold(0, 0, 2), turn(0, 2, 2), step(0, 2, 2, api.Forward)}, []api.Point{{}, {}, {}, {Y: -300}, {Y: -600}}},
		{[]api.Symbol{step(0, 0, 2, api.Forward), turn(0, 2, 2), step(0, 2, 2, api.Forward)}, []api.Point{{}, {X: 300}, {X: 600}, {X: 600, Y: -300}, {X: 600, Y: -600}}},
		{[]api.Symbol{step(0, 0, 4, api.Forward), turn(1, 2, -7)}, []api.Point{{}, {X: 150}, {X: 300}, {X: 450}, {X: 600}}},
		{[]api.Symbol{hold(0, 0, 2), turn(0, 1, -3), step(0, 2, 2, api.ForwardRight)}, []api.Point{{}, {}, {}, {Y: 300}, {Y: 600}}},
		{[]api.Symbol{hold(0, 0, 2), turn(0, 1, 16), step(0, 2, 2, api.Left)}, []api.Point{{}, {}, {}, {Y: 300}, {Y: 600}}},
		// Thirds are rounded from the place at the begin of each step.
		{[]api.Symbol{step(0, 0, 3, api.ForwardRight), step(1, 3, 1, api.Back)}, []api.Point{{}, {X: 141, Y: -141}, {X: 283, Y: -283}, {X: 424, Y: -424}, {X: -176, Y: -424}}},
	} {
		l := inOrder(c.l)
		if got, err := travel.Path(body(600), stand(), l, 4); !slices.Equal(got, c.want) || err != api.OK {
			t.Errorf("P28.3: Path of the staff %d is %v, %d, not %v", i, got, err, c.want)
		}
		counts{}.compare(t, body(600), part{stand(), l, 4})
	}
}

// TestPathFromElsewhere has the place at the start, and halves on the way.
func TestPathFromElsewhere(t *testing.T) {
	s := stand()
	s.At = api.Point{X: -7, Y: 31}
	l := []api.Symbol{step(0, 0, 2, api.Forward), step(1, 2, 2, api.Left)}
	want := []api.Point{{X: -7, Y: 31}, {X: 44, Y: 31}, {X: 94, Y: 31}, {X: 94, Y: 82}, {X: 94, Y: 132}}
	if got, err := travel.Path(body(101), s, l, 4); !slices.Equal(got, want) || err != api.OK {
		t.Errorf("P28.3: Path is %v, %d, not %v", got, err, want)
	}
	counts{}.compare(t, body(101), part{s, l, 4})
}

// TestDirections has all directions from all facings, at the start and after a turn.
func TestDirections(t *testing.T) {
	ways := []api.Point{{Y: 600}, {X: 424, Y: 424}, {X: 600}, {X: 424, Y: -424}, {Y: -600}, {X: -424, Y: -424}, {X: -600}, {X: -424, Y: 424}}
	for facing := range 8 {
		for to := api.Place; to <= api.ForwardLeft; to++ {
			for turned := -16; turned <= 16; turned++ {
				want := api.Point{}
				if to != api.Place {
					want = ways[(facing+to-1+turned+16)%8]
				}
				s := stand()
				s.Facing = facing
				l := []api.Symbol{hold(0, 0, 2)}
				if turned != 0 {
					l = append(l, turn(0, 2, turned))
				}
				l = append(l, step(0, 2, 3, to))
				path, err := travel.Path(body(600), s, l, 5)
				if err != api.OK || len(path) != 6 || path[2] != (api.Point{}) || path[5] != want {
					t.Errorf("P28.3: the step to %d with the facing %d, turned by %d, leads along %v, %d, not to %v", to, facing, turned, path, err, want)
				}
				counts{}.compare(t, body(600), part{s, l, 5})
			}
		}
	}
}

func TestKnownSteps(t *testing.T) {
	for i, c := range []struct {
		l           []api.Symbol
		left, right int
	}{
		{[]api.Symbol{hold(0, 0, 4), hold(1, 0, 4), turn(0, 4, 1)}, 0, 0},
		{both(0, 4, api.Forward, api.Middle), 1, 1},
		{[]api.Symbol{step(0, 0, 4, api.Place)}, 1, 0},
		{[]api.Symbol{step(1, 0, 4, api.Place)}, 0, 1},
		{append(both(0, 1, api.Back, api.Low), append(both(1, 1, api.Back, api.Low), step(1, 2, 1, api.Right), step(1, 3, 1, api.Right))...), 2, 4},
		{[]api.Symbol{step(0, 0, 1, api.Back), step(1, 1, 1, api.Back), step(0, 2, 1, api.Back), hold(0, 3, 1), to(api.LegRight, 2, 2, api.Target{Dir: api.Back})}, 2, 1},
	} {
		l := inOrder(c.l)
		if left, right, err := travel.Steps(stand(), l, 4); left != c.left || right != c.right || err != api.OK {
			t.Errorf("P28.5: Steps of the staff %d is %d, %d, %d, not %d, %d", i, left, right, err, c.left, c.right)
		}
		counts{}.compare(t, body(600), part{stand(), l, 4})
	}
}

// TestBorders has steps to the borders of the coordinates, and over them.
func TestBorders(t *testing.T) {
	n := counts{}
	ways := []api.Point{{Y: 1}, {X: 1, Y: 1}, {X: 1}, {X: 1, Y: -1}, {Y: -1}, {X: -1, Y: -1}, {X: -1}, {X: -1, Y: 1}}
	for facing, w := range ways {
		long := 600
		if facing%2 != 0 {
			long = 424
		}
		for _, further := range []int{-long - 1, -long, -1, 0, 1, 2} {
			for _, at := range []api.Point{{X: w.X, Y: w.Y}, {X: w.X}, {Y: w.Y}} {
				s := stand()
				s.Facing = facing
				s.At = api.Point{X: at.X * min(32768, 32768-long+further), Y: at.Y * min(32768, 32768-long+further)}
				n.compare(t, body(600), part{s, []api.Symbol{step(0, 0, 3, api.Forward), hold(0, 3, 3)}, 6})
				// There and back again is outside, too, if it is outside in between.
				n.compare(t, body(600), part{s, []api.Symbol{step(0, 0, 1, api.Forward), step(0, 1, 2, api.Back), step(0, 3, 3, api.Back)}, 6})
				n.compare(t, body(600), part{s, both(1, 5, api.Forward, api.Low), 6})
				// The border is left before the second of two steps is over.
				n.compare(t, body(600), part{s, []api.Symbol{step(0, 0, 2, api.Place), step(1, 2, 4, api.Forward)}, 6})
			}
		}
	}
	n.tried(t, 100, api.OK, api.ErrRange)
}

// TestFarOutside has a path that is outside, while all others have results.
func TestFarOutside(t *testing.T) {
	s := stand()
	s.At = api.Point{X: 32768, Y: -32768}
	var l []api.Symbol
	for i := range 256 {
		l = append(l, lift(i%2, i, 1, api.Forward, i%3-1))
	}
	path, err := travel.Path(body(1200), s, l, 256)
	if len(path) != 0 || err != api.ErrRange {
		t.Errorf("P28.3: Path of 256 steps is %v, %d", path, err)
	}
	n := counts{}
	for facing := range 8 {
		s.Facing = facing
		for _, long := range []int{100, 128, 256, 257, 1200} {
			n.compare(t, body(long), part{s, l, 256})
		}
	}
	n.tried(t, 5, api.OK, api.ErrRange)
}

// staves calls f with all staves of up to so many symbols out of a list that is in order.
func staves(all []api.Symbol, most, length int, f func(l []api.Symbol)) {
	var longer func(l []api.Symbol, rest []api.Symbol)
	longer = func(l []api.Symbol, rest []api.Symbol) {
		if staff.Check(l, length) != api.OK {
			return
		}
		f(l)
		if len(l) == most {
			return
		}
		for i, s := range rest {
			longer(append(slices.Clone(l), s), rest[i+1:])
		}
	}
	longer(nil, all)
}

// TestSmallStaves has all small staves of steps, holds and turns.
func TestSmallStaves(t *testing.T) {
	n := counts{}
	var all []api.Symbol
	for begin := range 4 {
		for ticks := 1; ticks <= 3; ticks++ {
			all = append(all, turn(begin, ticks, 1), turn(begin, ticks, -3))
			for side := range 2 {
				all = append(all, hold(side, begin, ticks), lift(side, begin, ticks, api.ForwardRight, api.Low), lift(side, begin, ticks, api.Left, api.High))
			}
		}
	}
	for _, support := range []int{1, 2, 3} {
		s := stand()
		s.Support, s.Facing, s.Level, s.At = support, 5, support-2, api.Point{X: 3, Y: -500}
		staves(inOrder(all), 3, 4, func(l []api.Symbol) { n.compare(t, body(333), part{s, l, 4}) })
	}
	n.tried(t, 1000, api.OK, api.ErrWeight, api.ErrOverlap, api.ErrAir)
	n.tried(t, 100, api.ErrTwist)
}

// TestSmallSteps has all staves of up to six steps and turns out of a short list, in 4 ticks.
func TestSmallSteps(t *testing.T) {
	n := counts{}
	var all []api.Symbol
	for begin := range 4 {
		for ticks := 1; ticks <= 2; ticks++ {
			for side := range 2 {
				all = append(all, step(side, begin, ticks, api.Forward))
			}
		}
	}
	all = append(all, turn(1, 1, 1), turn(2, 1, 2))
	staves(inOrder(all), 6, 4, func(l []api.Symbol) { n.compare(t, body(101), part{stand(), l, 4}) })
	n.tried(t, 50, api.OK, api.ErrOverlap, api.ErrAir)
}

// TestWays has steps and turns of all lengths up to 100 ticks.
func TestWays(t *testing.T) {
	n := counts{}
	for ticks := 1; ticks <= 100; ticks++ {
		for level := api.Low; level <= api.High; level++ {
			s := stand()
			s.Level, s.At = level, api.Point{X: ticks, Y: -3 * ticks}
			amount := 1 + (ticks+level)%16
			l := []api.Symbol{lift(0, 0, ticks, api.ForwardRight, -level), turn(0, ticks, -amount), lift(0, ticks, ticks, api.Forward, 1-level*level), turn(ticks, ticks, amount), hold(0, 2*ticks, 1)}
			n.compare(t, body(700+ticks), part{s, l, 2*ticks + 1})
		}
	}
	n.tried(t, 300, api.OK)
}

// anyTarget returns a target of a limb.
func anyTarget(r *rand.Rand, limb int) api.Target {
	if limb <= 1 && r.Intn(4) > 0 {
		return down
	}
	return api.Target{Dir: 1 + r.Intn(8), Level: r.Intn(3) - 1, Bend: r.Intn(7)}
}

// anyStart returns a valid start.
func anyStart(r *rand.Rand) api.Start {
	s := api.Start{Facing: r.Intn(8), Level: r.Intn(3) - 1, Support: 1 + r.Intn(3)}
	s.At = api.Point{X: r.Intn(40001) - 20000, Y: r.Intn(99)}
	if r.Intn(4) == 0 {
		s.At.X = 32768 - r.Intn(2000)
	}
	for limb := range api.Limbs {
		s.Targets[limb] = anyTarget(r, limb)
		if limb <= 1 && s.Support&(1<<limb) != 0 {
			s.Targets[limb] = down
		}
	}
	return s
}

// anySymbols returns a symbol of a staff, or two that go together; steps and turns are frequent.
func anySymbols(r *rand.Rand, length int) []api.Symbol {
	begin := r.Intn(length)
	n := 1 + r.Intn(min(12, length-begin))
	switch r.Intn(10) {
	case 0, 1:
		return []api.Symbol{hold(r.Intn(2), begin, n)}
	case 2, 3, 4:
		return []api.Symbol{lift(r.Intn(2), begin, n, r.Intn(9), r.Intn(3)-1)}
	case 5, 6:
		return both(begin, n, r.Intn(9), r.Intn(3)-1)
	case 7, 8:
		return []api.Symbol{turn(begin, n, []int{-16, -3, -2, -1, 1, 2, 3, 16}[r.Intn(8)])}
	default:
		limb := r.Intn(6)
		return []api.Symbol{to(limb, begin, n, anyTarget(r, limb))}
	}
}

// extended returns the part with symbols more, without those with which it would have a fault at a symbol.
func (p part) extended(symbols []api.Symbol) part {
	for _, s := range symbols {
		l, err := staff.Put(p.l, p.length, s)
		if err != api.OK {
			continue
		}
		if fault := context.Check(p.start, l, p.length); fault == api.OK || fault == api.ErrAir {
			p.l = l
		}
	}
	return p
}

// anyPart returns a part without faults, to which symbols were added one after the other.
func anyPart(r *rand.Rand, most, tries int) part {
	for {
		p := part{start: anyStart(r), length: 1 + r.Intn(most)}
		for side := range 2 {
			// Feet that stand at the start often go on doing so for a while.
			if n := r.Intn(p.length + 1); n > 0 && r.Intn(2) == 0 {
				p = p.extended([]api.Symbol{hold(side, 0, n)})
			}
		}
		for range tries {
			p = p.extended(anySymbols(r, p.length))
		}
		if last := r.Intn(p.length); p.fault() == api.ErrAir {
			p = p.extended(both(last, p.length-last, api.Forward, api.Low))
		}
		if p.fault() == api.OK {
			return p
		}
	}
}

func anyBody(r *rand.Rand) api.Build { return body(100 + r.Intn(1101)) }

func TestAnyParts(t *testing.T) {
	r := rand.New(rand.NewSource(1))
	n := counts{}
	together, turned := 0, 0
	for range 4000 {
		p := anyPart(r, []int{4, 20, 60}[r.Intn(3)], 5+r.Intn(50))
		n.compare(t, anyBody(r), p)
		sum, left, right := p.count()
		if left+right > len(p.steps()) {
			together++
		}
		if sum != 0 {
			turned++
		}
	}
	n.tried(t, 100, api.OK, api.ErrRange)
	if together < 500 || turned < 500 {
		t.Errorf("P28.1, P28.3: only %d parts have steps of both feet, and %d turn", together, turned)
	}
}

// TestSpoiledParts has parts in which something was changed.
func TestSpoiledParts(t *testing.T) {
	r := rand.New(rand.NewSource(2))
	n := counts{}
	for range 8000 {
		p, b := anyPart(r, []int{4, 20}[r.Intn(2)], 5+r.Intn(20)), anyBody(r)
		for range 1 + r.Intn(2) {
			switch choice := r.Intn(7); {
			case choice == 0:
				p.start.Support = r.Intn(5)
			case choice == 1:
				p.start.Targets[r.Intn(6)] = api.Target{Dir: r.Intn(10), Level: r.Intn(3) - 1, Bend: r.Intn(8)}
			case choice == 2:
				p.length += r.Intn(5) - 3
			case choice == 3:
				b.Step = 95 + r.Intn(10)
			case len(p.l) == 0:
			case choice == 4:
				i := r.Intn(len(p.l))
				p.l = slices.Delete(p.l, i, i+1)
			default:
				s := &p.l[r.Intn(len(p.l))]
				field := []*int{&s.Kind, &s.Column, &s.Begin, &s.Len, &s.Dir, &s.Level, &s.Amount}[r.Intn(7)]
				*field += r.Intn(7) - 3
			}
		}
		n.compare(t, b, p)
	}
	n.tried(t, 20, api.OK, api.ErrBuild, api.ErrRange, api.ErrKind, api.ErrColumn, api.ErrOrder, api.ErrForm, api.ErrPlace, api.ErrOverlap, api.ErrWeight, api.ErrTwist, api.ErrAir)
}

// known returns what Facing, Lift and Path have at the ends of a long staff, without the definitions, which take long there.
func known(t *testing.T, b api.Build, p part) (int, int, api.Point) {
	t.Helper()
	facing, e := travel.Facing(p.start, p.l, p.length)
	height, f := travel.Lift(p.start, p.l, p.length)
	path, g := travel.Path(b, p.start, p.l, p.length)
	if e != api.OK || f != api.OK || g != api.OK || len(facing) != p.length+1 || len(height) != p.length+1 || len(path) != p.length+1 {
		t.Fatalf("P28.1, P28.2, P28.3: the errors are %d, %d and %d, and the lists have %d, %d and %d elements, not %d", e, f, g, len(facing), len(height), len(path), p.length+1)
	}
	if facing[0] != 32*p.start.Facing || height[0] != 8*p.start.Level || path[0] != p.start.At {
		t.Errorf("P28.1, P28.2, P28.3: the first facing is %d, the first lift %d, the first place %v", facing[0], height[0], path[0])
	}
	return facing[p.length], height[p.length], path[p.length]
}

// TestLongStaves has staves at the limits of symbols and ticks.
func TestLongStaves(t *testing.T) {
	n := counts{}
	var steps, pairs []api.Symbol
	turns := []api.Symbol{hold(0, 0, 8192)}
	for i := range 256 {
		steps = append(steps, lift(i%2, 32*i, 32, api.Forward, 1-i%3))
	}
	for i := range 255 {
		turns = append(turns, turn(32*i+7, 25, 16))
	}
	for i := range 128 {
		pairs = append(pairs, both(i, 1, api.Left, api.High)...)
	}
	s := stand()
	s.At.X = -20000
	for i, c := range []struct {
		p      part
		facing int
		lift   int
		at     api.Point
	}{
		{part{s, steps, 8192}, 64, 8, api.Point{X: 5600}},
		{part{s, turns, 8192}, 64, 0, api.Point{X: -20000}},
		{part{s, append(pairs[:254:254], hold(0, 127, 1)), 128}, 64, 8, api.Point{X: -20000, Y: 12700}},
		{part{s, pairs, 128}, 64, 8, api.Point{X: -20000, Y: 12800}},
		{part{s, []api.Symbol{step(0, 0, 8192, api.Back), turn(0, 8192, -15)}, 8192}, 96, 0, api.Point{X: -20100}},
		{part{s, []api.Symbol{hold(1, 0, 8192), lift(0, 8191, 1, api.Right, api.Low), turn(8191, 1, 1)}, 8192}, 96, -8, api.Point{X: -20000, Y: -100}},
	} {
		facing, height, at := known(t, body(100), c.p)
		if facing != c.facing || height != c.lift || at != c.at {
			t.Errorf("P28.1, P28.2, P28.3: the long staff %d ends with the facing %d, the lift %d and at %v", i, facing, height, at)
		}
		if c.p.length < 200 {
			n.compare(t, body(100), c.p)
		}
	}
	if sum, err := travel.Turns(s, turns, 8192); sum != 255*16 || err != api.OK {
		t.Errorf("P28.4: Turns of 255 turns is %d, %d", sum, err)
	}
	if left, right, err := travel.Steps(s, pairs, 128); left != 128 || right != 128 || err != api.OK {
		t.Errorf("P28.5: Steps of 256 steps is %d, %d, %d", left, right, err)
	}
	n.compare(t, body(100), part{s, append(pairs[:256:256], step(0, 128, 1, api.Left)), 129})
	n.compare(t, body(100), part{s, []api.Symbol{hold(0, 0, 8192)}, 8193})
	n.tried(t, 1, api.OK, api.ErrFull, api.ErrRange)
}

// TestOrderOfErrors has arguments with several errors, of which the first one counts.
func TestOrderOfErrors(t *testing.T) {
	n := counts{}
	wrong, lifted, placed, far := stand(), stand(), stand(), stand()
	wrong.Support = 0
	lifted.Targets[api.LegRight] = api.Target{Dir: api.Right}
	placed.Targets[api.Head] = api.Target{Dir: api.Place}
	far.At.X = 32768
	unordered := []api.Symbol{hold(1, 0, 2), hold(0, 0, 2)}
	var many []api.Symbol
	for i := range 257 {
		many = append(many, step(0, i, 1, api.Forward))
	}
	for i, c := range []struct {
		p    part
		want api.Errno
	}{
		{part{wrong, unordered, 4}, api.ErrRange},
		{part{lifted, unordered, 0}, api.ErrWeight},
		{part{placed, unordered, 0}, api.ErrPlace},
		{part{stand(), unordered, 0}, api.ErrRange},
		{part{stand(), many, 4}, api.ErrFull},
		{part{far, unordered, 4}, api.ErrOrder},
		{part{stand(), []api.Symbol{{Kind: 5, Len: 1}}, 4}, api.ErrKind},
		{part{stand(), []api.Symbol{step(2, 0, 4, api.Forward)}, 4}, api.ErrColumn},
		{part{far, []api.Symbol{step(0, 0, 1, api.Forward), hold(0, 2, 2)}, 4}, api.ErrWeight},
		{part{far, []api.Symbol{step(0, 0, 4, api.Forward), step(1, 0, 4, api.Left)}, 4}, api.ErrOverlap},
		{part{far, []api.Symbol{turn(0, 4, 1), step(0, 1, 3, api.Forward)}, 4}, api.ErrTwist},
		{part{far, []api.Symbol{step(0, 0, 1, api.Forward)}, 4}, api.ErrAir},
		{part{stand(), nil, 4}, api.ErrAir},
	} {
		s, l, length := c.p.start, c.p.l, c.p.length
		n.compare(t, body(600), c.p)
		if a, err := travel.Facing(s, l, length); len(a) != 0 || err != c.want {
			t.Errorf("P28.1: Facing of the part %d is %v, %d, not %d", i, a, err, c.want)
		}
		if a, err := travel.Lift(s, l, length); len(a) != 0 || err != c.want {
			t.Errorf("P28.2: Lift of the part %d is %v, %d, not %d", i, a, err, c.want)
		}
		if a, err := travel.Path(body(600), s, l, length); len(a) != 0 || err != c.want {
			t.Errorf("P28.3: Path of the part %d is %v, %d, not %d", i, a, err, c.want)
		}
		if a, err := travel.Turns(s, l, length); a != 0 || err != c.want {
			t.Errorf("P28.4: Turns of the part %d is %v, %d, not %d", i, a, err, c.want)
		}
		if a, b, err := travel.Steps(s, l, length); a != 0 || b != 0 || err != c.want {
			t.Errorf("P28.5: Steps of the part %d is %d, %d, %d, not %d", i, a, b, err, c.want)
		}
		// The body comes before all.
		for _, long := range append([]int{-1, 0, 99, 1201}, extreme...) {
			if a, err := travel.Path(body(long), s, l, length); len(a) != 0 || err != api.ErrBuild {
				t.Errorf("P28.3: Path of a body with steps of %d, of the part %d, is %v, %d", long, i, a, err)
			}
		}
	}
}

// TestBodies has bodies with every measurement at and beyond its borders.
func TestBodies(t *testing.T) {
	n := counts{}
	p := part{stand(), []api.Symbol{step(0, 0, 3, api.Forward), step(1, 3, 3, api.BackLeft)}, 6}
	fields := func(b *api.Build) []*int {
		return []*int{&b.Leg, &b.Torso, &b.Neck, &b.Arm, &b.Hip, &b.Shoulder, &b.Step, &b.Drop, &b.Rise, &b.Foot, &b.Radius, &b.Masses[0], &b.Masses[1], &b.Masses[2], &b.Masses[3]}
	}
	b := body(600)
	for i := range fields(&b) {
		for _, number := range append([]int{0, 1, 99, 100, 200, 201, 1000, 1200, 1201, 200000, 200001}, extreme...) {
			b := body(600)
			*fields(&b)[i] = number
			n.comparePath(t, b, p)
		}
	}
	for long := 99; long <= 1201; long++ {
		n.comparePath(t, body(long), p)
	}
	n.comparePath(t, api.Build{}, p)
	n.tried(t, 50, api.OK, api.ErrBuild)
}

// TestExtremes has numbers far outside of their borders.
func TestExtremes(t *testing.T) {
	n := counts{}
	b := body(600)
	for _, number := range append([]int{-2, -1, 0, 1, 2, 3, 4, 5, 7, 8, 9, 12, 13, 16, 17, 8191, 8192, 32168, 32169, 32768, 32769, -32768, -32769}, extreme...) {
		l := []api.Symbol{hold(0, 0, 4), turn(0, 4, -2), step(0, 4, 8, api.Forward), step(1, 4, 8, api.Forward), turn(4, 8, 1)}
		n.compare(t, b, part{stand(), []api.Symbol{hold(0, 0, 12)}, min(number, 12)})
		if number < 20 || number > 8192 {
			n.compare(t, b, part{stand(), l, number})
			n.compare(t, b, part{stand(), nil, number})
		}
		for i := range l {
			for field := range 7 {
				wrong := slices.Clone(l)
				s := &wrong[i]
				*[]*int{&s.Kind, &s.Column, &s.Begin, &s.Len, &s.Dir, &s.Level, &s.Amount}[field] = number
				n.compare(t, b, part{stand(), wrong, 12})
				n.compare(t, b, part{stand(), inOrder(wrong), 12})
			}
		}
		for field := range 5 {
			p := part{stand(), l, 12}
			s := &p.start
			*[]*int{&s.At.X, &s.At.Y, &s.Facing, &s.Level, &s.Support}[field] = number
			n.compare(t, b, p)
		}
	}
	n.tried(t, 10, api.OK, api.ErrRange, api.ErrKind, api.ErrForm, api.ErrAir)
}

// travels are the results of all functions; the path is empty if it would be outside.
type travels struct {
	facing, lift             []int
	path                     []api.Point
	turns, left, right       int
	isOutside                bool
	facingAtEnd, eighthAtEnd int
}

func travelsOf(t *testing.T, b api.Build, p part) travels {
	t.Helper()
	var all travels
	var errs [5]api.Errno
	all.facing, errs[0] = travel.Facing(p.start, p.l, p.length)
	all.lift, errs[1] = travel.Lift(p.start, p.l, p.length)
	all.path, errs[2] = travel.Path(b, p.start, p.l, p.length)
	all.turns, errs[3] = travel.Turns(p.start, p.l, p.length)
	all.left, all.right, errs[4] = travel.Steps(p.start, p.l, p.length)
	if errs[2] == api.ErrRange {
		all.isOutside, errs[2] = true, api.OK
	}
	if errs != ([5]api.Errno{}) {
		t.Fatalf("P28.1 to P28.5: the errors for %v are %v", p, errs)
	}
	all.facingAtEnd = all.facing[p.length]
	all.eighthAtEnd = all.facingAtEnd / 32
	return all
}

// sums tries P28.6.
func sums(t *testing.T, b api.Build, p part, all travels) {
	t.Helper()
	if want := angle.Norm(32 * (p.start.Facing + all.turns)); all.facingAtEnd != want {
		t.Fatalf("P28.6: the last facing of %v is %d, not %d", p, all.facingAtEnd, want)
	}
	if all.isOutside {
		return
	}
	at := p.start.At
	for _, s := range p.steps() {
		w := p.way(t, b, s)
		at.X, at.Y = at.X+w.X, at.Y+w.Y
	}
	if all.path[p.length] != at {
		t.Fatalf("P28.6: the last place of %v is %v, not %v", p, all.path[p.length], at)
	}
}

// still tries P28.7.
func still(t *testing.T, _ api.Build, p part, all travels) {
	t.Helper()
	has := map[int][]bool{api.Step: make([]bool, p.length), api.Turn: make([]bool, p.length)}
	for _, s := range p.l {
		for tick := range s.Len {
			if ticks, ok := has[s.Kind]; ok {
				ticks[s.Begin+tick] = true
			}
		}
	}
	for tick := range p.length {
		if !has[api.Turn][tick] && all.facing[tick] != all.facing[tick+1] {
			t.Fatalf("P28.7: the facing of %v changes in the tick %d", p, tick)
		}
		if !has[api.Step][tick] && all.lift[tick] != all.lift[tick+1] {
			t.Fatalf("P28.7: the lift of %v changes in the tick %d", p, tick)
		}
		if !has[api.Step][tick] && !all.isOutside && all.path[tick] != all.path[tick+1] {
			t.Fatalf("P28.7: the place of %v changes in the tick %d", p, tick)
		}
	}
}

// quarters tries P28.8.
func quarters(t *testing.T, b api.Build, p part, all travels) {
	t.Helper()
	image := p
	for quarter := 1; quarter <= 4; quarter++ {
		start, err := posture.Rotate(image.start, 1)
		if err != api.OK {
			t.Fatalf("the start %v has the error %d", image.start, err)
		}
		image.start = start
		want := all
		want.facing, want.path = slices.Clone(all.facing), slices.Clone(all.path)
		for tick := range want.facing {
			want.facing[tick] = angle.Norm(all.facing[tick] + 64*quarter)
		}
		for tick := range want.path {
			for range quarter {
				want.path[tick] = api.Point{X: want.path[tick].Y, Y: -want.path[tick].X}
			}
		}
		got := travelsOf(t, b, image)
		if !slices.Equal(got.facing, want.facing) || !slices.Equal(got.lift, want.lift) || !slices.Equal(got.path, want.path) {
			t.Fatalf("P28.8: %v, rotated by %d quarters, has %v, not %v", p, quarter, got, want)
		}
		if got.turns != want.turns || got.left != want.left || got.right != want.right || got.isOutside != want.isOutside {
			t.Fatalf("P28.8: %v, rotated by %d quarters, has %v, not %v", p, quarter, got, want)
		}
	}
}

// mirrors tries that the mirror image of a part travels in the mirror.
func mirrors(t *testing.T, b api.Build, p part, all travels) {
	t.Helper()
	start, err := posture.Mirror(p.start)
	if err != api.OK {
		t.Fatalf("the start %v has the error %d", p.start, err)
	}
	image := part{start: start, length: p.length}
	for _, s := range p.l {
		other, err := symbol.Mirror(s)
		if err != api.OK {
			t.Fatalf("%v has the error %d", s, err)
		}
		image.l = append(image.l, other)
	}
	inOrder(image.l)
	got := travelsOf(t, b, image)
	if !slices.Equal(got.lift, all.lift) || got.turns != -all.turns || got.left != all.right || got.right != all.left || got.isOutside != all.isOutside {
		t.Fatalf("P28.2 to P28.5: the mirror image of %v has %v, not that of %v", p, got, all)
	}
	for tick, facing := range all.facing {
		if got.facing[tick] != angle.Mirror(facing) {
			t.Fatalf("P28.1: the mirror image of %v has the facings %v, not those of %v", p, got.facing, all.facing)
		}
	}
	for tick, at := range all.path {
		if got.path[tick] != (api.Point{X: -at.X, Y: at.Y}) {
			t.Fatalf("P28.3: the mirror image of %v has the path %v, not that of %v", p, got.path, all.path)
		}
	}
}

// TestConsequences tries P28.6 to P28.8 for parts without faults.
func TestConsequences(t *testing.T) {
	r := rand.New(rand.NewSource(3))
	for range 1500 {
		p, b := anyPart(r, []int{4, 20, 100}[r.Intn(3)], 5+r.Intn(60)), anyBody(r)
		all := travelsOf(t, b, p)
		for _, try := range []func(t *testing.T, b api.Build, p part, all travels){sums, still, quarters, mirrors} {
			try(t, b, p, all)
		}
	}
}

// backwards returns a part backwards, as the chapter of retro (33) says; it may have faults.
func backwards(t *testing.T, p part, all travels) part {
	t.Helper()
	supports, err := context.Supports(p.start, p.l, p.length)
	if err != api.OK {
		t.Fatalf("%v has the error %d", p, err)
	}
	rest := func(limb, tick int) api.Target {
		target, err := gesture.Rest(p.start, p.l, p.length, limb, tick)
		if err != api.OK {
			t.Fatalf("the limb %d of %v has the error %d at %d", limb, p, err, tick)
		}
		return target
	}
	back := part{length: p.length, start: api.Start{At: all.path[p.length], Facing: all.eighthAtEnd, Level: all.lift[p.length] / 8, Support: supports[p.length-1]}}
	for limb := range api.Limbs {
		back.start.Targets[limb] = rest(limb, p.length)
	}
	for _, x := range p.l {
		end := x.Begin + x.Len
		y := api.Symbol{Kind: x.Kind, Column: x.Column, Begin: p.length - end, Len: x.Len}
		switch x.Kind {
		case api.Turn:
			y.Amount = -x.Amount
		case api.Gesture:
			target := rest(x.Column-api.FirstGesture, x.Begin)
			y.Dir, y.Level, y.Amount = target.Dir, target.Level, target.Bend
		case api.Step:
			if x.Dir != api.Place {
				y.Dir = 1 + (x.Dir-1+4+all.facing[x.Begin]/32-all.facing[end]/32+8)%8
			}
			y.Level = all.lift[x.Begin] / 8
		default:
			if end < p.length && supports[end]&(1<<x.Column) == 0 {
				y.Kind, y.Level = api.Step, all.lift[end]/8
			}
		}
		back.l = append(back.l, y)
	}
	inOrder(back.l)
	return back
}

func reversed[T any](l []T) []T {
	l = slices.Clone(l)
	slices.Reverse(l)
	return l
}

// TestBackwards tries P28.9.
func TestBackwards(t *testing.T) {
	r := rand.New(rand.NewSource(4))
	tried := 0
	for range 6000 {
		p, b := anyPart(r, []int{4, 20, 100}[r.Intn(3)], 5+r.Intn(60)), anyBody(r)
		all := travelsOf(t, b, p)
		if all.isOutside {
			continue
		}
		back := backwards(t, p, all)
		if back.fault() != api.OK {
			continue
		}
		tried++
		got := travelsOf(t, b, back)
		if !slices.Equal(got.facing, reversed(all.facing)) || !slices.Equal(got.lift, reversed(all.lift)) || !slices.Equal(got.path, reversed(all.path)) {
			t.Fatalf("P28.9: %v has %v, but backwards, as %v, it has %v", p, all, back, got)
		}
		if got.turns != -all.turns {
			t.Fatalf("P28.9: %v turns by %d, and backwards by %d", p, all.turns, got.turns)
		}
	}
	if tried < 200 {
		t.Errorf("P28.9: only %d parts were tried", tried)
	}
}

// TestMemory tries that arguments are not changed, and that results are new memory.
func TestMemory(t *testing.T) {
	r := rand.New(rand.NewSource(5))
	for range 500 {
		p, b := anyPart(r, 20, 5+r.Intn(30)), anyBody(r)
		room := slices.Grow(slices.Clone(p.l), 9)
		beyond := room[:len(room)+9]
		for i := len(p.l); i < len(beyond); i++ {
			beyond[i] = sym(-1, -2, -3, -4, -5, -6, i)
		}
		before := slices.Clone(beyond)
		all := travelsOf(t, b, part{p.start, room, p.length})
		if !slices.Equal(beyond, before) {
			t.Fatalf("P28.1 to P28.5: the staff %v was changed into %v", before, beyond)
		}
		for _, l := range [][]int{all.facing, all.lift} {
			for i := range l {
				l[i] = -999
			}
		}
		for i := range all.path {
			all.path[i] = api.Point{X: -999}
		}
		counts{}.compare(t, b, part{p.start, room, p.length})
	}
}
