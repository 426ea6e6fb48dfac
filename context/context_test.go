package context_test

import (
	"cmp"
	"math"
	"math/rand"
	"slices"
	"testing"

	"dancestudio/api"
	"dancestudio/context"
	"dancestudio/posture"
	"dancestudio/staff"
	"dancestudio/symbol"
)

// extreme are integers far outside all bounds.
var extreme = []int{math.MinInt, math.MinInt + 1, -1 << 62, -1 << 32, -1<<32 + 1, -1 << 31, -1 << 16, -8193, 8193, 1 << 16, 1 << 31, 1 << 32, 1<<32 + 1, 1 << 62, math.MaxInt - 8192, math.MaxInt}

var (
	down = api.Target{Dir: api.Place, Level: api.Low}
	up   = api.Target{Dir: api.Place, Level: api.High}
)

// place is a valid part that is looked at tick by tick: the definitions of the chapter.
type place struct {
	start  api.Start
	l      []api.Symbol
	length int
	feet   [2][]bool
}

// looked marks each tick of each support.
func looked(start api.Start, l []api.Symbol, length int) place {
	p := place{start: start, l: l, length: length}
	for side := range 2 {
		p.feet[side] = make([]bool, length)
		for _, s := range l {
			for tick := s.Begin; s.Column == side && tick <= s.Begin+s.Len-1; tick++ {
				p.feet[side][tick] = true
			}
		}
	}
	return p
}

// supportedBefore is the definition of a foot that supported before a tick.
func (p place) supportedBefore(side, tick int) bool {
	if tick > 0 {
		return p.feet[side][tick-1]
	}
	return p.start.Support == 3 || p.start.Support == side+1
}

// lastGesture returns the last gesture of a limb that begins from a tick on and before another one, if there is one.
func (p place) lastGesture(limb, from, begin int) (api.Symbol, bool) {
	for _, s := range slices.Backward(p.l) {
		if s.Column == limb+2 && from <= s.Begin && s.Begin < begin {
			return s, true
		}
	}
	return api.Symbol{}, false
}

// targetBefore is the definition of the target of a limb before a symbol that begins at a tick.
func (p place) targetBefore(limb, begin int) api.Target {
	for t := begin; t >= 0 && limb <= 1; t-- {
		if !p.supportedBefore(limb, t) {
			continue
		}
		if _, ok := p.lastGesture(limb, t, begin); !ok {
			return down
		}
		break
	}
	if s, ok := p.lastGesture(limb, 0, begin); ok {
		return api.Target{Dir: s.Dir, Level: s.Level, Bend: s.Amount}
	}
	return p.start.Targets[limb]
}

// haveCommon looks for a tick that two symbols have in common.
func haveCommon(a, b api.Symbol) bool {
	for tick := a.Begin; tick < a.Begin+a.Len; tick++ {
		if b.Begin <= tick && tick < b.Begin+b.Len {
			return true
		}
	}
	return false
}

func (p place) stepFault(step api.Symbol) api.Errno {
	for _, s := range p.l {
		same := s.Begin == step.Begin && s.Len == step.Len && s.Dir == step.Dir && s.Level == step.Level
		if s.Kind == 1 && s.Column != step.Column && haveCommon(s, step) && !same {
			return api.ErrOverlap
		}
	}
	for _, s := range p.l {
		for _, tick := range []int{step.Begin, step.Begin + step.Len} {
			if s.Kind == 4 && s.Begin < tick && s.Begin+s.Len > tick {
				return api.ErrTwist
			}
		}
	}
	if p.targetBefore(step.Column, step.Begin) != down {
		return api.ErrWeight
	}
	return api.OK
}

func (p place) gestureFault(s api.Symbol) api.Errno {
	limb := s.Column - 2
	switch limb {
	case api.LegLeft, api.LegRight:
		for tick := s.Begin; tick < s.Begin+s.Len; tick++ {
			if p.feet[limb][tick] {
				return api.ErrWeight
			}
		}
	case api.Torso, api.Head:
		before := p.targetBefore(limb, s.Begin)
		// Half a turn is four eighths; Place has no side to which it could lead.
		if before.Dir != api.Place && s.Dir != api.Place && (before.Dir-s.Dir == 4 || s.Dir-before.Dir == 4) {
			return api.ErrTwist
		}
	}
	return api.OK
}

func (p place) turnFault(s api.Symbol) api.Errno {
	for tick := s.Begin; tick < s.Begin+s.Len; tick++ {
		if !p.feet[0][tick] || !p.feet[1][tick] {
			return api.OK
		}
	}
	if s.Amount < -2 || s.Amount > 2 {
		return api.ErrTwist
	}
	return api.OK
}

// faults returns the fault of each symbol of a part.
func (p place) faults() []api.Errno {
	var all []api.Errno
	for _, s := range p.l {
		fault := api.OK
		switch {
		case s.Kind == 1:
			fault = p.stepFault(s)
		case s.Kind == 2 && !p.supportedBefore(s.Column, s.Begin):
			fault = api.ErrWeight
		case s.Kind == 3:
			fault = p.gestureFault(s)
		case s.Kind == 4:
			fault = p.turnFault(s)
		}
		all = append(all, fault)
	}
	return all
}

// errorBefore returns the error that comes before all faults.
func errorBefore(start api.Start, l []api.Symbol, length int) api.Errno {
	if err := posture.Check(start); err != api.OK {
		return err
	}
	return staff.Check(l, length)
}

// first is the definition of P25.1.
func first(start api.Start, l []api.Symbol, length int) (int, api.Errno) {
	if err := errorBefore(start, l, length); err != api.OK {
		return -1, err
	}
	p := looked(start, l, length)
	for i, fault := range p.faults() {
		if fault != api.OK {
			return i, fault
		}
	}
	if !p.feet[0][length-1] && !p.feet[1][length-1] {
		return -1, api.ErrAir
	}
	return -1, api.OK
}

// supports is the definition of P25.3.
func supports(start api.Start, l []api.Symbol, length int) ([]int, api.Errno) {
	if err := errorBefore(start, l, length); err != api.OK {
		return nil, err
	}
	p := looked(start, l, length)
	sums := make([]int, length)
	for tick := range length {
		for side, weight := range []int{1, 2} {
			if p.feet[side][tick] {
				sums[tick] += weight
			}
		}
	}
	return sums, api.OK
}

// fault is a fault of a symbol of a kind in a column; ErrAir has the zero symbol.
type fault struct {
	kind, column int
	err          api.Errno
}

// counts says how often each first fault was the right one.
type counts map[fault]int

// compare compares all functions with their definitions, and counts the fault.
func (n counts) compare(t *testing.T, start api.Start, l []api.Symbol, length int) {
	t.Helper()
	index, err := first(start, l, length)
	if i, e := context.First(start, l, length); i != index || e != err {
		t.Fatalf("P1, P25.1: First(%v, %v, %d) is %d, %d, not %d, %d", start, l, length, i, e, index, err)
	}
	if e := context.Check(start, l, length); e != err {
		t.Fatalf("P1, P25.2: Check(%v, %v, %d) is %d, not %d", start, l, length, e, err)
	}
	want, wantErr := supports(start, l, length)
	if got, e := context.Supports(start, l, length); !slices.Equal(got, want) || e != wantErr {
		t.Fatalf("P1, P25.3: Supports(%v, %v, %d) is %v, %d, not %v, %d", start, l, length, got, e, want, wantErr)
	}
	if index < 0 {
		n[fault{err: err}]++
		return
	}
	n[fault{l[index].Kind, l[index].Column, err}]++
}

// known are all faults that a symbol can have.
func known() []fault {
	all := []fault{
		{api.Gesture, 2, api.ErrWeight}, {api.Gesture, 3, api.ErrWeight},
		{api.Gesture, 4, api.ErrTwist}, {api.Gesture, 7, api.ErrTwist},
		{api.Turn, 8, api.ErrTwist},
	}
	for column := range 2 {
		all = append(all, fault{api.Hold, column, api.ErrWeight})
		for _, err := range []api.Errno{api.ErrOverlap, api.ErrTwist, api.ErrWeight} {
			all = append(all, fault{api.Step, column, err})
		}
	}
	return all
}

// tried reports faults that were the right ones too seldom.
func (n counts) tried(t *testing.T, least int, all ...fault) {
	t.Helper()
	for _, f := range all {
		if n[f] < least {
			t.Errorf("P25.1: only %d staves with the fault %v were tried", n[f], f)
		}
	}
}

// stand is the start of the examples.
func stand() api.Start {
	return api.Start{Support: 3, Targets: [api.Limbs]api.Target{down, down, up, down, down, up}}
}

// leading is stand on one foot; the other leg, the torso and the head lead somewhere.
func leading(support int, leg, trunk, head api.Target) api.Start {
	s := stand()
	s.Support = support
	s.Targets[2-support] = leg
	s.Targets[api.Torso], s.Targets[api.Head] = trunk, head
	return s
}

// starts are some starts for small staves.
func starts() []api.Start {
	forward, back := api.Target{Dir: api.Forward}, api.Target{Dir: api.Back, Level: api.High, Bend: 1}
	return []api.Start{
		stand(),
		leading(api.OnLeft, down, forward, back),
		leading(api.OnRight, down, back, up),
		leading(api.OnLeft, forward, up, forward),
		leading(api.OnRight, api.Target{Dir: api.Place, Level: api.Low, Bend: 1}, back, back),
	}
}

func sym(kind, column, begin, n, dir, level, amount int) api.Symbol {
	return api.Symbol{Kind: kind, Column: column, Begin: begin, Len: n, Dir: dir, Level: level, Amount: amount}
}

func hold(column, begin, n int) api.Symbol { return sym(api.Hold, column, begin, n, 0, 0, 0) }

func step(column, begin, n int) api.Symbol {
	return sym(api.Step, column, begin, n, api.Forward, api.Middle, 0)
}

func lead(limb, begin, n, dir int) api.Symbol {
	return sym(api.Gesture, api.FirstGesture+limb, begin, n, dir, api.Middle, 0)
}

// sink is a gesture to straight down.
func sink(limb, begin, n int) api.Symbol {
	return sym(api.Gesture, api.FirstGesture+limb, begin, n, api.Place, api.Low, 0)
}

func turn(begin, n, eighths int) api.Symbol {
	return sym(api.Turn, api.TurnColumn, begin, n, 0, 0, eighths)
}

// few are the symbols of some contents that begin at 0 to 2 and have 1 or 2 ticks.
func few() []api.Symbol {
	var all []api.Symbol
	for begin := range 3 {
		for n := 1; n <= 2; n++ {
			all = append(all,
				hold(0, begin, n), step(0, begin, n), sym(api.Step, 0, begin, n, api.Forward, api.High, 0),
				hold(1, begin, n), step(1, begin, n), sym(api.Step, 1, begin, n, api.Right, api.Middle, 0),
				sink(api.LegLeft, begin, n), lead(api.LegLeft, begin, n, api.Forward),
				sink(api.LegRight, begin, n), lead(api.LegRight, begin, n, api.Forward),
				lead(api.Torso, begin, n, api.Forward), lead(api.Torso, begin, n, api.Back),
				lead(api.Head, begin, n, api.Forward),
				turn(begin, n, -2), turn(begin, n, 3))
		}
	}
	return inOrder(all)
}

// inOrder sorts a list by Begin, then by Column.
func inOrder(l []api.Symbol) []api.Symbol {
	slices.SortStableFunc(l, func(a, b api.Symbol) int {
		return cmp.Or(cmp.Compare(a.Begin, b.Begin), cmp.Compare(a.Column, b.Column))
	})
	return l
}

// staves calls f with all staves of up to so many symbols out of a list that is in order.
func staves(all []api.Symbol, most, length int, f func(l []api.Symbol)) {
	var longer func(l []api.Symbol, rest []api.Symbol)
	longer = func(l []api.Symbol, rest []api.Symbol) {
		if staff.Check(l, length) != api.OK {
			return
		}
		f(l)
		if len(l) == most {
			return
		}
		for i, s := range rest {
			longer(append(slices.Clone(l), s), rest[i+1:])
		}
	}
	longer(nil, all)
}

func TestSmallStaves(t *testing.T) {
	n := counts{}
	for _, start := range starts() {
		staves(few(), 3, 4, func(l []api.Symbol) { n.compare(t, start, l, 4) })
	}
	n.tried(t, 100, known()...)
	n.tried(t, 100, fault{}, fault{err: api.ErrAir})
}

// TestSupportsAndLegs has longer staves of one leg and its foot.
func TestSupportsAndLegs(t *testing.T) {
	for side := range 2 {
		n := counts{}
		var all []api.Symbol
		for begin := range 4 {
			for ticks := 1; ticks <= 2; ticks++ {
				all = append(all, hold(side, begin, ticks), step(side, begin, ticks), sink(side, begin, ticks), lead(side, begin, ticks, api.Right))
			}
		}
		for _, start := range starts() {
			staves(inOrder(all), 4, 5, func(l []api.Symbol) { n.compare(t, start, l, 5) })
		}
		n.tried(t, 100, fault{}, fault{err: api.ErrAir}, fault{api.Hold, side, api.ErrWeight}, fault{api.Step, side, api.ErrWeight}, fault{api.Gesture, side + 2, api.ErrWeight})
	}
}

// TestStepsTogether has all pairs of steps of both feet that differ in one thing or more, or in none.
func TestStepsTogether(t *testing.T) {
	n := counts{}
	for begin := range 7 {
		for ticks := 1; ticks <= 6; ticks++ {
			for dir := range 9 {
				for level := api.Low; level <= api.High; level++ {
					left := sym(api.Step, 0, begin, ticks, dir, level, 0)
					for _, right := range []api.Symbol{step(1, 3, 3), step(1, 0, 3), step(1, 2, 1), sym(api.Step, 1, 3, 3, api.Place, api.Low, 0)} {
						n.compare(t, stand(), inOrder([]api.Symbol{left, right}), 12)
					}
				}
			}
		}
	}
	n.tried(t, 20, fault{err: api.ErrAir}, fault{api.Step, 0, api.ErrOverlap}, fault{api.Step, 1, api.ErrOverlap})
}

// TestTurnsAndSteps has a turn at all places around a step.
func TestTurnsAndSteps(t *testing.T) {
	n := counts{}
	for side := range 2 {
		for begin := range 8 {
			for ticks := 1; ticks <= 10-begin; ticks++ {
				for from := range 10 {
					for eighths := 1; from+eighths <= 10; eighths++ {
						l := []api.Symbol{step(side, begin, ticks), turn(from, eighths, 1)}
						n.compare(t, stand(), inOrder(l), 10)
					}
				}
			}
		}
	}
	n.tried(t, 300, fault{err: api.ErrAir}, fault{}, fault{api.Step, 0, api.ErrTwist}, fault{api.Step, 1, api.ErrTwist})
}

// TestAmounts has all turns while one foot, both feet or none support all the time, or but for one tick.
func TestAmounts(t *testing.T) {
	n := counts{}
	left, right := hold(0, 0, 12), hold(1, 0, 12)
	for amount := -16; amount <= 16; amount++ {
		if amount == 0 {
			continue
		}
		for _, feet := range [][]api.Symbol{
			nil, {left}, {right}, {left, right}, {left, hold(1, 0, 9)}, {left, hold(1, 0, 8)}, {hold(0, 0, 8), right},
			{left, step(1, 3, 9)}, {left, step(1, 4, 8)}, {step(0, 4, 8), right}, {hold(0, 0, 6), right, step(0, 6, 6)},
			{hold(0, 0, 5), right, step(0, 6, 6)}, {hold(0, 0, 6), hold(1, 0, 6), step(0, 6, 6), step(1, 6, 6)},
		} {
			n.compare(t, stand(), inOrder(append(slices.Clone(feet), turn(3, 6, amount))), 12)
		}
	}
	n.tried(t, 20, fault{}, fault{err: api.ErrAir}, fault{api.Turn, 8, api.ErrTwist})
}

// TestWaysOfLimbs has all pairs of targets of all limbs; the first target is that of the start or of a gesture.
func TestWaysOfLimbs(t *testing.T) {
	n := counts{}
	var all []api.Target
	for dir := range 9 {
		for level := api.Low; level <= api.High; level++ {
			all = append(all, api.Target{Dir: dir, Level: level, Bend: (dir + level + 7) % 7})
		}
	}
	for limb := range api.Limbs {
		side := 0
		if limb == api.LegLeft {
			side = 1
		}
		support := hold(side, 0, 12)
		for _, a := range all {
			for _, b := range all {
				start := leading(side+1, down, up, up)
				from := sym(api.Gesture, 2+limb, 0, 3, a.Dir, a.Level, a.Bend)
				to := sym(api.Gesture, 2+limb, 5, 4, b.Dir, b.Level, b.Bend)
				n.compare(t, start, []api.Symbol{support, from, to}, 12)
				start.Targets[limb] = a
				n.compare(t, start, []api.Symbol{support, to}, 12)
			}
		}
	}
	n.tried(t, 20, fault{}, fault{err: api.ErrPlace}, fault{api.Gesture, 4, api.ErrTwist}, fault{api.Gesture, 7, api.ErrTwist})
}

// dance is a part without faults that is made from tick to tick.
type dance struct {
	r       *rand.Rand
	start   api.Start
	l       []api.Symbol
	length  int
	targets [api.Limbs]api.Target
	// until is the tick up to which a foot and its leg know what they do; steps and supports say what that is.
	until           [2]int
	steps, supports [2]bool
}

// anyTarget returns a target of a limb that is not straight down.
func anyTarget(r *rand.Rand, limb int) api.Target {
	if r.Intn(5) == 0 {
		return up
	}
	return api.Target{Dir: 1 + r.Intn(8), Level: r.Intn(3) - 1, Bend: r.Intn(7)}
}

// anyStart returns a valid start.
func anyStart(r *rand.Rand) api.Start {
	s := api.Start{At: api.Point{X: r.Intn(65537) - 32768, Y: r.Intn(99)}, Facing: r.Intn(8), Level: r.Intn(3) - 1, Support: 1 + r.Intn(3)}
	for limb := range api.Limbs {
		s.Targets[limb] = anyTarget(r, limb)
		if limb <= 1 && (s.Support&(1<<limb) != 0 || r.Intn(2) == 0) {
			s.Targets[limb] = down
		}
	}
	return s
}

// ticks returns a number of ticks that are left from a tick on.
func (d *dance) ticks(tick int) int { return min(1+d.r.Intn(9), d.length-tick) }

// does puts a support, and remembers it.
func (d *dance) does(s api.Symbol) {
	d.l = append(d.l, s)
	d.until[s.Column], d.supports[s.Column], d.steps[s.Column] = s.Begin+s.Len, true, s.Kind == api.Step
	d.targets[s.Column] = down
}

// mayStep says whether the leg of a foot that is free at a tick is ready for a step that the other foot does not forbid.
func (d *dance) mayStep(side, tick int) bool {
	other := 1 - side
	return d.targets[side] == down && (d.until[other] <= tick || !d.steps[other])
}

// free lets a leg gesture, or do nothing, for some ticks.
func (d *dance) free(side, tick int) {
	d.supports[side], d.steps[side] = false, false
	n := d.ticks(tick)
	d.until[side] = tick + n
	if d.r.Intn(3) == 0 {
		return
	}
	target := down
	if d.r.Intn(3) == 0 {
		target = anyTarget(d.r, side)
	}
	d.targets[side] = target
	d.l = append(d.l, sym(api.Gesture, 2+side, tick, n, target.Dir, target.Level, target.Bend))
}

// foot decides what a free foot does from a tick on.
func (d *dance) foot(side, tick int) {
	n, other := d.ticks(tick), 1-side
	s := sym(api.Step, side, tick, n, d.r.Intn(9), d.r.Intn(3)-1, 0)
	switch choice := d.r.Intn(6); {
	case choice <= 1 && d.supports[side]:
		d.does(hold(side, tick, n))
	case choice <= 3 && d.mayStep(side, tick):
		d.does(s)
		if d.until[other] <= tick && d.mayStepWith(other) {
			s.Column = other
			d.does(s)
		}
	default:
		d.free(side, tick)
	}
}

// mayStepWith says whether a free foot makes the step of the other one together with it.
func (d *dance) mayStepWith(side int) bool { return d.targets[side] == down && d.r.Intn(2) == 0 }

// turns puts turns, none of which is under way when a step begins or ends.
func (d *dance) turns() {
	p := looked(d.start, d.l, d.length)
	for tick := d.r.Intn(9); tick < d.length; tick += d.r.Intn(9) {
		end := tick + d.ticks(tick)
		for _, s := range d.l {
			for _, border := range []int{s.Begin, s.Begin + s.Len} {
				if s.Kind == api.Step && tick < border && border < end {
					end = border
				}
			}
		}
		most := 2
		for t := tick; t < end; t++ {
			if !p.feet[0][t] || !p.feet[1][t] {
				most = 16
			}
		}
		d.l = append(d.l, turn(tick, end-tick, (1+d.r.Intn(most))*(1-2*d.r.Intn(2))))
		tick = end
	}
}

// gestures lets a limb that never carries weight gesture; the torso and the head never go half around.
func (d *dance) gestures(limb int) {
	for tick := d.r.Intn(9); tick < d.length; tick += d.r.Intn(9) {
		n, target, before := d.ticks(tick), anyTarget(d.r, limb), d.targets[limb]
		isTrunk := limb == api.Torso || limb == api.Head
		if isTrunk && before.Dir != api.Place && target.Dir != api.Place && (before.Dir+4-target.Dir)%8 == 0 {
			target.Dir = before.Dir
		}
		d.targets[limb] = target
		d.l = append(d.l, sym(api.Gesture, 2+limb, tick, n, target.Dir, target.Level, target.Bend))
		tick += n
	}
}

// anyDance returns a part without faults.
func anyDance(r *rand.Rand, most int) (api.Start, []api.Symbol, int) {
	for {
		start := anyStart(r)
		d := &dance{r: r, start: start, length: 1 + r.Intn(most), targets: start.Targets}
		d.supports = [2]bool{start.Support&1 != 0, start.Support&2 != 0}
		for tick := range d.length {
			for _, side := range r.Perm(2) {
				if d.until[side] <= tick {
					d.foot(side, tick)
				}
			}
		}
		if !d.supports[0] && !d.supports[1] {
			continue
		}
		for limb := api.Torso; limb < api.Limbs; limb++ {
			d.gestures(limb)
		}
		d.turns()
		if len(d.l) <= api.MaxSymbols {
			return start, inOrder(d.l), d.length
		}
	}
}

// TestDances has parts that are made without faults.
func TestDances(t *testing.T) {
	r := rand.New(rand.NewSource(1))
	n := counts{}
	for range 20000 {
		start, l, length := anyDance(r, []int{4, 20, 120}[r.Intn(3)])
		n.compare(t, start, l, length)
		if i, err := context.First(start, l, length); i != -1 || err != api.OK {
			t.Fatalf("P25.1: First(%v, %v, %d) is %d, %d, but there is no fault", start, l, length, i, err)
		}
	}
}

// whole takes the symbols out of a list in order that have ticks in common with earlier ones of their column, or too many ticks.
func whole(l []api.Symbol, length int) []api.Symbol {
	var ends [api.Columns]int
	return slices.DeleteFunc(l, func(s api.Symbol) bool {
		if s.Column < 0 || s.Column >= api.Columns {
			return false
		}
		if s.Begin < ends[s.Column] || s.Begin+s.Len > length {
			return true
		}
		ends[s.Column] = s.Begin + s.Len
		return false
	})
}

// changed makes a change in a symbol of a list.
func changed(r *rand.Rand, l []api.Symbol) {
	s := &l[r.Intn(len(l))]
	switch r.Intn(7) {
	case 0:
		s.Begin = max(0, s.Begin+r.Intn(9)-4)
	case 1:
		s.Len = max(1, s.Len+r.Intn(9)-4)
	case 2:
		if s.Column <= 1 {
			*s = []api.Symbol{hold(s.Column, s.Begin, s.Len), step(s.Column, s.Begin, s.Len)}[r.Intn(2)]
		}
	case 3:
		s.Column = r.Intn(9)
	case 4:
		s.Dir = r.Intn(9)
	case 5:
		s.Level = r.Intn(3) - 1
	default:
		if s.Kind == api.Turn {
			s.Amount = 1 + r.Intn(16)
		} else {
			s.Begin++
		}
	}
}

// spoiled makes some changes, after which a part often has faults.
func spoiled(r *rand.Rand, start api.Start, l []api.Symbol, length int) (api.Start, []api.Symbol) {
	l = slices.Clone(l)
	for range 1 + r.Intn(3) {
		switch choice := r.Intn(8); {
		case choice == 0:
			start.Support = 1 + r.Intn(3)
		case choice == 1:
			start.Targets[r.Intn(6)] = api.Target{Dir: r.Intn(9), Level: r.Intn(3) - 1}
		case choice == 2:
			l = append(l, few()[r.Intn(90)])
			l[len(l)-1].Begin += r.Intn(length)
		case len(l) == 0:
		case choice == 3:
			i := r.Intn(len(l))
			l = slices.Delete(l, i, i+1)
		default:
			changed(r, l)
		}
	}
	l = inOrder(l)
	if r.Intn(10) > 0 {
		l = whole(l, length)
	}
	return start, l
}

func TestSpoiledDances(t *testing.T) {
	r := rand.New(rand.NewSource(2))
	n := counts{}
	for range 60000 {
		start, l, length := anyDance(r, []int{4, 20, 120}[r.Intn(3)])
		start, l = spoiled(r, start, l, length)
		n.compare(t, start, l, length)
	}
	n.tried(t, 200, known()...)
	n.tried(t, 200, fault{}, fault{err: api.ErrAir}, fault{err: api.ErrRange}, fault{err: api.ErrColumn}, fault{err: api.ErrForm}, fault{err: api.ErrPlace}, fault{err: api.ErrOverlap}, fault{err: api.ErrWeight})
}

// row returns n holds of a foot that follow each other from 0 on, with as many ticks each.
func row(n, column, ticks int) []api.Symbol {
	var l []api.Symbol
	for i := range n {
		l = append(l, hold(column, i*ticks, ticks))
	}
	return l
}

// TestLongStaves has staves at the limits of symbols and ticks, with faults at the end.
func TestLongStaves(t *testing.T) {
	n := counts{}
	n.compare(t, stand(), row(256, 0, 32), 8192)
	n.compare(t, stand(), row(257, 0, 1), 8192)
	n.compare(t, stand(), nil, 8192)
	n.compare(t, stand(), []api.Symbol{hold(0, 0, 8192), hold(1, 0, 8192), turn(0, 8192, 2)}, 8192)
	n.compare(t, stand(), []api.Symbol{hold(0, 0, 8192), hold(1, 0, 8192), turn(0, 8192, -3)}, 8192)
	n.compare(t, stand(), []api.Symbol{hold(0, 0, 8192), hold(1, 0, 8191), turn(0, 8192, 16)}, 8192)
	n.compare(t, stand(), []api.Symbol{hold(0, 0, 1), step(0, 8191, 1)}, 8192)
	n.compare(t, stand(), []api.Symbol{hold(1, 0, 8191), hold(0, 8191, 1)}, 8192)
	n.compare(t, stand(), []api.Symbol{hold(0, 0, 8191)}, 8192)
	for _, last := range []api.Symbol{hold(0, 8160, 32), hold(1, 8160, 1), step(1, 8160, 32), lead(api.LegLeft, 8160, 1, api.Back), lead(api.LegRight, 8160, 32, api.Back), turn(8160, 32, 9)} {
		n.compare(t, stand(), append(row(255, 0, 32), last), 8192)
	}
	r := rand.New(rand.NewSource(3))
	for range 200 {
		start, l, length := anyDance(r, 120)
		late, err := staff.Join(nil, 8192-length, l, length)
		if err != api.OK {
			t.Fatal(err)
		}
		n.compare(t, start, late, 8192)
		n.compare(t, start, whole(append(late, hold(0, 8191, 1)), 8192), 8192)
	}
}

// TestOrderOfErrors has starts and staves with errors, of which the first one counts, always without an index.
func TestOrderOfErrors(t *testing.T) {
	n := counts{}
	wrong := stand()
	wrong.Support = 0
	lifted := stand()
	lifted.Targets[api.LegRight] = api.Target{Dir: api.Right}
	placed := stand()
	placed.Targets[api.Head] = api.Target{Dir: api.Place}
	unordered := []api.Symbol{hold(1, 0, 2), hold(0, 0, 2)}
	late := []api.Symbol{hold(0, 1, 2), hold(1, 0, 0)}
	for i, c := range []struct {
		start  api.Start
		l      []api.Symbol
		length int
		want   api.Errno
	}{
		{wrong, unordered, 0, api.ErrRange},
		{wrong, unordered, 2, api.ErrRange},
		{lifted, unordered, 0, api.ErrWeight},
		{placed, unordered, 0, api.ErrPlace},
		{placed, []api.Symbol{hold(0, 1, 2)}, 4, api.ErrPlace},
		{stand(), unordered, 0, api.ErrRange},
		{stand(), unordered, 8193, api.ErrRange},
		{stand(), row(257, 0, 1), 4, api.ErrFull},
		{stand(), unordered, 4, api.ErrOrder},
		// The first hold has a fault, but the second one is no symbol.
		{stand(), late, 4, api.ErrRange},
		{stand(), []api.Symbol{hold(0, 1, 1), {Kind: 5, Begin: 2, Len: 1}}, 4, api.ErrKind},
		{stand(), []api.Symbol{hold(0, 1, 1), hold(9, 2, 1)}, 4, api.ErrColumn},
		{stand(), []api.Symbol{hold(0, 1, 2), hold(0, 2, 1)}, 4, api.ErrOverlap},
		{stand(), []api.Symbol{hold(0, 1, 1), hold(0, 2, 3)}, 4, api.ErrRange},
	} {
		n.compare(t, c.start, c.l, c.length)
		if k, err := context.First(c.start, c.l, c.length); k != -1 || err != c.want {
			t.Errorf("P25.1: First of the part %d is %d, %d, not %d", i, k, err, c.want)
		}
		if err := context.Check(c.start, c.l, c.length); err != c.want {
			t.Errorf("P25.2: Check of the part %d is %d, not %d", i, err, c.want)
		}
		if l, err := context.Supports(c.start, c.l, c.length); len(l) != 0 || err != c.want {
			t.Errorf("P25.3: Supports of the part %d is %v, %d, not %d", i, l, err, c.want)
		}
	}
}

// TestOrderOfFaults has symbols with several faults, of which the first one counts.
func TestOrderOfFaults(t *testing.T) {
	forward := leading(api.OnLeft, api.Target{Dir: api.Forward}, up, up)
	for i, c := range []struct {
		start api.Start
		l     []api.Symbol
		index int
		want  api.Errno
	}{
		// All three faults of a step; the last two.
		{forward, []api.Symbol{turn(0, 9, 1), step(1, 1, 3), step(0, 2, 4)}, 1, api.ErrOverlap},
		{forward, []api.Symbol{turn(0, 9, 1), step(1, 1, 3), step(0, 4, 4)}, 1, api.ErrTwist},
		{forward, []api.Symbol{step(1, 1, 3), turn(3, 2, 1), step(0, 4, 4)}, 0, api.ErrTwist},
		{forward, []api.Symbol{turn(0, 1, 1), step(1, 1, 3), step(0, 4, 4), turn(4, 1, 1)}, 1, api.ErrWeight},
		// The first symbol counts, whatever its fault is.
		{stand(), []api.Symbol{hold(0, 0, 4), lead(api.LegLeft, 0, 4, api.Left), hold(1, 1, 4)}, 1, api.ErrWeight},
		{stand(), []api.Symbol{step(0, 0, 4), step(1, 1, 4), hold(0, 6, 1)}, 0, api.ErrOverlap},
		{stand(), []api.Symbol{hold(0, 0, 8), hold(1, 0, 8), turn(0, 8, 8), hold(0, 9, 1)}, 2, api.ErrTwist},
		{stand(), []api.Symbol{hold(0, 0, 8), turn(1, 1, 8), hold(0, 9, 1)}, 2, api.ErrWeight},
		// ErrAir comes last.
		{stand(), []api.Symbol{hold(0, 2, 8)}, 0, api.ErrWeight},
		{stand(), []api.Symbol{hold(0, 0, 11), hold(1, 0, 11)}, -1, api.ErrAir},
		{stand(), []api.Symbol{hold(0, 0, 11), lead(api.LegLeft, 11, 1, api.Left)}, -1, api.ErrAir},
	} {
		if k, err := context.First(c.start, c.l, 12); k != c.index || err != c.want {
			t.Errorf("P25.1: First of the part %d is %d, %d, not %d, %d", i, k, err, c.index, c.want)
		}
	}
}

// TestExtremes has numbers far outside of their borders.
func TestExtremes(t *testing.T) {
	n := counts{}
	for _, number := range append([]int{-2, -1, 0, 1, 2, 3, 4, 5, 8, 9, 12, 8191, 8192}, extreme...) {
		l := []api.Symbol{hold(0, 0, 12), lead(api.LegRight, 0, 4, api.Forward), turn(0, 12, 16)}
		n.compare(t, stand(), l, number)
		n.compare(t, stand(), nil, number)
		for i := range l {
			fields := []func(s *api.Symbol) *int{
				func(s *api.Symbol) *int { return &s.Kind }, func(s *api.Symbol) *int { return &s.Column },
				func(s *api.Symbol) *int { return &s.Begin }, func(s *api.Symbol) *int { return &s.Len },
				func(s *api.Symbol) *int { return &s.Dir }, func(s *api.Symbol) *int { return &s.Level },
				func(s *api.Symbol) *int { return &s.Amount },
			}
			for _, field := range fields {
				wrong := slices.Clone(l)
				*field(&wrong[i]) = number
				n.compare(t, stand(), wrong, 12)
				n.compare(t, stand(), inOrder(wrong), 12)
			}
		}
		for limb := range api.Limbs {
			start := stand()
			start.Targets[limb].Dir = number
			n.compare(t, start, l, 12)
			start = stand()
			start.Targets[limb].Level = number
			n.compare(t, start, l, 12)
			start = stand()
			start.Targets[limb].Bend = number
			n.compare(t, start, l, 12)
		}
		for _, start := range []api.Start{{At: api.Point{X: number}}, {At: api.Point{Y: number}}, {Facing: number}, {Level: number}, {Support: number}} {
			start.Targets = stand().Targets
			n.compare(t, start, l, 12)
			start.Support = max(start.Support, 1)
			n.compare(t, start, l, 12)
		}
	}
	n.tried(t, 20, fault{}, fault{err: api.ErrRange})
}

// mirrored returns the mirror image of a part.
func mirrored(t *testing.T, start api.Start, l []api.Symbol) (api.Start, []api.Symbol) {
	t.Helper()
	start, err := posture.Mirror(start)
	if err != api.OK {
		t.Fatalf("the start has the error %d", err)
	}
	var images []api.Symbol
	for _, s := range l {
		image, err := symbol.Mirror(s)
		if err != api.OK {
			t.Fatalf("%v has the error %d", s, err)
		}
		images = append(images, image)
	}
	return start, inOrder(images)
}

// TestMirror tries P25.5 for parts without faults and for those all of whose faults are of one kind.
func TestMirror(t *testing.T) {
	tried := map[api.Errno]int{}
	try := func(start api.Start, l []api.Symbol, length int) {
		if errorBefore(start, l, length) != api.OK {
			return
		}
		kinds := map[api.Errno]bool{}
		for _, fault := range looked(start, l, length).faults() {
			if fault != api.OK {
				kinds[fault] = true
			}
		}
		if len(kinds) > 1 {
			return
		}
		i, err := context.First(start, l, length)
		if (err == api.OK || err == api.ErrAir) != (i == -1) || (context.Check(start, l, length) == api.OK) != (err == api.OK) {
			t.Fatalf("P25.5: First(%v, %v, %d) is %d, %d", start, l, length, i, err)
		}
		image, images := mirrored(t, start, l)
		if e := context.Check(image, images, length); e != err {
			t.Fatalf("P25.5: Check(%v, %v, %d) is %d, and %d in the mirror", start, l, length, err, e)
		}
		tried[err]++
	}
	for _, start := range starts() {
		staves(few(), 2, 4, func(l []api.Symbol) { try(start, l, 4) })
	}
	r := rand.New(rand.NewSource(4))
	for range 10000 {
		start, l, length := anyDance(r, []int{4, 20, 120}[r.Intn(3)])
		try(start, l, length)
		start, l = spoiled(r, start, l, length)
		try(start, l, length)
	}
	for _, err := range []api.Errno{api.OK, api.ErrAir, api.ErrOverlap, api.ErrTwist, api.ErrWeight} {
		if tried[err] < 500 {
			t.Errorf("P25.5: only %d parts with the error %d were tried", tried[err], err)
		}
	}
}

// sound calls f with parts that have no faults, as Check says.
func sound(f func(start api.Start, l []api.Symbol, length int)) {
	try := func(start api.Start, l []api.Symbol, length int) {
		if context.Check(start, l, length) == api.OK {
			f(start, l, length)
		}
	}
	for _, start := range starts() {
		staves(few(), 2, 4, func(l []api.Symbol) { try(start, l, 4) })
	}
	r := rand.New(rand.NewSource(5))
	for range 5000 {
		start, l, length := anyDance(r, []int{4, 20, 120}[r.Intn(3)])
		try(start, l, length)
		start, l = spoiled(r, start, l, length)
		try(start, l, length)
	}
}

// TestWeight tries P25.4 at each tick.
func TestWeight(t *testing.T) {
	tried := 0
	sound(func(start api.Start, l []api.Symbol, length int) {
		tried++
		p := looked(start, l, length)
		for side := range 2 {
			for tick := range length {
				if !p.feet[side][tick] {
					continue
				}
				if slices.ContainsFunc(l, func(s api.Symbol) bool {
					return s.Column == 2+side && s.Begin <= tick && tick < s.Begin+s.Len
				}) {
					t.Fatalf("P25.4: %v, %v has no fault, but a leg gestures and carries weight at %d", start, l, tick)
				}
				if !p.supportedBefore(side, tick) && !slices.ContainsFunc(l, func(s api.Symbol) bool {
					return s.Kind == api.Step && s.Column == side && s.Begin == tick
				}) {
					t.Fatalf("P25.4: %v, %v has no fault, but a support begins without a step at %d", start, l, tick)
				}
			}
		}
	})
	if tried < 5000 {
		t.Errorf("P25.4: only %d parts were tried", tried)
	}
}

// TestTurns tries P25.6: the turns that have begun before the begin or the end of a step have ended.
func TestTurns(t *testing.T) {
	tried := 0
	sound(func(start api.Start, l []api.Symbol, length int) {
		for _, s := range l {
			if s.Kind != api.Step {
				continue
			}
			for _, moment := range []int{s.Begin, s.Begin + s.Len} {
				begun, ended := 0, 0
				for _, turn := range l {
					if turn.Kind != api.Turn {
						continue
					}
					if turn.Begin < moment {
						begun += turn.Amount
						tried++
					}
					if turn.Begin+turn.Len <= moment {
						ended += turn.Amount
					}
				}
				if begun != ended {
					t.Fatalf("P25.6: %v, %v has no fault, but a turn is under way at %d", start, l, moment)
				}
			}
		}
	})
	if tried < 10000 {
		t.Errorf("P25.6: only %d turns were tried", tried)
	}
}

// TestGoingOn tries P25.7: holds of the feet that support at the end follow.
func TestGoingOn(t *testing.T) {
	tried := map[int]int{}
	sound(func(start api.Start, l []api.Symbol, length int) {
		feet, err := context.Supports(start, l, length)
		if err != api.OK || len(feet) != length {
			t.Fatalf("P25.3: Supports(%v, %v, %d) is %v, %d", start, l, length, feet, err)
		}
		last := feet[length-1]
		var holds []api.Symbol
		for side := range 2 {
			if last&(1<<side) != 0 {
				holds = append(holds, hold(side, 0, 7))
			}
		}
		longer, err := staff.Join(l, length, holds, 7)
		if err == api.ErrFull {
			return
		}
		if e := context.Check(start, longer, length+7); err != api.OK || e != api.OK {
			t.Fatalf("P25.7: %v, %v cannot be followed by holds of the feet %d: %d, %d", start, l, last, err, e)
		}
		tried[last]++
	})
	for last := 1; last <= 3; last++ {
		if tried[last] < 1000 {
			t.Errorf("P25.7: only %d parts that end on the feet %d were tried", tried[last], last)
		}
	}
}

// TestMemory writes to the results, and looks at the arguments afterwards.
func TestMemory(t *testing.T) {
	r := rand.New(rand.NewSource(6))
	room := api.Symbol{Kind: 99}
	for range 2000 {
		start, content, length := anyDance(r, 40)
		if r.Intn(2) == 0 {
			start, content = spoiled(r, start, content, length)
		}
		whole := append(slices.Clone(content), room, room)
		l := whole[:len(content)]
		context.First(start, l, length)
		context.Check(start, l, length)
		a, err := context.Supports(start, l, length)
		want, _ := supports(start, content, length)
		clear(a[:cap(a)])
		if b, e := context.Supports(start, l, length); !slices.Equal(b, want) || e != err {
			t.Fatalf("P25.3: after a result was changed, Supports(%v, %v, %d) is %v, %d", start, l, length, b, e)
		}
		if !slices.Equal(whole, append(slices.Clone(content), room, room)) {
			t.Fatalf("P25.1: an argument was changed: %v", whole)
		}
	}
}

func TestExamples(t *testing.T) {
	left, right := hold(0, 0, 48), hold(1, 0, 48)
	kick := lead(api.LegRight, 0, 24, api.Forward)
	otherwise := step(1, 0, 24)
	otherwise.Dir = api.Right
	for i, c := range []struct {
		l     []api.Symbol
		index int
		want  api.Errno
	}{
		{nil, -1, api.ErrAir},
		{[]api.Symbol{}, -1, api.ErrAir},
		{[]api.Symbol{left}, -1, api.OK},
		{[]api.Symbol{hold(0, 1, 47)}, 0, api.ErrWeight},
		{[]api.Symbol{left, kick}, -1, api.OK},
		{[]api.Symbol{left, kick, step(1, 24, 24)}, 2, api.ErrWeight},
		{[]api.Symbol{left, kick, sink(api.LegRight, 24, 12), step(1, 36, 12)}, -1, api.OK},
		{[]api.Symbol{step(0, 0, 24), step(1, 0, 24), hold(0, 24, 24), hold(1, 24, 24)}, -1, api.OK},
		{[]api.Symbol{step(0, 0, 24), otherwise, hold(0, 24, 24), hold(1, 24, 24)}, 0, api.ErrOverlap},
		{[]api.Symbol{left, right, turn(0, 24, 3)}, 2, api.ErrTwist},
		{[]api.Symbol{left, right, turn(0, 24, 2)}, -1, api.OK},
	} {
		if k, err := context.First(stand(), c.l, 48); k != c.index || err != c.want {
			t.Errorf("P25.1: First of the example %d is %d, %d, not %d, %d", i, k, err, c.index, c.want)
		}
		if err := context.Check(stand(), c.l, 48); err != c.want {
			t.Errorf("P25.2: Check of the example %d is %d, not %d", i, err, c.want)
		}
	}
	feet, err := context.Supports(stand(), []api.Symbol{step(0, 0, 24), step(1, 24, 24)}, 48)
	if want := slices.Concat(slices.Repeat([]int{1}, 24), slices.Repeat([]int{2}, 24)); !slices.Equal(feet, want) || err != api.OK {
		t.Errorf("P25.3: Supports of example 6 is %v, %d", feet, err)
	}
}
