package posture_test

import (
	"math"
	"math/rand"
	"testing"

	"dancestudio/aim"
	"dancestudio/api"
	"dancestudio/dir"
	"dancestudio/posture"
)

// extreme are integers far outside all bounds.
var extreme = []int{math.MinInt, math.MinInt + 1, math.MinInt + 8, -1 << 62, -1 << 50, -1 << 32, -1<<32 + 3, -1 << 31, -1 << 16, 1 << 16, 1 << 31, 1 << 32, 1<<32 + 3, 1 << 50, 1<<50 + 1, 1 << 62, math.MaxInt - 8, math.MaxInt - 1, math.MaxInt}

// swaps has the limb that is exchanged with each limb.
var swaps = [api.Limbs]int{api.LegRight, api.LegLeft, api.Torso, api.ArmRight, api.ArmLeft, api.Head}

// mirrors has the mirror image of each direction.
var mirrors = []int{api.Place, api.Forward, api.ForwardLeft, api.Left, api.BackLeft, api.Back, api.BackRight, api.Right, api.ForwardRight}

var (
	down = api.Target{Dir: api.Place, Level: api.Low}
	up   = api.Target{Dir: api.Place, Level: api.High}
)

// example is the start of the chapter's examples.
func example() api.Start {
	return api.Start{At: api.Point{X: 100, Y: 300}, Facing: 1, Level: api.Low, Support: api.OnLeft, Targets: [api.Limbs]api.Target{down, {Dir: api.Right}, up, {Dir: api.Forward, Level: api.Low, Bend: 2}, down, up}}
}

// examplePose is the pose of example.
func examplePose() api.Pose {
	return api.Pose{At: api.Point{X: 100, Y: 300}, Facing: 32, Lift: -8, Aims: [api.Limbs]api.Aim{{El: -64}, {Az: 64}, {El: 64}, {El: -32, Bend: 2}, {El: -64}, {El: 64}}}
}

// upright stands on both feet with all limbs down or up.
func upright() api.Start {
	return api.Start{Support: 3, Targets: [api.Limbs]api.Target{down, down, up, down, down, up}}
}

// lifted is upright with both legs away from straight down, so that a support is an error.
func lifted() api.Start {
	s := upright()
	s.Targets[api.LegLeft], s.Targets[api.LegRight] = api.Target{Dir: api.Back}, api.Target{Dir: api.Right, Level: api.Low}
	return s
}

// inside says whether n is from least to greatest.
func inside(n, least, greatest int) bool { return least <= n && n <= greatest }

// stands says whether both coordinates are allowed.
func stands(p api.Point) bool { return inside(p.X, -32768, 32768) && inside(p.Y, -32768, 32768) }

// check is the definition of P19.1.
func check(s api.Start) api.Errno {
	if !stands(s.At) || !inside(s.Facing, 0, 7) || !inside(s.Level, -1, 1) || !inside(s.Support, 1, 3) {
		return api.ErrRange
	}
	for limb := range 6 {
		if _, err := aim.Of(limb, s.Targets[limb]); err != api.OK {
			return err
		}
	}
	if s.Support != 2 && s.Targets[0] != down || s.Support != 1 && s.Targets[1] != down {
		return api.ErrWeight
	}
	return api.OK
}

// poseOf is the definition of P19.2.
func poseOf(s api.Start) (api.Pose, api.Errno) {
	if err := check(s); err != api.OK {
		return api.Pose{}, err
	}
	p := api.Pose{At: s.At, Facing: s.Facing * 32, Lift: s.Level * 8}
	for limb := range 6 {
		p.Aims[limb], _ = aim.Of(limb, s.Targets[limb])
	}
	return p, api.OK
}

// valid is the definition of P19.3.
func valid(p api.Pose) api.Errno {
	if !stands(p.At) || !inside(p.Facing, 0, 255) || !inside(p.Lift, -8, 8) {
		return api.ErrRange
	}
	for limb := range 6 {
		if err := aim.Check(limb, p.Aims[limb]); err != api.OK {
			return err
		}
	}
	return api.OK
}

// notated is the definition of P19.4.
func notated(p api.Pose, support int) (api.Start, api.Errno) {
	if err := valid(p); err != api.OK {
		return api.Start{}, err
	}
	facings := map[int]int{0: 0, 32: 1, 64: 2, 96: 3, 128: 4, 160: 5, 192: 6, 224: 7}
	levels := map[int]int{-8: -1, 0: 0, 8: 1}
	facing, faces := facings[p.Facing]
	level, lifts := levels[p.Lift]
	if !faces || !lifts {
		return api.Start{}, api.ErrForm
	}
	s := api.Start{At: p.At, Facing: facing, Level: level, Support: support}
	for limb := range 6 {
		target, err := aim.Notate(limb, p.Aims[limb])
		if err != api.OK {
			return api.Start{}, err
		}
		s.Targets[limb] = target
	}
	if err := check(s); err != api.OK {
		return api.Start{}, err
	}
	return s, api.OK
}

// mirrorOf is the definition of P19.5.
func mirrorOf(s api.Start) (api.Start, api.Errno) {
	if err := check(s); err != api.OK {
		return api.Start{}, err
	}
	m := api.Start{At: api.Point{X: -s.At.X, Y: s.At.Y}, Facing: []int{0, 7, 6, 5, 4, 3, 2, 1}[s.Facing], Level: s.Level, Support: []int{0, 2, 1, 3}[s.Support]}
	for limb, other := range swaps {
		target := s.Targets[other]
		m.Targets[limb] = api.Target{Dir: mirrors[target.Dir], Level: target.Level, Bend: target.Bend}
	}
	return m, api.OK
}

// normal is the angle from 0 to 255 that differs from a by whole turns.
func normal(a int) int { return (a%256 + 256) % 256 }

// mirrorOfPose is the definition of P19.6.
func mirrorOfPose(p api.Pose) (api.Pose, api.Errno) {
	if err := valid(p); err != api.OK {
		return api.Pose{}, err
	}
	m := api.Pose{At: api.Point{X: -p.At.X, Y: p.At.Y}, Facing: normal(-p.Facing), Lift: p.Lift}
	for limb, other := range swaps {
		a := p.Aims[other]
		m.Aims[limb] = api.Aim{Az: normal(-a.Az), El: a.El, Bend: a.Bend}
	}
	return m, api.OK
}

// single is how many single quarters clockwise, 0 to 3, turn as far as the quarters.
func single(quarters int) int { return (quarters%4 + 4) % 4 }

// rotationOf is the definition of P19.7 for starts: one quarter after the other.
func rotationOf(s api.Start, quarters int) (api.Start, api.Errno) {
	if err := check(s); err != api.OK {
		return api.Start{}, err
	}
	for range single(quarters) {
		s.At = api.Point{X: s.At.Y, Y: -s.At.X}
		s.Facing = []int{2, 3, 4, 5, 6, 7, 0, 1}[s.Facing]
	}
	return s, api.OK
}

// rotationOfPose is the definition of P19.7 for poses: one quarter after the other.
func rotationOfPose(p api.Pose, quarters int) (api.Pose, api.Errno) {
	if err := valid(p); err != api.OK {
		return api.Pose{}, err
	}
	for range single(quarters) {
		p.At = api.Point{X: p.At.Y, Y: -p.At.X}
		p.Facing = normal(p.Facing + 64)
	}
	return p, api.OK
}

// checkStart compares all functions that take a start with their definitions.
func checkStart(t *testing.T, s api.Start, quarters int) {
	t.Helper()
	if e, err := posture.Check(s), check(s); e != err {
		t.Fatalf("P1, P19.1: Check(%v) is %d, not %d", s, e, err)
	}
	want, err := poseOf(s)
	if p, e := posture.Pose(s); p != want || e != err {
		t.Fatalf("P1, P19.2: Pose(%v) is %v, %d, not %v, %d", s, p, e, want, err)
	}
	mirror, err := mirrorOf(s)
	if m, e := posture.Mirror(s); m != mirror || e != err {
		t.Fatalf("P1, P19.5: Mirror(%v) is %v, %d, not %v, %d", s, m, e, mirror, err)
	}
	rotation, err := rotationOf(s, quarters)
	if r, e := posture.Rotate(s, quarters); r != rotation || e != err {
		t.Fatalf("P1, P19.7: Rotate(%v, %d) is %v, %d, not %v, %d", s, quarters, r, e, rotation, err)
	}
}

// checkPose compares all functions that take a pose with their definitions.
func checkPose(t *testing.T, p api.Pose, support, quarters int) {
	t.Helper()
	if e, err := posture.Valid(p), valid(p); e != err {
		t.Fatalf("P1, P19.3: Valid(%v) is %d, not %d", p, e, err)
	}
	start, err := notated(p, support)
	if s, e := posture.Notate(p, support); s != start || e != err {
		t.Fatalf("P1, P19.4: Notate(%v, %d) is %v, %d, not %v, %d", p, support, s, e, start, err)
	}
	mirror, err := mirrorOfPose(p)
	if m, e := posture.MirrorPose(p); m != mirror || e != err {
		t.Fatalf("P1, P19.6: MirrorPose(%v) is %v, %d, not %v, %d", p, m, e, mirror, err)
	}
	rotation, err := rotationOfPose(p, quarters)
	if r, e := posture.RotatePose(p, quarters); r != rotation || e != err {
		t.Fatalf("P1, P19.7: RotatePose(%v, %d) is %v, %d, not %v, %d", p, quarters, r, e, rotation, err)
	}
}

// checkStartError tries that each function with a start returns the error, and then nothing else.
func checkStartError(t *testing.T, s api.Start, err api.Errno) {
	t.Helper()
	if e := check(s); e != err {
		t.Fatalf("the definition of P19.1 has %d for %v, not %d", e, s, err)
	}
	for _, quarters := range []int{0, 1, -1, math.MinInt, math.MaxInt} {
		checkStart(t, s, quarters)
	}
}

// checkPoseError tries that each function with a pose returns the error, and then nothing else.
func checkPoseError(t *testing.T, p api.Pose, err api.Errno) {
	t.Helper()
	if e := valid(p); e != err {
		t.Fatalf("the definition of P19.3 has %d for %v, not %d", e, p, err)
	}
	for _, n := range []int{0, 1, 2, 3, 4, -1, math.MinInt, math.MaxInt} {
		checkPose(t, p, n, n)
	}
}

// checkNotateError tries an error of Notate for a pose that is valid.
func checkNotateError(t *testing.T, p api.Pose, support int, err api.Errno) {
	t.Helper()
	if e := posture.Valid(p); e != api.OK {
		t.Fatalf("P19.3: Valid(%v) is %d", p, e)
	}
	if s, e := posture.Notate(p, support); s != (api.Start{}) || e != err {
		t.Fatalf("P19.4: Notate(%v, %d) is %v, %d, not the error %d", p, support, s, e, err)
	}
}

// someTarget is a target that the limb may have.
func someTarget(random *rand.Rand, limb int) api.Target {
	for {
		target := api.Target{Dir: random.Intn(9), Level: random.Intn(3) - 1, Bend: random.Intn(7)}
		if _, err := aim.Of(limb, target); err == api.OK {
			return target
		}
	}
}

// someCoordinate is often at or next to a border.
func someCoordinate(random *rand.Rand) int {
	borders := []int{-api.MaxMM, -api.MaxMM + 1, -1, 0, 1, api.MaxMM - 1, api.MaxMM}
	if random.Intn(4) == 0 {
		return borders[random.Intn(len(borders))]
	}
	return random.Intn(2*api.MaxMM+1) - api.MaxMM
}

// someStart is a valid start.
func someStart(random *rand.Rand) api.Start {
	s := api.Start{At: api.Point{X: someCoordinate(random), Y: someCoordinate(random)}, Facing: random.Intn(8), Level: random.Intn(3) - 1, Support: 1 + random.Intn(3)}
	for limb := range s.Targets {
		s.Targets[limb] = someTarget(random, limb)
	}
	if s.Support != api.OnRight {
		s.Targets[api.LegLeft] = down
	}
	if s.Support != api.OnLeft {
		s.Targets[api.LegRight] = down
	}
	return s
}

// someAim is a valid aim, often up or down.
func someAim(random *rand.Rand) api.Aim {
	a := api.Aim{Az: random.Intn(256), El: random.Intn(129) - 64, Bend: random.Intn(7)}
	switch random.Intn(6) {
	case 0:
		a.El = 64
	case 1:
		a.El = -64
	}
	if a.El == 64 || a.El == -64 {
		a.Az = 0
	}
	return a
}

// somePose is a valid pose, which mostly has no start.
func somePose(random *rand.Rand) api.Pose {
	p := api.Pose{At: api.Point{X: someCoordinate(random), Y: someCoordinate(random)}, Facing: random.Intn(256), Lift: random.Intn(17) - 8}
	for limb := range p.Aims {
		p.Aims[limb] = someAim(random)
	}
	return p
}

// someQuarters is any integer, often a small or an extreme one.
func someQuarters(random *rand.Rand) int {
	switch random.Intn(4) {
	case 0:
		return extreme[random.Intn(len(extreme))]
	case 1:
		return int(random.Uint64())
	}
	return random.Intn(21) - 10
}

// around has the integers from least - 3 to greatest + 3, and extreme ones.
func around(least, greatest int) []int {
	all := append([]int{}, extreme...)
	for n := least - 3; n <= greatest+3; n++ {
		all = append(all, n)
	}
	return all
}

// coordinates are at, next to, and far outside of the borders.
func coordinates() []int {
	return append([]int{-32770, -32769, -32768, -32767, -1, 0, 1, 32767, 32768, 32769, 32770}, extreme...)
}

func TestExamples(t *testing.T) {
	s, p := example(), examplePose()
	if e := posture.Check(s); e != api.OK {
		t.Errorf("P19.1: Check(%v) is %d", s, e)
	}
	if q, e := posture.Pose(s); q != p || e != api.OK {
		t.Errorf("P19.2: Pose(%v) is %v, %d", s, q, e)
	}
	if e := posture.Valid(p); e != api.OK {
		t.Errorf("P19.3: Valid(%v) is %d", p, e)
	}
	if r, e := posture.Notate(p, api.OnLeft); r != s || e != api.OK {
		t.Errorf("P19.4: Notate(%v, 1) is %v, %d", p, r, e)
	}
	mirror := api.Start{At: api.Point{X: -100, Y: 300}, Facing: 7, Level: api.Low, Support: api.OnRight, Targets: [api.Limbs]api.Target{{Dir: api.Left}, down, up, down, {Dir: api.Forward, Level: api.Low, Bend: 2}, up}}
	if m, e := posture.Mirror(s); m != mirror || e != api.OK {
		t.Errorf("P19.5: Mirror(%v) is %v, %d", s, m, e)
	}
	for quarters, at := range map[int]api.Point{1: {X: 300, Y: -100}, -1: {X: -300, Y: 100}} {
		want := s
		want.At, want.Facing = at, (1+2*quarters+8)%8
		if r, e := posture.Rotate(s, quarters); r != want || e != api.OK {
			t.Errorf("P19.7: Rotate(%v, %d) is %v, %d", s, quarters, r, e)
		}
	}
}

func TestExampleErrors(t *testing.T) {
	right, none, torso := example(), example(), example()
	right.Support, none.Support, torso.Targets[api.Torso] = api.OnRight, 0, api.Target{}
	checkStartError(t, right, api.ErrWeight)
	checkStartError(t, none, api.ErrRange)
	checkStartError(t, torso, api.ErrPlace)
	p := examplePose()
	p.Facing = 33
	checkNotateError(t, p, api.OnLeft, api.ErrForm)
}

// TestTargets has every target of every limb, and those next to them, with every support.
func TestTargets(t *testing.T) {
	for _, s := range []api.Start{upright(), lifted(), example()} {
		for limb := range 6 {
			for d := -2; d <= 10; d++ {
				for level := -2; level <= 2; level++ {
					for bend := -1; bend <= 7; bend++ {
						s := s
						s.Targets[limb] = api.Target{Dir: d, Level: level, Bend: bend}
						for support := -1; support <= 5; support++ {
							s.Support = support
							checkStart(t, s, d+level)
						}
					}
				}
			}
		}
	}
}

// TestStartRanges has each number of a start at, next to, and far outside of its borders.
func TestStartRanges(t *testing.T) {
	for _, s := range []api.Start{upright(), lifted(), example()} {
		for _, n := range coordinates() {
			for _, m := range coordinates() {
				s := s
				s.At = api.Point{X: n, Y: m}
				checkStart(t, s, m)
			}
		}
		for _, facing := range around(0, 7) {
			for _, level := range around(-1, 1) {
				for _, support := range around(0, 4) {
					s := s
					s.Facing, s.Level, s.Support = facing, level, support
					checkStart(t, s, facing)
				}
			}
		}
		for limb := range 6 {
			for _, n := range extreme {
				for _, target := range []api.Target{{Dir: n, Level: 1}, {Dir: 1, Level: n}, {Dir: 1, Bend: n}} {
					s := s
					s.Targets[limb] = target
					checkStartError(t, s, api.ErrRange)
				}
			}
		}
	}
}

// TestStartOrder has starts with several errors.
func TestStartOrder(t *testing.T) {
	ranged, placed := api.Target{Dir: api.Left, Bend: 7}, api.Target{}
	for limb := range 6 {
		for _, change := range []func(s *api.Start){
			func(s *api.Start) { s.At.X = 32769 },
			func(s *api.Start) { s.At.Y = -32769 },
			func(s *api.Start) { s.Facing = 8 },
			func(s *api.Start) { s.Level = 2 },
			func(s *api.Start) { s.Support = 0 },
			func(s *api.Start) { s.Support = 4 },
		} {
			s := upright()
			s.Targets[limb] = placed
			checkStartError(t, s, api.ErrPlace)
			change(&s)
			checkStartError(t, s, api.ErrRange)
		}
		for later := limb + 1; later < 6; later++ {
			s := lifted()
			s.Targets[limb], s.Targets[later] = ranged, placed
			checkStartError(t, s, api.ErrRange)
			s.Targets[limb], s.Targets[later] = placed, ranged
			checkStartError(t, s, api.ErrPlace)
		}
	}
}

// TestWeight has every target of both legs with every support.
func TestWeight(t *testing.T) {
	for support := 1; support <= 3; support++ {
		for _, leg := range []int{api.LegLeft, api.LegRight} {
			for _, target := range []api.Target{{Dir: api.Place, Level: api.Low, Bend: 1}, {Dir: api.Place, Level: api.Low, Bend: 6}, {Dir: api.Place, Level: api.High}, {Dir: api.Forward, Level: api.Low}, {Dir: api.ForwardLeft, Level: api.Low}} {
				s := upright()
				s.Support, s.Targets[leg] = support, target
				if support == api.OnLeft && leg == api.LegRight || support == api.OnRight && leg == api.LegLeft {
					checkStartError(t, s, api.OK)
					continue
				}
				checkStartError(t, s, api.ErrWeight)
			}
		}
		s := lifted()
		s.Support = support
		checkStartError(t, s, api.ErrWeight)
	}
}

// TestPoseRanges has each number of a pose at, next to, and far outside of its borders.
func TestPoseRanges(t *testing.T) {
	for _, s := range []api.Start{upright(), example()} {
		p, _ := poseOf(s)
		for _, n := range coordinates() {
			for _, m := range coordinates() {
				p := p
				p.At = api.Point{X: n, Y: m}
				checkPose(t, p, s.Support, m)
			}
		}
		for _, facing := range around(0, 255) {
			for _, lift := range around(-8, 8) {
				p := p
				p.Facing, p.Lift = facing, lift
				checkPose(t, p, s.Support, lift)
			}
		}
		for _, support := range around(0, 4) {
			checkPose(t, p, support, support)
		}
	}
}

// TestAims has every elevation of every limb, with azimuths and bends at and beyond their borders.
func TestAims(t *testing.T) {
	azimuths := append([]int{-32, -1, 0, 1, 31, 32, 33, 64, 96, 128, 160, 192, 224, 225, 254, 255, 256}, extreme...)
	for _, s := range []api.Start{upright(), example()} {
		for limb := range 6 {
			for el := -66; el <= 66; el++ {
				for i, az := range azimuths {
					for bend := -1; bend <= 7; bend++ {
						p, _ := poseOf(s)
						p.Aims[limb] = api.Aim{Az: az, El: el, Bend: bend}
						checkPose(t, p, 1+(i+bend+1)%3, el)
					}
				}
			}
			for _, n := range extreme {
				for _, a := range []api.Aim{{El: n}, {Az: n, El: n}, {Bend: n}, {Az: n, El: n, Bend: n}, {Az: 32, El: 32, Bend: n}} {
					p, _ := poseOf(s)
					p.Aims[limb] = a
					checkPoseError(t, p, api.ErrRange)
				}
			}
		}
	}
}

// TestPoseOrder has poses with several errors.
func TestPoseOrder(t *testing.T) {
	ranged, formed := api.Aim{Bend: 7}, api.Aim{Az: 32, El: 64}
	for limb := range 6 {
		for _, change := range []func(p *api.Pose){
			func(p *api.Pose) { p.At.X = -32769 },
			func(p *api.Pose) { p.At.Y = 32769 },
			func(p *api.Pose) { p.Facing = 256 },
			func(p *api.Pose) { p.Facing = -32 },
			func(p *api.Pose) { p.Lift = 16 },
			func(p *api.Pose) { p.Lift = -9 },
		} {
			p := examplePose()
			p.Aims[limb] = formed
			checkPoseError(t, p, api.ErrForm)
			change(&p)
			checkPoseError(t, p, api.ErrRange)
		}
		for later := limb + 1; later < 6; later++ {
			p := examplePose()
			p.Aims[limb], p.Aims[later] = ranged, formed
			checkPoseError(t, p, api.ErrRange)
			p.Aims[limb], p.Aims[later] = formed, ranged
			checkPoseError(t, p, api.ErrForm)
		}
	}
}

// TestNotateOrder has poses that are valid and have several reasons why they have no start.
func TestNotateOrder(t *testing.T) {
	for _, change := range []func(p *api.Pose){
		func(p *api.Pose) { p.Facing = 16 },
		func(p *api.Pose) { p.Lift = 4 },
		func(p *api.Pose) { p.Lift = -7 },
		func(p *api.Pose) { p.Aims[api.LegLeft] = api.Aim{Az: 1} },
		func(p *api.Pose) { p.Aims[api.Torso] = api.Aim{El: -64} },
		func(p *api.Pose) { p.Aims[api.Head] = api.Aim{El: -64} },
		func(p *api.Pose) { p.Aims[api.ArmRight] = api.Aim{El: 16} },
	} {
		p := examplePose()
		checkNotateError(t, p, 0, api.ErrRange)
		checkNotateError(t, p, 4, api.ErrRange)
		checkNotateError(t, p, api.OnRight, api.ErrWeight)
		change(&p)
		for _, support := range append([]int{0, 1, 2, 3, 4}, extreme...) {
			checkNotateError(t, p, support, api.ErrForm)
		}
		// What is not valid comes before all.
		p.Aims[api.Head].Bend = 7
		checkPoseError(t, p, api.ErrRange)
	}
}

// TestRandom compares all functions with their definitions, for valid arguments and for such with one change.
func TestRandom(t *testing.T) {
	random := rand.New(rand.NewSource(19))
	for range 200000 {
		s, p, quarters := someStart(random), somePose(random), someQuarters(random)
		checkStartError(t, s, api.OK)
		checkStart(t, s, quarters)
		checkPose(t, p, random.Intn(5), quarters)
		pose, _ := poseOf(s)
		checkPose(t, pose, s.Support, quarters)
		limb := random.Intn(6)
		pose.Aims[limb] = someAim(random)
		checkPose(t, pose, s.Support, quarters)
		s.Targets[limb] = api.Target{Dir: random.Intn(10), Level: random.Intn(4) - 2, Bend: random.Intn(8)}
		checkStart(t, s, quarters)
	}
}

// TestRotations has every facing with every small number of quarters and extreme ones.
func TestRotations(t *testing.T) {
	s, p := example(), examplePose()
	for _, quarters := range around(-20, 20) {
		for facing := range 256 {
			s.Facing, p.Facing = facing%8, facing
			for _, at := range []api.Point{{}, {X: 32768, Y: -32768}, {X: -7, Y: 12345}, {X: 32767, Y: 1}} {
				s.At, p.At = at, at
				checkStart(t, s, quarters)
				checkPose(t, p, api.OnLeft, quarters)
			}
		}
	}
}

// TestNotation tries P19.8.
func TestNotation(t *testing.T) {
	random := rand.New(rand.NewSource(198))
	found := 0
	for range 100000 {
		s := someStart(random)
		p, err := posture.Pose(s)
		if e := posture.Valid(p); err != api.OK || e != api.OK {
			t.Fatalf("P19.8: Pose(%v) is %v, %d, and Valid of it %d", s, p, err, e)
		}
		if back, e := posture.Notate(p, s.Support); back != s || e != api.OK {
			t.Fatalf("P19.8: Notate(%v, %d) is %v, %d, not %v", p, s.Support, back, e, s)
		}
		for limb := range p.Aims {
			if random.Intn(8) == 0 {
				p.Aims[limb] = api.Aim{Az: 16 * random.Intn(16), El: 32 * (random.Intn(5) - 2), Bend: random.Intn(7)}
			}
		}
		p.Facing, p.Lift = 16*random.Intn(16), 4*(random.Intn(5)-2)
		start, err := posture.Notate(p, 1+random.Intn(3))
		if err != api.OK {
			continue
		}
		found++
		if back, e := posture.Pose(start); back != p || e != api.OK {
			t.Fatalf("P19.8: Pose(%v) is %v, %d, not %v", start, back, e, p)
		}
	}
	if found == 0 {
		t.Error("P19.8: no pose was notated")
	}
}

func mirrorStart(t *testing.T, s api.Start) api.Start {
	t.Helper()
	m, err := posture.Mirror(s)
	if e := posture.Check(m); err != api.OK || e != api.OK {
		t.Fatalf("P19.9: Mirror(%v) is %v, %d, and Check of it %d", s, m, err, e)
	}
	return m
}

func mirrorPose(t *testing.T, p api.Pose) api.Pose {
	t.Helper()
	m, err := posture.MirrorPose(p)
	if e := posture.Valid(m); err != api.OK || e != api.OK {
		t.Fatalf("P19.9: MirrorPose(%v) is %v, %d, and Valid of it %d", p, m, err, e)
	}
	return m
}

func rotateStart(t *testing.T, s api.Start, quarters int) api.Start {
	t.Helper()
	r, err := posture.Rotate(s, quarters)
	if e := posture.Check(r); err != api.OK || e != api.OK {
		t.Fatalf("P19.9: Rotate(%v, %d) is %v, %d, and Check of it %d", s, quarters, r, err, e)
	}
	return r
}

func rotatePose(t *testing.T, p api.Pose, quarters int) api.Pose {
	t.Helper()
	r, err := posture.RotatePose(p, quarters)
	if e := posture.Valid(r); err != api.OK || e != api.OK {
		t.Fatalf("P19.9: RotatePose(%v, %d) is %v, %d, and Valid of it %d", p, quarters, r, err, e)
	}
	return r
}

func pose(t *testing.T, s api.Start) api.Pose {
	t.Helper()
	p, err := posture.Pose(s)
	if err != api.OK {
		t.Fatalf("P19.2: Pose(%v) is %v, %d", s, p, err)
	}
	return p
}

// TestStartSymmetries tries P19.9 for starts and their poses.
func TestStartSymmetries(t *testing.T) {
	random := rand.New(rand.NewSource(199))
	for range 100000 {
		// The sum of two such numbers does not wrap around.
		s, a, b := someStart(random), someQuarters(random)/2, someQuarters(random)/2
		if m := mirrorStart(t, mirrorStart(t, s)); m != s {
			t.Fatalf("P19.9: twice mirrored, %v is %v", s, m)
		}
		if r, one := rotateStart(t, rotateStart(t, s, a), b), rotateStart(t, s, a+b); r != one {
			t.Fatalf("P19.9: %v rotated by %d and %d is %v, by the sum %v", s, a, b, r, one)
		}
		if m, r := mirrorStart(t, rotateStart(t, s, a)), rotateStart(t, mirrorStart(t, s), -a); m != r {
			t.Fatalf("P19.9: %v rotated by %d and mirrored is %v, mirrored and rotated back %v", s, a, m, r)
		}
		if m, p := pose(t, mirrorStart(t, s)), mirrorPose(t, pose(t, s)); m != p {
			t.Fatalf("P19.9: the pose of the mirrored %v is %v, the mirrored pose %v", s, m, p)
		}
		if r, p := pose(t, rotateStart(t, s, a)), rotatePose(t, pose(t, s), a); r != p {
			t.Fatalf("P19.9: the pose of %v, rotated by %d, is %v, the rotated pose %v", s, a, r, p)
		}
	}
}

// TestPoseSymmetries tries P19.9 for poses.
func TestPoseSymmetries(t *testing.T) {
	random := rand.New(rand.NewSource(1990))
	for range 100000 {
		p, a, b := somePose(random), someQuarters(random)/2, someQuarters(random)/2
		if m := mirrorPose(t, mirrorPose(t, p)); m != p {
			t.Fatalf("P19.9: twice mirrored, %v is %v", p, m)
		}
		if r, one := rotatePose(t, rotatePose(t, p, a), b), rotatePose(t, p, a+b); r != one {
			t.Fatalf("P19.9: %v rotated by %d and %d is %v, by the sum %v", p, a, b, r, one)
		}
		if m, r := mirrorPose(t, rotatePose(t, p, a)), rotatePose(t, mirrorPose(t, p), -a); m != r {
			t.Fatalf("P19.9: %v rotated by %d and mirrored is %v, mirrored and rotated back %v", p, a, m, r)
		}
	}
}

// TestLowerLayers tries that limbs and directions are exchanged as the lower layers say.
func TestLowerLayers(t *testing.T) {
	for limb, other := range swaps {
		if n, err := aim.Swap(limb); n != other || err != api.OK {
			t.Errorf("P18.6: Swap(%d) is %d, %d", limb, n, err)
		}
	}
	for d, other := range mirrors {
		if n, err := dir.Mirror(d); n != other || err != api.OK {
			t.Errorf("P16.2: Mirror(%d) is %d, %d", d, n, err)
		}
	}
}
