package balance_test

import (
	"math"
	"math/big"
	"math/rand"
	"slices"
	"testing"

	"dancestudio/api"
	"dancestudio/balance"
	"dancestudio/build"
	"dancestudio/joints"
	"dancestudio/posture"
)

// extreme are integers far outside all bounds.
var extreme = []int{math.MinInt, math.MinInt + 1, math.MinInt + 3, -1 << 62, -1 << 50, -1 << 32, -1<<32 + 1, -1 << 31, -1 << 20, 1 << 20, 1 << 31, 1 << 32, 1<<32 + 1, 1 << 50, 1 << 62, math.MaxInt - 1, math.MaxInt}

// body is the body of the chapter's examples.
func body() api.Build {
	return api.Build{Leg: 800, Torso: 500, Neck: 200, Arm: 600, Hip: 100, Shoulder: 200, Step: 600, Drop: 100, Rise: 50, Foot: 100, Radius: 300, Masses: [4]int{30000, 5000, 4000, 10000}}
}

func least() api.Build {
	return api.Build{Leg: 400, Torso: 200, Neck: 50, Arm: 200, Hip: 20, Shoulder: 50, Step: 100, Foot: 20, Radius: 100, Masses: [4]int{1, 1, 1, 1}}
}

func greatest() api.Build {
	return api.Build{Leg: 1500, Torso: 1000, Neck: 500, Arm: 1200, Hip: 300, Shoulder: 400, Step: 1200, Drop: 200, Rise: 200, Foot: 300, Radius: 1000, Masses: [4]int{200000, 200000, 200000, 200000}}
}

// upright is the pose of the chapter's examples.
func upright() api.Pose {
	down, up := api.Aim{El: -64}, api.Aim{El: 64}
	return api.Pose{Aims: [api.Limbs]api.Aim{down, down, up, down, down, up}}
}

// pointing is the pose of example 3.
func pointing() api.Pose {
	p := upright()
	p.Aims[api.ArmRight] = api.Aim{Az: 64}
	return p
}

// toFront is a pose at the border of the coordinates, whose limbs all point further out.
func toFront() api.Pose {
	return api.Pose{At: api.Point{X: 32768, Y: 32768}}
}

// slanted is a pose whose limbs point in six different directions.
func slanted() api.Pose {
	return api.Pose{At: api.Point{X: 1234, Y: -567}, Facing: 37, Lift: 3, Aims: [api.Limbs]api.Aim{{Az: 200, El: -40, Bend: 1}, {Az: 60, El: -30, Bend: 2}, {Az: 10, El: 50, Bend: 3}, {Az: 180, El: 5, Bend: 4}, {Az: 90, El: 20, Bend: 5}, {Az: 250, El: 33, Bend: 6}}}
}

// randomPose returns a valid pose, often one near the border of the coordinates.
func randomPose(r *rand.Rand) api.Pose {
	p := api.Pose{At: api.Point{X: r.Intn(65537) - 32768, Y: r.Intn(65537) - 32768}, Facing: r.Intn(256), Lift: r.Intn(17) - 8}
	if r.Intn(3) == 0 {
		p.At = api.Point{X: 32768 - r.Intn(3), Y: -32768 + r.Intn(3)}
	}
	// The steeper the limbs are, the more bodies are stable.
	steep := r.Intn(64)
	for limb := range p.Aims {
		a := api.Aim{Az: r.Intn(256), El: steep + r.Intn(65-steep), Bend: r.Intn(7)}
		if limb != api.Torso && limb != api.Head && r.Intn(2) == 0 {
			a.El = -a.El
		}
		if a.El == 64 || a.El == -64 {
			a.Az = 0
		}
		p.Aims[limb] = a
	}
	return p
}

// randomBody returns a valid body, often one of a few grams, whose centre lies often between two millimetres.
func randomBody(r *rand.Rand) api.Build {
	between := func(a, b int) int { return a + r.Intn(b-a+1) }
	heaviest := []int{1, 2, 3, 200000}[r.Intn(4)]
	mass := func() int { return between(1, heaviest) }
	return api.Build{Leg: between(400, 1500), Torso: between(200, 1000), Neck: between(50, 500), Arm: between(200, 1200), Hip: between(20, 300), Shoulder: between(50, 400), Step: between(100, 1200), Drop: between(0, 200), Rise: between(0, 200), Foot: between(20, 300), Radius: between(100, 1000), Masses: [4]int{mass(), mass(), mass(), mass()}}
}

// rounded is n / d, of two equally near integers the even one, and whether there are two.
func rounded(n, d int) (int, bool) {
	twice := new(big.Int).Mul(big.NewInt(int64(n)), big.NewInt(2))
	below, rest := new(big.Int).DivMod(twice.Add(twice, big.NewInt(int64(d))), big.NewInt(int64(2*d)), new(big.Int))
	isHalf := rest.Sign() == 0
	if isHalf && below.Bit(0) == 1 {
		return int(below.Int64()) - 1, true
	}
	return int(below.Int64()), isHalf
}

// centerOf is the definition of P21.1, for a valid body, and how many of both quotients are halves.
func centerOf(b api.Build, j api.Joints) (api.Point, int) {
	torso, head, arm, leg := b.Masses[0], b.Masses[1], b.Masses[2], b.Masses[3]
	mass := torso + head + arm + arm + leg + leg
	x := torso*(j.Hip.X+j.Neck.X) + head*(j.Neck.X+j.Head.X)
	x += arm * (j.Shoulders[0].X + j.Hands[0].X + j.Shoulders[1].X + j.Hands[1].X)
	x += leg * (j.Hips[0].X + j.Feet[0].X + j.Hips[1].X + j.Feet[1].X)
	y := torso*(j.Hip.Y+j.Neck.Y) + head*(j.Neck.Y+j.Head.Y)
	y += arm * (j.Shoulders[0].Y + j.Hands[0].Y + j.Shoulders[1].Y + j.Hands[1].Y)
	y += leg * (j.Hips[0].Y + j.Feet[0].Y + j.Hips[1].Y + j.Feet[1].Y)
	var c api.Point
	var halfX, halfY bool
	c.X, halfX = rounded(x, 2*mass)
	c.Y, halfY = rounded(y, 2*mass)
	halves := 0
	for _, half := range []bool{halfX, halfY} {
		if half {
			halves++
		}
	}
	return c, halves
}

func rat(n int) *big.Rat { return big.NewRat(int64(n), 1) }

// along is a + t * (b - a).
func along(a, b int, t *big.Rat) *big.Rat {
	way := new(big.Rat).Mul(t, rat(b-a))
	return way.Add(way, rat(a))
}

// distanceOf is the definition of the distance of c from the base, rounded up.
func distanceOf(c api.Point, j api.Joints, support int) int {
	from, to := j.Feet[0], j.Feet[1]
	switch support {
	case 1:
		to = from
	case 2:
		from = to
	}
	t := rat(0)
	if wayX, wayY := to.X-from.X, to.Y-from.Y; wayX != 0 || wayY != 0 {
		t = big.NewRat(int64(wayX*(c.X-from.X)+wayY*(c.Y-from.Y)), int64(wayX*wayX+wayY*wayY))
	}
	if t.Sign() < 0 {
		t = rat(0)
	}
	if t.Cmp(rat(1)) > 0 {
		t = rat(1)
	}
	x, y := along(from.X-c.X, to.X-c.X, t), along(from.Y-c.Y, to.Y-c.Y, t)
	square := new(big.Rat).Add(x.Mul(x, x), y.Mul(y, y))
	n := 0
	for square.Cmp(rat(n*n)) > 0 {
		n++
	}
	return n
}

// counts says how many cases of each kind were tried.
type counts struct{ halves, stable, unstable, air, wrong int }

// check compares Center, Stable and Margin with their definitions.
func check(t *testing.T, b api.Build, p api.Pose, support int, n *counts) {
	t.Helper()
	j, err := joints.Of(b, p, support)
	var center api.Point
	stable, margin, failure := false, 0, err
	switch {
	case err != api.OK:
		n.wrong++
	case support == 0:
		n.air++
		center, _ = centerOf(b, j)
		stable, failure = true, api.ErrAir
	default:
		var halves int
		center, halves = centerOf(b, j)
		n.halves += halves
		distance := distanceOf(center, j, support)
		if distance <= b.Foot {
			stable, margin = true, b.Foot-distance
			n.stable++
		} else {
			failure = api.ErrBalance
			n.unstable++
		}
	}
	if c, e := balance.Center(b, p, support); c != center || e != err {
		t.Fatalf("P1, P21.1: Center(%v, %v, %d) is %v, %d, not %v, %d", b, p, support, c, e, center, err)
	}
	if s, e := balance.Stable(b, p, support); s != stable || e != err {
		t.Fatalf("P1, P21.2: Stable(%v, %v, %d) is %v, %d, not %v, %d", b, p, support, s, e, stable, err)
	}
	if m, e := balance.Margin(b, p, support); m != margin || e != failure {
		t.Fatalf("P1, P21.3: Margin(%v, %v, %d) is %d, %d, not %d, %d", b, p, support, m, e, margin, failure)
	}
}

func TestRandomBodies(t *testing.T) {
	r := rand.New(rand.NewSource(21))
	var n counts
	for range 15000 {
		check(t, randomBody(r), randomPose(r), r.Intn(6)-1, &n)
	}
	if n.halves < 500 || min(n.stable, n.unstable, n.air, n.wrong) < 1000 {
		t.Errorf("P21.1 to P21.3: too few cases of a kind were tried: %v", n)
	}
}

// TestPartsOfTheBody moves each limb alone, with masses that differ, so that each mass belongs to one part.
func TestPartsOfTheBody(t *testing.T) {
	var n counts
	for limb := range api.Limbs {
		for az := range 256 {
			p := upright()
			p.Aims[limb] = api.Aim{Az: az, El: az%127 - 63, Bend: az % 7}
			p.Facing = 255 - az
			for support := range 4 {
				b := body()
				b.Masses = [4]int{101, 211, 307, 401}
				check(t, b, p, support, &n)
				check(t, least(), p, support, &n)
				check(t, greatest(), p, support, &n)
			}
		}
	}
}

// TestFeet has every foot and every distance of the hip joints, so that the centre lies next to each border.
func TestFeet(t *testing.T) {
	var n counts
	poses := []api.Pose{upright(), pointing(), slanted(), toFront()}
	for foot := 19; foot <= 301; foot++ {
		for _, hip := range []int{20, 21, 60, 99, 100, 101, 300} {
			b := body()
			b.Foot, b.Hip = foot, hip
			for i, p := range poses {
				p.Facing = foot % 256
				check(t, b, p, (foot+i)%4, &n)
			}
			check(t, b, upright(), 1, &n)
			check(t, b, upright(), 2, &n)
		}
	}
}

// TestBorders makes the foot just as large as it must be, and one millimetre too small.
func TestBorders(t *testing.T) {
	r := rand.New(rand.NewSource(22))
	tried := 0
	for range 15000 {
		b, p, support := randomBody(r), randomPose(r), 1+r.Intn(3)
		j, _ := joints.Of(b, p, support)
		c, _ := centerOf(b, j)
		b.Foot = distanceOf(c, j, support)
		if b.Foot <= 20 || b.Foot > 300 {
			continue
		}
		tried++
		s, _ := balance.Stable(b, p, support)
		if m, err := balance.Margin(b, p, support); !s || m != 0 || err != api.OK {
			t.Fatalf("P21.2, P21.3: with just enough foot %v, %v, %d is stable: %v, with the margin %d, %d", b, p, support, s, m, err)
		}
		b.Foot--
		s, _ = balance.Stable(b, p, support)
		if m, err := balance.Margin(b, p, support); s || m != 0 || err != api.ErrBalance {
			t.Fatalf("P21.2, P21.3: without enough foot %v, %v, %d is stable: %v, with the margin %d, %d", b, p, support, s, m, err)
		}
	}
	if tried < 3000 {
		t.Errorf("P21.2, P21.3: only %d borders were tried", tried)
	}
}

// TestHalves has centres in the middle of two integers: the whole body is symmetrical but for one arm.
func TestHalves(t *testing.T) {
	b := body()
	// The arm reaches 600 to the side: the centre is at 600 * arm / (2 * mass), with a mass of 600 at arm / 2.
	for arm, want := range map[int]int{1: 0, 3: 2, 5: 2, 7: 4, 9: 4, 99: 50, 101: 50} {
		b.Masses = [4]int{600 - 2*arm - 2*100 - 50, 50, arm, 100}
		for facing, c := range map[int]api.Point{0: {X: want}, 64: {Y: -want}, 128: {X: -want}, 192: {Y: want}} {
			p := pointing()
			p.Facing = facing
			if got, err := balance.Center(b, p, 3); got != c || err != api.OK {
				t.Errorf("P21.1: with an arm of %d grams and the facing %d the centre is %v, %d, not %v", arm, facing, got, err, c)
			}
		}
	}
}

// TestPlacesBeyond has feet and centres that are farther from the origin than MaxMM.
func TestPlacesBeyond(t *testing.T) {
	var n counts
	for _, x := range []int{-32768, 32768} {
		for _, y := range []int{-32768, 32768} {
			for facing := 0; facing < 256; facing += 5 {
				for support := range 4 {
					for _, p := range []api.Pose{upright(), pointing(), toFront()} {
						p.At, p.Facing = api.Point{X: x, Y: y}, facing
						check(t, body(), p, support, &n)
						check(t, greatest(), p, support, &n)
					}
				}
			}
		}
	}
	if min(n.stable, n.unstable) < 1000 {
		t.Errorf("P21.2, P21.3: too few cases were tried: %v", n)
	}
}

// fields points to the lengths and the masses of a body.
func fields(b *api.Build) []*int {
	all := []*int{&b.Leg, &b.Torso, &b.Neck, &b.Arm, &b.Hip, &b.Shoulder, &b.Step, &b.Drop, &b.Rise, &b.Foot, &b.Radius}
	for i := range b.Masses {
		all = append(all, &b.Masses[i])
	}
	return all
}

// numbers points to the numbers of a pose.
func numbers(p *api.Pose) []*int {
	all := []*int{&p.At.X, &p.At.Y, &p.Facing, &p.Lift}
	for limb := range p.Aims {
		a := &p.Aims[limb]
		all = append(all, &a.Az, &a.El, &a.Bend)
	}
	return all
}

func TestExtremes(t *testing.T) {
	var n counts
	for _, value := range append([]int{-32769, -32768, -65, -64, -1, 0, 1, 64, 65, 255, 256, 32768, 32769, 200000, 200001}, extreme...) {
		for i := range fields(&api.Build{}) {
			b := body()
			*fields(&b)[i] = value
			check(t, b, slanted(), 1, &n)
		}
		for i := range numbers(&api.Pose{}) {
			p := slanted()
			*numbers(&p)[i] = value
			check(t, body(), p, 2, &n)
		}
		check(t, body(), slanted(), value, &n)
	}
}

func TestErrorsInOrder(t *testing.T) {
	wide, twisted := upright(), upright()
	wide.At.X = 32769
	twisted.Aims[api.Head].Az = 1
	short, light := body(), body()
	short.Arm, light.Masses[3] = 199, 0
	for i, c := range []struct {
		b       api.Build
		p       api.Pose
		support int
		err     api.Errno
	}{
		{api.Build{}, upright(), 3, api.ErrBuild},
		{short, wide, 4, api.ErrBuild},
		{light, twisted, 0, api.ErrBuild},
		{body(), wide, 0, api.ErrRange},
		{body(), twisted, 4, api.ErrForm},
		{body(), twisted, 0, api.ErrForm},
		{body(), toFront(), 4, api.ErrRange},
		{body(), upright(), -1, api.ErrRange},
	} {
		if p, err := balance.Center(c.b, c.p, c.support); p != (api.Point{}) || err != c.err {
			t.Errorf("P1, P21.1: case %d: Center is %v, %d, not the error %d", i, p, err, c.err)
		}
		if s, err := balance.Stable(c.b, c.p, c.support); s || err != c.err {
			t.Errorf("P1, P21.2: case %d: Stable is %v, %d, not the error %d", i, s, err, c.err)
		}
		if m, err := balance.Margin(c.b, c.p, c.support); m != 0 || err != c.err {
			t.Errorf("P1, P21.3: case %d: Margin is %d, %d, not the error %d", i, m, err, c.err)
		}
	}
}

// firstOf is the definition of P21.4.
func firstOf(b api.Build, m api.Movement) (int, api.Errno) {
	n := len(m.Supports)
	if n < 1 || len(m.Poses) != n+1 {
		return 0, api.ErrForm
	}
	all := append(slices.Clone(m.Supports), m.Supports[n-1])
	for k, p := range m.Poses {
		if _, err := joints.Of(b, p, all[k]); err != api.OK {
			return 0, err
		}
	}
	for k, p := range m.Poses {
		if stable, _ := balance.Stable(b, p, all[k]); !stable {
			return k, api.OK
		}
	}
	return -1, api.OK
}

// checkFirst compares First with its definition.
func checkFirst(t *testing.T, b api.Build, m api.Movement) int {
	t.Helper()
	before := api.Movement{Poses: slices.Clone(m.Poses), Supports: slices.Clone(m.Supports)}
	want, err := firstOf(b, m)
	k, e := balance.First(b, m)
	if k != want || e != err {
		t.Fatalf("P1, P21.4: First of %d poses with the supports %v is %d, %d, not %d, %d", len(m.Poses), m.Supports, k, e, want, err)
	}
	if !slices.Equal(m.Poses, before.Poses) || !slices.Equal(m.Supports, before.Supports) {
		t.Fatalf("P1, P21.4: First changes its argument")
	}
	return k
}

// TestFirstOfShort tries all movements of up to three ticks of a few poses and supports.
func TestFirstOfShort(t *testing.T) {
	wide, twisted := pointing(), pointing()
	wide.At.X = 32769
	twisted.Aims[api.Head].Az = 1
	kinds := []api.Pose{upright(), pointing(), wide, twisted}
	found := map[int]int{}
	for ticks := 1; ticks <= 3; ticks++ {
		for poses := range 1 << (2 * (ticks + 1)) {
			for supports := range 1 << (2 * ticks) {
				var m api.Movement
				for k := range ticks + 1 {
					m.Poses = append(m.Poses, kinds[poses>>(2*k)&3])
				}
				for k := range ticks {
					m.Supports = append(m.Supports, supports>>(2*k)&3)
				}
				found[checkFirst(t, body(), m)]++
			}
		}
	}
	for k := -1; k <= 3; k++ {
		if found[k] == 0 {
			t.Errorf("P21.4: no movement was tried whose result is %d", k)
		}
	}
}

func TestFirstOfLengths(t *testing.T) {
	for poses := range 6 {
		for supports := range 6 {
			m := api.Movement{Poses: slices.Repeat([]api.Pose{upright()}, poses), Supports: slices.Repeat([]int{1}, supports)}
			checkFirst(t, body(), m)
			checkFirst(t, api.Build{}, m)
			if poses > 0 {
				m.Poses[0].Lift = 9
				checkFirst(t, body(), m)
			}
		}
	}
	for i, m := range []api.Movement{{}, {Poses: []api.Pose{upright()}}, {Poses: []api.Pose{upright()}, Supports: []int{}}, {Supports: []int{1}}, {Poses: []api.Pose{upright(), upright(), upright()}, Supports: []int{1}}, {Poses: []api.Pose{upright()}, Supports: []int{1}}} {
		if k, err := balance.First(api.Build{}, m); k != 0 || err != api.ErrForm {
			t.Errorf("P1, P21.4: case %d: First is %d, %d, not the error ErrForm", i, k, err)
		}
	}
}

// TestFirstOfLong puts one or two other poses or supports into a long movement.
func TestFirstOfLong(t *testing.T) {
	const ticks = 100
	steady := func() api.Movement {
		return api.Movement{Poses: slices.Repeat([]api.Pose{upright()}, ticks+1), Supports: slices.Repeat([]int{1}, ticks)}
	}
	for k := range ticks + 1 {
		m := steady()
		m.Poses[k] = pointing()
		if got := checkFirst(t, body(), m); got != k {
			t.Errorf("P21.4: First is %d, not %d", got, k)
		}
		m.Poses[ticks] = pointing()
		checkFirst(t, body(), m)
		m.Poses[ticks].Facing = 256
		checkFirst(t, body(), m)
		m = steady()
		m.Poses[k].Aims[api.Torso].El = 65
		checkFirst(t, body(), m)
		m.Poses[ticks/2].Aims[api.Head].Az = 256
		checkFirst(t, body(), m)
	}
	for _, support := range append([]int{-2, -1, 0, 2, 3, 4, 5}, extreme...) {
		for _, k := range []int{0, 1, ticks - 1} {
			m := steady()
			m.Poses[k], m.Supports[k] = pointing(), support
			checkFirst(t, body(), m)
			m.Poses[0] = pointing()
			checkFirst(t, body(), m)
		}
	}
	m := api.Movement{Poses: slices.Repeat([]api.Pose{pointing()}, api.MaxTicks+2), Supports: slices.Repeat([]int{3}, api.MaxTicks+1)}
	if k := checkFirst(t, body(), m); k != -1 {
		t.Errorf("P21.4: First of a long movement is %d, not -1", k)
	}
}

func TestFirstOfRandom(t *testing.T) {
	r := rand.New(rand.NewSource(24))
	for range 3000 {
		b := randomBody(r)
		var m api.Movement
		for range 2 + r.Intn(5) {
			m.Poses = append(m.Poses, randomPose(r))
			m.Supports = append(m.Supports, r.Intn(4))
		}
		m.Supports = m.Supports[1:]
		checkFirst(t, b, m)
	}
}

// answers returns what Center, Stable and Margin return for valid arguments, with the error of Margin.
func answers(b api.Build, p api.Pose, support int) (api.Point, bool, int, api.Errno) {
	c, _ := balance.Center(b, p, support)
	s, _ := balance.Stable(b, p, support)
	m, err := balance.Margin(b, p, support)
	return c, s, m, err
}

func TestSymmetries(t *testing.T) {
	r := rand.New(rand.NewSource(25))
	for range 5000 {
		b, p, support := randomBody(r), randomPose(r), r.Intn(4)
		c, s, m, err := answers(b, p, support)
		mirror, _ := posture.MirrorPose(p)
		c2, s2, m2, err2 := answers(b, mirror, []int{0, 2, 1, 3}[support])
		if c2 != (api.Point{X: -c.X, Y: c.Y}) || s2 != s || m2 != m || err2 != err {
			t.Fatalf("P21.5: the mirror image of %v, %v, %d has %v, %v, %d, %d", b, p, support, c2, s2, m2, err2)
		}
		turned, _ := posture.RotatePose(p, 1)
		c2, s2, m2, err2 = answers(b, turned, support)
		if c2 != (api.Point{X: c.Y, Y: -c.X}) || s2 != s || m2 != m || err2 != err {
			t.Fatalf("P21.5: %v, %v, %d, turned by a quarter, has %v, %v, %d, %d", b, p, support, c2, s2, m2, err2)
		}
		way := api.Point{X: r.Intn(16000)*2 - p.At.X&^1, Y: -r.Intn(16000)*2 - p.At.Y&^1}
		moved := p
		moved.At = api.Point{X: p.At.X + way.X, Y: p.At.Y + way.Y}
		c2, s2, m2, err2 = answers(b, moved, support)
		if c2 != (api.Point{X: c.X + way.X, Y: c.Y + way.Y}) || s2 != s || m2 != m || err2 != err {
			t.Fatalf("P21.6: %v, %v, %d, moved by %v, has %v, %v, %d, %d", b, p, support, way, c2, s2, m2, err2)
		}
	}
}

func TestLargerFeet(t *testing.T) {
	r := rand.New(rand.NewSource(26))
	for range 3000 {
		b, p, support := randomBody(r), randomPose(r), 1+r.Intn(3)
		stable, margin := false, 0
		for b.Foot = 20; b.Foot <= 300; b.Foot += 1 + r.Intn(20) {
			s, _ := balance.Stable(b, p, support)
			if stable && !s {
				t.Fatalf("P21.7: %v, %v, %d is not stable with a larger foot", b, p, support)
			}
			stable = s
		}
		if b.Foot = 300; !stable {
			continue
		}
		margin, _ = balance.Margin(b, p, support)
		for i, want := range []bool{true, false} {
			b.Foot = 300 - margin - i
			if s, err := balance.Stable(b, p, support); build.Check(b) == api.OK && (s != want || err != api.OK) {
				t.Fatalf("P21.7: %v, %v, %d, with the margin %d of a foot of 300, is stable: %v, %d", b, p, support, margin, s, err)
			}
		}
	}
}

func TestExamples(t *testing.T) {
	for i, c := range []struct {
		p       api.Pose
		support int
		center  api.Point
		stable  bool
		margin  int
		err     api.Errno
	}{
		{upright(), 3, api.Point{}, true, 100, api.OK},
		{upright(), 1, api.Point{}, true, 0, api.OK},
		{upright(), 2, api.Point{}, true, 0, api.OK},
		{pointing(), 3, api.Point{X: 19}, true, 100, api.OK},
		{pointing(), 1, api.Point{X: 19}, false, 0, api.ErrBalance},
		{pointing(), 2, api.Point{X: 19}, true, 19, api.OK},
		{upright(), 0, api.Point{}, true, 0, api.ErrAir},
	} {
		if center, s, m, err := answers(body(), c.p, c.support); center != c.center || s != c.stable || m != c.margin || err != c.err {
			t.Errorf("P21.1 to P21.3: example %d is %v, %v, %d, %d", i, center, s, m, err)
		}
	}
}
