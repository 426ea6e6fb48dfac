package joints_test

import (
	"math"
	"math/rand"
	"testing"

	"dancestudio/aim"
	"dancestudio/angle"
	"dancestudio/api"
	"dancestudio/build"
	"dancestudio/joints"
	"dancestudio/posture"
)

// extreme are integers far outside all bounds.
var extreme = []int{math.MinInt, math.MinInt + 1, math.MinInt + 3, -1 << 62, -1 << 50, -1 << 32, -1<<32 + 1, -1 << 31, -1 << 20, 1 << 20, 1 << 31, 1 << 32, 1<<32 + 1, 1 << 50, 1 << 62, math.MaxInt - 1, math.MaxInt}

var (
	down = api.Aim{El: -64}
	up   = api.Aim{El: 64}
)

func vec(x, y, z int) api.Vec { return api.Vec{X: x, Y: y, Z: z} }

func plus(a, b api.Vec) api.Vec { return vec(a.X+b.X, a.Y+b.Y, a.Z+b.Z) }

// body is the body of the chapter's examples.
func body() api.Build {
	return api.Build{Leg: 900, Torso: 500, Neck: 150, Arm: 700, Hip: 100, Shoulder: 180, Step: 600, Drop: 80, Rise: 60, Foot: 100, Radius: 300, Masses: [4]int{30000, 5000, 3000, 10000}}
}

// odd is a body with odd lengths, so that halves occur.
func odd() api.Build {
	return api.Build{Leg: 901, Torso: 499, Neck: 151, Arm: 703, Hip: 97, Shoulder: 181, Step: 601, Drop: 83, Rise: 61, Foot: 101, Radius: 301, Masses: [4]int{1, 2, 3, 4}}
}

func least() api.Build {
	return api.Build{Leg: 400, Torso: 200, Neck: 50, Arm: 200, Hip: 20, Shoulder: 50, Step: 100, Foot: 20, Radius: 100, Masses: [4]int{1, 1, 1, 1}}
}

func greatest() api.Build {
	return api.Build{Leg: 1500, Torso: 1000, Neck: 500, Arm: 1200, Hip: 300, Shoulder: 400, Step: 1200, Drop: 200, Rise: 200, Foot: 300, Radius: 1000, Masses: [4]int{200000, 200000, 200000, 200000}}
}

func bodies() []api.Build { return []api.Build{body(), odd(), least(), greatest()} }

// upright is the pose of the chapter's examples.
func upright() api.Pose {
	return api.Pose{Aims: [api.Limbs]api.Aim{down, down, up, down, down, up}}
}

// spread is a pose whose limbs point in six different directions.
func spread() api.Pose {
	return api.Pose{At: api.Point{X: 1234, Y: -567}, Facing: 37, Lift: 3, Aims: [api.Limbs]api.Aim{{Az: 200, El: -40, Bend: 1}, {Az: 60, El: -30, Bend: 2}, {Az: 10, El: 50, Bend: 3}, {Az: 180, El: 5, Bend: 4}, {Az: 90, El: 20, Bend: 5}, {Az: 250, El: 33, Bend: 6}}}
}

// rounded is a / b, of two equally near integers the even one; b is positive.
func rounded(a, b int) int {
	n := int(math.Floor(float64(a) / float64(b)))
	switch rest := a - n*b; {
	case 2*rest > b, 2*rest == b && n&1 == 1:
		return n + 1
	default:
		return n
	}
}

// wayAlong is the definition of the way along a limb.
func wayAlong(n int, a api.Aim, facing int) api.Vec {
	v, _ := aim.Vector(a, facing)
	k := n * (8 - a.Bend)
	return vec(rounded(k*v.X, 8*16384), rounded(k*v.Y, 8*16384), rounded(k*v.Z, 8*16384))
}

// toSide is the definition of the point to the side.
func toSide(x, facing int) api.Vec {
	p, _ := angle.Turned(api.Point{X: x}, facing)
	return vec(p.X, p.Y, 0)
}

// jointsOf is the definition of P20.1.
func jointsOf(b api.Build, p api.Pose, support int) (api.Joints, api.Errno) {
	if err := build.Check(b); err != api.OK {
		return api.Joints{}, err
	}
	if err := posture.Valid(p); err != api.OK {
		return api.Joints{}, err
	}
	if support < 0 || support > 3 {
		return api.Joints{}, api.ErrRange
	}
	f := p.Facing
	hip := vec(p.At.X, p.At.Y, b.Leg+rounded(b.Rise*p.Lift, 8))
	if p.Lift < 0 {
		hip.Z = b.Leg + rounded(b.Drop*p.Lift, 8)
	}
	neck := plus(hip, wayAlong(b.Torso, p.Aims[2], f))
	j := api.Joints{Hip: hip, Neck: neck, Head: plus(neck, wayAlong(b.Neck, p.Aims[5], f))}
	j.Hips = [2]api.Vec{plus(hip, toSide(-b.Hip, f)), plus(hip, toSide(b.Hip, f))}
	j.Shoulders = [2]api.Vec{plus(neck, toSide(-b.Shoulder, f)), plus(neck, toSide(b.Shoulder, f))}
	j.Hands = [2]api.Vec{plus(j.Shoulders[0], wayAlong(b.Arm, p.Aims[3], f)), plus(j.Shoulders[1], wayAlong(b.Arm, p.Aims[4], f))}
	j.Feet = [2]api.Vec{plus(j.Hips[0], wayAlong(b.Leg, p.Aims[0], f)), plus(j.Hips[1], wayAlong(b.Leg, p.Aims[1], f))}
	if support == 1 || support == 3 {
		j.Feet[0] = vec(j.Hips[0].X, j.Hips[0].Y, 0)
	}
	if support == 2 || support == 3 {
		j.Feet[1] = vec(j.Hips[1].X, j.Hips[1].Y, 0)
	}
	return j, api.OK
}

// checkOf compares Of with its definition.
func checkOf(t *testing.T, b api.Build, p api.Pose, support int) {
	t.Helper()
	want, err := jointsOf(b, p, support)
	if j, e := joints.Of(b, p, support); j != want || e != err {
		t.Fatalf("P1, P20.1: Of(%v, %v, %d) is %v, %d, not %v, %d", b, p, support, j, e, want, err)
	}
}

// randomAim returns a valid aim.
func randomAim(r *rand.Rand) api.Aim {
	a := api.Aim{Az: r.Intn(256), El: r.Intn(129) - 64, Bend: r.Intn(7)}
	if a.El == 64 || a.El == -64 {
		a.Az = 0
	}
	return a
}

// randomPose returns a valid pose.
func randomPose(r *rand.Rand) api.Pose {
	p := api.Pose{At: api.Point{X: r.Intn(65537) - 32768, Y: r.Intn(65537) - 32768}, Facing: r.Intn(256), Lift: r.Intn(17) - 8}
	for limb := range p.Aims {
		p.Aims[limb] = randomAim(r)
	}
	return p
}

// randomBody returns a valid body.
func randomBody(r *rand.Rand) api.Build {
	between := func(a, b int) int { return a + r.Intn(b-a+1) }
	return api.Build{Leg: between(400, 1500), Torso: between(200, 1000), Neck: between(50, 500), Arm: between(200, 1200), Hip: between(20, 300), Shoulder: between(50, 400), Step: between(100, 1200), Drop: between(0, 200), Rise: between(0, 200), Foot: between(20, 300), Radius: between(100, 1000), Masses: [4]int{between(1, 200000), between(1, 200000), between(1, 200000), between(1, 200000)}}
}

func TestAimsOfLimbs(t *testing.T) {
	for limb := range api.Limbs {
		for az := range 256 {
			for el := -64; el <= 64; el++ {
				p := spread()
				p.Aims[limb] = api.Aim{Az: az, El: el, Bend: (az + el + 64) % 7}
				checkOf(t, odd(), p, 0)
			}
		}
		for bend := -1; bend <= 7; bend++ {
			for _, b := range bodies() {
				p := spread()
				p.Aims[limb].Bend = bend
				checkOf(t, b, p, 0)
			}
		}
	}
}

func TestFacingsLiftsAndSupports(t *testing.T) {
	for _, b := range bodies() {
		for facing := -1; facing <= 256; facing++ {
			for lift := -9; lift <= 9; lift++ {
				p := spread()
				p.Facing, p.Lift = facing, lift
				checkOf(t, b, p, (facing+lift+10)%4)
			}
		}
		for support := -2; support <= 5; support++ {
			checkOf(t, b, spread(), support)
			checkOf(t, b, upright(), support)
		}
	}
}

func TestRiseAndDrop(t *testing.T) {
	for n := range 201 {
		for lift := -8; lift <= 8; lift++ {
			b, p := odd(), upright()
			b.Rise, b.Drop, p.Lift = n, 200-n, lift
			checkOf(t, b, p, 3)
			checkOf(t, b, p, 0)
		}
	}
}

// lengths points to the lengths of a body.
func lengths(b *api.Build) []*int {
	return []*int{&b.Leg, &b.Torso, &b.Neck, &b.Arm, &b.Hip, &b.Shoulder, &b.Step, &b.Drop, &b.Rise, &b.Foot, &b.Radius}
}

// numbers points to the numbers of a pose.
func numbers(p *api.Pose) []*int {
	all := []*int{&p.At.X, &p.At.Y, &p.Facing, &p.Lift}
	for limb := range p.Aims {
		a := &p.Aims[limb]
		all = append(all, &a.Az, &a.El, &a.Bend)
	}
	return all
}

func TestExtremes(t *testing.T) {
	ends := append([]int{-32769, -32768, -65, -64, 0, 64, 65, 255, 256, 32768, 32769}, extreme...)
	for _, n := range ends {
		for i := range lengths(&api.Build{}) {
			b := body()
			*lengths(&b)[i] = n
			checkOf(t, b, spread(), 1)
		}
		for i := range numbers(&api.Pose{}) {
			p := spread()
			*numbers(&p)[i] = n
			checkOf(t, odd(), p, 2)
		}
		checkOf(t, body(), spread(), n)
	}
}

func TestRandomBodies(t *testing.T) {
	r := rand.New(rand.NewSource(20))
	for range 20000 {
		checkOf(t, randomBody(r), randomPose(r), r.Intn(5))
	}
}

// TestHalves has quotients that lie in the middle of two integers.
func TestHalves(t *testing.T) {
	b, p := body(), upright()
	b.Leg, b.Rise, b.Drop = 901, 60, 60
	for lift, z := range map[int]int{1: 909, 3: 923, 5: 939, 7: 953, -1: 893, -3: 879, -5: 863, -7: 849} {
		p.Lift = lift
		if j, err := joints.Of(b, p, 3); err != api.OK || j.Hip.Z != z {
			t.Errorf("P20.1: with the lift %d the hip is at the height %d, not %d; error %d", lift, j.Hip.Z, z, err)
		}
	}
	b, p = body(), upright()
	b.Arm = 204
	for az, hand := range map[int]api.Vec{0: vec(180, 76, 1400), 64: vec(256, 0, 1400), 128: vec(180, -76, 1400), 192: vec(104, 0, 1400)} {
		p.Aims[api.ArmRight] = api.Aim{Az: az, Bend: 5}
		if j, err := joints.Of(b, p, 3); err != api.OK || j.Hands[1] != hand {
			t.Errorf("P20.1: at the azimuth %d the right hand is at %v, not %v; error %d", az, j.Hands[1], hand, err)
		}
	}
}

func TestErrorsInOrder(t *testing.T) {
	wide, high, twisted := upright(), upright(), upright()
	wide.At.X = 32769
	high.Lift = 9
	twisted.Aims[api.Head].Az = 1
	far := twisted
	far.Aims[api.Torso].Bend = 7
	short, light := body(), body()
	short.Arm, light.Masses[3] = 199, 0
	for i, c := range []struct {
		b       api.Build
		p       api.Pose
		support int
		err     api.Errno
	}{
		{short, wide, 4, api.ErrBuild},
		{light, twisted, -1, api.ErrBuild},
		{api.Build{}, upright(), 3, api.ErrBuild},
		{body(), twisted, 4, api.ErrForm},
		{body(), far, 3, api.ErrRange},
		{body(), wide, 3, api.ErrRange},
		{body(), high, 0, api.ErrRange},
		{body(), twisted, 0, api.ErrForm},
		{body(), upright(), 4, api.ErrRange},
		{body(), upright(), -1, api.ErrRange},
	} {
		if j, err := joints.Of(c.b, c.p, c.support); j != (api.Joints{}) || err != c.err {
			t.Errorf("P1, P20.1: case %d: Of is %v, %d, not the error %d", i, j, err, c.err)
		}
	}
}

// numbered returns joints with nine different places.
func numbered() api.Joints {
	place := func(n int) api.Vec { return vec(n, 10*n, 100*n) }
	pair := func(n int) [2]api.Vec { return [2]api.Vec{place(n), place(n + 1)} }
	return api.Joints{Hip: place(-1), Neck: place(3), Head: place(6), Hips: pair(-3), Shoulders: pair(-5), Hands: pair(4), Feet: pair(1)}
}

func TestEnd(t *testing.T) {
	j := numbered()
	for limb, want := range []api.Vec{j.Feet[0], j.Feet[1], j.Neck, j.Hands[0], j.Hands[1], j.Head} {
		if v, err := joints.End(j, limb); v != want || err != api.OK {
			t.Errorf("P20.2: End for the limb %d is %v, %d, not %v", limb, v, err, want)
		}
	}
	for _, limb := range append([]int{-2, -1, 6, 7, 8}, extreme...) {
		if v, err := joints.End(j, limb); v != (api.Vec{}) || err != api.ErrKind {
			t.Errorf("P1, P20.2: End for the limb %d is %v, %d, not the error ErrKind", limb, v, err)
		}
	}
}

// inside says whether all coordinates are permitted.
func inside(v api.Vec) bool {
	return max(v.X, v.Y, v.Z) <= 65536 && min(v.X, v.Y, v.Z) >= -65536
}

// checkDist2 compares Dist2 with its definition, in both directions.
func checkDist2(t *testing.T, a, b api.Vec) {
	t.Helper()
	want, err := 0, api.ErrRange
	if inside(a) && inside(b) {
		x, y, z := b.X-a.X, b.Y-a.Y, b.Z-a.Z
		want, err = x*x+y*y+z*z, api.OK
	}
	for _, pair := range [][2]api.Vec{{a, b}, {b, a}} {
		if n, e := joints.Dist2(pair[0], pair[1]); n != want || e != err {
			t.Fatalf("P1, P20.3: Dist2(%v, %v) is %d, %d, not %d, %d", pair[0], pair[1], n, e, want, err)
		}
	}
}

func TestDist2(t *testing.T) {
	ends := append([]int{-65537, -65536, -65535, -1, 0, 1, 65535, 65536, 65537}, extreme...)
	for _, n := range ends {
		for _, m := range ends {
			checkDist2(t, vec(n, 2, 3), vec(m, -5, 7))
			checkDist2(t, vec(2, n, 3), vec(-5, m, 7))
			checkDist2(t, vec(2, 3, n), vec(-5, 7, m))
			checkDist2(t, vec(n, m, 0), vec(0, n, m))
		}
	}
	r := rand.New(rand.NewSource(21))
	coordinate := func() int { return r.Intn(2*65540+1) - 65540 }
	for range 20000 {
		checkDist2(t, vec(coordinate(), coordinate(), coordinate()), vec(coordinate(), coordinate(), coordinate()))
	}
	if n, err := joints.Dist2(vec(-65536, -65536, -65536), vec(65536, 65536, 65536)); n != 3*131072*131072 || err != api.OK {
		t.Errorf("P20.3: Dist2 of opposite corners is %d, %d", n, err)
	}
}

func TestLow(t *testing.T) {
	heights := func(j *api.Joints) []*int {
		return []*int{&j.Feet[0].Z, &j.Feet[1].Z, &j.Neck.Z, &j.Hands[0].Z, &j.Hands[1].Z, &j.Head.Z}
	}
	others := func(j *api.Joints) []*int {
		return []*int{&j.Hip.Z, &j.Hips[0].Z, &j.Hips[1].Z, &j.Shoulders[0].Z, &j.Shoulders[1].Z, &j.Feet[0].X, &j.Feet[1].Y, &j.Neck.X, &j.Hands[0].Y, &j.Hands[1].X, &j.Head.Y}
	}
	values := append([]int{-1000, -2, -1, 0, 1, 2, 1000}, extreme...)
	for _, common := range values {
		for _, n := range values {
			for i := range 6 {
				var j api.Joints
				for _, z := range heights(&j) {
					*z = common
				}
				*heights(&j)[i] = n
				if low := joints.Low(j); low != min(n, common) {
					t.Fatalf("P20.4: Low(%v) is %d, not %d", j, low, min(n, common))
				}
			}
		}
		for i := range 11 {
			var j api.Joints
			*others(&j)[i] = common
			if low := joints.Low(j); low != 0 {
				t.Fatalf("P20.4: Low(%v) is %d, not 0", j, low)
			}
		}
	}
}

// mirrored returns the mirror image of joints.
func mirrored(j api.Joints) api.Joints {
	one := func(v api.Vec) api.Vec { return vec(-v.X, v.Y, v.Z) }
	two := func(pair [2]api.Vec) [2]api.Vec { return [2]api.Vec{one(pair[1]), one(pair[0])} }
	return api.Joints{Hip: one(j.Hip), Neck: one(j.Neck), Head: one(j.Head), Hips: two(j.Hips), Shoulders: two(j.Shoulders), Hands: two(j.Hands), Feet: two(j.Feet)}
}

// changed returns the joints with each place changed.
func changed(j api.Joints, one func(v api.Vec) api.Vec) api.Joints {
	two := func(pair [2]api.Vec) [2]api.Vec { return [2]api.Vec{one(pair[0]), one(pair[1])} }
	return api.Joints{Hip: one(j.Hip), Neck: one(j.Neck), Head: one(j.Head), Hips: two(j.Hips), Shoulders: two(j.Shoulders), Hands: two(j.Hands), Feet: two(j.Feet)}
}

func TestSymmetries(t *testing.T) {
	r := rand.New(rand.NewSource(22))
	for range 10000 {
		b, p, support := randomBody(r), randomPose(r), r.Intn(4)
		j, err := joints.Of(b, p, support)
		if err != api.OK {
			t.Fatalf("P20.1: Of(%v, %v, %d) has the error %d", b, p, support, err)
		}
		mirror, _ := posture.MirrorPose(p)
		if m, _ := joints.Of(b, mirror, []int{0, 2, 1, 3}[support]); m != mirrored(j) {
			t.Fatalf("P20.5: the joints of the mirror image of %v, %v, %d are %v", b, p, support, m)
		}
		rotation, _ := posture.RotatePose(p, 1)
		if q, _ := joints.Of(b, rotation, support); q != changed(j, func(v api.Vec) api.Vec { return vec(v.Y, -v.X, v.Z) }) {
			t.Fatalf("P20.6: the joints of %v, %v, %d, rotated by a quarter, are %v", b, p, support, q)
		}
		way := vec(r.Intn(65537)-32768-p.At.X, r.Intn(65537)-32768-p.At.Y, 0)
		moved := p
		moved.At = api.Point{X: p.At.X + way.X, Y: p.At.Y + way.Y}
		if m, _ := joints.Of(b, moved, support); m != changed(j, func(v api.Vec) api.Vec { return plus(v, way) }) {
			t.Fatalf("P20.7: the joints of %v, %v, %d, moved by %v, are %v", b, p, support, way, m)
		}
	}
}

// isMiddle says whether v is the middle of two places.
func isMiddle(v api.Vec, pair [2]api.Vec) bool {
	return plus(pair[0], pair[1]) == vec(2*v.X, 2*v.Y, 2*v.Z)
}

func TestFloor(t *testing.T) {
	r := rand.New(rand.NewSource(23))
	for range 10000 {
		b, p, support := randomBody(r), randomPose(r), r.Intn(4)
		j, _ := joints.Of(b, p, support)
		for i := range 2 {
			carries := support>>i&1 == 1
			if carries && j.Feet[i] != vec(j.Hips[i].X, j.Hips[i].Y, 0) {
				t.Fatalf("P20.8: the foot %d of %v, %v, %d is not on the floor below its hip joint: %v", i, b, p, support, j)
			}
		}
		feet, _ := joints.Dist2(j.Feet[0], j.Feet[1])
		hips, _ := joints.Dist2(j.Hips[0], j.Hips[1])
		if support == 3 && feet != hips {
			t.Fatalf("P20.8: the distances of the feet and of the hip joints of %v, %v differ: %v", b, p, j)
		}
		if !isMiddle(j.Hip, j.Hips) || !isMiddle(j.Neck, j.Shoulders) {
			t.Fatalf("P20.8: Hip or Neck of %v, %v, %d is not in the middle: %v", b, p, support, j)
		}
	}
}

func TestExamples(t *testing.T) {
	p := upright()
	j, err := joints.Of(body(), p, 3)
	want := api.Joints{Hip: vec(0, 0, 900), Neck: vec(0, 0, 1400), Head: vec(0, 0, 1550), Hips: [2]api.Vec{vec(-100, 0, 900), vec(100, 0, 900)}, Shoulders: [2]api.Vec{vec(-180, 0, 1400), vec(180, 0, 1400)}, Hands: [2]api.Vec{vec(-180, 0, 700), vec(180, 0, 700)}, Feet: [2]api.Vec{vec(-100, 0, 0), vec(100, 0, 0)}}
	if j != want || err != api.OK || joints.Low(j) != 0 {
		t.Errorf("P20.1, P20.4: example 1 is %v, %d, low %d", j, err, joints.Low(j))
	}
	if v, err := joints.End(j, api.Torso); v != vec(0, 0, 1400) || err != api.OK {
		t.Errorf("P20.2: example 5 is %v, %d", v, err)
	}
	if n, err := joints.Dist2(vec(0, 0, 0), vec(1, 2, 3)); n != 14 || err != api.OK {
		t.Errorf("P20.3: example 5 is %d, %d", n, err)
	}
	p.Aims[api.ArmRight] = api.Aim{Az: 64}
	if j, _ := joints.Of(body(), p, 3); j.Hands[1] != vec(880, 0, 1400) {
		t.Errorf("P20.1: example 2 has the right hand at %v", j.Hands[1])
	}
	p.Facing = 64
	if j, _ := joints.Of(body(), p, 3); j.Hips != [2]api.Vec{vec(0, 100, 900), vec(0, -100, 900)} || j.Hands[1] != vec(0, -880, 1400) {
		t.Errorf("P20.1: example 3 has the hips at %v and the right hand at %v", j.Hips, j.Hands[1])
	}
	p.Facing, p.Aims[api.ArmRight].Bend = 0, 2
	if j, _ := joints.Of(body(), p, 3); j.Hands[1] != vec(705, 0, 1400) {
		t.Errorf("P20.1: example 2 with a bend has the right hand at %v", j.Hands[1])
	}
	p.Lift = -4
	if j, _ := joints.Of(body(), p, 3); j.Hip.Z != 860 {
		t.Errorf("P20.1: example 4 has the hip at the height %d", j.Hip.Z)
	}
	p.Lift = 1
	if j, _ := joints.Of(body(), p, 1); j.Hip.Z != 908 || j.Feet[1].Z != 8 || joints.Low(j) != 0 {
		t.Errorf("P20.1, P20.4: example 4 has the hip at the height %d, and the foot at %d", j.Hip.Z, j.Feet[1].Z)
	}
}
