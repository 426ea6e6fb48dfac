package build_test

import (
	"math"
	"math/big"
	"math/rand"
	"testing"

	"dancestudio/api"
	"dancestudio/build"
)

// extreme are integers far outside all bounds.
var extreme = []int{math.MinInt, math.MinInt + 1, -1 << 62, -1 << 50, -1 << 32, -1<<32 + 600, -1 << 31, -200001, 200002, 1 << 31, 1<<32 + 1, 1<<32 + 600, 1 << 50, 1<<50 + 1, 1 << 62, math.MaxInt - 1, math.MaxInt}

// field is a length or a mass of a build: its name, its range, and where it is.
type field struct {
	name     string
	from, to int
	of       func(b *api.Build) *int
}

// lengthFields are the rows of the table of the chapter.
func lengthFields() []field {
	return []field{
		{"Leg", 400, 1500, func(b *api.Build) *int { return &b.Leg }},
		{"Torso", 200, 1000, func(b *api.Build) *int { return &b.Torso }},
		{"Neck", 50, 500, func(b *api.Build) *int { return &b.Neck }},
		{"Arm", 200, 1200, func(b *api.Build) *int { return &b.Arm }},
		{"Hip", 20, 300, func(b *api.Build) *int { return &b.Hip }},
		{"Shoulder", 50, 400, func(b *api.Build) *int { return &b.Shoulder }},
		{"Step", 100, 1200, func(b *api.Build) *int { return &b.Step }},
		{"Drop", 0, 200, func(b *api.Build) *int { return &b.Drop }},
		{"Rise", 0, 200, func(b *api.Build) *int { return &b.Rise }},
		{"Foot", 20, 300, func(b *api.Build) *int { return &b.Foot }},
		{"Radius", 100, 1000, func(b *api.Build) *int { return &b.Radius }},
	}
}

func massFields() []field {
	return []field{
		{"the mass of the torso", 1, 200000, func(b *api.Build) *int { return &b.Masses[0] }},
		{"the mass of the head", 1, 200000, func(b *api.Build) *int { return &b.Masses[1] }},
		{"the mass of an arm", 1, 200000, func(b *api.Build) *int { return &b.Masses[2] }},
		{"the mass of a leg", 1, 200000, func(b *api.Build) *int { return &b.Masses[3] }},
	}
}

func allFields() []field { return append(lengthFields(), massFields()...) }

// body is the body B of the chapter.
func body() api.Build {
	return api.Build{Leg: 900, Torso: 500, Neck: 150, Arm: 700, Hip: 100, Shoulder: 180, Step: 600, Drop: 80, Rise: 60, Foot: 100, Radius: 300, Masses: [4]int{30000, 5000, 3000, 10000}}
}

// filled has in every field what choose says.
func filled(choose func(f field) int) api.Build {
	var b api.Build
	for _, f := range allFields() {
		*f.of(&b) = choose(f)
	}
	return b
}

func least() api.Build { return filled(func(f field) int { return f.from }) }

func greatest() api.Build { return filled(func(f field) int { return f.to }) }

func someBody(random *rand.Rand) api.Build {
	return filled(func(f field) int {
		switch random.Intn(8) {
		case 0:
			return f.from
		case 1:
			return f.to
		}
		return f.from + random.Intn(f.to-f.from+1)
	})
}

// someBodies are B, both bodies at the borders, and random ones.
func someBodies(seed int64, number int) []api.Build {
	random := rand.New(rand.NewSource(seed))
	bodies := []api.Build{body(), least(), greatest()}
	for range number {
		bodies = append(bodies, someBody(random))
	}
	return bodies
}

// with is the body with another value of a field.
func with(b api.Build, f field, n int) api.Build {
	*f.of(&b) = n
	return b
}

// check is the definition of P17.1.
func check(b api.Build) api.Errno {
	for _, f := range allFields() {
		if n := *f.of(&b); n < f.from || n > f.to {
			return api.ErrBuild
		}
	}
	return api.OK
}

// rounded is n / d, to the nearest integer, of two to the even one.
func rounded(n, d int) int {
	twice := big.NewInt(int64(n))
	twice.Mul(twice, big.NewInt(2)).Add(twice, big.NewInt(int64(d)))
	q, r := new(big.Int).DivMod(twice, big.NewInt(int64(2*d)), new(big.Int))
	if r.Sign() == 0 && q.Bit(0) == 1 {
		q.Sub(q, big.NewInt(1))
	}
	return int(q.Int64())
}

// step is the definition of P17.2, for valid arguments.
func step(b api.Build, eighth int) api.Point {
	s := b.Step
	h := rounded(s*11585, 16384)
	switch eighth {
	case 0:
		return api.Point{X: 0, Y: s}
	case 1:
		return api.Point{X: h, Y: h}
	case 2:
		return api.Point{X: s, Y: 0}
	case 3:
		return api.Point{X: h, Y: -h}
	case 4:
		return api.Point{X: 0, Y: -s}
	case 5:
		return api.Point{X: -h, Y: -h}
	case 6:
		return api.Point{X: -s, Y: 0}
	}
	return api.Point{X: -h, Y: h}
}

// scaled is the definition of P17.4, for valid arguments.
func scaled(b api.Build, permille int) (api.Build, api.Errno) {
	k := b
	for _, f := range lengthFields() {
		*f.of(&k) = rounded(*f.of(&b)*permille, 1000)
	}
	if check(k) != api.OK {
		return api.Build{}, api.ErrBuild
	}
	return k, api.OK
}

func checkCheck(t *testing.T, b api.Build, err api.Errno) {
	t.Helper()
	if e := build.Check(b); e != err {
		t.Fatalf("P1, P17.1: Check(%+v) is %d, not %d", b, e, err)
	}
}

func checkStep(t *testing.T, b api.Build, eighth int, want api.Point, err api.Errno) {
	t.Helper()
	if p, e := build.Step(b, eighth); p != want || e != err {
		t.Fatalf("P1, P17.2: Step(%+v, %d) is %v, %d, not %v, %d", b, eighth, p, e, want, err)
	}
}

func checkMass(t *testing.T, b api.Build, want int, err api.Errno) {
	t.Helper()
	if m, e := build.Mass(b); m != want || e != err {
		t.Fatalf("P1, P17.3: Mass(%+v) is %d, %d, not %d, %d", b, m, e, want, err)
	}
}

func checkScaled(t *testing.T, b api.Build, permille int, want api.Build, err api.Errno) {
	t.Helper()
	if k, e := build.Scaled(b, permille); k != want || e != err {
		t.Fatalf("P1, P17.4: Scaled(%+v, %d) is %+v, %d, not %+v, %d", b, permille, k, e, want, err)
	}
}

// checkRefused tries all functions with a body that is not valid, with other arguments that are valid and with such that are not.
func checkRefused(t *testing.T, b api.Build) {
	t.Helper()
	checkCheck(t, b, api.ErrBuild)
	checkMass(t, b, 0, api.ErrBuild)
	for _, eighth := range []int{0, 1, 7, -1, 8, math.MinInt, math.MaxInt} {
		checkStep(t, b, eighth, api.Point{}, api.ErrBuild)
	}
	for _, permille := range []int{500, 1000, 2000, 499, 2001, math.MinInt, math.MaxInt} {
		checkScaled(t, b, permille, api.Build{}, api.ErrBuild)
	}
}

func TestExamples(t *testing.T) {
	b := body()
	checkCheck(t, b, api.OK)
	for eighth, want := range []api.Point{{X: 0, Y: 600}, {X: 424, Y: 424}, {X: 600, Y: 0}, {X: 424, Y: -424}, {X: 0, Y: -600}, {X: -424, Y: -424}, {X: -600, Y: 0}, {X: -424, Y: 424}} {
		checkStep(t, b, eighth, want, api.OK)
	}
	checkMass(t, b, 61000, api.OK)
	more := api.Build{Leg: 1350, Torso: 750, Neck: 225, Arm: 1050, Hip: 150, Shoulder: 270, Step: 900, Drop: 120, Rise: 90, Foot: 150, Radius: 450, Masses: b.Masses}
	half := api.Build{Leg: 451, Torso: 250, Neck: 75, Arm: 351, Hip: 50, Shoulder: 90, Step: 301, Drop: 40, Rise: 30, Foot: 50, Radius: 150, Masses: b.Masses}
	checkScaled(t, b, 1500, more, api.OK)
	checkScaled(t, b, 501, half, api.OK)
	checkScaled(t, b, 2000, api.Build{}, api.ErrBuild)
	checkScaled(t, b, 499, api.Build{}, api.ErrRange)
	checkScaled(t, b, 2001, api.Build{}, api.ErrRange)
	checkRefused(t, api.Build{})
}

// TestRanges has every value of each length and each mass, and those next to its range.
func TestRanges(t *testing.T) {
	for _, f := range allFields() {
		for n := f.from - 300; n <= f.to+300; n++ {
			err := api.ErrBuild
			if f.from <= n && n <= f.to {
				err = api.OK
			}
			checkCheck(t, with(body(), f, n), err)
		}
	}
}

// TestBorders has all fields at their borders.
func TestBorders(t *testing.T) {
	for _, b := range someBodies(1, 200) {
		checkCheck(t, b, api.OK)
		for _, f := range allFields() {
			for _, n := range []int{f.from, f.from + 1, f.to - 1, f.to} {
				checkCheck(t, with(b, f, n), api.OK)
			}
		}
	}
}

// TestWrongFields has each wrong field alone, and together with another one.
func TestWrongFields(t *testing.T) {
	for _, b := range []api.Build{body(), least(), greatest()} {
		for _, f := range allFields() {
			for _, n := range append([]int{f.from - 1, f.to + 1, -f.from - 1, -f.to}, extreme...) {
				if f.from <= n && n <= f.to {
					continue
				}
				wrong := with(b, f, n)
				checkRefused(t, wrong)
				for _, g := range allFields() {
					checkRefused(t, with(wrong, g, g.from-1))
					checkRefused(t, with(wrong, g, math.MaxInt))
				}
			}
		}
	}
}

// TestRandomBodies has bodies whose fields are within their ranges or near to them.
func TestRandomBodies(t *testing.T) {
	random := rand.New(rand.NewSource(2))
	for range 3000 {
		b := someBody(random)
		for _, f := range allFields() {
			switch random.Intn(40) {
			case 0:
				*f.of(&b) = f.from - random.Intn(3)
			case 1:
				*f.of(&b) = f.to + random.Intn(3)
			}
		}
		if check(b) != api.OK {
			checkRefused(t, b)
			continue
		}
		checkCheck(t, b, api.OK)
	}
}

// TestStep has every length of a step in all directions.
func TestStep(t *testing.T) {
	for s := 100; s <= 1200; s++ {
		for _, b := range []api.Build{body(), least(), greatest()} {
			b.Step = s
			for eighth := range 8 {
				checkStep(t, b, eighth, step(b, eighth), api.OK)
			}
		}
	}
	for _, b := range someBodies(3, 300) {
		for eighth := range 8 {
			checkStep(t, b, eighth, step(b, eighth), api.OK)
		}
	}
}

func TestStepRange(t *testing.T) {
	wrong := append([]int{-1, 8}, extreme...)
	for n := 2; n <= 300; n++ {
		wrong = append(wrong, -n, 7+n)
	}
	for _, b := range someBodies(4, 10) {
		for _, eighth := range wrong {
			checkStep(t, b, eighth, api.Point{}, api.ErrRange)
		}
	}
}

func TestMass(t *testing.T) {
	checkMass(t, least(), 6, api.OK)
	checkMass(t, greatest(), 1200000, api.OK)
	for i, want := range []int{17, 17, 28, 28} {
		b := body()
		b.Masses = [4]int{1, 1, 1, 1}
		b.Masses[i] = 12
		checkMass(t, b, want, api.OK)
	}
	for _, b := range someBodies(5, 1000) {
		m := b.Masses
		checkMass(t, b, m[0]+m[1]+m[2]+m[2]+m[3]+m[3], api.OK)
	}
}

// roomy is a body that is still valid when it is scaled by permille.
func roomy(permille int) api.Build {
	b := api.Build{Leg: 800, Torso: 450, Neck: 175, Arm: 501, Hip: 77, Shoulder: 150, Step: 399, Drop: 31, Rise: 97, Foot: 101, Radius: 253, Masses: [4]int{1, 200000, 17, 3000}}
	if permille > 1000 {
		b.Leg = 750
	}
	return b
}

// TestScaled has every number by which a body can be scaled.
func TestScaled(t *testing.T) {
	for permille := 500; permille <= 2000; permille++ {
		want, err := scaled(roomy(permille), permille)
		if err != api.OK {
			t.Fatalf("the test scales a body by %d which has no room for it", permille)
		}
		checkScaled(t, roomy(permille), permille, want, api.OK)
	}
	for _, b := range someBodies(6, 20) {
		for permille := 500; permille <= 2000; permille++ {
			want, err := scaled(b, permille)
			checkScaled(t, b, permille, want, err)
		}
	}
}

// TestScaledLengths has every value of each length, also those with which the result is not valid.
func TestScaledLengths(t *testing.T) {
	random := rand.New(rand.NewSource(7))
	for _, f := range lengthFields() {
		for n := f.from; n <= f.to; n++ {
			for _, permille := range []int{500, 501, 502, 750, 999, 1000, 1001, 1250, 1500, 1999, 2000, 500 + random.Intn(1501), 500 + random.Intn(1501)} {
				b := with(roomy(permille), f, n)
				want, err := scaled(b, permille)
				checkScaled(t, b, permille, want, err)
			}
		}
	}
}

// TestScaledBorders has, for each length and each permille, the values that are scaled just to the ends of its range and just beyond them, while all other lengths have room.
func TestScaledBorders(t *testing.T) {
	for permille := 500; permille <= 2000; permille++ {
		for _, f := range lengthFields() {
			for _, end := range []int{f.from, f.to} {
				near := end * 1000 / permille
				for n := max(f.from, near-2); n <= min(f.to, near+2); n++ {
					b := with(roomy(permille), f, n)
					want, err := scaled(b, permille)
					checkScaled(t, b, permille, want, err)
				}
			}
		}
	}
}

func TestScaledRange(t *testing.T) {
	wrong := append([]int{-1000, -500, -1, 0, 1, 2, 100, 499, 2001, 5000}, extreme...)
	for n := 2; n <= 300; n++ {
		wrong = append(wrong, 500-n, 2000+n)
	}
	for _, b := range append(someBodies(8, 10), roomy(500), roomy(2000)) {
		for _, permille := range wrong {
			checkScaled(t, b, permille, api.Build{}, api.ErrRange)
		}
	}
}

// TestOpposite tries P17.5 for every length of a step.
func TestOpposite(t *testing.T) {
	for s := 100; s <= 1200; s++ {
		b := with(body(), lengthFields()[6], s)
		var ways [8]api.Point
		for eighth := range ways {
			ways[eighth], _ = build.Step(b, eighth)
		}
		for eighth, p := range ways {
			if q := ways[(eighth+4)%8]; p.X+q.X != 0 || p.Y+q.Y != 0 {
				t.Fatalf("P17.5: the steps of %d in the direction %d and in the opposite one are %v and %v", s, eighth, p, q)
			}
			if q := ways[(eighth+2)%8]; q != (api.Point{X: p.Y, Y: -p.X}) {
				t.Fatalf("P17.5: the steps of %d in the direction %d and a quarter further are %v and %v", s, eighth, p, q)
			}
			if q := ways[(8-eighth)%8]; q != (api.Point{X: -p.X, Y: p.Y}) {
				t.Fatalf("P17.5: the steps of %d in the direction %d and in its mirror image are %v and %v", s, eighth, p, q)
			}
		}
	}
}

// TestLength tries P17.6 for every length of a step, by squares.
func TestLength(t *testing.T) {
	for s := 100; s <= 1200; s++ {
		b := with(body(), lengthFields()[6], s)
		for eighth := range 8 {
			p, _ := build.Step(b, eighth)
			if square := p.X*p.X + p.Y*p.Y; square <= (s-1)*(s-1) || square >= (s+1)*(s+1) {
				t.Fatalf("P17.6: the step of %d in the direction %d is %v", s, eighth, p)
			}
		}
	}
}

// TestGrows tries P17.7: the result for each number with that for the next lesser one that has a result.
func TestGrows(t *testing.T) {
	for _, b := range append(someBodies(9, 40), roomy(500), roomy(2000)) {
		checkScaled(t, b, 1000, b, api.OK)
		var before api.Build
		for permille := 500; permille <= 2000; permille++ {
			k, err := build.Scaled(b, permille)
			if err != api.OK {
				continue
			}
			for _, f := range lengthFields() {
				if *f.of(&k) < *f.of(&before) {
					t.Fatalf("P17.7: with %+v the %s scaled by %d is %d, and by a lesser number %d", b, f.name, permille, *f.of(&k), *f.of(&before))
				}
			}
			before = k
		}
	}
}

// TestArgumentsStay tries that a body that is scaled is not changed itself, and that the result shares nothing with it.
func TestArgumentsStay(t *testing.T) {
	b := body()
	k, _ := build.Scaled(b, 1500)
	if b != body() {
		t.Fatalf("P1: Scaled changes its argument to %+v", b)
	}
	for _, f := range allFields() {
		*f.of(&k) = -1
	}
	if b != body() {
		t.Fatalf("P1: a change of the result of Scaled changes its argument to %+v", b)
	}
}
