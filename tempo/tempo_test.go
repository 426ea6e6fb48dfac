package tempo_test

import (
	"math"
	"math/big"
	"math/rand"
	"slices"
	"testing"

	"dancestudio/api"
	"dancestudio/tempo"
)

const (
	mostTicks  = 8192
	mostTempos = 64
	mostMicros = 1 << 22
)

// extreme are integers far outside all bounds.
var extreme = []int{math.MinInt, math.MinInt + 1, -1 << 62, -1 << 36, -1 << 32, -mostTicks, -2, -1, 1 << 36, 1<<36 + 1, 1 << 62, math.MaxInt - 1, math.MaxInt}

func list(numbers ...int) []api.Tempo {
	var l []api.Tempo
	for i := 0; i < len(numbers); i += 2 {
		l = append(l, api.Tempo{At: numbers[i], Micros: numbers[i+1]})
	}
	return l
}

// row has n tempos, each of them step ticks after the one before.
func row(n, from, step, micros int) []api.Tempo {
	var l []api.Tempo
	for i := range n {
		l = append(l, api.Tempo{At: from + i*step, Micros: micros})
	}
	return l
}

// lengths has an element for each tick before 8192: how long it lasts by the definition, which asks every tempo.
func lengths(l []api.Tempo) []int {
	all := make([]int, mostTicks)
	for tick := range all {
		for _, t := range l {
			if t.At <= tick {
				all[tick] = t.Micros
			}
		}
	}
	return all
}

// moments has an element for each tick up to 8192: the sum of what the ticks before it last.
func moments(l []api.Tempo) []int {
	all := []int{0}
	for _, micros := range lengths(l) {
		all = append(all, all[len(all)-1]+micros)
	}
	return all
}

// rounded returns a / b as P14.4 and P14.6 round it, both positive: of all integers the nearest one, the even one of two.
func rounded(a, b int) int {
	q := big.NewRat(int64(a), int64(b))
	down := int(new(big.Int).Quo(q.Num(), q.Denom()).Int64())
	rest := new(big.Rat).Sub(q, big.NewRat(int64(down), 1))
	side := rest.Cmp(big.NewRat(1, 2))
	if side > 0 || side == 0 && down%2 == 1 {
		return down + 1
	}
	return down
}

func checkWhen(t *testing.T, l []api.Tempo, tick, want int, err api.Errno) {
	t.Helper()
	if m, e := tempo.When(l, tick); m != want || e != err {
		t.Fatalf("P1, P14.2: When(%v, %d) is %d, %d, not %d, %d", l, tick, m, e, want, err)
	}
}

func checkTick(t *testing.T, l []api.Tempo, micros, want int, err api.Errno) {
	t.Helper()
	if n, e := tempo.Tick(l, micros); n != want || e != err {
		t.Fatalf("P1, P14.3: Tick(%v, %d) is %d, %d, not %d, %d", l, micros, n, e, want, err)
	}
}

func checkRamp(t *testing.T, at, n, each, from, to int, want []api.Tempo, err api.Errno) {
	t.Helper()
	if l, e := tempo.Ramp(at, n, each, from, to); !slices.Equal(l, want) || e != err {
		t.Fatalf("P1, P14.4: Ramp(%d, %d, %d, %d, %d) is %v, %d, not %v, %d", at, n, each, from, to, l, e, want, err)
	}
}

func checkNorm(t *testing.T, l, want []api.Tempo, err api.Errno) {
	t.Helper()
	if k, e := tempo.Norm(l); !slices.Equal(k, want) || e != err {
		t.Fatalf("P1, P14.5: Norm(%v) is %v, %d, not %v, %d", l, k, e, want, err)
	}
}

func checkScaled(t *testing.T, l []api.Tempo, p, q int, want []api.Tempo, err api.Errno) {
	t.Helper()
	if k, e := tempo.Scaled(l, p, q); !slices.Equal(k, want) || e != err {
		t.Fatalf("P1, P14.6: Scaled(%v, %d, %d) is %v, %d, not %v, %d", l, p, q, k, e, want, err)
	}
}

// checkRefused tries all functions with tempos that have an error, with other arguments that would be valid and that would not.
func checkRefused(t *testing.T, l []api.Tempo, err api.Errno) {
	t.Helper()
	if e := tempo.Check(l); e != err {
		t.Fatalf("P1, P14.1: Check(%v) is %d, not %d", l, e, err)
	}
	checkNorm(t, l, nil, err)
	for _, n := range []int{0, 1, mostTicks, mostTicks + 1, -1, math.MinInt, math.MaxInt} {
		checkWhen(t, l, n, 0, err)
		checkTick(t, l, n, 0, err)
		checkScaled(t, l, n, 1, nil, err)
		checkScaled(t, l, 1, n, nil, err)
		checkScaled(t, l, n, n, nil, err)
	}
}

// checkMoments tries When at all ticks, Tick at all their moments and next to them, and both outside of their bounds.
func checkMoments(t *testing.T, l []api.Tempo) {
	t.Helper()
	if e := tempo.Check(l); e != api.OK {
		t.Fatalf("P14.1: Check(%v) is %d", l, e)
	}
	all := moments(l)
	for tick, moment := range all {
		checkWhen(t, l, tick, moment, api.OK)
		checkTick(t, l, moment, tick, api.OK)
		if tick > 0 {
			checkTick(t, l, moment-1, tick-1, api.OK)
		}
	}
	end := all[mostTicks]
	for _, n := range append([]int{mostTicks + 1, mostTicks + 2, end + 1, end + 2}, extreme...) {
		if n < 0 || n > mostTicks {
			checkWhen(t, l, n, 0, api.ErrRange)
		}
		if n < 0 || n > end {
			checkTick(t, l, n, 0, api.ErrRange)
		}
	}
}

// smallMaps are all maps whose tempos are at the ticks 0 to 3 and at the last two, with up to 3 microseconds.
func smallMaps() [][]api.Tempo {
	maps := [][]api.Tempo{nil}
	for _, at := range []int{0, 1, 2, 3, mostTicks - 1, mostTicks} {
		for _, l := range maps[:len(maps):len(maps)] {
			for micros := 1; micros <= 3; micros++ {
				maps = append(maps, append(slices.Clone(l), api.Tempo{At: at, Micros: micros}))
			}
		}
		if at == 0 {
			maps = maps[1:]
		}
	}
	return maps
}

// someMaps are random tempo maps, of few or of many tempos, with few different Micros or with many.
func someMaps(seed int64, number int) [][]api.Tempo {
	random := rand.New(rand.NewSource(seed))
	var maps [][]api.Tempo
	for range number {
		n := 1 + random.Intn([]int{3, 10, mostTempos}[random.Intn(3)])
		end := []int{n, 100, mostTicks}[random.Intn(3)]
		most := []int{2, 50, mostMicros}[random.Intn(3)]
		ticks := []int{0}
		for _, k := range random.Perm(end)[:n-1] {
			ticks = append(ticks, k+1)
		}
		slices.Sort(ticks)
		var l []api.Tempo
		for _, at := range ticks {
			l = append(l, api.Tempo{At: at, Micros: 1 + random.Intn(most)})
		}
		maps = append(maps, l)
	}
	return maps
}

// fullMaps are tempo maps at the limits.
func fullMaps() [][]api.Tempo {
	return [][]api.Tempo{
		list(0, 1),
		list(0, mostMicros),
		list(0, 1, mostTicks, mostMicros),
		list(0, mostMicros, mostTicks, 1),
		list(0, mostMicros, mostTicks-1, 1),
		list(0, 1, 1, mostMicros),
		row(mostTempos, 0, 1, mostMicros),
		row(mostTempos, 0, 130, 1),
		append(list(0, 7), row(mostTempos-1, mostTicks-mostTempos+2, 1, mostMicros)...),
	}
}

func TestExamples(t *testing.T) {
	two := list(0, 10, 4, 20)
	if e := tempo.Check(two); e != api.OK {
		t.Errorf("P14.1: Check(%v) is %d", two, e)
	}
	checkRefused(t, list(1, 10), api.ErrOrder)
	checkRefused(t, list(0, 10, 0, 20), api.ErrOrder)
	checkRefused(t, list(5, 0, 0, 1), api.ErrRange)
	for _, c := range [][2]int{{0, 0}, {3, 30}, {4, 40}, {6, 80}, {8192, 163800}} {
		checkWhen(t, two, c[0], c[1], api.OK)
	}
	for _, c := range [][2]int{{79, 5}, {80, 6}, {163800, 8192}} {
		checkTick(t, two, c[0], c[1], api.OK)
	}
	checkTick(t, two, 163801, 0, api.ErrRange)
	checkRamp(t, 0, 2, 4, 10, 20, list(0, 10, 4, 15, 8, 20), api.OK)
	checkRamp(t, 100, 3, 24, 12, 10, list(100, 12, 124, 11, 148, 11, 172, 10), api.OK)
	checkNorm(t, list(0, 10, 4, 10, 8, 20), list(0, 10, 8, 20), api.OK)
	checkScaled(t, list(0, 10), 3, 4, list(0, 8), api.OK)
	checkScaled(t, list(0, 1), 1, 3, list(0, 1), api.OK)
	checkScaled(t, list(0, 4194304), 2, 1, nil, api.ErrRange)
}

// TestCheck has each error alone, and together with all that come later.
func TestCheck(t *testing.T) {
	checkRefused(t, nil, api.ErrEmpty)
	checkRefused(t, []api.Tempo{}, api.ErrEmpty)
	for _, n := range []int{mostTempos + 1, mostTempos + 2, 4 * mostTempos} {
		checkRefused(t, make([]api.Tempo, n), api.ErrFull)
		checkRefused(t, row(n, 0, 1, 1), api.ErrFull)
		checkRefused(t, row(n, 1, 1, 1), api.ErrFull)
		checkRefused(t, row(n, n, -1, 1), api.ErrFull)
		for _, w := range list(0, 0, mostTicks+1, 1, math.MinInt, math.MaxInt) {
			checkRefused(t, append([]api.Tempo{w}, row(n-1, 1, 1, 1)...), api.ErrFull)
			checkRefused(t, append(row(n-1, 0, 1, 1), w), api.ErrFull)
		}
	}
	for _, l := range fullMaps() {
		checkMoments(t, l)
	}
}

// TestRange has every wrong number at every place, alone and where the order is wrong as well.
func TestRange(t *testing.T) {
	var wrong []api.Tempo
	for _, n := range append([]int{mostTicks + 1, mostTicks + 2, mostMicros}, extreme...) {
		wrong = append(wrong, api.Tempo{At: n, Micros: 1}, api.Tempo{At: n, Micros: n})
	}
	for _, n := range append([]int{0, mostMicros + 1, mostMicros + 2}, extreme...) {
		wrong = append(wrong, api.Tempo{At: 0, Micros: n}, api.Tempo{At: 5, Micros: n}, api.Tempo{At: mostTicks, Micros: n})
	}
	full := row(mostTempos, 0, 2, 9)
	for _, w := range wrong {
		checkRefused(t, []api.Tempo{w}, api.ErrRange)
		for _, l := range [][]api.Tempo{full, row(3, 1, 1, 1), row(3, 4, 0, 1), row(3, 8, -4, 1)} {
			for i := range l {
				one := slices.Clone(l)
				one[i] = w
				checkRefused(t, one, api.ErrRange)
			}
		}
	}
	for _, at := range []int{-2, -1, 0, 1, mostTicks - 1, mostTicks, mostTicks + 1} {
		for _, micros := range []int{-1, 0, 1, 2, mostMicros - 1, mostMicros, mostMicros + 1} {
			switch {
			case at < 0 || at > mostTicks || micros < 1 || micros > mostMicros:
				checkRefused(t, list(at, micros), api.ErrRange)
				checkRefused(t, list(0, 1, at, micros), api.ErrRange)
			case at == 0:
				checkRefused(t, list(0, 1, at, micros), api.ErrOrder)
				checkNorm(t, list(at, micros), list(at, micros), api.OK)
			default:
				checkRefused(t, list(at, micros), api.ErrOrder)
				checkScaled(t, list(0, 1, at, micros), 1, 1, list(0, 1, at, micros), api.OK)
			}
		}
	}
}

// TestOrder has a first tempo that is not at 0, and each other one as late as the one before or earlier.
func TestOrder(t *testing.T) {
	for _, at := range []int{1, 2, 24, mostTicks - 1, mostTicks} {
		checkRefused(t, list(at, 1), api.ErrOrder)
		checkRefused(t, list(at, 1, 0, 1), api.ErrOrder)
		checkRefused(t, list(at, 1, mostTicks, 1), api.ErrOrder)
	}
	full := row(mostTempos, 0, 10, 3)
	for i := range full {
		for _, back := range []int{10, 11, 15, 10 * mostTempos} {
			l := slices.Clone(full)
			l[i].At = max(0, l[i].At-back)
			if i == 0 {
				l[i].At = back
			}
			checkRefused(t, l, api.ErrOrder)
		}
	}
	checkRefused(t, list(0, 1, mostTicks, 1, mostTicks, 1), api.ErrOrder)
	checkRefused(t, list(0, 1, 2, 1, 1, 1, 3, 1), api.ErrOrder)
}

func TestMoments(t *testing.T) {
	for k, l := range smallMaps() {
		if k%29 == 0 {
			checkMoments(t, l)
		}
	}
	for _, l := range someMaps(1, 60) {
		checkMoments(t, l)
	}
}

// TestSmallMoments tries the first and the last ticks of all small maps.
func TestSmallMoments(t *testing.T) {
	for _, l := range smallMaps() {
		all := moments(l)
		for _, tick := range []int{0, 1, 2, 3, 4, 5, mostTicks - 2, mostTicks - 1, mostTicks} {
			checkWhen(t, l, tick, all[tick], api.OK)
			if tick == mostTicks {
				break
			}
			for m := all[tick]; m < all[tick+1]; m++ {
				checkTick(t, l, m, tick, api.OK)
			}
		}
		checkTick(t, l, all[mostTicks], mostTicks, api.OK)
		checkTick(t, l, all[mostTicks]+1, 0, api.ErrRange)
	}
}

// ramp is the definition of P14.4.
func ramp(at, n, each, from, to int) []api.Tempo {
	var l []api.Tempo
	for i := range n {
		l = append(l, api.Tempo{At: at + i*each, Micros: rounded(from*(n-i)+to*i, n)})
	}
	return append(l, api.Tempo{At: at + n*each, Micros: to})
}

// TestRamp tries all numbers of tempos with all steps, and that the result is a tempo map only at 0.
func TestRamp(t *testing.T) {
	random := rand.New(rand.NewSource(2))
	most := mostMicros / 4
	for n := 1; n < mostTempos; n++ {
		for each := 1; each <= 24; each++ {
			last := mostTicks - n*each
			for _, at := range []int{0, 1, random.Intn(last + 1), last} {
				for _, c := range [][2]int{{1, most}, {most, 1}, {5, 5}, {random.Intn(9) + 1, random.Intn(9) + 1}, {random.Intn(most) + 1, random.Intn(most) + 1}} {
					want := ramp(at, n, each, c[0], c[1])
					checkRamp(t, at, n, each, c[0], c[1], want, api.OK)
					if e := tempo.Check(want); (e == api.OK) != (at == 0) {
						t.Fatalf("P14.4: Check(%v) is %d", want, e)
					}
				}
			}
			checkRamp(t, last+1, n, each, 5, 7, nil, api.ErrRange)
			checkRamp(t, mostTicks, n, each, 5, 7, nil, api.ErrRange)
		}
	}
	for from := 1; from <= 12; from++ {
		for to := 1; to <= 12; to++ {
			for n := 1; n <= 12; n++ {
				checkRamp(t, 3, n, 2, from, to, ramp(3, n, 2, from, to), api.OK)
			}
		}
	}
}

// TestRampRange has every wrong number, where the others are valid.
func TestRampRange(t *testing.T) {
	most := mostMicros / 4
	for _, at := range append([]int{mostTicks + 1, mostTicks, mostTicks - 1}, extreme...) {
		checkRamp(t, at, 1, 2, 5, 7, nil, api.ErrRange)
	}
	for _, n := range append([]int{0, mostTempos, mostTempos + 1}, extreme...) {
		checkRamp(t, 0, n, 1, 5, 7, nil, api.ErrRange)
		checkRamp(t, 0, n, n, 5, 7, nil, api.ErrRange)
	}
	for _, each := range append([]int{0, 25, 26}, extreme...) {
		checkRamp(t, 0, 1, each, 5, 7, nil, api.ErrRange)
		checkRamp(t, 100, 3, each, 5, 7, nil, api.ErrRange)
		checkRamp(t, each, 1, each, 5, 7, nil, api.ErrRange)
	}
	for _, micros := range append([]int{0, most + 1, most + 2, mostMicros}, extreme...) {
		checkRamp(t, 0, 1, 1, micros, 7, nil, api.ErrRange)
		checkRamp(t, 0, 1, 1, 5, micros, nil, api.ErrRange)
		checkRamp(t, 0, 2, 1, micros, micros, nil, api.ErrRange)
	}
	checkRamp(t, 0, 1<<61, 8, 5, 7, nil, api.ErrRange)
	checkRamp(t, math.MaxInt, math.MaxInt, math.MaxInt, math.MaxInt, math.MaxInt, nil, api.ErrRange)
	checkRamp(t, math.MinInt, math.MinInt, math.MinInt, math.MinInt, math.MinInt, nil, api.ErrRange)
}

// norm is the definition of P14.5: each tempo is compared with the one before it in the list.
func norm(l []api.Tempo) []api.Tempo {
	k := l[:1:1]
	for i := 1; i < len(l); i++ {
		if l[i].Micros != l[i-1].Micros {
			k = append(k, l[i])
		}
	}
	return k
}

// TestNorm has all small maps, random ones and rows of the same tempo, and tries P14.8.
func TestNorm(t *testing.T) {
	checkNorm(t, row(mostTempos, 0, 3, 5), list(0, 5), api.OK)
	checkNorm(t, list(0, 10, 4, 20, 6, 10, 7, 10, 8, 10, 9, 20), list(0, 10, 4, 20, 6, 10, 9, 20), api.OK)
	for k, l := range slices.Concat(someMaps(3, 300), fullMaps(), smallMaps()) {
		checkNorm(t, l, norm(l), api.OK)
		short, _ := tempo.Norm(l)
		for i := 1; i < len(short); i++ {
			if short[i].Micros == short[i-1].Micros {
				t.Fatalf("P14.8: Norm(%v) is %v", l, short)
			}
		}
		checkNorm(t, short, short, api.OK)
		if k < 100 && !slices.Equal(moments(short), moments(l)) {
			t.Fatalf("P14.8: Norm(%v) is %v, with other moments", l, short)
		}
	}
}

// scaled is the definition of P14.6.
func scaled(l []api.Tempo, p, q int) ([]api.Tempo, api.Errno) {
	var k []api.Tempo
	for _, one := range l {
		micros := max(1, rounded(one.Micros*p, q))
		if micros > mostMicros {
			return nil, api.ErrRange
		}
		k = append(k, api.Tempo{At: one.At, Micros: micros})
	}
	return k, api.OK
}

func TestScaled(t *testing.T) {
	for micros := 1; micros <= 20; micros++ {
		l := list(0, micros, 9, 21-micros)
		for p := 1; p <= 12; p++ {
			for q := 1; q <= 12; q++ {
				want, err := scaled(l, p, q)
				checkScaled(t, l, p, q, want, err)
			}
		}
	}
	random := rand.New(rand.NewSource(4))
	for _, l := range append(someMaps(5, 300), fullMaps()...) {
		for _, c := range [][2]int{{1, 1}, {1, 2}, {1, 1000}, {1000, 1}, {1000, 1000}, {999, 1000}, {1000, 999}, {1 + random.Intn(9), 1 + random.Intn(9)}, {1 + random.Intn(1000), 1 + random.Intn(1000)}} {
			want, err := scaled(l, c[0], c[1])
			checkScaled(t, l, c[0], c[1], want, err)
		}
	}
}

// TestScaledRange has wrong factors, and results next to the greatest at every place of a list.
func TestScaledRange(t *testing.T) {
	for _, n := range append([]int{0, 1001, 1002}, extreme...) {
		for _, l := range [][]api.Tempo{list(0, 10), list(0, 1), list(0, mostMicros), row(mostTempos, 0, 1, 1)} {
			checkScaled(t, l, n, 1, nil, api.ErrRange)
			checkScaled(t, l, 1, n, nil, api.ErrRange)
			checkScaled(t, l, n, n, nil, api.ErrRange)
		}
	}
	full := row(mostTempos, 0, 5, 12)
	for i := range full {
		l := slices.Clone(full)
		l[i].Micros = mostMicros/2 + 1
		checkScaled(t, l, 2, 1, nil, api.ErrRange)
		l[i].Micros = mostMicros / 2
		want := row(mostTempos, 0, 5, 24)
		want[i].Micros = mostMicros
		checkScaled(t, l, 2, 1, want, api.OK)
	}
	// 4194304 is even, so that half a microsecond more goes to it.
	checkScaled(t, list(0, 2796203), 3, 2, list(0, mostMicros), api.OK)
	checkScaled(t, list(0, 1677722), 5, 2, nil, api.ErrRange)
	checkScaled(t, list(0, mostMicros), 1000, 1000, list(0, mostMicros), api.OK)
	checkScaled(t, list(0, mostMicros), 1000, 999, nil, api.ErrRange)
}

// TestInverse tries P14.7 by what When and Tick say of each other, at random moments too.
func TestInverse(t *testing.T) {
	random := rand.New(rand.NewSource(6))
	for _, l := range append(someMaps(7, 40), fullMaps()...) {
		for tick := 0; tick <= mostTicks; tick++ {
			m, _ := tempo.When(l, tick)
			if n, e := tempo.Tick(l, m); n != tick || e != api.OK {
				t.Fatalf("P14.7: When(%v, %d) is %d, but Tick of it %d, %d", l, tick, m, n, e)
			}
		}
		end, _ := tempo.When(l, mostTicks)
		for k := range 2000 {
			m := random.Intn(end + 1)
			if k%2 == 0 {
				m = end - m%min(end, 1000)
			}
			n, e := tempo.Tick(l, m)
			from, f := tempo.When(l, n)
			if e != api.OK || f != api.OK || from > m {
				t.Fatalf("P14.7: Tick(%v, %d) is %d, %d, but When of it %d, %d", l, m, n, e, from, f)
			}
			if to, f := tempo.When(l, n+1); n < mostTicks && (m >= to || f != api.OK) {
				t.Fatalf("P14.7: Tick(%v, %d) is %d, but the next tick begins at %d, %d", l, m, n, to, f)
			}
		}
	}
}

// TestSteps tries P14.9: the lengths of ticks, and the moments of scaled tempo maps.
func TestSteps(t *testing.T) {
	for _, l := range append(someMaps(8, 40), fullMaps()...) {
		for tick, micros := range lengths(l) {
			from, _ := tempo.When(l, tick)
			if to, e := tempo.When(l, tick+1); to-from != micros || e != api.OK {
				t.Fatalf("P14.9: with %v the tick %d is from %d to %d", l, tick, from, to)
			}
		}
		for _, p := range []int{1, 2, 3, 7, 999, 1000} {
			checkScaled(t, l, p, p, l, api.OK)
			k, e := tempo.Scaled(l, p, 1)
			if e != api.OK {
				continue
			}
			for tick := 0; tick <= mostTicks; tick += 61 {
				m, _ := tempo.When(l, tick)
				checkWhen(t, k, tick, m*p, api.OK)
			}
		}
	}
}

// TestMemory has tempos with memory behind them, which stays as it is, and changes results afterwards.
func TestMemory(t *testing.T) {
	wrong := api.Tempo{At: -7, Micros: -7}
	for _, l := range slices.Concat(someMaps(9, 60), fullMaps(), [][]api.Tempo{row(5, 0, 2, 3), list(0, 1, 2, 2, 3, 2)}) {
		memory := append(slices.Clone(l), list(-3, -4, 5, 6)...)
		kept := slices.Clone(memory)
		given := memory[:len(l)]
		tempo.Check(given)
		tempo.When(given, mostTicks)
		tempo.Tick(given, 5)
		short, _ := tempo.Norm(given)
		twice, _ := tempo.Scaled(given, 1, 2)
		line, _ := tempo.Ramp(0, 3, 4, 5, 9)
		for _, result := range [][]api.Tempo{short, twice, line} {
			for i := range result[:cap(result)] {
				result[:cap(result)][i] = wrong
			}
		}
		if !slices.Equal(memory, kept) {
			t.Fatalf("P1: %v is changed to %v", kept, memory)
		}
		checkNorm(t, given, norm(l), api.OK)
		want, err := scaled(l, 1, 2)
		checkScaled(t, given, 1, 2, want, err)
		checkRamp(t, 0, 3, 4, 5, 9, ramp(0, 3, 4, 5, 9), api.OK)
	}
}
