package cue_test

import (
	"math"
	"math/rand"
	"slices"
	"testing"

	"dancestudio/api"
	"dancestudio/cue"
	"dancestudio/tempo"
)

const (
	mostTicks  = 8192
	mostCues   = 64
	mostTempos = 64
	mostMicros = 1 << 22
	lastMoment = 1 << 40
)

// extreme are integers far outside all bounds.
var extreme = []int{math.MinInt, math.MinInt + 1, -1 << 62, -1 << 41, -1 << 40, -1 << 32, -mostTicks, -2, -1, 1<<40 + 1, 1 << 41, 1 << 62, math.MaxInt - 1, math.MaxInt}

func list(numbers ...int) []api.Cue {
	var l []api.Cue
	for i := 0; i < len(numbers); i += 2 {
		l = append(l, api.Cue{Tick: numbers[i], Micros: numbers[i+1]})
	}
	return l
}

func tempos(numbers ...int) []api.Tempo {
	var l []api.Tempo
	for i := 0; i < len(numbers); i += 2 {
		l = append(l, api.Tempo{At: numbers[i], Micros: numbers[i+1]})
	}
	return l
}

// row has n cues, each of them some ticks and microseconds after the one before.
func row(n, tick, step, micros, way int) []api.Cue {
	var l []api.Cue
	for i := range n {
		l = append(l, api.Cue{Tick: tick + i*step, Micros: micros + i*way})
	}
	return l
}

// rows are n tempos, each of them step ticks after the one before.
func rows(n, at, step, micros int) []api.Tempo {
	var l []api.Tempo
	for i := range n {
		l = append(l, api.Tempo{At: at + i*step, Micros: micros})
	}
	return l
}

// check is the definition of P15.1, error after error.
func check(l []api.Cue) api.Errno {
	if len(l) < 2 {
		return api.ErrEmpty
	}
	if len(l) > mostCues {
		return api.ErrFull
	}
	for _, c := range l {
		if c.Tick < 0 || c.Tick > mostTicks || c.Micros < 0 || c.Micros > lastMoment {
			return api.ErrRange
		}
	}
	if l[0].Tick != 0 {
		return api.ErrOrder
	}
	for i := 1; i < len(l); i++ {
		if l[i].Tick <= l[i-1].Tick || l[i].Micros <= l[i-1].Micros {
			return api.ErrOrder
		}
	}
	return api.OK
}

// fit is the definition of P15.2, with the errors of the ways before that of their number.
func fit(l []api.Cue) ([]api.Tempo, api.Errno) {
	var all []api.Tempo
	for i := 1; i < len(l); i++ {
		n, m := l[i].Tick-l[i-1].Tick, l[i].Micros-l[i-1].Micros
		if m < n || m > n*mostMicros {
			return nil, api.ErrRange
		}
		q, r := m/n, m%n
		if r == 0 {
			all = append(all, api.Tempo{At: l[i-1].Tick, Micros: q})
			continue
		}
		all = append(all, api.Tempo{At: l[i-1].Tick, Micros: q + 1}, api.Tempo{At: l[i-1].Tick + r, Micros: q})
	}
	if len(all) > mostTempos {
		return nil, api.ErrFull
	}
	return all, api.OK
}

// lengths has an element for each tick before 8192: how long it lasts by the tempos.
func lengths(l []api.Tempo) []int {
	all := make([]int, mostTicks)
	for i, t := range l {
		end := mostTicks
		if i+1 < len(l) {
			end = l[i+1].At
		}
		for tick := t.At; tick < end; tick++ {
			all[tick] = t.Micros
		}
	}
	return all
}

// drift is the definition of P15.3, and its greatest absolute value that of P15.4.
func drift(l []api.Cue, t []api.Tempo) ([]int, int) {
	var all []int
	worst, each := 0, lengths(t)
	for _, c := range l {
		moment := 0
		for _, micros := range each[:c.Tick] {
			moment += micros
		}
		late := moment - (c.Micros - l[0].Micros)
		all = append(all, late)
		if late > worst {
			worst = late
		}
		if -late > worst {
			worst = -late
		}
	}
	return all, worst
}

func checkCheck(t *testing.T, l []api.Cue, err api.Errno) {
	t.Helper()
	if e := cue.Check(l); e != err {
		t.Fatalf("P1, P15.1: Check(%v) is %d, not %d", l, e, err)
	}
}

func checkFit(t *testing.T, l []api.Cue, want []api.Tempo, err api.Errno) {
	t.Helper()
	if k, e := cue.Fit(l); !slices.Equal(k, want) || e != err {
		t.Fatalf("P1, P15.2: Fit(%v) is %v, %d, not %v, %d", l, k, e, want, err)
	}
}

func checkDrift(t *testing.T, l []api.Cue, k []api.Tempo, want []int, worst int, err api.Errno) {
	t.Helper()
	if d, e := cue.Drift(l, k); !slices.Equal(d, want) || e != err {
		t.Fatalf("P1, P15.3: Drift(%v, %v) is %v, %d, not %v, %d", l, k, d, e, want, err)
	}
	if n, e := cue.Worst(l, k); n != worst || e != err {
		t.Fatalf("P1, P15.4: Worst(%v, %v) is %d, %d, not %d, %d", l, k, n, e, worst, err)
	}
}

// wrongTempos has for each error of tempo.Check tempo maps that have it.
func wrongTempos() map[api.Errno][][]api.Tempo {
	return map[api.Errno][][]api.Tempo{
		api.ErrEmpty: {nil, {}},
		api.ErrFull:  {rows(mostTempos+1, 0, 1, 5), make([]api.Tempo, mostTempos+1)},
		api.ErrRange: {tempos(0, 0), tempos(0, mostMicros+1), tempos(-1, 5), tempos(0, 5, mostTicks+1, 5), tempos(0, math.MinInt), tempos(0, math.MaxInt), tempos(5, 5, math.MaxInt, 5)},
		api.ErrOrder: {tempos(1, 5), tempos(0, 5, 0, 6), tempos(0, 5, 3, 6, 2, 7), tempos(mostTicks, 5)},
	}
}

// checkRefused tries all functions with cues that have an error, with tempos that are valid and with such that have errors.
func checkRefused(t *testing.T, l []api.Cue, err api.Errno) {
	t.Helper()
	checkCheck(t, l, err)
	checkFit(t, l, nil, err)
	for _, k := range [][]api.Tempo{tempos(0, 4), nil, tempos(0, 0), tempos(1, 4), make([]api.Tempo, mostTempos+1)} {
		checkDrift(t, l, k, nil, 0, err)
	}
}

// checkAll tries all functions with any cues against the definitions.
func checkAll(t *testing.T, l []api.Cue, k []api.Tempo) {
	t.Helper()
	if err := check(l); err != api.OK {
		checkRefused(t, l, err)
		return
	}
	checkCheck(t, l, api.OK)
	want, err := fit(l)
	checkFit(t, l, want, err)
	all, worst := drift(l, k)
	checkDrift(t, l, k, all, worst, api.OK)
}

// someTempos are random tempo maps.
func someTempos(random *rand.Rand) []api.Tempo {
	most := []int{3, 1000, mostMicros}[random.Intn(3)]
	l := tempos(0, 1+random.Intn(most))
	for len(l) < mostTempos && random.Intn(6) > 0 {
		at := l[len(l)-1].At + 1 + random.Intn(400)
		if at > mostTicks {
			break
		}
		l = append(l, api.Tempo{At: at, Micros: 1 + random.Intn(most)})
	}
	return l
}

// someTicks are n random ticks, ascending, the first of them 0.
func someTicks(random *rand.Rand, n int) []int {
	end := []int{n, 3 * n, mostTicks}[random.Intn(3)]
	ticks := []int{0}
	for _, k := range random.Perm(end)[:n-1] {
		ticks = append(ticks, k+1)
	}
	slices.Sort(ticks)
	return ticks
}

// someCues are random cues, about half of them with ways that have no remainder, and whose ticks last from 1 to MaxMicros microseconds, but for every tenth list.
func someCues(seed int64, number int) [][]api.Cue {
	random := rand.New(rand.NewSource(seed))
	var lists [][]api.Cue
	for i := range number {
		most := []int{1, 3, 1000, mostMicros - 1}[random.Intn(4)]
		even := random.Intn(4)
		var l []api.Cue
		for k, tick := range someTicks(random, 2+random.Intn([]int{2, 10, 33, mostCues - 1}[random.Intn(4)])) {
			if k == 0 {
				l = list(0, random.Intn([]int{1, 2, 1000, lastMoment / 2}[random.Intn(4)]))
				continue
			}
			n := tick - l[k-1].Tick
			m := n * (1 + random.Intn(most))
			if random.Intn(3) >= even {
				m += random.Intn(n)
			}
			if i%10 == 0 && random.Intn(10) == 0 {
				m = []int{max(1, n-1), n, n * mostMicros, n*mostMicros + 1}[random.Intn(4)]
			}
			l = append(l, api.Cue{Tick: tick, Micros: l[k-1].Micros + m})
		}
		lists = append(lists, l)
	}
	return lists
}

// fullCues are cues at the limits.
func fullCues() [][]api.Cue {
	return [][]api.Cue{
		list(0, 0, 1, 1),
		list(0, lastMoment-1, 1, lastMoment),
		list(0, lastMoment-1, mostTicks, lastMoment),
		list(0, 0, mostTicks, lastMoment),
		list(0, 0, 1, lastMoment),
		list(0, 0, mostTicks, mostTicks),
		list(0, 0, mostTicks, mostTicks-1),
		list(0, 0, mostTicks, mostTicks+1),
		list(0, 0, mostTicks, mostTicks*mostMicros),
		list(0, 0, mostTicks, mostTicks*mostMicros-1),
		list(0, 0, mostTicks, mostTicks*mostMicros+1),
		list(0, lastMoment-mostTicks*mostMicros, mostTicks, lastMoment),
		list(0, lastMoment-mostMicros, 1, lastMoment),
		row(mostCues, 0, 1, 0, 1),
		row(mostCues, 0, 1, 0, mostMicros),
		row(mostCues, 0, 130, 5, 130),
		row(mostCues, 0, 130, lastMoment-63*130*mostMicros, 130*mostMicros),
	}
}

func TestExamples(t *testing.T) {
	l := list(0, 500, 3, 510, 5, 530)
	checkCheck(t, l, api.OK)
	checkFit(t, l, tempos(0, 4, 1, 3, 3, 10), api.OK)
	checkDrift(t, l, tempos(0, 4), []int{0, 2, -10}, 10, api.OK)
	checkCheck(t, list(0, 0, 3, 2), api.OK)
	checkFit(t, list(0, 0, 3, 2), nil, api.ErrRange)
}

// TestCheck has each error alone, and together with all that come later.
func TestCheck(t *testing.T) {
	checkRefused(t, nil, api.ErrEmpty)
	checkRefused(t, []api.Cue{}, api.ErrEmpty)
	for _, n := range append([]int{0, 1, 5, mostTicks}, extreme...) {
		checkRefused(t, list(0, n), api.ErrEmpty)
		checkRefused(t, list(n, 0), api.ErrEmpty)
		checkRefused(t, list(n, n), api.ErrEmpty)
	}
	for _, n := range []int{mostCues + 1, mostCues + 2, 4 * mostCues} {
		checkRefused(t, make([]api.Cue, n), api.ErrFull)
		checkRefused(t, row(n, 0, 1, 0, 1), api.ErrFull)
		checkRefused(t, row(n, 1, 1, 0, 1), api.ErrFull)
		checkRefused(t, row(n, n, -1, n, -1), api.ErrFull)
		for _, w := range list(0, -1, mostTicks+1, 1, 2, lastMoment+1, math.MinInt, math.MaxInt) {
			checkRefused(t, append([]api.Cue{w}, row(n-1, 1, 1, 1, 1)...), api.ErrFull)
			checkRefused(t, append(row(n-1, 0, 1, 0, 1), w), api.ErrFull)
		}
	}
	for _, l := range fullCues() {
		checkCheck(t, l, api.OK)
	}
}

// TestSmallLists has all lists of two and three cues with numbers at the borders and next to them.
func TestSmallLists(t *testing.T) {
	var cues []api.Cue
	for _, tick := range []int{-1, 0, 1, 2, mostTicks, mostTicks + 1} {
		for _, micros := range []int{-1, 0, 1, 2, lastMoment, lastMoment + 1} {
			cues = append(cues, api.Cue{Tick: tick, Micros: micros})
		}
	}
	k := tempos(0, 2, 1, 3)
	for _, a := range cues {
		for _, b := range cues {
			checkAll(t, []api.Cue{a, b}, k)
			for _, c := range cues {
				checkAll(t, []api.Cue{a, b, c}, k)
			}
		}
	}
}

// TestRange has every wrong number at every place, alone and where the order is wrong as well.
func TestRange(t *testing.T) {
	var wrong []api.Cue
	for _, n := range append([]int{mostTicks + 1, mostTicks + 2, lastMoment}, extreme...) {
		wrong = append(wrong, api.Cue{Tick: n, Micros: 1}, api.Cue{Tick: n, Micros: n})
	}
	for _, n := range append([]int{lastMoment + 1, lastMoment + 2}, extreme...) {
		wrong = append(wrong, api.Cue{Tick: 0, Micros: n}, api.Cue{Tick: 5, Micros: n}, api.Cue{Tick: mostTicks, Micros: n})
	}
	for _, w := range wrong {
		for _, l := range [][]api.Cue{row(mostCues, 0, 2, 0, 9), row(2, 0, 1, 0, 1), row(3, 1, 1, 0, 1), row(3, 0, 0, 0, 1), row(4, 0, 1, 5, 0), row(4, 9, -3, 9, -3)} {
			for i := range l {
				one := slices.Clone(l)
				one[i] = w
				checkRefused(t, one, api.ErrRange)
			}
		}
	}
}

// TestOrder has a first tick that is not 0, and each other cue as late as the one before or earlier, by ticks, by moments or by both.
func TestOrder(t *testing.T) {
	for _, tick := range []int{1, 2, 24, mostTicks - 1} {
		checkRefused(t, list(tick, 0, mostTicks, 5), api.ErrOrder)
		checkRefused(t, list(tick, 0, tick+1, 5), api.ErrOrder)
		checkRefused(t, list(tick, 0, 0, 5), api.ErrOrder)
	}
	full := row(mostCues, 0, 10, 7, 30)
	for i := range full {
		for _, back := range []int{1, 10, 11, 15, 10 * mostCues} {
			late := slices.Clone(full)
			late[i].Tick = max(0, full[i].Tick-back)
			if i == 0 {
				late[i].Tick = back
			}
			if i == 0 || back > 1 {
				checkRefused(t, late, api.ErrOrder)
			}
			early := slices.Clone(full)
			early[i].Micros = max(0, full[i].Micros-3*back)
			if i > 0 && back > 1 {
				checkRefused(t, early, api.ErrOrder)
				early[i].Tick = late[i].Tick
				checkRefused(t, early, api.ErrOrder)
			}
		}
	}
	checkRefused(t, list(0, 5, 1, 5), api.ErrOrder)
	checkRefused(t, list(0, 5, 0, 6), api.ErrOrder)
	checkRefused(t, list(0, 5, 1, 4), api.ErrOrder)
	checkRefused(t, list(0, 0, 2, 2, 1, 3, 3, 4), api.ErrOrder)
	checkRefused(t, list(0, 0, 1, 3, 2, 2, 3, 4), api.ErrOrder)
}

// dealt is how long each of n ticks lasts if m microseconds are dealt to them one after the other, from the first on.
func dealt(n, m int) []int {
	each := make([]int, n)
	for i := range m {
		each[i%n]++
	}
	return each
}

// TestFitSmall has all ways of up to 9 ticks and 40 microseconds, one alone and two of them, with each tick as long as it is dealt.
func TestFitSmall(t *testing.T) {
	for n := 1; n <= 9; n++ {
		for m := 1; m <= 40; m++ {
			for _, l := range [][]api.Cue{list(0, 0, n, m), list(0, 7, n, 7+m), list(0, 7, n, 7+m, n+3, 7+m+10), list(0, 2, 3, 12, 3+n, 12+m)} {
				want, err := fit(l)
				checkFit(t, l, want, err)
				if (err != api.OK) != (m < n) {
					t.Fatalf("P15.2: %d ticks of %d microseconds have the error %d", n, m, err)
				}
				if err != api.OK {
					continue
				}
				var each []int
				for i := 1; i < len(l); i++ {
					each = append(each, dealt(l[i].Tick-l[i-1].Tick, l[i].Micros-l[i-1].Micros)...)
				}
				if k, _ := cue.Fit(l); !slices.Equal(lengths(k)[:len(each)], each) {
					t.Fatalf("P15.2: Fit(%v) is %v", l, k)
				}
			}
		}
	}
}

// TestFitRange has ticks at the shortest and the longest lengths and next to them, in every way of a list.
func TestFitRange(t *testing.T) {
	for _, n := range []int{1, 2, 3, 100} {
		for _, m := range []int{1, n - 1, n, n + 1, n*mostMicros - 1, n * mostMicros, n*mostMicros + 1, n*mostMicros + n, n*mostMicros + n + 1} {
			if m == 0 {
				continue
			}
			for place := range 5 {
				l := row(place+1, 0, 3, 8, 11)
				end := l[place]
				l = append(l, row(5-place, end.Tick+n, 2, end.Micros+m, 9)...)
				want, err := fit(l)
				if (err == api.ErrRange) != (m < n || m > n*mostMicros) {
					t.Fatalf("P15.2: %v has the error %d", l, err)
				}
				checkFit(t, l, want, err)
			}
		}
	}
	for _, l := range fullCues() {
		want, err := fit(l)
		checkFit(t, l, want, err)
	}
	checkFit(t, list(0, 0, mostTicks, mostTicks*mostMicros), tempos(0, mostMicros), api.OK)
	checkFit(t, list(0, 0, mostTicks, mostTicks*mostMicros-1), tempos(0, mostMicros, mostTicks-1, mostMicros-1), api.OK)
	checkFit(t, list(0, 0, mostTicks, mostTicks*mostMicros+1), nil, api.ErrRange)
	checkFit(t, list(0, 0, mostTicks, lastMoment), nil, api.ErrRange)
}

// TestFitFull has lists with up to 63 ways of two tempos, so that there are from 1 to 126; and one more way whose ticks are too short or too long, which is refused first.
func TestFitFull(t *testing.T) {
	for n := 2; n <= mostCues; n++ {
		for twice := range n {
			l := row(n, 0, 4, 3, 8)
			for i := range l {
				l[i].Micros += min(i, twice)
			}
			want, err := fit(l)
			if (err == api.ErrFull) != (n-1+twice > mostTempos) || err == api.OK && len(want) != n-1+twice {
				t.Fatalf("P15.2: %v has %d tempos and the error %d", l, len(want), err)
			}
			checkFit(t, l, want, err)
			if n == mostCues {
				continue
			}
			end := l[n-1]
			for _, m := range []int{1, 4, 5*mostMicros + 1, 5*mostMicros + 5} {
				checkFit(t, append(slices.Clone(l), api.Cue{Tick: end.Tick + 5, Micros: end.Micros + m}), nil, api.ErrRange)
			}
		}
	}
}

// TestRandom has random cues with random tempos, cues at the limits, and tempos at the limits with them.
func TestRandom(t *testing.T) {
	random := rand.New(rand.NewSource(1))
	number := map[api.Errno]int{}
	for _, l := range someCues(2, 1500) {
		checkAll(t, l, someTempos(random))
		_, err := fit(l)
		number[err]++
	}
	for _, err := range []api.Errno{api.OK, api.ErrRange, api.ErrFull} {
		if number[err] < 20 {
			t.Fatalf("only %d lists with the error %d: %v", number[err], err, number)
		}
	}
	for _, l := range fullCues() {
		for _, k := range [][]api.Tempo{tempos(0, 1), tempos(0, mostMicros), tempos(0, 1, mostTicks, mostMicros), rows(mostTempos, 0, 130, mostMicros), rows(mostTempos, 0, 1, 1)} {
			checkAll(t, l, k)
		}
	}
}

// TestDrift has the greatest drifts, at the first, a middle or the last cue, late and early, and tempos that change between cues.
func TestDrift(t *testing.T) {
	checkDrift(t, list(0, 0, mostTicks, lastMoment), tempos(0, 1), []int{0, mostTicks - lastMoment}, lastMoment-mostTicks, api.OK)
	checkDrift(t, list(0, lastMoment-1, mostTicks, lastMoment), tempos(0, mostMicros), []int{0, mostTicks*mostMicros - 1}, mostTicks*mostMicros-1, api.OK)
	checkDrift(t, list(0, 5, 1, 8), tempos(0, 3), []int{0, 0}, 0, api.OK)
	checkDrift(t, list(0, 5, 1, 8), tempos(0, 3, 1, 9), []int{0, 0}, 0, api.OK)
	checkDrift(t, list(0, 5, 1, 8, 2, 9), tempos(0, 3, 1, 9), []int{0, 0, 8}, 8, api.OK)
	checkDrift(t, list(0, 5, 2, 20, 4, 25), tempos(0, 5, 1, 4, 3, 8), []int{0, -6, 1}, 6, api.OK)
	checkDrift(t, list(0, 5, 2, 10, 4, 20), tempos(0, 7, 2, 1), []int{0, 9, 1}, 9, api.OK)
	checkDrift(t, list(0, 9, 2, 14, 4, 19), tempos(0, 4, 2, 1), []int{0, 3, 0}, 3, api.OK)
}

// TestDriftErrors has tempos with every error, with cues that are valid and that Fit would refuse.
func TestDriftErrors(t *testing.T) {
	for err, maps := range wrongTempos() {
		for _, k := range maps {
			if e := tempo.Check(k); e != err {
				t.Fatalf("tempo.Check(%v) is %d, not %d", k, e, err)
			}
			for _, l := range append(fullCues(), list(0, 500, 3, 510, 5, 530), list(0, 0, 3, 2)) {
				checkDrift(t, l, k, nil, 0, err)
			}
		}
	}
}

// TestExact tries P15.5 and, for the tempos of Fit, that they are a tempo map.
func TestExact(t *testing.T) {
	for _, l := range append(someCues(3, 600), fullCues()...) {
		k, err := cue.Fit(l)
		if err != api.OK {
			continue
		}
		if e := tempo.Check(k); e != api.OK {
			t.Fatalf("P15.2: Fit(%v) is %v, with the error %d", l, k, e)
		}
		checkDrift(t, l, k, make([]int, len(l)), 0, api.OK)
		each := lengths(k)
		for i := 1; i < len(l); i++ {
			way := each[l[i-1].Tick:l[i].Tick]
			if slices.Max(way)-slices.Min(way) > 1 {
				t.Fatalf("P15.5: Fit(%v) is %v", l, k)
			}
		}
	}
}

// TestShifted tries P15.6, from the first moment that is possible to the last one.
func TestShifted(t *testing.T) {
	random := rand.New(rand.NewSource(4))
	for _, l := range append(someCues(5, 300), fullCues()...) {
		k := someTempos(random)
		want, err := cue.Fit(l)
		drifts, _ := cue.Drift(l, k)
		worst, _ := cue.Worst(l, k)
		down, up := -l[0].Micros, lastMoment-l[len(l)-1].Micros
		for _, by := range []int{down, down + 1, -1, 1, up - 1, up, down + random.Intn(up-down+1)} {
			if by < down || by > up {
				continue
			}
			moved := slices.Clone(l)
			for i := range moved {
				moved[i].Micros += by
			}
			if e := cue.Check(moved); e != api.OK {
				t.Fatalf("P15.1: Check(%v) is %d", moved, e)
			}
			if shifted, e := cue.Fit(moved); !slices.Equal(shifted, want) || e != err {
				t.Fatalf("P15.6: Fit(%v) is %v, %d, by %d later %v, %d", l, want, err, by, shifted, e)
			}
			checkDrift(t, moved, k, drifts, worst, api.OK)
		}
	}
}

// TestSlower tries P15.7, with random tempos and with those of Fit.
func TestSlower(t *testing.T) {
	random := rand.New(rand.NewSource(6))
	for _, l := range append(someCues(7, 300), fullCues()...) {
		fitted, _ := cue.Fit(l)
		for _, k := range [][]api.Tempo{someTempos(random), fitted} {
			drifts, err := cue.Drift(l, k)
			if err != api.OK || slices.ContainsFunc(k, func(p api.Tempo) bool { return p.Micros == mostMicros }) {
				continue
			}
			slow := slices.Clone(k)
			for i := range slow {
				slow[i].Micros++
			}
			worst := 0
			for i, c := range l {
				drifts[i] += c.Tick
				worst = max(worst, drifts[i], -drifts[i])
			}
			checkDrift(t, l, slow, drifts, worst, api.OK)
		}
	}
}

// TestMemory has cues and tempos with memory behind them, which stays as it is, and changes results afterwards.
func TestMemory(t *testing.T) {
	random := rand.New(rand.NewSource(8))
	for _, l := range append(someCues(9, 100), fullCues()...) {
		k := someTempos(random)
		cues, maps := append(slices.Clone(l), list(-3, -4, 5, 6)...), append(slices.Clone(k), tempos(-3, -4, 5, 6)...)
		keptCues, keptMaps := slices.Clone(cues), slices.Clone(maps)
		l, k = cues[:len(l)], maps[:len(k)]
		cue.Check(l)
		cue.Worst(l, k)
		fitted, _ := cue.Fit(l)
		for i := range fitted[:cap(fitted)] {
			fitted[:cap(fitted)][i] = api.Tempo{At: -7, Micros: -7}
		}
		drifts, _ := cue.Drift(l, k)
		for i := range drifts[:cap(drifts)] {
			drifts[:cap(drifts)][i] = -7
		}
		if !slices.Equal(cues, keptCues) || !slices.Equal(maps, keptMaps) {
			t.Fatalf("P1: %v and %v are changed to %v and %v", keptCues, keptMaps, cues, maps)
		}
		checkAll(t, l, k)
	}
}
