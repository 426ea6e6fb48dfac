package meter_test

import (
	"math"
	"math/rand"
	"slices"
	"testing"

	"dancestudio/api"
	"dancestudio/meter"
)

const (
	mostTicks    = 8192
	mostMeasures = 128
)

// extreme are integers far outside all bounds.
var extreme = []int{math.MinInt, math.MinInt + 1, -1 << 62, -1 << 32, -mostTicks, -2, -1, 1 << 14, 1 << 32, 1<<32 + 1, 1 << 62, math.MaxInt - 1, math.MaxInt}

// moment is where a tick is.
type moment struct{ measure, beat, rest int }

// moments has an element for each tick of a list: the definition of measures and beats, tick after tick.
func moments(l []api.Meter) []moment {
	var all []moment
	for i, m := range l {
		for b := range m.Beats {
			for k := range m.Unit {
				all = append(all, moment{i, b, k})
			}
		}
	}
	return all
}

func list(numbers ...int) []api.Meter {
	var l []api.Meter
	for i := 0; i < len(numbers); i += 2 {
		l = append(l, api.Meter{Beats: numbers[i], Unit: numbers[i+1]})
	}
	return l
}

func same(m api.Meter, n int) []api.Meter { return slices.Repeat([]api.Meter{m}, n) }

func checkLength(t *testing.T, l []api.Meter, want int, err api.Errno) {
	t.Helper()
	if e := meter.Check(l); e != err {
		t.Fatalf("P1, P13.1: Check(%v) is %d, not %d", l, e, err)
	}
	if n, e := meter.Length(l); n != want || e != err {
		t.Fatalf("P1, P13.2: Length(%v) is %d, %d, not %d, %d", l, n, e, want, err)
	}
}

func checkMeasure(t *testing.T, l []api.Meter, i int, want api.Span, err api.Errno) {
	t.Helper()
	if s, e := meter.Measure(l, i); s != want || e != err {
		t.Fatalf("P1, P13.3: Measure(%v, %d) is %v, %d, not %v, %d", l, i, s, e, want, err)
	}
}

func checkWhere(t *testing.T, l []api.Meter, tick int, want moment, err api.Errno) {
	t.Helper()
	if i, b, n, e := meter.Where(l, tick); (moment{i, b, n}) != want || e != err {
		t.Fatalf("P1, P13.4: Where(%v, %d) is %d, %d, %d, %d, not %v, %d", l, tick, i, b, n, e, want, err)
	}
}

func checkBeats(t *testing.T, l []api.Meter, s api.Span, want []int, err api.Errno) {
	t.Helper()
	if b, e := meter.Beats(l, s); !slices.Equal(b, want) || e != err {
		t.Fatalf("P1, P13.5: Beats(%v, %v) is %v, %d, not %v, %d", l, s, b, e, want, err)
	}
}

func checkCut(t *testing.T, l []api.Meter, s api.Span, want []api.Meter, err api.Errno) {
	t.Helper()
	if m, e := meter.Cut(l, s); !slices.Equal(m, want) || e != err {
		t.Fatalf("P1, P13.6: Cut(%v, %v) is %v, %d, not %v, %d", l, s, m, e, want, err)
	}
}

// checkRefused tries all functions with meters that have an error, with other arguments that would be valid and that would not.
func checkRefused(t *testing.T, l []api.Meter, err api.Errno) {
	t.Helper()
	checkLength(t, l, 0, err)
	for _, n := range []int{0, 1, len(l) - 1, len(l), -1, math.MinInt, math.MaxInt} {
		checkMeasure(t, l, n, api.Span{}, err)
		checkWhere(t, l, n, moment{}, err)
		for _, s := range []api.Span{{From: 0, To: n}, {From: n, To: 1}, {From: n, To: n}, {From: math.MaxInt, To: n}} {
			checkBeats(t, l, s, nil, err)
			checkCut(t, l, s, nil, err)
		}
	}
}

// checkPlaces tries Length, Measure and Where against the definition, at all ticks and next to them.
func checkPlaces(t *testing.T, l []api.Meter) {
	t.Helper()
	all := moments(l)
	checkLength(t, l, len(all), api.OK)
	for i := range l {
		of := func(m moment) bool { return m.measure == i }
		from := slices.IndexFunc(all, of)
		to := from
		for to < len(all) && of(all[to]) {
			to++
		}
		checkMeasure(t, l, i, api.Span{From: from, To: to}, api.OK)
	}
	for tick, want := range all {
		checkWhere(t, l, tick, want, api.OK)
	}
	for _, n := range append([]int{len(l), len(l) + 1, len(all), mostTicks}, extreme...) {
		if n < 0 || n >= len(l) {
			checkMeasure(t, l, n, api.Span{}, api.ErrMeasure)
		}
		if n < 0 || n >= len(all) {
			checkWhere(t, l, n, moment{}, api.ErrRange)
		}
	}
}

// checkSpan tries Beats and Cut against the definition.
func checkSpan(t *testing.T, l []api.Meter, all []moment, s api.Span) {
	t.Helper()
	if s.From < 0 || s.From > s.To || s.To > len(all) {
		checkBeats(t, l, s, nil, api.ErrRange)
	} else {
		var want []int
		for tick := s.From; tick < s.To; tick++ {
			if all[tick].rest == 0 {
				want = append(want, tick)
			}
		}
		checkBeats(t, l, s, want, api.OK)
	}
	if s.From < 0 || s.From >= s.To || s.To > len(l) {
		checkCut(t, l, s, nil, api.ErrMeasure)
		return
	}
	var want []api.Meter
	for i, m := range l {
		if s.From <= i && i < s.To {
			want = append(want, m)
		}
	}
	checkCut(t, l, s, want, api.OK)
}

// smallLists are all lists of n measures with up to 3 beats of up to 3 ticks.
func smallLists(n int) [][]api.Meter {
	if n == 0 {
		return [][]api.Meter{nil}
	}
	var l [][]api.Meter
	for _, rest := range smallLists(n - 1) {
		for beats := 1; beats <= 3; beats++ {
			for unit := 1; unit <= 3; unit++ {
				l = append(l, append(slices.Clone(rest), api.Meter{Beats: beats, Unit: unit}))
			}
		}
	}
	return l
}

// someLists are random valid lists, up to the greatest number of measures and the greatest length.
func someLists(seed int64, number int) [][]api.Meter {
	random := rand.New(rand.NewSource(seed))
	var all [][]api.Meter
	for len(all) < number {
		most := []int{3, 20, mostMeasures}[random.Intn(3)]
		unit := []int{1, 4, 24, 96}[random.Intn(4)]
		var l []api.Meter
		for n := 1 + random.Intn(most); len(l) < n; {
			l = append(l, api.Meter{Beats: 1 + random.Intn(16), Unit: 1 + random.Intn(unit)})
		}
		for len(moments(l)) > mostTicks {
			l = l[1:]
		}
		all = append(all, l)
	}
	return all
}

// fullLists are valid lists at the limits.
func fullLists() [][]api.Meter {
	five := same(api.Meter{Beats: 16, Unit: 96}, 5)
	return [][]api.Meter{
		same(api.Meter{Beats: 1, Unit: 1}, mostMeasures),
		same(api.Meter{Beats: 16, Unit: 4}, mostMeasures),
		same(api.Meter{Beats: 1, Unit: 64}, mostMeasures),
		append(slices.Clone(five), api.Meter{Beats: 16, Unit: 32}),
		append(list(16, 32), five...),
		append(slices.Clone(five), list(5, 96, 1, 31)...),
		append(same(api.Meter{Beats: 1, Unit: 1}, mostMeasures-5), append(slices.Clone(five[1:]), api.Meter{Beats: 16, Unit: 95})...),
	}
}

func TestExamples(t *testing.T) {
	two := list(4, 24, 3, 24)
	checkLength(t, two, 168, api.OK)
	checkMeasure(t, two, 0, api.Span{From: 0, To: 96}, api.OK)
	checkMeasure(t, two, 1, api.Span{From: 96, To: 168}, api.OK)
	checkWhere(t, two, 125, moment{1, 1, 5}, api.OK)
	checkWhere(t, two, 168, moment{}, api.ErrRange)
	checkBeats(t, list(2, 10, 1, 5), api.Span{From: 5, To: 25}, []int{10, 20}, api.OK)
	checkBeats(t, list(2, 10, 1, 5), api.Span{From: 0, To: 0}, nil, api.OK)
	three := list(4, 24, 3, 24, 2, 12)
	checkCut(t, three, api.Span{From: 1, To: 3}, list(3, 24, 2, 12), api.OK)
	checkCut(t, three, api.Span{From: 1, To: 1}, nil, api.ErrMeasure)
}

// TestCheck has each error alone, and together with all that come later.
func TestCheck(t *testing.T) {
	checkRefused(t, nil, api.ErrEmpty)
	checkRefused(t, []api.Meter{}, api.ErrEmpty)
	for _, n := range []int{mostMeasures + 1, mostMeasures + 2, 4 * mostMeasures} {
		for _, m := range list(1, 1, 16, 96, 0, 0, 17, 1, 1, 97, math.MaxInt, math.MaxInt, math.MinInt, 1) {
			checkRefused(t, same(m, n), api.ErrFull)
			checkRefused(t, append(same(api.Meter{Beats: 1, Unit: 1}, n-1), m), api.ErrFull)
			checkRefused(t, append([]api.Meter{m}, same(api.Meter{Beats: 16, Unit: 96}, n-1)...), api.ErrFull)
		}
	}
	for _, l := range [][]api.Meter{same(api.Meter{Beats: 16, Unit: 96}, 6), same(api.Meter{Beats: 16, Unit: 96}, mostMeasures), same(api.Meter{Beats: 13, Unit: 5}, mostMeasures)} {
		checkRefused(t, l, api.ErrFull)
	}
	for _, l := range fullLists() {
		n := len(moments(l))
		checkLength(t, l, n, api.OK)
		// a list of 8192 ticks that becomes longer by the last or by the first one
		if n == mostTicks && len(l) < mostMeasures {
			checkRefused(t, append(slices.Clone(l), api.Meter{Beats: 1, Unit: 1}), api.ErrFull)
			checkRefused(t, append(list(1, 1), l...), api.ErrFull)
		}
	}
}

// TestRange has every wrong number, alone and in lists that would be too long as well.
func TestRange(t *testing.T) {
	long := same(api.Meter{Beats: 16, Unit: 96}, mostMeasures-1)
	for _, n := range append([]int{0, 97, 98}, extreme...) {
		checkRefused(t, list(4, n), api.ErrRange)
		checkRefused(t, list(n, 24), api.ErrRange)
		checkRefused(t, list(n, n), api.ErrRange)
		for _, m := range list(4, n, n, 24) {
			checkRefused(t, append([]api.Meter{m}, long...), api.ErrRange)
			checkRefused(t, append(slices.Clone(long), m), api.ErrRange)
			checkRefused(t, append(list(1, 1, m.Beats, m.Unit), long[1:]...), api.ErrRange)
		}
	}
	// products that would be valid
	for _, l := range [][]api.Meter{list(-1, -1), list(-4, -24), list(24, 4), list(17, 1), list(96, 1), list(1<<32, 1<<32), list(1<<61+1, 8), list(8, 1<<61+3), list(4, 24, -1, 3, 1, 1)} {
		checkRefused(t, l, api.ErrRange)
	}
	for beats := -2; beats <= 20; beats++ {
		for unit := -2; unit <= 100; unit++ {
			if beats < 1 || beats > 16 || unit < 1 || unit > 96 {
				checkLength(t, list(beats, unit), 0, api.ErrRange)
				checkLength(t, list(1, 1, beats, unit), 0, api.ErrRange)
				continue
			}
			checkLength(t, list(beats, unit), beats*unit, api.OK)
			checkLength(t, list(1, 1, beats, unit, 2, 3), beats*unit+7, api.OK)
		}
	}
}

func TestPlaces(t *testing.T) {
	for n := 1; n <= 3; n++ {
		for _, l := range smallLists(n) {
			checkPlaces(t, l)
		}
	}
	for _, l := range slices.Concat(someLists(1, 100), fullLists(), [][]api.Meter{list(16, 96), list(1, 96), list(16, 1), list(1, 1)}) {
		checkPlaces(t, l)
	}
}

// TestSpans tries all spans of small lists, and random ones of others.
func TestSpans(t *testing.T) {
	for n := 1; n <= 3; n++ {
		for k, l := range smallLists(n) {
			if n == 3 && k%7 != 0 {
				continue
			}
			all := moments(l)
			for from := -2; from <= len(all)+2; from++ {
				for to := -2; to <= len(all)+2; to++ {
					checkSpan(t, l, all, api.Span{From: from, To: to})
				}
			}
		}
	}
	random := rand.New(rand.NewSource(2))
	for _, l := range append(someLists(3, 50), fullLists()...) {
		all := moments(l)
		places := append([]int{0, 1, len(l) - 1, len(l), len(l) + 1, len(all) - 1, len(all), len(all) + 1}, extreme...)
		for range 8 {
			places = append(places, random.Intn(len(all)+1), random.Intn(len(l)+1))
		}
		for _, from := range places {
			for _, to := range places {
				checkSpan(t, l, all, api.Span{From: from, To: to})
			}
		}
	}
}

// TestTiles tries P13.7 by what the functions say of each other.
func TestTiles(t *testing.T) {
	for _, l := range slices.Concat(smallLists(1), smallLists(2), someLists(4, 60), fullLists()) {
		length, _ := meter.Length(l)
		end, beats := 0, 0
		for i, m := range l {
			s, e := meter.Measure(l, i)
			if s.From != end || s.To-s.From != m.Beats*m.Unit || e != api.OK {
				t.Fatalf("P13.7: the measure %d of %v is %v, %d, after %d", i, l, s, e, end)
			}
			begins, _ := meter.Beats(l, s)
			if len(begins) != m.Beats {
				t.Fatalf("P13.7: the measure %d of %v has the beats %v", i, l, begins)
			}
			for b, begin := range begins {
				checkWhere(t, l, begin, moment{i, b, 0}, api.OK)
				checkWhere(t, l, begin+m.Unit-1, moment{i, b, m.Unit - 1}, api.OK)
			}
			end, beats = s.To, beats+m.Beats
		}
		all, e := meter.Beats(l, api.Span{From: 0, To: length})
		if end != length || len(all) != beats || e != api.OK {
			t.Fatalf("P13.7: %v has the length %d and the beats %v, %d; its measures have %d ticks and %d beats", l, length, all, e, end, beats)
		}
	}
}

// TestParts cuts lists into two: both together have the lengths of the list.
func TestParts(t *testing.T) {
	for _, l := range slices.Concat(smallLists(3), someLists(5, 30), fullLists()) {
		length, _ := meter.Length(l)
		for i := 1; i < len(l); i++ {
			before, e := meter.Cut(l, api.Span{From: 0, To: i})
			behind, f := meter.Cut(l, api.Span{From: i, To: len(l)})
			n, _ := meter.Length(before)
			rest, _ := meter.Length(behind)
			of, _ := meter.Measure(l, i)
			first, _ := meter.Measure(behind, 0)
			if e != api.OK || f != api.OK || n+rest != length || n != of.From || first.To != of.To-of.From {
				t.Fatalf("P13.7: %v is cut at %d into %v, %d, and %v, %d", l, i, before, e, behind, f)
			}
		}
	}
}

// TestMemory has meters with memory behind them, which stays as it is, and changes results afterwards.
func TestMemory(t *testing.T) {
	for _, l := range append(smallLists(2), someLists(6, 20)...) {
		memory := append(slices.Clone(l), list(-3, -4, 5, 6)...)
		kept := slices.Clone(memory)
		given := memory[:len(l)]
		whole := api.Span{From: 0, To: len(l)}
		length, _ := meter.Length(given)
		meter.Check(given)
		meter.Measure(given, len(l)-1)
		meter.Where(given, length-1)
		for range 2 {
			cut, _ := meter.Cut(given, whole)
			beats, _ := meter.Beats(given, api.Span{From: 0, To: length})
			again, _ := meter.Cut(given, whole)
			for i := range cut[:cap(cut)] {
				cut[:cap(cut)][i] = api.Meter{Beats: -7, Unit: -7}
			}
			for i := range beats[:cap(beats)] {
				beats[:cap(beats)][i] = -7
			}
			if !slices.Equal(again, l) {
				t.Fatalf("P13.6: Cut(%v, %v) is %v after another result was changed", l, whole, again)
			}
			if !slices.Equal(memory, kept) {
				t.Fatalf("P1: %v is changed to %v", kept, memory)
			}
		}
		checkSpan(t, given, moments(l), whole)
		checkSpan(t, given, moments(l), api.Span{From: 0, To: length})
	}
}
