package span_test

import (
	"math"
	"math/rand"
	"slices"
	"testing"

	"dancestudio/api"
	"dancestudio/span"
)

// spans makes a list of pairs of ends.
func spans(ends ...int) []api.Span {
	var l []api.Span
	for pair := range slices.Chunk(ends, 2) {
		l = append(l, api.Span{From: pair[0], To: pair[1]})
	}
	return l
}

// comb are n spans of a length at regular distances, from first on.
func comb(n, first, distance, length int) []api.Span {
	var l []api.Span
	for i := range n {
		l = append(l, api.Span{From: first + i*distance, To: first + i*distance + length})
	}
	return l
}

// set says of each integer from 0 to MaxDay whether a span of l contains it.
func set(l []api.Span) []bool {
	in := make([]bool, api.MaxDay+1)
	for _, s := range l {
		for x := s.From; x < s.To; x++ {
			in[x] = true
		}
	}
	return in
}

// smallSet is the set of a list of small integers, by bits.
func smallSet(l []api.Span) int {
	bits := 0
	for _, s := range l {
		for x := s.From; x < s.To; x++ {
			bits |= 1 << x
		}
	}
	return bits
}

// smallLists are all lists of at most two spans with ends from 0 to most, and some of three.
func smallLists(most int) [][]api.Span {
	var each []api.Span
	for from := range most + 1 {
		for to := from; to <= most; to++ {
			each = append(each, api.Span{From: from, To: to})
		}
	}
	lists := [][]api.Span{nil, {}}
	for i, s := range each {
		lists = append(lists, []api.Span{s})
		for j, other := range each {
			lists = append(lists, []api.Span{s, other})
			if (i+2*j)%5 == 0 {
				lists = append(lists, []api.Span{other, each[(3*i+j)%len(each)], s})
			}
		}
	}
	return lists
}

// someSpans is a list of up to most spans below end, in any order, most of them short.
func someSpans(random *rand.Rand, most, end int) []api.Span {
	var l []api.Span
	longest := []int{1, 4, 1 + end/20, end}[random.Intn(4)]
	for range random.Intn(most + 1) {
		from := random.Intn(end + 1)
		l = append(l, api.Span{From: from, To: min(end, from+random.Intn(longest+1))})
	}
	return l
}

// isNormal is the definition of a normal form.
func isNormal(l []api.Span) bool {
	for i, s := range l {
		if s.From >= s.To || i > 0 && l[i-1].To >= s.From {
			return false
		}
	}
	return true
}

// normalForm reads the normal form of a set off its integers.
func normalForm(in []bool) []api.Span {
	var l []api.Span
	for x, is := range in {
		was := x > 0 && in[x-1]
		if is && !was {
			l = append(l, api.Span{From: x})
		}
		if was && !is {
			l[len(l)-1].To = x
		}
	}
	return l
}

type operation struct {
	name string
	call func(a, b []api.Span) ([]api.Span, api.Errno)
	has  func(inA, inB bool) bool
}

func operations() []operation {
	return []operation{
		{"P4.2: Norm", func(a, _ []api.Span) ([]api.Span, api.Errno) { return span.Norm(a) }, func(a, _ bool) bool { return a }},
		{"P4.3: Union", span.Union, func(a, b bool) bool { return a || b }},
		{"P4.3: Common", span.Common, func(a, b bool) bool { return a && b }},
		{"P4.3: Minus", span.Minus, func(a, b bool) bool { return a && !b }},
	}
}

func wrongLists() map[api.Errno][][]api.Span {
	full := comb(128, 0, 2, 1)
	return map[api.Errno][][]api.Span{
		api.ErrFull: {
			append(slices.Clone(full), api.Span{From: 300, To: 301}),
			append(spans(9, 0), full...),
			append(slices.Clone(full), api.Span{}),
			make([]api.Span, 5000),
		},
		api.ErrRange: {
			spans(4, 3), spans(-1, 3), spans(-1, -1), spans(-2, -3), spans(0, 65537), spans(65537, 65537), spans(65536, 65535),
			spans(0, 1, 2, 3, 5, 4), spans(5, 4, 0, 1), spans(1, 0, math.MinInt, math.MaxInt),
			spans(math.MinInt, 0), spans(math.MinInt, math.MinInt), spans(math.MaxInt, math.MaxInt), spans(0, math.MaxInt), spans(math.MaxInt, math.MinInt),
			append(slices.Clone(full[1:]), api.Span{From: 1, To: 0}),
		},
	}
}

func rightLists() [][]api.Span {
	return [][]api.Span{
		nil, {}, spans(0, 0), spans(3, 3), spans(0, 1), spans(0, 65536), spans(65536, 65536), spans(65535, 65536),
		spans(5, 9, 0, 5, 20, 21, 7, 7), comb(128, 0, 2, 1), make([]api.Span, 128), comb(128, 0, 512, 512),
	}
}

func TestCheck(t *testing.T) {
	for _, l := range rightLists() {
		if e := span.Check(l); e != api.OK {
			t.Errorf("P4.1: Check(%v) is %d", l, e)
		}
	}
	for want, lists := range wrongLists() {
		for _, l := range lists {
			if e := span.Check(l); e != want {
				t.Errorf("P4.1: Check(%v) is %d, not %d", l, e, want)
			}
		}
	}
}

func TestExamples(t *testing.T) {
	a := spans(5, 9, 0, 5, 20, 21, 7, 7)
	for _, c := range []struct{ a, b, norm, union, common, minus []api.Span }{
		{a, nil, spans(0, 9, 20, 21), spans(0, 9, 20, 21), nil, spans(0, 9, 20, 21)},
		{spans(0, 10), spans(3, 4, 8, 20), spans(0, 10), spans(0, 20), spans(3, 4, 8, 10), spans(0, 3, 4, 8)},
		{spans(0, 10), spans(3, 4), spans(0, 10), spans(0, 10), spans(3, 4), spans(0, 3, 4, 10)},
		{spans(3, 4), spans(0, 10), spans(3, 4), spans(0, 10), spans(3, 4), nil},
		{nil, spans(1, 2), nil, spans(1, 2), nil, nil},
		{spans(7, 7, 7, 7), spans(0, 0), nil, nil, nil, nil},
		{spans(0, 10), spans(5, 5), spans(0, 10), spans(0, 10), nil, spans(0, 10)},
		{spans(0, 5), spans(5, 9), spans(0, 5), spans(0, 9), nil, spans(0, 5)},
		{spans(0, 5), spans(6, 9), spans(0, 5), spans(0, 5, 6, 9), nil, spans(0, 5)},
		{spans(0, 65536), spans(65535, 65536), spans(0, 65536), spans(0, 65536), spans(65535, 65536), spans(0, 65535)},
		{spans(0, 65536), spans(0, 65536), spans(0, 65536), spans(0, 65536), spans(0, 65536), nil},
	} {
		for i, want := range [][]api.Span{c.norm, c.union, c.common, c.minus} {
			f := operations()[i]
			if l, e := f.call(c.a, c.b); !slices.Equal(l, want) || e != api.OK {
				t.Errorf("%s of %v and %v is %v, %d, not %v", f.name, c.a, c.b, l, e, want)
			}
		}
	}
}

// TestSmallSets compares the four functions with sets of bits, for all lists of a small grid.
func TestSmallSets(t *testing.T) {
	const most = 4
	lists := smallLists(most)
	for _, f := range operations() {
		for _, a := range lists {
			for _, b := range lists {
				want := 0
				for x := range most {
					if f.has(smallSet(a)>>x&1 == 1, smallSet(b)>>x&1 == 1) {
						want |= 1 << x
					}
				}
				if l, e := f.call(a, b); e != api.OK || !isNormal(l) || smallSet(l) != want {
					t.Fatalf("%s of %v and %v is %v, %d", f.name, a, b, l, e)
				}
			}
		}
	}
}

// TestSets compares the four functions with the integers that belong to their results.
func TestSets(t *testing.T) {
	random := rand.New(rand.NewSource(4))
	for i := range 60 {
		end := []int{12, 400, api.MaxDay}[i%3]
		a, b := someSpans(random, 128, end), someSpans(random, 128, end)
		inA, inB := set(a), set(b)
		for _, f := range operations() {
			in := make([]bool, len(inA))
			for x := range in {
				in[x] = f.has(inA[x], inB[x])
			}
			want, err := normalForm(in), api.OK
			if len(want) > 128 {
				want, err = nil, api.ErrFull
			}
			if l, e := f.call(a, b); !slices.Equal(l, want) || e != err {
				t.Errorf("%s of %v and %v is %v, %d, not %v, %d", f.name, a, b, l, e, want, err)
			}
		}
	}
}

// TestFullResults has results with 128 spans, and with more.
func TestFullResults(t *testing.T) {
	teeth, gaps := comb(128, 0, 4, 1), comb(128, 2, 4, 1)
	wide, shifted := comb(128, 0, 8, 5), comb(128, 4, 8, 5)
	for _, c := range []struct {
		f    int
		a, b []api.Span
		n    int
		err  api.Errno
	}{
		{0, teeth, nil, 128, api.OK},
		{1, teeth, gaps, 0, api.ErrFull},
		{1, teeth, gaps[:1], 0, api.ErrFull},
		{1, teeth[:64], gaps[:64], 128, api.OK},
		{1, teeth, comb(128, 1, 4, 3), 1, api.OK},
		{1, teeth, teeth, 128, api.OK},
		{2, wide, shifted, 0, api.ErrFull},
		{2, wide[:64], shifted[:64], 127, api.OK},
		{2, wide[:65], shifted[:64], 128, api.OK},
		{2, wide[:65], shifted[:65], 0, api.ErrFull},
		{3, teeth, gaps, 128, api.OK},
		{3, spans(0, 65536), gaps, 0, api.ErrFull},
		{3, spans(0, 65536), gaps[1:], 128, api.OK},
		{3, spans(2, 65536), gaps, 128, api.OK},
	} {
		f := operations()[c.f]
		if l, e := f.call(c.a, c.b); len(l) != c.n || e != c.err {
			t.Errorf("%s of %v and %v has %d spans, %d, not %d, %d", f.name, c.a, c.b, len(l), e, c.n, c.err)
		}
	}
}

// TestListErrors expects the error for a, then that for b, before all others.
func TestListErrors(t *testing.T) {
	for err, lists := range wrongLists() {
		for _, l := range lists {
			for _, f := range operations() {
				for _, b := range slices.Concat(rightLists(), wrongLists()[api.ErrFull], wrongLists()[api.ErrRange]) {
					if got, e := f.call(l, b); len(got) != 0 || e != err {
						t.Errorf("P4.1, %s of %v and %v is %v, %d, not %d", f.name, l, b, got, e, err)
					}
				}
			}
			for _, a := range rightLists() {
				for _, f := range operations()[1:] {
					if got, e := f.call(a, l); len(got) != 0 || e != err {
						t.Errorf("P4.1, %s of %v and %v is %v, %d, not %d", f.name, a, l, got, e, err)
					}
				}
			}
			if n, e := span.Total(l); n != 0 || e != err {
				t.Errorf("P4.1, P4.4: Total(%v) is %d, %d, not %d", l, n, e, err)
			}
			for _, n := range []int{1, 0, math.MinInt} {
				checkFree(t, l, n, 100, api.Span{}, err)
			}
		}
	}
}

func TestTotal(t *testing.T) {
	for _, c := range []struct {
		l    []api.Span
		want int
	}{
		{nil, 0}, {spans(3, 3), 0}, {spans(0, 1), 1}, {spans(0, 5, 3, 8), 8}, {spans(3, 8, 0, 5), 8}, {spans(0, 5, 5, 8), 8},
		{spans(0, 5, 1, 2), 5}, {spans(1, 2, 1, 2), 1}, {spans(0, 65536), 65536}, {spans(0, 65536, 0, 65536), 65536},
		{comb(128, 0, 512, 512), 65536}, {comb(128, 1, 4, 3), 384},
	} {
		if n, e := span.Total(c.l); n != c.want || e != api.OK {
			t.Errorf("P4.4: Total(%v) is %d, %d, not %d", c.l, n, e, c.want)
		}
	}
	random := rand.New(rand.NewSource(5))
	for range 40 {
		l := someSpans(random, 128, 3000)
		want := 0
		for _, is := range set(l) {
			if is {
				want++
			}
		}
		if n, e := span.Total(l); n != want || e != api.OK {
			t.Errorf("P4.4: Total(%v) is %d, %d, not %d", l, n, e, want)
		}
	}
}

func TestHas(t *testing.T) {
	whole := spans(math.MinInt, math.MaxInt)
	long := append(comb(1000, 0, 2, 1), api.Span{From: -7, To: -5})
	for _, c := range []struct {
		l    []api.Span
		x    int
		want bool
	}{
		{nil, 0, false}, {spans(5, 2), 3, false}, {spans(5, 2, 3, 4), 3, true}, {spans(5, 2), 5, false}, {spans(5, 2), 2, false},
		{spans(0, 3), -1, false}, {spans(0, 3), 0, true}, {spans(0, 3), 2, true}, {spans(0, 3), 3, false}, {spans(3, 3), 3, false},
		{spans(8, 9, 1, 2), 1, true}, {spans(8, 9, 1, 2), 8, true}, {spans(8, 9, 1, 2), 5, false}, {spans(1, 5, 3, 9), 4, true},
		{spans(-9, -4), -9, true}, {spans(-9, -4), -5, true}, {spans(-9, -4), -4, false}, {spans(70000, 70001), 70000, true},
		{whole, math.MinInt, true}, {whole, 0, true}, {whole, math.MaxInt - 1, true}, {whole, math.MaxInt, false},
		{spans(math.MaxInt, math.MinInt), 0, false}, {spans(math.MaxInt, math.MaxInt), math.MaxInt, false},
		{long, 1998, true}, {long, 1999, false}, {long, -7, true}, {long, -5, false},
	} {
		if has := span.Has(c.l, c.x); has != c.want {
			t.Errorf("P4.5: Has(%v, %d) is %t", c.l, c.x, has)
		}
	}
}

func checkFree(t *testing.T, l []api.Span, n, most int, want api.Span, err api.Errno) {
	t.Helper()
	if s, e := span.Free(l, n, most); s != want || e != err {
		t.Errorf("P4.6: Free(%v, %d, %d) is %v, %d, not %v, %d", l, n, most, s, e, want, err)
	}
}

func TestFree(t *testing.T) {
	busy := spans(0, 3, 5, 6)
	checkFree(t, busy, 2, 10, api.Span{From: 3, To: 5}, api.OK)
	checkFree(t, busy, 2, 5, api.Span{From: 3, To: 5}, api.OK)
	checkFree(t, busy, 2, 4, api.Span{}, api.ErrNone)
	checkFree(t, busy, 3, 9, api.Span{From: 6, To: 9}, api.OK)
	checkFree(t, busy, 3, 8, api.Span{}, api.ErrNone)
	checkFree(t, nil, 1, 0, api.Span{}, api.ErrNone)
	checkFree(t, nil, 1, 1, api.Span{From: 0, To: 1}, api.OK)
	checkFree(t, nil, 65536, 65536, api.Span{From: 0, To: 65536}, api.OK)
	checkFree(t, nil, 65536, 65535, api.Span{}, api.ErrNone)
	checkFree(t, spans(65536, 65536, 0, 0), 65536, 65536, api.Span{From: 0, To: 65536}, api.OK)
	checkFree(t, spans(0, 65536), 1, 65536, api.Span{}, api.ErrNone)
	checkFree(t, spans(0, 65535), 1, 65536, api.Span{From: 65535, To: 65536}, api.OK)
	checkFree(t, spans(65535, 65536), 65535, 65536, api.Span{From: 0, To: 65535}, api.OK)
	checkFree(t, comb(128, 0, 4, 1), 4, 65536, api.Span{From: 509, To: 513}, api.OK)
}

// TestFirstFree tries every place, for all lists of a small grid.
func TestFirstFree(t *testing.T) {
	for _, l := range smallLists(5) {
		busy := smallSet(l)
		for n := 1; n <= 4; n++ {
			for most := range 9 {
				want, err := api.Span{}, api.ErrNone
				for x := most - n; x >= 0; x-- {
					if busy>>x&(1<<n-1) == 0 {
						want, err = api.Span{From: x, To: x + n}, api.OK
					}
				}
				checkFree(t, l, n, most, want, err)
			}
		}
	}
}

func TestFreeErrors(t *testing.T) {
	for _, l := range rightLists() {
		for _, n := range []int{math.MinInt, -1, 0, 65537, math.MaxInt} {
			checkFree(t, l, n, 10, api.Span{}, api.ErrRange)
			checkFree(t, l, n, -1, api.Span{}, api.ErrRange)
		}
		for _, most := range []int{math.MinInt, -1, 65537, math.MaxInt} {
			checkFree(t, l, 1, most, api.Span{}, api.ErrRange)
			checkFree(t, l, 65536, most, api.Span{}, api.ErrRange)
		}
		checkFree(t, l, 65536, 0, api.Span{}, api.ErrNone)
		checkFree(t, l, 1, 0, api.Span{}, api.ErrNone)
	}
}

// TestLaws tries the laws of sets where no error is returned.
func TestLaws(t *testing.T) {
	random := rand.New(rand.NewSource(6))
	for i := range 300 {
		end := []int{9, 60, api.MaxDay}[i%3]
		a, b := someSpans(random, 40, end), someSpans(random, 40, end)
		norm, union, common, minus := must(span.Norm(a)), must(span.Union(a, b)), must(span.Common(a, b)), must(span.Minus(a, b))
		for x := -1; x <= 61; x++ {
			inA, inB := span.Has(a, x), span.Has(b, x)
			if span.Has(norm, x) != inA || span.Has(union, x) != (inA || inB) || span.Has(common, x) != (inA && inB) || span.Has(minus, x) != (inA && !inB) {
				t.Errorf("P4.7: %d in the sets of %v and %v", x, a, b)
			}
		}
		if !slices.Equal(must(span.Norm(norm)), norm) {
			t.Errorf("P4.7: Norm of %v is %v", norm, must(span.Norm(norm)))
		}
		if !slices.Equal(must(span.Union(b, a)), union) || !slices.Equal(must(span.Common(b, a)), common) {
			t.Errorf("P4.7: the order of %v and %v", a, b)
		}
		if !slices.Equal(must(span.Minus(a, minus)), common) {
			t.Errorf("P4.7: Minus(a, Minus(a, b)) of %v and %v", a, b)
		}
		if must(span.Total(a)) != must(span.Total(common))+must(span.Total(minus)) {
			t.Errorf("P4.8: Total of %v, divided by %v", a, b)
		}
		if must(span.Total(union)) != must(span.Total(b))+must(span.Total(minus)) {
			t.Errorf("P4.8: Total of the union of %v and %v", a, b)
		}
	}
}

// must is the value of a call that has no error.
func must[T any](value T, err api.Errno) T {
	if err != api.OK {
		panic("P4.7, P4.8: an error where none is expected")
	}
	return value
}

// TestMemory expects that arguments stay as they are, and that results share no memory with them.
func TestMemory(t *testing.T) {
	for _, f := range operations() {
		for _, list := range [][]api.Span{spans(0, 3, 5, 9), spans(5, 9, 0, 3, 3, 4, 2, 2)} {
			a, b := make([]api.Span, 0, 64), make([]api.Span, 0, 64)
			a, b = append(a, list...), append(b, list...)
			if _, e := f.call(a, b[:1]); e != api.OK {
				t.Errorf("%s has the error %d", f.name, e)
			}
			if _, e := span.Free(a, 2, 20); e != api.OK || !slices.Equal(a, list) || !slices.Equal(b, list) {
				t.Errorf("P1, %s changes its arguments to %v and %v", f.name, a, b)
			}
			if !slices.Equal(a[:cap(a)][len(a):], make([]api.Span, cap(a)-len(a))) {
				t.Errorf("P1, %s writes behind an argument", f.name)
			}
			result, _ := f.call(a, nil)
			want := slices.Clone(result)
			clear(a)
			if !slices.Equal(result, want) {
				t.Errorf("P1, %s shares memory with its argument", f.name)
			}
		}
	}
}
