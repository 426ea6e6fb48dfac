package repeats_test

import (
	"cmp"
	"math"
	"math/rand"
	"slices"
	"testing"

	"dancestudio/api"
	"dancestudio/repeats"
	"dancestudio/staff"
)

// extreme are integers far outside all bounds.
var extreme = []int{math.MinInt, math.MinInt + 1, -1 << 62, -1 << 32, -1<<32 + 2, -1 << 31, -1 << 16, -8193, -17, -1, 8193, 1 << 16, 1 << 31, 1 << 32, 1<<32 + 1, 1<<32 + 2, 1 << 62, 1<<62 + 2, math.MaxInt - 8192, math.MaxInt - 1, math.MaxInt}

func sym(kind, column, begin, n, dir, level, amount int) api.Symbol {
	return api.Symbol{Kind: kind, Column: column, Begin: begin, Len: n, Dir: dir, Level: level, Amount: amount}
}

func hold(column, begin, n int) api.Symbol { return sym(api.Hold, column, begin, n, 0, 0, 0) }

func lead(limb, begin, n, dir int) api.Symbol {
	return sym(api.Gesture, api.FirstGesture+limb, begin, n, dir, api.Middle, 0)
}

func turn(begin, n, eighths int) api.Symbol {
	return sym(api.Turn, api.TurnColumn, begin, n, 0, 0, eighths)
}

func sign(from, to, times int) api.Repeat {
	return api.Repeat{Span: api.Span{From: from, To: to}, Times: times}
}

// inOrder sorts a list by Begin, then by Column.
func inOrder(l []api.Symbol) []api.Symbol {
	slices.SortStableFunc(l, func(a, b api.Symbol) int {
		return cmp.Or(cmp.Compare(a.Begin, b.Begin), cmp.Compare(a.Column, b.Column))
	})
	return l
}

// score is a staff with repetitions: the definitions of the chapter.
type score struct {
	l      []api.Symbol
	length int
	r      []api.Repeat
}

// canCut is the definition of a tick at which a staff can be cut.
func canCut(l []api.Symbol, tick int) bool {
	for _, s := range l {
		if s.Begin < tick && s.Begin+s.Len > tick {
			return false
		}
	}
	return true
}

// ticks returns the written tick of each performed one: where a span ends, the performance goes back to its beginning, until it was there often enough.
func (s score) ticks() []int {
	var all []int
	done := make([]int, len(s.r))
	for tick := 0; tick < s.length; {
		all = append(all, tick)
		tick++
		for i, each := range s.r {
			if each.Span.To != tick {
				continue
			}
			done[i]++
			if done[i] < each.Times {
				tick = each.Span.From
				break
			}
		}
	}
	return all
}

// symbols returns the symbols that begin at performed ticks.
func (s score) symbols() []api.Symbol {
	begins := map[int][]api.Symbol{}
	for _, each := range s.l {
		begins[each.Begin] = append(begins[each.Begin], each)
	}
	var all []api.Symbol
	for now, tick := range s.ticks() {
		for _, each := range begins[tick] {
			each.Begin = now
			all = append(all, each)
		}
	}
	return inOrder(all)
}

// signsErr returns the errors of the repetitions alone.
func (s score) signsErr() api.Errno {
	if len(s.r) > 16 {
		return api.ErrFull
	}
	for _, each := range s.r {
		from, to := each.Span.From, each.Span.To
		if !(0 <= from && from < to && to <= s.length && 2 <= each.Times && each.Times <= 16) {
			return api.ErrRange
		}
	}
	for i := range s.r {
		if i > 0 && !(s.r[i].Span.From >= s.r[i-1].Span.To) {
			return api.ErrOrder
		}
	}
	return api.OK
}

// check is the definition of P26.1.
func (s score) check() api.Errno {
	if err := staff.Check(s.l, s.length); err != api.OK {
		return err
	}
	if err := s.signsErr(); err != api.OK {
		return err
	}
	for _, each := range s.r {
		if !canCut(s.l, each.Span.From) || !canCut(s.l, each.Span.To) {
			return api.ErrOverlap
		}
	}
	if len(s.ticks()) > 8192 {
		return api.ErrRange
	}
	if len(s.symbols()) > 256 {
		return api.ErrFull
	}
	return api.OK
}

// counts says how often each error of Check was the right one.
type counts map[api.Errno]int

// compare compares Check, Length, Perform and Source with their definitions, and counts the error.
func (n counts) compare(t *testing.T, s score, at ...int) {
	t.Helper()
	err := s.check()
	n[err]++
	if e := repeats.Check(s.l, s.length, s.r); e != err {
		t.Fatalf("P1, P26.1: Check(%v, %d, %v) is %d, not %d", s.l, s.length, s.r, e, err)
	}
	var ticks []int
	var symbols []api.Symbol
	if err == api.OK {
		ticks, symbols = s.ticks(), s.symbols()
	}
	if m, e := repeats.Length(s.l, s.length, s.r); m != len(ticks) || e != err {
		t.Fatalf("P1, P26.2: Length(%v, %d, %v) is %d, %d, not %d, %d", s.l, s.length, s.r, m, e, len(ticks), err)
	}
	if p, e := repeats.Perform(s.l, s.length, s.r); !slices.Equal(p, symbols) || e != err {
		t.Fatalf("P1, P26.3: Perform(%v, %d, %v) is %v, %d, not %v, %d", s.l, s.length, s.r, p, e, symbols, err)
	}
	for _, tick := range at {
		n.compareSource(t, s, tick, ticks, err)
	}
}

// compareSource compares Source with P26.4.
func (n counts) compareSource(t *testing.T, s score, tick int, ticks []int, err api.Errno) {
	t.Helper()
	want := 0
	switch {
	case err != api.OK:
	case tick < 0 || tick >= len(ticks):
		err = api.ErrRange
	default:
		want = ticks[tick]
	}
	if m, e := repeats.Source(s.l, s.length, s.r, tick); m != want || e != err {
		t.Fatalf("P1, P26.4: Source(%v, %d, %v, %d) is %d, %d, not %d, %d", s.l, s.length, s.r, tick, m, e, want, err)
	}
}

// tried reports errors that were the right ones too seldom.
func (n counts) tried(t *testing.T, least int, all ...api.Errno) {
	t.Helper()
	for _, err := range all {
		if n[err] < least {
			t.Errorf("P26.1: only %d lists with the error %d were tried", n[err], err)
		}
	}
}

// staves calls f with all staves of up to so many symbols out of a list that is in order.
func staves(all []api.Symbol, most, length int, f func(l []api.Symbol)) {
	var longer func(l, rest []api.Symbol)
	longer = func(l, rest []api.Symbol) {
		if staff.Check(l, length) != api.OK {
			return
		}
		f(l)
		if len(l) == most {
			return
		}
		for i, s := range rest {
			longer(append(slices.Clone(l), s), rest[i+1:])
		}
	}
	longer(nil, all)
}

// few are the symbols of two columns that begin and end within a length.
func few(length int) []api.Symbol {
	var all []api.Symbol
	for begin := range length {
		for n := 1; begin+n <= length; n++ {
			all = append(all, hold(0, begin, n), lead(api.ArmLeft, begin, n, api.Right))
		}
	}
	return inOrder(all)
}

// upTo returns the integers from -1 up to a number.
func upTo(n int) []int {
	all := []int{-1}
	for i := range n + 1 {
		all = append(all, i)
	}
	return all
}

// spans returns all spans with ends from -1 to a length and one more.
func spans(length int) []api.Span {
	var all []api.Span
	for _, from := range upTo(length + 1) {
		for _, to := range upTo(length + 1) {
			all = append(all, api.Span{From: from, To: to})
		}
	}
	return all
}

// TestSmall has all lists of up to two repetitions of all small staves.
func TestSmall(t *testing.T) {
	n := counts{}
	for length := 1; length <= 4; length++ {
		staves(few(length), 2, length, func(l []api.Symbol) {
			n.compare(t, score{l, length, nil}, upTo(length+1)...)
			for _, a := range spans(length) {
				for _, times := range []int{-1, 0, 1, 2, 3, 15, 16, 17} {
					r := []api.Repeat{{Span: a, Times: times}}
					n.compare(t, score{l, length, r}, upTo(17*length)...)
				}
				for _, b := range spans(length) {
					r := []api.Repeat{{Span: a, Times: 2}, {Span: b, Times: 3}}
					n.compare(t, score{l, length, r}, 0, length, length+1, length+2)
				}
			}
		})
	}
	n.tried(t, 5000, api.OK, api.ErrRange, api.ErrOrder, api.ErrOverlap)
}

// TestSmallTimes has all pairs of numbers of times of two spans beside each other or apart.
func TestSmallTimes(t *testing.T) {
	n := counts{}
	l := []api.Symbol{hold(0, 0, 2), hold(1, 0, 1), lead(api.Head, 1, 1, api.Left), turn(2, 1, 1), hold(1, 3, 3), hold(0, 5, 1)}
	for _, gap := range []int{0, 1} {
		for first := 0; first <= 18; first++ {
			for second := 0; second <= 18; second++ {
				r := []api.Repeat{sign(0, 2, first), sign(2+gap, 3+gap, second)}
				n.compare(t, score{l[:4], 5, r}, upTo(60)...)
				r = []api.Repeat{sign(1+gap, 3, first), sign(3, 6, second)}
				n.compare(t, score{l, 7, r}, upTo(90)...)
			}
		}
	}
	n.tried(t, 400, api.OK, api.ErrRange)
}

// anySymbol returns a symbol of a column.
func anySymbol(r *rand.Rand, column, begin, n int) api.Symbol {
	switch {
	case column == api.TurnColumn:
		return turn(begin, n, (1+r.Intn(16))*(1-2*r.Intn(2)))
	case column >= api.FirstGesture:
		return sym(api.Gesture, column, begin, n, 1+r.Intn(8), r.Intn(3)-1, r.Intn(7))
	case r.Intn(2) == 0:
		return hold(column, begin, n)
	default:
		return sym(api.Step, column, begin, n, r.Intn(9), r.Intn(3)-1, 0)
	}
}

// anyStaff returns a staff of a length with up to so many symbols.
func anyStaff(r *rand.Rand, length, most int) []api.Symbol {
	var l []api.Symbol
	longest := 1 + r.Intn(length)
	for range r.Intn(most + 1) {
		begin := r.Intn(length)
		n := 1 + r.Intn(min(longest, length-begin))
		if put, err := staff.Put(l, length, anySymbol(r, r.Intn(api.Columns), begin, n)); err == api.OK {
			l = put
		}
	}
	return l
}

// cuts returns the ticks at which a staff can be cut.
func cuts(l []api.Symbol, length int) []int {
	var all []int
	for tick := range length + 1 {
		if canCut(l, tick) {
			all = append(all, tick)
		}
	}
	return all
}

// anySigns returns up to so many repetitions of a staff.
func anySigns(r *rand.Rand, l []api.Symbol, length, most int) []api.Repeat {
	var all []api.Repeat
	at := cuts(l, length)
	for i := r.Intn(len(at)); i+1 < len(at) && len(all) < most; {
		j := i + 1 + r.Intn(min(len(at)-i-1, 1+r.Intn(5)))
		all = append(all, sign(at[i], at[j], 2+r.Intn(1+r.Intn(15))))
		i = j + r.Intn(3)*r.Intn(3)
	}
	return all
}

// anyScore returns a staff with repetitions that may be performed too long.
func anyScore(r *rand.Rand) score {
	length := 1 + r.Intn(1+r.Intn(200))
	l := anyStaff(r, length, 1+r.Intn(1+r.Intn(90)))
	return score{l, length, anySigns(r, l, length, 16)}
}

func TestRandom(t *testing.T) {
	r := rand.New(rand.NewSource(26))
	n := counts{}
	for range 5000 {
		s := anyScore(r)
		m := len(s.ticks())
		n.compare(t, s, -1, 0, m-1, m, m+1, r.Intn(m), r.Intn(m), r.Intn(m))
	}
	n.tried(t, 1000, api.OK)
	n.tried(t, 10, api.ErrFull)
}

// spoil changes one number of one repetition, or puts one more.
func spoil(r *rand.Rand, s score) score {
	s.r = slices.Clone(s.r)
	if len(s.r) == 0 || r.Intn(6) == 0 {
		s.r = slices.Insert(s.r, r.Intn(len(s.r)+1), sign(r.Intn(s.length), r.Intn(s.length+1), r.Intn(19)))
		return s
	}
	i := r.Intn(len(s.r))
	number := []*int{&s.r[i].Span.From, &s.r[i].Span.To, &s.r[i].Times}[r.Intn(3)]
	switch r.Intn(5) {
	case 0:
		*number = extreme[r.Intn(len(extreme))]
	case 1:
		*number = r.Intn(s.length + 2)
	case 2:
		j := r.Intn(len(s.r))
		s.r[i], s.r[j] = s.r[j], s.r[i]
	default:
		*number += r.Intn(5) - 2
	}
	return s
}

func TestSpoiled(t *testing.T) {
	r := rand.New(rand.NewSource(27))
	n := counts{}
	for range 10000 {
		s := anyScore(r)
		for range 1 + r.Intn(3) {
			s = spoil(r, s)
		}
		n.compare(t, s, -1, 0, 1, r.Intn(s.length), s.length, extreme[r.Intn(len(extreme))])
	}
	n.tried(t, 300, api.OK, api.ErrRange, api.ErrOrder, api.ErrOverlap)
	n.tried(t, 10, api.ErrFull)
}

// TestPerformedLength has performed lengths at MaxTicks and beside it.
func TestPerformedLength(t *testing.T) {
	r := rand.New(rand.NewSource(28))
	n := counts{}
	for range 60 {
		times := 2 + r.Intn(15)
		repeated := 1 + r.Intn(8192/times)
		for _, more := range []int{-1, 0, 1} {
			length := 8192 + more - (times-1)*repeated
			from := r.Intn(length - repeated + 1)
			s := score{[]api.Symbol{hold(0, from, repeated)}, length, []api.Repeat{sign(from, from+repeated, times)}}
			n.compare(t, s, 0, from, from+repeated, 8190, 8191, 8192)
		}
	}
	n.tried(t, 60, api.ErrRange)
	n.tried(t, 120, api.OK)
	for _, signs := range [][]api.Repeat{{sign(0, 8192, 16)}, {sign(0, 4096, 16), sign(4096, 8192, 16)}} {
		n.compare(t, score{nil, 8192, signs}, 0)
	}
	var all []api.Repeat
	for i := range 16 {
		all = append(all, sign(i*512, i*512+512, 16))
	}
	n.compare(t, score{nil, 8192, all}, 0)
	n.compare(t, score{nil, 8192, nil}, 0, 8191, 8192)
	n.tried(t, 63, api.ErrRange)
}

// TestPerformedSymbols has numbers of performed symbols at MaxSymbols and beside it.
func TestPerformedSymbols(t *testing.T) {
	r := rand.New(rand.NewSource(29))
	n := counts{}
	for range 100 {
		times := 2 + r.Intn(15)
		repeated := 1 + r.Intn(256/times)
		for _, more := range []int{-1, 0, 1} {
			length := min(256, 256+more-(times-1)*repeated)
			from := r.Intn(length - repeated + 1)
			var l []api.Symbol
			for i := range length {
				l = append(l, hold(i%2, i, 1))
			}
			n.compare(t, score{l, length, []api.Repeat{sign(from, from+repeated, times)}}, 0, from, 254, 255, 256)
		}
	}
	n.tried(t, 95, api.ErrFull)
	n.tried(t, 190, api.OK)
	var l []api.Symbol
	for i := range 256 {
		l = append(l, hold(i%2, i, 1))
	}
	n.compare(t, score{l, 300, []api.Repeat{sign(256, 300, 16)}}, 959, 960)
	n.compare(t, score{l, 512, []api.Repeat{sign(0, 256, 16)}}, 0)
	n.compare(t, score{l, 512, []api.Repeat{sign(255, 256, 2)}}, 0)
	n.tried(t, 97, api.ErrFull)
}

// TestManySigns has lists of up to 18 repetitions.
func TestManySigns(t *testing.T) {
	n := counts{}
	var l []api.Symbol
	var r []api.Repeat
	for i := range 19 {
		n.compare(t, score{l, 40, r}, upTo(80)...)
		n.compare(t, score{nil, 40, r}, upTo(80)...)
		l = append(l, hold(0, 2*i, 2))
		r = append(r, sign(2*i, 2*i+2, 2+i%2))
	}
	n.tried(t, 34, api.OK)
	n.tried(t, 4, api.ErrFull)
}

// TestExtreme has numbers far outside at every place.
func TestExtreme(t *testing.T) {
	n := counts{}
	l := []api.Symbol{hold(0, 0, 8), hold(0, 8, 4)}
	for _, x := range extreme {
		n.compare(t, score{l, x, nil}, 0)
		n.compare(t, score{nil, x, []api.Repeat{sign(0, 1, 2)}}, 0)
		for _, y := range append(extreme, 0, 8, 12) {
			for _, z := range append(extreme, 0, 2, 16) {
				n.compare(t, score{l, 12, []api.Repeat{sign(x, y, z)}}, x)
				n.compare(t, score{l, 12, []api.Repeat{sign(y, x, z)}}, x)
				n.compare(t, score{l, 12, []api.Repeat{sign(0, 8, 2), sign(y, x, z)}}, x)
			}
			n.compare(t, score{l, 12, []api.Repeat{sign(0, 12, x)}}, x)
		}
		n.compare(t, score{l, 12, []api.Repeat{sign(0, 8, 2)}}, x)
		n.compare(t, score{[]api.Symbol{hold(0, x, 1)}, 12, nil}, 0)
		n.compare(t, score{[]api.Symbol{hold(0, 0, x)}, 12, nil}, 0)
		n.compare(t, score{[]api.Symbol{hold(x, 0, 1)}, 12, nil}, 0)
		n.compare(t, score{[]api.Symbol{sym(x, 0, 0, 1, 0, 0, 0)}, 12, nil}, 0)
	}
	n.tried(t, 1000, api.ErrRange)
	n.tried(t, 10, api.OK, api.ErrColumn, api.ErrKind)
}

// TestOrderOfErrors has lists in which several errors apply; each one is mended after the other.
func TestOrderOfErrors(t *testing.T) {
	var many []api.Symbol
	for i := range 200 {
		many = append(many, hold(0, i, 1))
	}
	across := append(slices.Clone(many), hold(1, 300, 100))
	wrong := append(slices.Clone(across), hold(1, 350, 10))
	seventeen := slices.Repeat([]api.Repeat{sign(320, 310, 1)}, 17)
	for i, c := range []struct {
		s    score
		want api.Errno
	}{
		{score{wrong, 8193, seventeen}, api.ErrRange},
		{score{wrong, 8192, seventeen}, api.ErrOverlap},
		{score{across, 8192, seventeen}, api.ErrFull},
		{score{across, 8192, seventeen[:16]}, api.ErrRange},
		{score{across, 8192, []api.Repeat{sign(320, 330, 2), sign(0, 300, 2), sign(300, 8192, 17)}}, api.ErrRange},
		{score{across, 8192, []api.Repeat{sign(320, 330, 2), sign(0, 300, 2), sign(300, 8192, 16)}}, api.ErrOrder},
		{score{across, 8192, []api.Repeat{sign(0, 300, 2), sign(320, 330, 2), sign(400, 8192, 16)}}, api.ErrOverlap},
		{score{across, 8192, []api.Repeat{sign(0, 300, 2), sign(300, 399, 2), sign(399, 8192, 16)}}, api.ErrOverlap},
		{score{across, 8192, []api.Repeat{sign(0, 300, 2), sign(300, 400, 2), sign(400, 8192, 16)}}, api.ErrRange},
		{score{across, 8192, []api.Repeat{sign(0, 300, 2), sign(300, 400, 2)}}, api.ErrRange},
		{score{across, 7792, []api.Repeat{sign(0, 300, 2), sign(300, 400, 2)}}, api.ErrFull},
		{score{across, 7792, []api.Repeat{sign(300, 400, 2)}}, api.OK},
	} {
		if err := c.s.check(); err != c.want {
			t.Fatal("the test is wrong:", i, err)
		}
		counts{}.compare(t, c.s, -1, 0, 8192)
	}
}

// TestExamples has the examples of the chapter.
func TestExamples(t *testing.T) {
	l := []api.Symbol{hold(0, 0, 8), hold(0, 8, 4)}
	want := []api.Symbol{hold(0, 0, 8), hold(0, 8, 8), hold(0, 16, 4)}
	if p, e := repeats.Perform(l, 12, []api.Repeat{sign(0, 8, 2)}); !slices.Equal(p, want) || e != api.OK {
		t.Error("P26.3:", p, e)
	}
	for tick, source := range map[int]int{9: 1, 17: 9} {
		if n, e := repeats.Source(l, 12, []api.Repeat{sign(0, 8, 2)}, tick); n != source || e != api.OK {
			t.Error("P26.4:", tick, n, e)
		}
	}
	for i, c := range []struct {
		r    api.Repeat
		want api.Errno
	}{{sign(0, 8, 2), api.ErrOverlap}, {sign(4, 4, 2), api.ErrRange}, {sign(0, 12, 17), api.ErrRange}} {
		if e := repeats.Check([]api.Symbol{hold(0, 0, 12)}, 12, []api.Repeat{c.r}); e != c.want {
			t.Error("P26.1:", i, e)
		}
	}
	if n, e := repeats.Length(l, 12, []api.Repeat{sign(0, 8, 2)}); n != 20 || e != api.OK {
		t.Error("P26.2:", n, e)
	}
	if n, e := repeats.Length(l, 12, []api.Repeat{sign(0, 8, 2), sign(8, 12, 3)}); n != 28 || e != api.OK {
		t.Error("P26.2:", n, e)
	}
	if e := repeats.Check([]api.Symbol{hold(0, 0, 1)}, 1024, []api.Repeat{sign(0, 1024, 9)}); e != api.ErrRange {
		t.Error("P26.1:", e)
	}
	f, n, r, e := repeats.Find([]api.Symbol{hold(0, 0, 4), hold(0, 4, 4), hold(0, 8, 4)}, 12, 4)
	if !slices.Equal(f, []api.Symbol{hold(0, 0, 4)}) || n != 4 || !slices.Equal(r, []api.Repeat{sign(0, 4, 3)}) || e != api.OK {
		t.Error("P26.5:", f, n, r, e)
	}
	f, n, r, e = repeats.Find([]api.Symbol{hold(0, 0, 4), hold(0, 4, 4), hold(0, 8, 3)}, 11, 4)
	if !slices.Equal(f, []api.Symbol{hold(0, 0, 4), hold(0, 4, 3)}) || n != 7 || !slices.Equal(r, []api.Repeat{sign(0, 4, 2)}) || e != api.OK {
		t.Error("P26.5:", f, n, r, e)
	}
}

// found is the result of Find.
type found struct {
	l      []api.Symbol
	length int
	r      []api.Repeat
	err    api.Errno
}

// isSame is the definition of two parts of the same length that can be cut out and are the same.
func isSame(l []api.Symbol, length, a, b, n int) bool {
	for _, tick := range []int{a, a + n, b, b + n} {
		if !canCut(l, tick) {
			return false
		}
	}
	one, e := staff.Cut(l, length, api.Span{From: a, To: a + n})
	other, f := staff.Cut(l, length, api.Span{From: b, To: b + n})
	return e == api.OK && f == api.OK && slices.Equal(one, other)
}

// isRow is the definition of k equal parts of n ticks from t on.
func isRow(l []api.Symbol, length, t, n, k int) bool {
	if t+k*n > length {
		return false
	}
	for i := 1; i < k; i++ {
		if !isSame(l, length, t, t+i*n, n) {
			return false
		}
	}
	return true
}

// shortest returns the first length that fits at a tick, 0 if there is none.
func shortest(l []api.Symbol, length, t, unit int) int {
	for n := unit; t+2*n <= length; n += unit {
		if canCut(l, t) && isSame(l, length, t, t+n, n) {
			return n
		}
	}
	return 0
}

// find is the definition of P26.5.
func find(l []api.Symbol, length, unit int) found {
	if err := staff.Check(l, length); err != api.OK {
		return found{err: err}
	}
	if unit < 1 || unit > length {
		return found{err: api.ErrRange}
	}
	var written []int
	var f found
	for t := 0; t < length; {
		n := 0
		if len(f.r) < 16 {
			n = shortest(l, length, t, unit)
		}
		if n == 0 {
			for range unit {
				if t < length {
					written = append(written, t)
					t++
				}
			}
			continue
		}
		k := 16
		for !isRow(l, length, t, n, k) {
			k--
		}
		f.r = append(f.r, sign(len(written), len(written)+n, k))
		for i := range n {
			written = append(written, t+i)
		}
		t += k * n
	}
	for i, tick := range written {
		for _, s := range l {
			if s.Begin == tick {
				s.Begin = i
				f.l = append(f.l, s)
			}
		}
	}
	f.l, f.length = inOrder(f.l), len(written)
	return f
}

// compareFind compares Find with its definition, and with P26.8.
func compareFind(t *testing.T, l []api.Symbol, length, unit int) found {
	t.Helper()
	want := find(l, length, unit)
	var f found
	f.l, f.length, f.r, f.err = repeats.Find(l, length, unit)
	if !slices.Equal(f.l, want.l) || f.length != want.length || !slices.Equal(f.r, want.r) || f.err != want.err {
		t.Fatalf("P1, P26.5: Find(%v, %d, %d) is %v, not %v", l, length, unit, f, want)
	}
	if f.err == api.OK {
		performsAs(t, f, l, length)
	}
	return f
}

// performsAs checks P26.8.
func performsAs(t *testing.T, f found, l []api.Symbol, length int) {
	t.Helper()
	if e := repeats.Check(f.l, f.length, f.r); e != api.OK || f.length > length {
		t.Fatalf("P26.8: Check of %v, which is found in %v, %d, is %d", f, l, length, e)
	}
	if p, e := repeats.Perform(f.l, f.length, f.r); !slices.Equal(p, l) || e != api.OK {
		t.Fatalf("P26.8: Perform of %v is %v, %d, not %v", f, p, e, l)
	}
	if n, e := repeats.Length(f.l, f.length, f.r); n != length || e != api.OK {
		t.Fatalf("P26.8: Length of %v is %d, %d, not %d", f, n, e, length)
	}
}

// lines calls f with all lists of symbols of two kinds in one column, some of them with ticks between them, up to a length.
func lines(length int, f func(l []api.Symbol)) {
	var longer func(l []api.Symbol, at int)
	longer = func(l []api.Symbol, at int) {
		if at == length {
			f(l)
			return
		}
		longer(l, at+1)
		for n := 1; n <= 3 && at+n <= length; n++ {
			longer(append(slices.Clone(l), hold(0, at, n)), at+n)
		}
		longer(append(slices.Clone(l), sym(api.Step, 0, at, 1, api.Left, api.High, 0)), at+1)
	}
	longer(nil, 0)
}

// TestFindLines has all lines of one column.
func TestFindLines(t *testing.T) {
	n := map[int]int{}
	for length := 1; length <= 8; length++ {
		lines(length, func(l []api.Symbol) {
			for unit := 0; unit <= length+1; unit++ {
				f := compareFind(t, l, length, unit)
				n[len(f.r)]++
			}
		})
	}
	for k, least := range []int{1000, 1000, 1000, 50, 1} {
		if n[k] < least {
			t.Errorf("P26.5: only %d lines with %d repetitions were tried", n[k], k)
		}
	}
}

// TestFindColumns has all staves of a few symbols in two columns, performed once or twice.
func TestFindColumns(t *testing.T) {
	for length := 1; length <= 5; length++ {
		staves(few(length), 3, length, func(l []api.Symbol) {
			twice, err := staff.Join(l, length, l, length)
			if err != api.OK {
				t.Fatal("P24.6:", err)
			}
			for unit := 1; unit <= length; unit++ {
				compareFind(t, l, length, unit)
				compareFind(t, twice, 2*length, unit)
				compareFind(t, twice, 2*length+1, unit)
			}
		})
	}
}

// performed returns a staff that is performed with random repetitions.
func performed(r *rand.Rand) ([]api.Symbol, int) {
	for {
		s := anyScore(r)
		if s.check() == api.OK {
			return s.symbols(), len(s.ticks())
		}
	}
}

// TestFindRandom has performed staves, some with a symbol changed.
func TestFindRandom(t *testing.T) {
	r := rand.New(rand.NewSource(30))
	most, times, longer := 0, 0, 0
	for range 1500 {
		l, length := performed(r)
		if len(l) > 0 && r.Intn(3) == 0 {
			i := r.Intn(len(l))
			l[i] = anySymbol(r, l[i].Column, l[i].Begin, l[i].Len)
		}
		unit := 1 + r.Intn(1+r.Intn(min(length, 12)))
		f := compareFind(t, l, length, unit)
		most = max(most, len(f.r))
		for _, each := range f.r {
			times = max(times, each.Times)
			if each.Span.To-each.Span.From > unit {
				longer++
			}
		}
	}
	if most < 16 || times < 16 || longer < 200 {
		t.Error("P26.5: too few repetitions were found:", most, times, longer)
	}
}

// row returns one line of parts, each as often as it is said: a hold that is followed by so many ticks without a symbol.
func row(times []int) ([]api.Symbol, int) {
	var l []api.Symbol
	at := 0
	for i, n := range times {
		for range n {
			l = append(l, sym(api.Step, i%2, at, 2, 1+i%8, i%3-1, 0))
			at += 4
		}
	}
	return l, at
}

// TestFindTimes has parts that follow each other up to 40 times, alone and after others.
func TestFindTimes(t *testing.T) {
	for n := 1; n <= 40; n++ {
		for _, before := range []int{0, 1, 2, 5, 16, 17} {
			l, length := row([]int{before, n, 1})
			for unit := 1; unit <= 9; unit++ {
				compareFind(t, l, length, unit)
				compareFind(t, l, length+1, unit)
			}
		}
	}
}

// TestFindMany has up to 20 parts, each twice or three times.
func TestFindMany(t *testing.T) {
	for n := 1; n <= 20; n++ {
		for _, unit := range []int{1, 2, 4, 8, 12} {
			two, three := slices.Repeat([]int{2}, n), slices.Repeat([]int{3}, n)
			for _, times := range [][]int{two, three, append(two, 1), append([]int{1}, three...)} {
				l, length := row(times)
				f := compareFind(t, l, length, unit)
				if unit == 4 && len(f.r) != min(n, 16) {
					t.Error("P26.5:", n, "parts are written with", len(f.r), "repetitions")
				}
			}
		}
	}
}

// TestFindLarge has staves of up to 8192 ticks and 256 symbols.
func TestFindLarge(t *testing.T) {
	r := rand.New(rand.NewSource(31))
	for i := range 12 {
		l := anyStaff(r, 8192, 255)
		compareFind(t, l, 8192, []int{31, 64, 100, 333, 1000, 2730, 4096, 4097, 8191, 8192}[i%10])
		compareFind(t, nil, 8192, []int{1, 4096}[i%2])
		if i > 2 {
			continue
		}
		// As long as nothing fits, all lengths are tried.
		var short []api.Symbol
		for k := range 128 {
			short = append(short, sym(api.Step, 0, 2*k, 1, 1+k%8, k/8%3-1, 0), hold(0, 2*k+1, 1+k/127*7000))
		}
		for _, each := range [][]api.Symbol{l, short, {hold(0, 0, 8192)}, {hold(0, 1, 8191)}} {
			var f found
			f.l, f.length, f.r, f.err = repeats.Find(each, 8192, 1)
			if f.err != api.OK {
				t.Fatal("P26.5:", f.err)
			}
			performsAs(t, f, each, 8192)
		}
	}
}

func TestFindErrors(t *testing.T) {
	l := []api.Symbol{hold(0, 0, 4), hold(0, 4, 4)}
	wrong := []api.Symbol{l[1], l[0]}
	for _, x := range append(extreme, -1, 0, 1, 7, 8, 9) {
		compareFind(t, l, 8, x)
		compareFind(t, wrong, 8, x)
		compareFind(t, l, x, 1)
		compareFind(t, nil, x, x)
		compareFind(t, []api.Symbol{hold(0, x, 1)}, 8, 0)
		compareFind(t, []api.Symbol{hold(x, 0, 1)}, 8, 9)
	}
	if _, _, _, e := repeats.Find(wrong, 8, 0); e != api.ErrOrder {
		t.Error("P26.5: the error of staff.Check comes first:", e)
	}
}

// same checks P26.6 of a score that Check accepts.
func same(t *testing.T, s score) {
	t.Helper()
	p, _ := repeats.Perform(s.l, s.length, s.r)
	times := map[api.Symbol]int{}
	for _, each := range p {
		source, err := repeats.Source(s.l, s.length, s.r, each.Begin)
		each.Begin = source
		if err != api.OK || !slices.Contains(s.l, each) {
			t.Fatalf("P26.6: %v, performed in %v, is not written", each, s)
		}
		times[each]++
	}
	for _, each := range s.l {
		want := 1
		for _, repeat := range s.r {
			if repeat.Span.From <= each.Begin && each.Begin < repeat.Span.To {
				want = repeat.Times
			}
		}
		if times[each] != want {
			t.Fatalf("P26.6: %v is performed %d times in %v, not %d times", each, times[each], s, want)
		}
	}
}

// TestConsequences has P26.6 and P26.7.
func TestConsequences(t *testing.T) {
	r := rand.New(rand.NewSource(32))
	for range 3000 {
		s := anyScore(r)
		if repeats.Check(s.l, s.length, s.r) != api.OK {
			continue
		}
		same(t, s)
		p, _ := repeats.Perform(s.l, s.length, s.r)
		n, _ := repeats.Length(s.l, s.length, s.r)
		if e := staff.Check(p, n); e != api.OK {
			t.Fatalf("P26.7: staff.Check of what is performed of %v is %d", s, e)
		}
		p, e := repeats.Perform(s.l, s.length, nil)
		n, f := repeats.Length(s.l, s.length, nil)
		if !slices.Equal(p, s.l) || n != s.length || e != api.OK || f != api.OK {
			t.Fatalf("P26.6: without repetitions %v is performed as %v, %d", s, p, n)
		}
	}
}

// roomy returns a copy of a list with room behind it that is filled.
func roomy[E any](l []E, fill E) []E {
	room := append(slices.Clone(l), slices.Repeat([]E{fill}, 600)...)
	return room[:len(l)]
}

// TestMemory has rule 6: arguments are not changed, and results are new.
func TestMemory(t *testing.T) {
	r := rand.New(rand.NewSource(33))
	mark, markSign := hold(1, 77, 7), sign(7, 77, 7)
	for range 300 {
		s := anyScore(r)
		l, signs := roomy(s.l, mark), roomy(s.r, markSign)
		wholeL, wholeR := slices.Clone(l[:len(l)+600]), slices.Clone(signs[:len(signs)+600])
		p, e := repeats.Perform(l, s.length, signs)
		again := slices.Clone(p)
		f, n, found, _ := repeats.Find(l, s.length, 1)
		f2, found2 := slices.Clone(f), slices.Clone(found)
		repeats.Source(l, s.length, signs, 0)
		for _, each := range [][]api.Symbol{p, f} {
			each = each[:cap(each)]
			for i := range each {
				each[i] = mark
			}
		}
		found = found[:cap(found)]
		for i := range found {
			found[i] = markSign
		}
		if !slices.Equal(wholeL, l[:len(l)+600]) || !slices.Equal(wholeR, signs[:len(signs)+600]) {
			t.Fatal("rule 6: an argument was changed, or is shared with a result:", s)
		}
		if q, err := repeats.Perform(l, s.length, signs); !slices.Equal(q, again) || err != e {
			t.Fatal("rule 6: Perform has kept a result:", s)
		}
		if g, m, h, _ := repeats.Find(l, s.length, 1); !slices.Equal(g, f2) || m != n || !slices.Equal(h, found2) {
			t.Fatal("rule 6: Find has kept a result:", s)
		}
	}
}
