package staff_test

import (
	"cmp"
	"math"
	"math/rand"
	"slices"
	"testing"

	"dancestudio/api"
	"dancestudio/staff"
	"dancestudio/symbol"
)

// extreme are integers far outside all bounds.
var extreme = []int{math.MinInt, math.MinInt + 1, math.MinInt + 24, -1 << 62, -1 << 32, -1<<32 + 1, -1 << 31, -1 << 16, -8193, 8193, 1 << 16, 1 << 31, 1 << 32, 1<<32 + 1, 1<<32 + 5, 1 << 62, math.MaxInt - 8192, math.MaxInt - 1, math.MaxInt}

func inside(n, least, greatest int) bool { return least <= n && n <= greatest }

// hasTick is the definition of the ticks of a symbol.
func hasTick(s api.Symbol, tick int) bool { return s.Begin <= tick && tick <= s.Begin+s.Len-1 }

// haveCommon says whether two valid symbols have a tick in common, which is looked for one by one.
func haveCommon(a, b api.Symbol) bool {
	for tick := a.Begin; tick < a.Begin+a.Len; tick++ {
		if hasTick(b, tick) {
			return true
		}
	}
	return false
}

// check is the definition of P24.1.
func check(l []api.Symbol, length int) api.Errno {
	if !inside(length, 1, 8192) {
		return api.ErrRange
	}
	if len(l) > 256 {
		return api.ErrFull
	}
	for _, s := range l {
		if err := symbol.Check(s); err != api.OK {
			return err
		}
	}
	for i := range len(l) - 1 {
		a, b := l[i], l[i+1]
		if a.Begin > b.Begin || a.Begin == b.Begin && a.Column >= b.Column {
			return api.ErrOrder
		}
	}
	for i, s := range l {
		if s.Begin+s.Len > length {
			return api.ErrRange
		}
		for _, earlier := range l[:i] {
			if earlier.Column == s.Column && earlier.Begin+earlier.Len > s.Begin {
				return api.ErrOverlap
			}
		}
	}
	return api.OK
}

// put is the definition of P24.2.
func put(l []api.Symbol, length int, s api.Symbol) ([]api.Symbol, api.Errno) {
	if err := check(l, length); err != api.OK {
		return nil, err
	}
	if err := symbol.Check(s); err != api.OK {
		return nil, err
	}
	if s.Begin+s.Len > length {
		return nil, api.ErrRange
	}
	for _, other := range l {
		if other.Column == s.Column && haveCommon(s, other) {
			return nil, api.ErrOverlap
		}
	}
	if len(l) == 256 {
		return nil, api.ErrFull
	}
	return inOrder(append(slices.Clone(l), s)), api.OK
}

// inOrder sorts a list by Begin, then by Column.
func inOrder(l []api.Symbol) []api.Symbol {
	slices.SortFunc(l, func(a, b api.Symbol) int {
		return cmp.Or(cmp.Compare(a.Begin, b.Begin), cmp.Compare(a.Column, b.Column))
	})
	return l
}

// take is the definition of P24.3.
func take(l []api.Symbol, length, column, begin int) ([]api.Symbol, api.Errno) {
	if err := check(l, length); err != api.OK {
		return nil, err
	}
	var rest []api.Symbol
	for _, s := range l {
		if s.Column != column || s.Begin != begin {
			rest = append(rest, s)
		}
	}
	if len(rest) == len(l) {
		return nil, api.ErrNone
	}
	return rest, api.OK
}

// inColumn is the definition of P24.4.
func inColumn(l []api.Symbol, length, column int) ([]api.Symbol, api.Errno) {
	if err := check(l, length); err != api.OK {
		return nil, err
	}
	if !inside(column, 0, 8) {
		return nil, api.ErrColumn
	}
	var symbols []api.Symbol
	for _, s := range l {
		if s.Column == column {
			symbols = append(symbols, s)
		}
	}
	return symbols, api.OK
}

// at is the definition of P24.5.
func at(l []api.Symbol, length, column, tick int) (int, api.Errno) {
	if err := check(l, length); err != api.OK {
		return 0, err
	}
	if !inside(column, 0, 8) {
		return 0, api.ErrColumn
	}
	if !inside(tick, 0, length-1) {
		return 0, api.ErrRange
	}
	return slices.IndexFunc(l, func(s api.Symbol) bool { return s.Column == column && hasTick(s, tick) }), api.OK
}

// join is the definition of P24.6.
func join(a []api.Symbol, n int, b []api.Symbol, m int) ([]api.Symbol, api.Errno) {
	if err := check(a, n); err != api.OK {
		return nil, err
	}
	if err := check(b, m); err != api.OK {
		return nil, err
	}
	if n+m > 8192 {
		return nil, api.ErrRange
	}
	if len(a)+len(b) > 256 {
		return nil, api.ErrFull
	}
	both := slices.Clone(a)
	for _, s := range b {
		s.Begin += n
		both = append(both, s)
	}
	return both, api.OK
}

// cut is the definition of P24.7.
func cut(l []api.Symbol, length int, at api.Span) ([]api.Symbol, api.Errno) {
	if err := check(l, length); err != api.OK {
		return nil, err
	}
	if !inside(at.From, 0, length) || !inside(at.To, 0, length) || at.From >= at.To {
		return nil, api.ErrRange
	}
	var within []api.Symbol
	for _, s := range l {
		e := s.Begin + s.Len
		if s.Begin < at.From && e > at.From || s.Begin < at.To && e > at.To {
			return nil, api.ErrOverlap
		}
		if s.Begin >= at.From && e <= at.To {
			s.Begin -= at.From
			within = append(within, s)
		}
	}
	return within, api.OK
}

// counts says how often each error was the right one, for each function.
type counts map[string]map[api.Errno]int

func (n counts) add(function string, err api.Errno) {
	if n[function] == nil {
		n[function] = map[api.Errno]int{}
	}
	n[function][err]++
}

// atLeast reports functions of which an error was tried too seldom.
func (n counts) atLeast(t *testing.T, least int, function string, errs ...api.Errno) {
	t.Helper()
	for _, err := range errs {
		if n[function][err] < least {
			t.Errorf("%s: only %d cases with the error %d were tried", function, n[function][err], err)
		}
	}
}

// The following compare a function with its definition, and count the error.

func (n counts) check(t *testing.T, l []api.Symbol, length int) {
	t.Helper()
	want := check(l, length)
	n.add("Check", want)
	if err := staff.Check(l, length); err != want {
		t.Fatalf("P1, P24.1: Check(%v, %d) is %d, not %d", l, length, err, want)
	}
}

func (n counts) put(t *testing.T, l []api.Symbol, length int, s api.Symbol) {
	t.Helper()
	want, wantErr := put(l, length, s)
	n.add("Put", wantErr)
	if got, err := staff.Put(l, length, s); !slices.Equal(got, want) || err != wantErr {
		t.Fatalf("P1, P24.2: Put(%v, %d, %v) is %v, %d, not %v, %d", l, length, s, got, err, want, wantErr)
	}
}

func (n counts) take(t *testing.T, l []api.Symbol, length, column, begin int) {
	t.Helper()
	want, wantErr := take(l, length, column, begin)
	n.add("Take", wantErr)
	if got, err := staff.Take(l, length, column, begin); !slices.Equal(got, want) || err != wantErr {
		t.Fatalf("P1, P24.3: Take(%v, %d, %d, %d) is %v, %d, not %v, %d", l, length, column, begin, got, err, want, wantErr)
	}
}

func (n counts) column(t *testing.T, l []api.Symbol, length, column int) {
	t.Helper()
	want, wantErr := inColumn(l, length, column)
	n.add("Column", wantErr)
	if got, err := staff.Column(l, length, column); !slices.Equal(got, want) || err != wantErr {
		t.Fatalf("P1, P24.4: Column(%v, %d, %d) is %v, %d, not %v, %d", l, length, column, got, err, want, wantErr)
	}
}

func (n counts) at(t *testing.T, l []api.Symbol, length, column, tick int) {
	t.Helper()
	want, wantErr := at(l, length, column, tick)
	n.add("At", wantErr)
	if wantErr == api.OK && want == -1 {
		n.add("At without symbol", api.OK)
	}
	if got, err := staff.At(l, length, column, tick); got != want || err != wantErr {
		t.Fatalf("P1, P24.5: At(%v, %d, %d, %d) is %d, %d, not %d, %d", l, length, column, tick, got, err, want, wantErr)
	}
}

func (n counts) join(t *testing.T, a []api.Symbol, lengthA int, b []api.Symbol, lengthB int) {
	t.Helper()
	want, wantErr := join(a, lengthA, b, lengthB)
	n.add("Join", wantErr)
	if got, err := staff.Join(a, lengthA, b, lengthB); !slices.Equal(got, want) || err != wantErr {
		t.Fatalf("P1, P24.6: Join(%v, %d, %v, %d) is %v, %d, not %v, %d", a, lengthA, b, lengthB, got, err, want, wantErr)
	}
}

func (n counts) cut(t *testing.T, l []api.Symbol, length int, s api.Span) {
	t.Helper()
	want, wantErr := cut(l, length, s)
	n.add("Cut", wantErr)
	if got, err := staff.Cut(l, length, s); !slices.Equal(got, want) || err != wantErr {
		t.Fatalf("P1, P24.7: Cut(%v, %d, %v) is %v, %d, not %v, %d", l, length, s, got, err, want, wantErr)
	}
}

// sign returns a valid symbol of a column.
func sign(column, begin, length int) api.Symbol {
	s := api.Symbol{Column: column, Begin: begin, Len: length}
	switch column {
	case 0:
		s.Kind = api.Hold
	case 1:
		s.Kind, s.Dir = api.Step, api.Forward
	case 8:
		s.Kind, s.Amount = api.Turn, 2
	default:
		s.Kind, s.Dir = api.Gesture, api.Right
	}
	return s
}

// few are the symbols of three columns that begin at 0 to 2 and have 1 to 3 ticks.
func few() []api.Symbol {
	var all []api.Symbol
	for _, column := range []int{0, 5, 8} {
		for begin := range 3 {
			for length := 1; length <= 3; length++ {
				all = append(all, sign(column, begin, length))
			}
		}
	}
	return all
}

// lists calls f with all lists of up to three symbols out of all.
func lists(all []api.Symbol, f func(l []api.Symbol)) {
	f(nil)
	for _, a := range all {
		f([]api.Symbol{a})
		for _, b := range all {
			f([]api.Symbol{a, b})
			for _, c := range all {
				f([]api.Symbol{a, b, c})
			}
		}
	}
}

// staves calls f with all staves of up to three symbols out of few.
func staves(f func(l []api.Symbol, length int)) {
	lists(few(), func(l []api.Symbol) {
		for length := 1; length <= 6; length++ {
			if check(l, length) == api.OK {
				f(l, length)
			}
		}
	})
}

// anySign returns a valid symbol of a column, with any content.
func anySign(r *rand.Rand, column, begin, length int) api.Symbol {
	s := sign(column, begin, length)
	switch {
	case column <= 1 && r.Intn(2) == 0:
		s.Kind, s.Dir = api.Hold, 0
	case column <= 1:
		s.Kind, s.Dir, s.Level = api.Step, r.Intn(9), r.Intn(3)-1
	case column == 8:
		s.Amount = (1 + r.Intn(16)) * (1 - 2*r.Intn(2))
	default:
		s.Dir, s.Level, s.Amount = 1+r.Intn(8), r.Intn(3)-1, r.Intn(7)
	}
	return s
}

// anyStaff returns a staff and its length.
func anyStaff(r *rand.Rand) ([]api.Symbol, int) {
	length := 1 + r.Intn([]int{4, 30, 300, 8192}[r.Intn(4)])
	most := []int{0, 3, 20, 255, 256}[r.Intn(5)]
	longest := 1 + r.Intn([]int{1, 5, 60, 2000}[r.Intn(4)])
	var l []api.Symbol
	for _, column := range r.Perm(9) {
		gaps := 1 + r.Intn(3)
		for begin := r.Intn(gaps); begin < length && len(l) < most; begin += r.Intn(gaps) {
			ticks := 1 + r.Intn(min(longest, length-begin))
			l = append(l, anySign(r, column, begin, ticks))
			begin += ticks
		}
	}
	return inOrder(l), length
}

// spoil makes one to three changes, after which a staff often is none.
func spoil(r *rand.Rand, l []api.Symbol, length int) ([]api.Symbol, int) {
	l = slices.Clone(l)
	for range 1 + r.Intn(3) {
		if len(l) < 2 {
			return l, extreme[r.Intn(len(extreme))]
		}
		i := r.Intn(len(l))
		s := &l[i]
		switch r.Intn(6) {
		case 0:
			s.Len += 1 + r.Intn(3)
		case 1:
			s.Begin += r.Intn(5) - 2
		case 2:
			l[i], l[0] = l[0], l[i]
		case 3:
			l = slices.Insert(l, i, *s)
		case 4:
			length = []int{l[i].Begin + l[i].Len, length - 1, length + 1, 8193, 0}[r.Intn(5)]
		default:
			fields := []*int{&s.Kind, &s.Column, &s.Begin, &s.Len, &s.Dir, &s.Level, &s.Amount}
			*fields[r.Intn(7)] = append([]int{-1, 0, 1, 2, 3, 4, 9}, extreme...)[r.Intn(7+len(extreme))]
		}
	}
	return l, length
}

// row returns n symbols of a column that follow each other from 0 on, with one tick each.
func row(n, column int) []api.Symbol {
	var l []api.Symbol
	for i := range n {
		l = append(l, sign(column, i, 1))
	}
	return l
}

func TestCheckOfSmallLists(t *testing.T) {
	n := counts{}
	all := append(few(), sign(0, 1, 0), sign(9, 0, 1), api.Symbol{Kind: 5, Len: 1})
	lists(all, func(l []api.Symbol) {
		for length := range 7 {
			n.check(t, l, length)
		}
	})
	n.atLeast(t, 1000, "Check", api.OK, api.ErrRange, api.ErrColumn, api.ErrKind, api.ErrOrder, api.ErrOverlap)
}

func TestCheckOfLengths(t *testing.T) {
	n := counts{}
	last := sign(5, 8191, 1)
	whole := sign(0, 0, 8192)
	for _, length := range append([]int{-8192, -1, 0, 1, 2, 8190, 8191, 8192}, extreme...) {
		for _, l := range [][]api.Symbol{nil, {}, {sign(0, 0, 1)}, {sign(0, 0, 2)}, {last}, {whole}, {whole, last}, {sign(5, 8190, 1), last}, {sign(0, 1, 1), sign(0, 0, 1)}, row(257, 0)} {
			n.check(t, l, length)
		}
	}
	for begin := range 8192 {
		s := sign(8, begin, min(8192-begin, 1+begin%7))
		end := s.Begin + s.Len
		n.check(t, []api.Symbol{s}, end)
		n.check(t, []api.Symbol{s}, end-1)
	}
	n.atLeast(t, 5, "Check", api.OK, api.ErrRange, api.ErrOrder)
}

func TestCheckOfManySymbols(t *testing.T) {
	n := counts{}
	for _, count := range []int{0, 1, 254, 255, 256, 257, 258, 300, 8192} {
		n.check(t, row(count, 0), 8192)
		n.check(t, row(count, 8), count)
		n.check(t, make([]api.Symbol, count), 8192)
		n.check(t, make([]api.Symbol, count), 0)
	}
	if err := staff.Check(row(256, 0), 256); err != api.OK {
		t.Errorf("P24.1: 256 symbols have the error %d", err)
	}
	if err := staff.Check(row(257, 0), 8192); err != api.ErrFull {
		t.Errorf("P24.1: 257 symbols have the error %d, not ErrFull", err)
	}
	// The last of many symbols is the only wrong one.
	l := row(256, 0)
	for _, last := range []api.Symbol{sign(0, 254, 2), sign(0, 255, 2), sign(0, 254, 1), sign(5, 254, 1), sign(5, 254, 9), sign(9, 255, 1), sign(0, 255, 0), {}} {
		l[255] = last
		n.check(t, l, 256)
	}
	n.atLeast(t, 1, "Check", api.OK, api.ErrRange, api.ErrFull, api.ErrColumn, api.ErrKind, api.ErrOrder)
}

// TestOrderOfErrors has lists with two errors, of which the first one counts.
func TestOrderOfErrors(t *testing.T) {
	ofKind, ofColumn, untimed := api.Symbol{}, sign(9, 0, 1), sign(0, 0, 0)
	ofForm := api.Symbol{Kind: api.Hold, Len: 1, Amount: 1}
	ofPlace := api.Symbol{Kind: api.Gesture, Column: 5, Len: 1}
	for i, c := range []struct {
		l      []api.Symbol
		length int
		want   api.Errno
	}{
		{make([]api.Symbol, 257), 0, api.ErrRange},
		{make([]api.Symbol, 257), 1, api.ErrFull},
		{[]api.Symbol{ofKind, ofColumn}, 9, api.ErrKind},
		{[]api.Symbol{ofColumn, ofKind}, 9, api.ErrColumn},
		{[]api.Symbol{ofForm, untimed}, 9, api.ErrForm},
		{[]api.Symbol{untimed, ofForm}, 9, api.ErrRange},
		{[]api.Symbol{ofPlace, ofForm}, 9, api.ErrPlace},
		// The errors of symbols come before ErrOrder, wherever they are.
		{[]api.Symbol{sign(0, 1, 1), sign(0, 0, 1), ofPlace}, 9, api.ErrPlace},
		{[]api.Symbol{sign(0, 3, 1), sign(0, 2, 1), sign(0, 1, 0)}, 9, api.ErrRange},
		// They come before the ends, too.
		{[]api.Symbol{sign(0, 0, 5), {Kind: api.Hold, Begin: 1, Len: 1, Level: 1}}, 4, api.ErrForm},
		{[]api.Symbol{sign(0, 0, 2), sign(0, 1, 1), {Kind: 7, Begin: 2}}, 4, api.ErrKind},
		// ErrOrder comes before the ends.
		{[]api.Symbol{sign(0, 0, 5), sign(0, 2, 1), sign(0, 1, 1)}, 4, api.ErrOrder},
		{[]api.Symbol{sign(0, 0, 2), sign(0, 1, 1), sign(5, 1, 1), sign(5, 1, 1)}, 4, api.ErrOrder},
		{[]api.Symbol{sign(0, 2, 2), sign(5, 1, 8)}, 4, api.ErrOrder},
		// The first symbol with a wrong end decides, and of its errors ErrRange.
		{[]api.Symbol{sign(0, 0, 2), sign(0, 1, 1), sign(5, 2, 9)}, 4, api.ErrOverlap},
		{[]api.Symbol{sign(0, 0, 2), sign(5, 0, 9), sign(0, 1, 1)}, 4, api.ErrRange},
		{[]api.Symbol{sign(0, 0, 2), sign(0, 1, 9)}, 4, api.ErrRange},
		// The earlier symbol of the column is not the neighbour.
		{[]api.Symbol{sign(0, 0, 3), sign(5, 1, 1), sign(8, 1, 1), sign(0, 2, 1)}, 4, api.ErrOverlap},
		{[]api.Symbol{sign(0, 0, 2), sign(5, 0, 1), sign(5, 1, 1), sign(0, 2, 2)}, 4, api.OK},
	} {
		if err := staff.Check(c.l, c.length); err != c.want {
			t.Errorf("P24.1: list %d has the error %d, not %d", i, err, c.want)
		}
	}
}

func TestPutIntoSmallStaves(t *testing.T) {
	n := counts{}
	others := append(few(), sign(0, 3, 1), sign(0, 3, 2), sign(4, 1, 2), sign(1, 0, 6), sign(7, 5, 2), sign(8, 2, 0), sign(9, 0, 1), api.Symbol{})
	staves(func(l []api.Symbol, length int) {
		for _, s := range others {
			n.put(t, l, length, s)
		}
	})
	n.atLeast(t, 1000, "Put", api.OK, api.ErrRange, api.ErrColumn, api.ErrKind, api.ErrOverlap)
}

func TestTakeFromSmallStaves(t *testing.T) {
	n := counts{}
	staves(func(l []api.Symbol, length int) {
		for column := -1; column <= 10; column++ {
			for begin := -1; begin <= 3; begin++ {
				n.take(t, l, length, column, begin)
			}
		}
	})
	n.atLeast(t, 1000, "Take", api.OK, api.ErrNone)
}

func TestColumnsOfSmallStaves(t *testing.T) {
	n := counts{}
	staves(func(l []api.Symbol, length int) {
		for column := -2; column <= 10; column++ {
			n.column(t, l, length, column)
			for tick := -1; tick <= length+1; tick++ {
				n.at(t, l, length, column, tick)
			}
		}
	})
	n.atLeast(t, 1000, "Column", api.OK, api.ErrColumn)
	n.atLeast(t, 1000, "At", api.OK, api.ErrColumn, api.ErrRange)
	n.atLeast(t, 1000, "At without symbol", api.OK)
}

func TestCutOfSmallStaves(t *testing.T) {
	n := counts{}
	staves(func(l []api.Symbol, length int) {
		for from := -1; from <= length+1; from++ {
			for to := -1; to <= length+1; to++ {
				n.cut(t, l, length, api.Span{From: from, To: to})
			}
		}
	})
	n.atLeast(t, 1000, "Cut", api.OK, api.ErrRange, api.ErrOverlap)
}

func TestJoinOfSmallStaves(t *testing.T) {
	n := counts{}
	type stave struct {
		l      []api.Symbol
		length int
	}
	var some []stave
	all := append(few()[:9:9], sign(1, 0, 1), sign(8, 0, 0))
	lists(all, func(l []api.Symbol) {
		for _, length := range []int{0, 1, 3, 5} {
			if len(l) < 3 {
				some = append(some, stave{l, length})
			}
		}
	})
	for _, a := range some {
		for _, b := range some {
			n.join(t, a.l, a.length, b.l, b.length)
		}
	}
	n.atLeast(t, 1000, "Join", api.OK, api.ErrRange, api.ErrOrder, api.ErrOverlap)
}

func TestAnyStaves(t *testing.T) {
	r := rand.New(rand.NewSource(24))
	n := counts{}
	for range 3500 {
		l, length := anyStaff(r)
		other, otherLength := anyStaff(r)
		n.check(t, l, length)
		n.join(t, l, length, other, otherLength)
		for column := range 9 {
			n.column(t, l, length, column)
		}
		for range 8 {
			column, tick := r.Intn(9), r.Intn(length)
			n.at(t, l, length, column, tick)
			n.take(t, l, length, column, tick)
			from, to := r.Intn(length+1), r.Intn(length+1)
			n.cut(t, l, length, api.Span{From: min(from, to), To: max(from, to)})
			n.put(t, l, length, anySign(r, column, tick, 1+r.Intn(min(8192-tick, 40))))
		}
		for range min(len(l), 8) {
			s := l[r.Intn(len(l))]
			n.take(t, l, length, s.Column, s.Begin)
			n.at(t, l, length, s.Column, s.Begin)
			n.at(t, l, length, s.Column, s.Begin+s.Len-1)
			n.put(t, l, length, anySign(r, s.Column, s.Begin+s.Len-1, 1))
		}
	}
	n.atLeast(t, 100, "Check", api.OK)
	n.atLeast(t, 100, "Put", api.OK, api.ErrRange, api.ErrOverlap, api.ErrFull)
	n.atLeast(t, 100, "Take", api.OK, api.ErrNone)
	n.atLeast(t, 100, "At", api.OK)
	n.atLeast(t, 100, "Join", api.OK, api.ErrRange, api.ErrFull)
	n.atLeast(t, 100, "Cut", api.OK, api.ErrRange, api.ErrOverlap)
}

// TestWrongStaves has lists that are no staves, for all functions, with arguments that would have errors themselves.
func TestWrongStaves(t *testing.T) {
	r := rand.New(rand.NewSource(42))
	n := counts{}
	for range 30000 {
		good, goodLength := anyStaff(r)
		l, length := spoil(r, good, goodLength)
		n.check(t, l, length)
		n.put(t, l, length, sign(r.Intn(9), r.Intn(20), r.Intn(20)))
		n.put(t, l, length, api.Symbol{})
		n.take(t, l, length, r.Intn(11)-1, r.Intn(20))
		n.column(t, l, length, r.Intn(11)-1)
		n.at(t, l, length, r.Intn(11)-1, r.Intn(20)-1)
		n.cut(t, l, length, api.Span{From: r.Intn(4) - 1, To: r.Intn(20)})
		n.join(t, l, length, good, goodLength)
		n.join(t, good, goodLength, l, length)
		other, otherLength := spoil(r, good, goodLength)
		n.join(t, l, length, other, otherLength)
	}
	for _, function := range []string{"Check", "Put", "Take", "Column", "At", "Cut", "Join"} {
		n.atLeast(t, 50, function, api.OK, api.ErrRange, api.ErrFull, api.ErrKind, api.ErrColumn, api.ErrForm, api.ErrOrder, api.ErrOverlap)
	}
}

// TestExtremeArguments has arguments at and far outside of their borders, for staves of some lengths.
func TestExtremeArguments(t *testing.T) {
	n := counts{}
	numbers := append([]int{-8192, -2, -1, 0, 1, 2, 8, 9, 10, 23, 24, 47, 48, 49, 8191, 8192}, extreme...)
	hold, arm, turn := sign(0, 0, 24), sign(5, 12, 24), sign(8, 24, 24)
	for _, length := range []int{0, 47, 48, 8192} {
		for _, l := range [][]api.Symbol{nil, {hold}, {hold, arm, turn}, {hold, turn}} {
			for _, a := range numbers {
				n.column(t, l, length, a)
				n.join(t, l, length, nil, a)
				n.join(t, nil, a, l, length)
				for _, b := range numbers {
					n.take(t, l, length, a, b)
					n.at(t, l, length, a, b)
					n.cut(t, l, length, api.Span{From: a, To: b})
					n.put(t, l, length, sign(8, a, b))
					n.put(t, l, length, api.Symbol{Kind: a, Column: b, Begin: 40, Len: 1})
				}
			}
		}
	}
	n.atLeast(t, 10, "Put", api.OK, api.ErrRange, api.ErrKind, api.ErrColumn, api.ErrOverlap)
	n.atLeast(t, 10, "Take", api.OK, api.ErrNone)
	n.atLeast(t, 10, "At", api.OK, api.ErrColumn, api.ErrRange)
	n.atLeast(t, 10, "Cut", api.OK, api.ErrRange, api.ErrOverlap)
	n.atLeast(t, 10, "Join", api.OK, api.ErrRange)
}

func TestPutIntoFullStaves(t *testing.T) {
	n := counts{}
	for _, count := range []int{254, 255, 256} {
		l := row(count, 5)
		for _, s := range []api.Symbol{sign(5, count, 1), sign(5, 299, 1), sign(0, 0, 300), sign(8, 299, 1), sign(5, 255, 2), sign(5, 100, 1), sign(5, 0, 300), sign(5, 300, 1), sign(5, 0, 301), sign(5, 299, 0), sign(9, 299, 1)} {
			n.put(t, l, 300, s)
		}
	}
	full := row(256, 5)
	for _, c := range []struct {
		s    api.Symbol
		want api.Errno
	}{
		{sign(0, 0, 1), api.ErrFull}, {sign(5, 256, 44), api.ErrFull}, {sign(5, 255, 1), api.ErrOverlap}, {sign(5, 299, 2), api.ErrRange}, {sign(5, 0, 301), api.ErrRange}, {sign(5, -1, 1), api.ErrRange}, {sign(9, 300, 1), api.ErrColumn}, {api.Symbol{Begin: 300, Len: 1}, api.ErrKind},
	} {
		if l, err := staff.Put(full, 300, c.s); len(l) != 0 || err != c.want {
			t.Errorf("P24.2: Put of %v into 256 symbols is %v, %d, not %d", c.s, l, err, c.want)
		}
	}
	if l, err := staff.Put(row(255, 5), 300, sign(0, 0, 1)); len(l) != 256 || err != api.OK {
		t.Errorf("P24.2: Put into 255 symbols is %v, %d", l, err)
	}
}

func TestJoinOfManySymbols(t *testing.T) {
	n := counts{}
	for _, sizes := range [][2]int{{0, 256}, {1, 255}, {128, 128}, {256, 0}, {1, 256}, {256, 1}, {128, 129}, {256, 256}, {257, 0}, {0, 257}, {257, 257}} {
		for _, lengths := range [][2]int{{257, 257}, {4096, 4096}, {4096, 4097}, {8192, 1}, {1, 8192}, {8192, 8192}, {7935, 257}, {257, 7935}, {7936, 257}, {257, 7936}, {0, 257}, {257, 8193}} {
			n.join(t, row(sizes[0], 5), lengths[0], row(sizes[1], 8), lengths[1])
			n.join(t, row(sizes[0], 5), lengths[0], row(sizes[1], 5), lengths[1])
		}
	}
	n.atLeast(t, 10, "Join", api.OK, api.ErrRange, api.ErrFull)
	if l, err := staff.Join(row(256, 5), 4096, row(1, 5), 4097); len(l) != 0 || err != api.ErrRange {
		t.Errorf("P24.6: with too many ticks and symbols Join is %v, %d, not ErrRange", l, err)
	}
	if l, err := staff.Join(row(256, 5), 4096, row(1, 5), 4096); len(l) != 0 || err != api.ErrFull {
		t.Errorf("P24.6: with 257 symbols Join is %v, %d, not ErrFull", l, err)
	}
}

func TestOrderOfErrorsOfJoin(t *testing.T) {
	unordered := []api.Symbol{sign(0, 1, 1), sign(0, 0, 1)}
	for i, c := range []struct {
		a    []api.Symbol
		n    int
		b    []api.Symbol
		m    int
		want api.Errno
	}{
		{unordered, 5000, []api.Symbol{{}}, 5000, api.ErrOrder},
		{[]api.Symbol{{}}, 5000, unordered, 5000, api.ErrKind},
		{nil, 5000, unordered, 5000, api.ErrOrder},
		{row(257, 0), 5000, nil, 0, api.ErrFull},
		{nil, 0, row(257, 0), 5000, api.ErrRange},
		{row(200, 0), 5000, row(257, 0), 5000, api.ErrFull},
		{row(200, 0), 5000, row(200, 0), 3193, api.ErrRange},
		{row(200, 0), 5000, row(200, 0), 3192, api.ErrFull},
	} {
		if l, err := staff.Join(c.a, c.n, c.b, c.m); len(l) != 0 || err != c.want {
			t.Errorf("P24.6: Join %d is %v, %d, not %d", i, l, err, c.want)
		}
	}
}

// parts tries P24.8: a staff that is cut at each tick, and both parts joined.
func parts(t *testing.T, l []api.Symbol, length int) int {
	t.Helper()
	tried := 0
	for tick := 1; tick < length; tick++ {
		before, err := staff.Cut(l, length, api.Span{From: 0, To: tick})
		after, errAfter := staff.Cut(l, length, api.Span{From: tick, To: length})
		if err != errAfter {
			t.Fatalf("P24.8: %v can be cut on one side of %d only: %d, %d", l, tick, err, errAfter)
		}
		if err != api.OK {
			continue
		}
		tried++
		if both, err := staff.Join(before, tick, after, length-tick); !slices.Equal(both, l) || err != api.OK {
			t.Fatalf("P24.8: the parts of %v before and after %d are joined as %v, %d", l, tick, both, err)
		}
	}
	return tried
}

func TestCutsAreJoined(t *testing.T) {
	tried := 0
	staves(func(l []api.Symbol, length int) { tried += parts(t, l, length) })
	r := rand.New(rand.NewSource(8))
	for range 300 {
		if l, length := anyStaff(r); length < 400 {
			tried += parts(t, l, length)
		}
	}
	if tried < 10000 {
		t.Errorf("P24.8: only %d cuts were tried", tried)
	}
}

func TestJoinsAreCut(t *testing.T) {
	r := rand.New(rand.NewSource(9))
	tried := 0
	for range 3000 {
		a, n := anyStaff(r)
		b, m := anyStaff(r)
		both, err := staff.Join(a, n, b, m)
		if err != api.OK {
			continue
		}
		tried++
		if err := staff.Check(both, n+m); err != api.OK {
			t.Fatalf("P24.6: Join(%v, %d, %v, %d) is %v, which has the error %d", a, n, b, m, both, err)
		}
		if l, err := staff.Cut(both, n+m, api.Span{From: 0, To: n}); !slices.Equal(l, a) || err != api.OK {
			t.Fatalf("P24.8: %v is cut from 0 to %d into %v, %d, not %v", both, n, l, err, a)
		}
		if l, err := staff.Cut(both, n+m, api.Span{From: n, To: n + m}); !slices.Equal(l, b) || err != api.OK {
			t.Fatalf("P24.8: %v is cut from %d to %d into %v, %d, not %v", both, n, n+m, l, err, b)
		}
	}
	if tried < 500 {
		t.Errorf("P24.8: only %d joins were tried", tried)
	}
}

// putAndTake tries P24.9 for each symbol of a staff, and for one that is put.
func putAndTake(t *testing.T, l []api.Symbol, length int, s api.Symbol) {
	t.Helper()
	if more, err := staff.Put(l, length, s); err == api.OK {
		if err := staff.Check(more, length); err != api.OK {
			t.Fatalf("P24.2: Put(%v, %d, %v) is %v, which has the error %d", l, length, s, more, err)
		}
		if back, err := staff.Take(more, length, s.Column, s.Begin); !slices.Equal(back, l) || err != api.OK {
			t.Fatalf("P24.9: %v was put into %v; when it is taken, %v, %d is left", s, l, back, err)
		}
	}
	for _, s := range l {
		less, err := staff.Take(l, length, s.Column, s.Begin)
		if len(less) != len(l)-1 || err != api.OK {
			t.Fatalf("P24.3: Take(%v, %d, %d, %d) is %v, %d", l, length, s.Column, s.Begin, less, err)
		}
		if err := staff.Check(less, length); err != api.OK {
			t.Fatalf("P24.3: Take(%v, %d, %d, %d) is %v, which has the error %d", l, length, s.Column, s.Begin, less, err)
		}
		if back, err := staff.Put(less, length, s); !slices.Equal(back, l) || err != api.OK {
			t.Fatalf("P24.9: %v was taken from %v; when it is put, there is %v, %d", s, l, back, err)
		}
	}
}

func TestPutAndTake(t *testing.T) {
	for _, s := range few() {
		staves(func(l []api.Symbol, length int) { putAndTake(t, l, length, s) })
	}
	r := rand.New(rand.NewSource(10))
	for range 300 {
		l, length := anyStaff(r)
		putAndTake(t, l, length, anySign(r, r.Intn(9), r.Intn(length), 1))
	}
}

// columns tries P24.10 for all columns and ticks of a staff.
func columns(t *testing.T, l []api.Symbol, length int) {
	t.Helper()
	var all []api.Symbol
	for column := range 9 {
		symbols, err := staff.Column(l, length, column)
		if err != api.OK {
			t.Fatalf("P24.4: Column(%v, %d, %d) has the error %d", l, length, column, err)
		}
		all = append(all, symbols...)
		for tick := range length {
			i, err := staff.At(l, length, column, tick)
			if err != api.OK {
				t.Fatalf("P24.5: At(%v, %d, %d, %d) has the error %d", l, length, column, tick, err)
			}
			for k, s := range l {
				if has := s.Column == column && hasTick(s, tick); has != (k == i) {
					t.Fatalf("P24.10: At(%v, %d, %d, %d) is %d", l, length, column, tick, i)
				}
			}
		}
	}
	if !slices.Equal(inOrder(all), l) {
		t.Fatalf("P24.10: the columns of %v have together %v", l, all)
	}
}

func TestColumns(t *testing.T) {
	staves(func(l []api.Symbol, length int) { columns(t, l, length) })
	r := rand.New(rand.NewSource(11))
	tried := 0
	for range 100 {
		if l, length := anyStaff(r); length < 60 {
			columns(t, l, length)
			tried++
		}
	}
	if tried < 20 {
		t.Errorf("P24.10: only %d random staves were tried", tried)
	}
}

// room is what lies behind the symbols of a list that has room for more.
var room = api.Symbol{Kind: 99}

func withRoom(l []api.Symbol) []api.Symbol {
	return append(slices.Clone(l), room, room, room)[:len(l)]
}

// isKept says whether a list made by withRoom, and the room behind it, are as they were.
func isKept(l, before []api.Symbol) bool {
	whole := l[:len(l)+3]
	return slices.Equal(whole, append(slices.Clone(before), room, room, room))
}

// call is a call of a function of a promise, for two staves.
type call struct {
	promise string
	result  func(a []api.Symbol, n int, b []api.Symbol, m, tick int) []api.Symbol
}

// calls returns one or more calls of each function, most of which return symbols of the first staff.
func calls() []call {
	return []call{
		{"P24.1", func(a []api.Symbol, n int, _ []api.Symbol, _, _ int) []api.Symbol {
			staff.Check(a, n)
			return nil
		}},
		{"P24.2", func(a []api.Symbol, n int, _ []api.Symbol, _, tick int) []api.Symbol {
			l, _ := staff.Put(a, n, sign(tick%9, tick, 1))
			return l
		}},
		{"P24.3", func(a []api.Symbol, n int, _ []api.Symbol, _, tick int) []api.Symbol {
			if len(a) == 0 {
				return nil
			}
			s := a[tick%len(a)]
			l, _ := staff.Take(a, n, s.Column, s.Begin)
			return l
		}},
		{"P24.4", func(a []api.Symbol, n int, _ []api.Symbol, _, tick int) []api.Symbol {
			l, _ := staff.Column(a, n, tick%9)
			return l
		}},
		{"P24.5", func(a []api.Symbol, n int, _ []api.Symbol, _, tick int) []api.Symbol {
			staff.At(a, n, tick%9, tick)
			return nil
		}},
		{"P24.6", func(a []api.Symbol, n int, b []api.Symbol, m, _ int) []api.Symbol {
			l, _ := staff.Join(a, n, b, m)
			return l
		}},
		{"P24.6", func(a []api.Symbol, n int, _ []api.Symbol, _, _ int) []api.Symbol {
			l, _ := staff.Join(a, n, nil, 1)
			return l
		}},
		{"P24.6", func(a []api.Symbol, n int, _ []api.Symbol, _, _ int) []api.Symbol {
			l, _ := staff.Join(nil, 1, a, n)
			return l
		}},
		{"P24.7", func(a []api.Symbol, n int, _ []api.Symbol, _, _ int) []api.Symbol {
			l, _ := staff.Cut(a, n, api.Span{From: 0, To: n})
			return l
		}},
	}
}

// TestMemory writes to the results, and looks at the arguments afterwards.
func TestMemory(t *testing.T) {
	r := rand.New(rand.NewSource(12))
	results := map[string]int{}
	for range 2000 {
		content, n := anyStaff(r)
		other, m := anyStaff(r)
		a, b := withRoom(content), withRoom(other)
		tick := r.Intn(n)
		for _, c := range calls() {
			result := c.result(a, n, b, m, tick)
			if len(result) > 0 {
				results[c.promise]++
			}
			clear(result[:cap(result)])
			if !isKept(a, content) || !isKept(b, other) {
				t.Fatalf("%s: an argument was changed, or shares its memory with the result", c.promise)
			}
		}
	}
	for _, promise := range []string{"P24.2", "P24.3", "P24.4", "P24.6", "P24.7"} {
		if results[promise] < 500 {
			t.Errorf("%s: only %d results were written to", promise, results[promise])
		}
	}
}

func TestExamples(t *testing.T) {
	h := api.Symbol{Kind: api.Hold, Len: 24}
	g := api.Symbol{Kind: api.Gesture, Column: 5, Begin: 12, Len: 24, Dir: api.Right}
	turn := api.Symbol{Kind: api.Turn, Column: api.TurnColumn, Begin: 24, Len: 24, Amount: 2}
	first := turn
	first.Begin = 0
	for i, c := range []struct {
		l      []api.Symbol
		length int
		want   api.Errno
	}{
		{[]api.Symbol{h, g, turn}, 48, api.OK}, {[]api.Symbol{g, h}, 48, api.ErrOrder}, {[]api.Symbol{h, g, turn}, 47, api.ErrRange},
		{[]api.Symbol{h, {Kind: api.Hold, Begin: 23, Len: 1}}, 48, api.ErrOverlap},
	} {
		if err := staff.Check(c.l, c.length); err != c.want {
			t.Errorf("P24.1: list %d of example 1 has the error %d, not %d", i, err, c.want)
		}
	}
	if l, err := staff.Put([]api.Symbol{h, turn}, 48, g); !slices.Equal(l, []api.Symbol{h, g, turn}) || err != api.OK {
		t.Errorf("P24.2: Put of g into h, t is %v, %d", l, err)
	}
	if l, err := staff.Take([]api.Symbol{h, g, turn}, 48, 5, 12); !slices.Equal(l, []api.Symbol{h, turn}) || err != api.OK {
		t.Errorf("P24.3: Take of 5 and 12 from h, g, t is %v, %d", l, err)
	}
	if l, err := staff.Take([]api.Symbol{h, g, turn}, 48, 5, 13); len(l) != 0 || err != api.ErrNone {
		t.Errorf("P24.3: Take of 5 and 13 from h, g, t is %v, %d", l, err)
	}
	if l, err := staff.Column([]api.Symbol{h, g, turn}, 48, 5); !slices.Equal(l, []api.Symbol{g}) || err != api.OK {
		t.Errorf("P24.4: the column 5 of h, g, t is %v, %d", l, err)
	}
	for _, c := range []struct {
		column, tick, want int
		err                api.Errno
	}{{5, 35, 1, api.OK}, {5, 36, -1, api.OK}, {9, 35, 0, api.ErrColumn}} {
		if i, err := staff.At([]api.Symbol{h, g, turn}, 48, c.column, c.tick); i != c.want || err != c.err {
			t.Errorf("P24.5: At of h, g, t for the column %d and the tick %d is %d, %d", c.column, c.tick, i, err)
		}
	}
	if l, err := staff.Join([]api.Symbol{h}, 24, []api.Symbol{first}, 24); !slices.Equal(l, []api.Symbol{h, turn}) || err != api.OK {
		t.Errorf("P24.6: Join of h and the turn is %v, %d", l, err)
	}
	if l, err := staff.Cut([]api.Symbol{h, turn}, 48, api.Span{From: 24, To: 48}); !slices.Equal(l, []api.Symbol{first}) || err != api.OK {
		t.Errorf("P24.7: Cut of h, t from 24 to 48 is %v, %d", l, err)
	}
	if l, err := staff.Cut([]api.Symbol{h, g, turn}, 48, api.Span{From: 0, To: 24}); len(l) != 0 || err != api.ErrOverlap {
		t.Errorf("P24.7: Cut of h, g, t from 0 to 24 is %v, %d", l, err)
	}
}
