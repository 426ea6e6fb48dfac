package symbol_test

import (
	"math"
	"math/rand"
	"slices"
	"testing"

	"dancestudio/api"
	"dancestudio/symbol"
)

// extreme are integers far outside all bounds.
var extreme = []int{math.MinInt, math.MinInt + 1, math.MinInt + 2, math.MinInt + 8191, -1 << 62, -1 << 32, -1<<32 + 1, -1 << 31, -1 << 16, -8193, 8193, 1 << 16, 1 << 31, 1 << 32, 1<<32 + 1, 1<<32 + 4, 1 << 62, math.MaxInt - 8192, math.MaxInt - 1, math.MaxInt}

// mirrored has the mirror image of each direction.
var mirrored = [9]int{0, 1, 8, 7, 6, 5, 4, 3, 2}

// swapped has the column of the mirror image of a symbol in each column.
var swapped = [9]int{1, 0, 3, 2, 4, 6, 5, 7, 8}

func inside(n, least, greatest int) bool { return least <= n && n <= greatest }

// checkColumn is the part of the definition of P23.1 that is about columns.
func checkColumn(s api.Symbol) api.Errno {
	columns := map[int][]int{1: {0, 1}, 2: {0, 1}, 3: {2, 3, 4, 5, 6, 7}, 4: {8}}
	if _, ok := columns[s.Kind]; !ok {
		return api.ErrKind
	}
	if !slices.Contains(columns[s.Kind], s.Column) {
		return api.ErrColumn
	}
	return api.OK
}

// checkContent is the part of the definition of P23.1 that is about Dir, Level and Amount.
func checkContent(s api.Symbol) api.Errno {
	isLevel := inside(s.Dir, 0, 8) && inside(s.Level, -1, 1)
	zero := s.Dir == 0 && s.Level == 0
	trunk := s.Column == 4 || s.Column == 7
	switch {
	case (s.Kind == 1 || s.Kind == 3) && !isLevel:
		return api.ErrRange
	case s.Kind == 1 && s.Amount != 0:
		return api.ErrForm
	case s.Kind == 3 && !inside(s.Amount, 0, 6):
		return api.ErrRange
	case s.Kind == 3 && s.Dir == 0 && (s.Level == 0 || s.Level == -1 && trunk):
		return api.ErrPlace
	case s.Kind == 2 && (!zero || s.Amount != 0):
		return api.ErrForm
	case s.Kind == 4 && !zero:
		return api.ErrForm
	case s.Kind == 4 && (s.Amount == 0 || !inside(s.Amount, -16, 16)):
		return api.ErrRange
	}
	return api.OK
}

// check is the definition of P23.1.
func check(s api.Symbol) api.Errno {
	if err := checkColumn(s); err != api.OK {
		return err
	}
	// Begin and Len are inside before they are added.
	if !inside(s.Begin, 0, 8191) || !inside(s.Len, 1, 8192) || s.Begin+s.Len > 8192 {
		return api.ErrRange
	}
	return checkContent(s)
}

// grid calls f with symbols of all kinds, columns and contents, and of those beside them, with Begin 7 and Len 5.
func grid(f func(s api.Symbol)) {
	for kind := -1; kind <= 6; kind++ {
		for column := -2; column <= 10; column++ {
			for dir := -2; dir <= 10; dir++ {
				for level := -3; level <= 3; level++ {
					for amount := -18; amount <= 18; amount++ {
						f(api.Symbol{Kind: kind, Column: column, Begin: 7, Len: 5, Dir: dir, Level: level, Amount: amount})
					}
				}
			}
		}
	}
}

// someContents are symbols at 0 with Len 1: each kind in each of its columns, with several contents, not all of them valid.
func someContents() []api.Symbol {
	var all []api.Symbol
	grid(func(s api.Symbol) {
		ofKind := checkColumn(s) == api.OK
		few := slices.Contains([]int{0, 3, 9}, s.Dir) && inside(s.Level, -1, 0) && slices.Contains([]int{0, 1, 16, 17}, s.Amount)
		if ofKind && few {
			s.Begin, s.Len = 0, 1
			all = append(all, s)
		}
	})
	return all
}

// timed calls f with symbols whose Begin and Len are at the borders of their ranges, or far outside.
func timed(f func(s api.Symbol)) {
	begins := append([]int{-8192, -2, -1, 0, 1, 2, 24, 4096, 8180, 8190, 8191, 8192}, extreme...)
	lengths := append([]int{-8192, -2, -1, 0, 1, 2, 12, 13, 24, 4095, 4096, 4097, 8190, 8191, 8192}, extreme...)
	for _, s := range someContents() {
		for _, begin := range begins {
			for _, length := range lengths {
				s.Begin, s.Len = begin, length
				f(s)
			}
		}
	}
}

// wrong calls f with symbols of which one to four components are far outside.
func wrong(f func(s api.Symbol)) {
	random := rand.New(rand.NewSource(23))
	contents := someContents()
	for range 100000 {
		s := contents[random.Intn(len(contents))]
		fields := []*int{&s.Kind, &s.Column, &s.Begin, &s.Len, &s.Dir, &s.Level, &s.Amount}
		for range 1 + random.Intn(4) {
			*fields[random.Intn(len(fields))] = extreme[random.Intn(len(extreme))]
		}
		f(s)
	}
}

// valid are all symbols with Begin 7 and Len 5 that the definition accepts.
func valid() []api.Symbol {
	var all []api.Symbol
	grid(func(s api.Symbol) {
		if check(s) == api.OK {
			all = append(all, s)
		}
	})
	return all
}

func TestCheck(t *testing.T) {
	counts := map[api.Errno]int{}
	compare := func(s api.Symbol) {
		want := check(s)
		counts[want]++
		if err := symbol.Check(s); err != want {
			t.Fatalf("P23.1: Check(%+v) is %d, not %d", s, err, want)
		}
	}
	grid(compare)
	timed(compare)
	wrong(compare)
	for _, err := range []api.Errno{api.OK, api.ErrKind, api.ErrColumn, api.ErrRange, api.ErrForm, api.ErrPlace} {
		if counts[err] < 100 {
			t.Errorf("P23.1: only %d symbols with the error %d were tried", counts[err], err)
		}
	}
}

func TestCheckCounts(t *testing.T) {
	counts := map[int]int{}
	for _, s := range valid() {
		counts[s.Kind]++
	}
	// A limb has 7 bends of 8 directions at 3 levels, of Place above, and, but for the torso and the head, of Place below.
	want := map[int]int{1: 2 * 27, 2: 2, 3: 7 * (6*24 + 6 + 4), 4: 32}
	for kind, n := range want {
		if counts[kind] != n {
			t.Errorf("P23.1: %d symbols of the kind %d are valid, not %d", counts[kind], kind, n)
		}
	}
	found := map[int]int{}
	grid(func(s api.Symbol) {
		if symbol.Check(s) == api.OK {
			found[s.Kind]++
		}
	})
	for kind, n := range found {
		if n != want[kind] {
			t.Errorf("P23.1: Check accepts %d symbols of the kind %d, not %d", n, kind, want[kind])
		}
	}
}

func TestCheckExamples(t *testing.T) {
	step := api.Symbol{Kind: api.Step, Len: 24, Dir: api.Forward}
	for _, c := range []struct {
		change func(s *api.Symbol)
		want   api.Errno
	}{
		{func(s *api.Symbol) {}, api.OK},
		{func(s *api.Symbol) { s.Column = 2 }, api.ErrColumn},
		{func(s *api.Symbol) { s.Len = 0 }, api.ErrRange},
		{func(s *api.Symbol) { s.Begin, s.Len = 8180, 13 }, api.ErrRange},
		{func(s *api.Symbol) { s.Begin, s.Len = 8180, 12 }, api.OK},
		{func(s *api.Symbol) { s.Amount = 1 }, api.ErrForm},
		{func(s *api.Symbol) { s.Dir = 9 }, api.ErrRange},
		{func(s *api.Symbol) { s.Kind, s.Dir, s.Level = api.Hold, 0, api.High }, api.ErrForm},
		{func(s *api.Symbol) { s.Kind, s.Dir = api.Hold, 0 }, api.OK},
		{func(s *api.Symbol) { s.Kind, s.Column, s.Dir, s.Amount = api.Turn, 8, 0, 17 }, api.ErrRange},
		{func(s *api.Symbol) { s.Kind, s.Column, s.Dir, s.Amount = api.Turn, 8, 0, 0 }, api.ErrRange},
		{func(s *api.Symbol) { s.Kind, s.Column, s.Dir, s.Amount = api.Turn, 8, 0, -16 }, api.OK},
	} {
		s := step
		c.change(&s)
		if err := symbol.Check(s); err != c.want {
			t.Errorf("P23.1: Check(%+v) is %d, not %d", s, err, c.want)
		}
	}
}

// TestCheckOrder tries symbols with several errors, of which one after the other is repaired.
func TestCheckOrder(t *testing.T) {
	type repair struct {
		change func(s *api.Symbol)
		want   api.Errno
	}
	kind := func(n, column int) []repair {
		return []repair{
			{func(s *api.Symbol) {}, api.ErrKind},
			{func(s *api.Symbol) { s.Kind = n }, api.ErrColumn},
			{func(s *api.Symbol) { s.Column = column }, api.ErrRange},
			{func(s *api.Symbol) { s.Begin = 8191 }, api.ErrRange},
		}
	}
	length := func(s *api.Symbol) { s.Len = 1 }
	level := func(s *api.Symbol) { s.Level = 0 }
	for _, repairs := range [][]repair{
		append(kind(api.Step, 1), repair{length, api.ErrRange}, repair{level, api.ErrRange}, repair{func(s *api.Symbol) { s.Dir = 0 }, api.ErrForm}, repair{func(s *api.Symbol) { s.Amount = 0 }, api.OK}),
		append(kind(api.Hold, 0), repair{length, api.ErrForm}, repair{level, api.ErrForm}, repair{func(s *api.Symbol) { s.Dir = 0 }, api.ErrForm}, repair{func(s *api.Symbol) { s.Amount = 0 }, api.OK}),
		append(kind(api.Gesture, 4), repair{length, api.ErrRange}, repair{level, api.ErrRange}, repair{func(s *api.Symbol) { s.Dir = 0 }, api.ErrRange}, repair{func(s *api.Symbol) { s.Amount = 6 }, api.ErrPlace}, repair{func(s *api.Symbol) { s.Level = -1 }, api.ErrPlace}, repair{func(s *api.Symbol) { s.Level = 1 }, api.OK}),
		append(kind(api.Turn, 8), repair{length, api.ErrForm}, repair{level, api.ErrForm}, repair{func(s *api.Symbol) { s.Dir = 0 }, api.ErrRange}, repair{func(s *api.Symbol) { s.Amount = 0 }, api.ErrRange}, repair{func(s *api.Symbol) { s.Amount = 16 }, api.OK}),
	} {
		s := api.Symbol{Kind: 9, Column: 9, Begin: -1, Len: 2, Dir: 9, Level: 2, Amount: 17}
		for i, r := range repairs {
			r.change(&s)
			if err := symbol.Check(s); err != r.want {
				t.Errorf("P1, P23.1: after %d repairs Check(%+v) is %d, not %d", i, s, err, r.want)
			}
		}
	}
}

// ranks calls f with symbols and their places in the order of P23.2: equal ones have equal Begin and Column.
func ranks(f func(rank int, s api.Symbol)) {
	numbers := append([]int{-2, -1, 0, 1, 2, 5, 8, 9, 24}, extreme...)
	slices.Sort(numbers)
	random := rand.New(rand.NewSource(2))
	for i, begin := range numbers {
		for j, column := range numbers {
			number := func() int { return numbers[random.Intn(len(numbers))] }
			f(i*len(numbers)+j, api.Symbol{Kind: number(), Column: column, Begin: begin, Len: number(), Dir: number(), Level: number(), Amount: number()})
		}
	}
}

func TestLess(t *testing.T) {
	var others []api.Symbol
	ranks(func(_ int, s api.Symbol) { others = append(others, s) })
	ranks(func(rank int, a api.Symbol) {
		a.Kind, a.Len, a.Dir, a.Level, a.Amount = a.Len, a.Dir, a.Level, a.Amount, a.Kind
		for other, b := range others {
			if less := symbol.Less(a, b); less != (rank < other) {
				t.Fatalf("P23.2: Less(%+v, %+v) is %t", a, b, less)
			}
		}
	})
	if !symbol.Less(api.Symbol{Column: 5}, api.Symbol{Begin: 1}) || symbol.Less(api.Symbol{Begin: 1}, api.Symbol{Column: 5}) {
		t.Error("P23.2: a symbol at 0 in the column 5 comes before one at 1 in the column 0")
	}
}

func TestLessIsAnOrder(t *testing.T) {
	random := rand.New(rand.NewSource(3))
	numbers := []int{math.MinInt, -1, 0, 1, 2, math.MaxInt}
	some := func() api.Symbol {
		number := func() int { return numbers[random.Intn(len(numbers))] }
		return api.Symbol{Kind: number(), Column: number(), Begin: number(), Len: number(), Dir: number(), Level: number(), Amount: number()}
	}
	chains := 0
	for range 20000 {
		a, b, c := some(), some(), some()
		if symbol.Less(a, a) {
			t.Fatalf("P23.9: %+v comes before itself", a)
		}
		if symbol.Less(a, b) && symbol.Less(b, a) {
			t.Fatalf("P23.9: %+v and %+v come before each other", a, b)
		}
		if symbol.Less(a, b) && symbol.Less(b, c) {
			chains++
			if !symbol.Less(a, c) {
				t.Fatalf("P23.9: %+v does not come before %+v, but before %+v, which does", a, c, b)
			}
		}
	}
	if chains < 1000 {
		t.Errorf("P23.9: only %d chains were tried", chains)
	}
}

// mirror is the definition of P23.3 for valid symbols.
func mirror(s api.Symbol) api.Symbol {
	s.Column = swapped[s.Column]
	switch s.Kind {
	case 1, 3:
		s.Dir = mirrored[s.Dir]
	case 4:
		s.Amount = -s.Amount
	}
	return s
}

func TestMirror(t *testing.T) {
	for _, s := range valid() {
		image, err := symbol.Mirror(s)
		if image != mirror(s) || err != api.OK {
			t.Fatalf("P23.3: Mirror(%+v) is %+v, %d, not %+v", s, image, err, mirror(s))
		}
		if err := symbol.Check(image); err != api.OK {
			t.Fatalf("P23.8: the mirror image %+v has the error %d", image, err)
		}
		if back, err := symbol.Mirror(image); back != s || err != api.OK {
			t.Fatalf("P23.8: the mirror image of %+v is %+v, %d, not %+v", image, back, err, s)
		}
	}
	timed(func(s api.Symbol) {
		if image, err := symbol.Mirror(s); check(s) == api.OK && (image != mirror(s) || err != api.OK) {
			t.Fatalf("P23.3: Mirror(%+v) is %+v, %d, not %+v", s, image, err, mirror(s))
		}
	})
}

func TestMirrorExamples(t *testing.T) {
	for _, c := range [][2]api.Symbol{
		{{Kind: api.Step, Column: api.SupportLeft, Begin: 3, Len: 24, Dir: api.ForwardRight, Level: api.Low}, {Kind: api.Step, Column: api.SupportRight, Begin: 3, Len: 24, Dir: api.ForwardLeft, Level: api.Low}},
		{{Kind: api.Hold, Column: api.SupportLeft, Len: 1}, {Kind: api.Hold, Column: api.SupportRight, Len: 1}},
		{{Kind: api.Gesture, Column: 6, Len: 24, Dir: api.Right, Level: api.High, Amount: 2}, {Kind: api.Gesture, Column: 5, Len: 24, Dir: api.Left, Level: api.High, Amount: 2}},
		{{Kind: api.Gesture, Column: 4, Len: 24, Dir: api.BackRight}, {Kind: api.Gesture, Column: 4, Len: 24, Dir: api.BackLeft}},
		{{Kind: api.Turn, Column: 8, Begin: 9, Len: 24, Amount: -5}, {Kind: api.Turn, Column: 8, Begin: 9, Len: 24, Amount: 5}},
	} {
		if image, err := symbol.Mirror(c[0]); image != c[1] || err != api.OK {
			t.Errorf("P23.3: Mirror(%+v) is %+v, %d, not %+v", c[0], image, err, c[1])
		}
		if image, err := symbol.Mirror(c[1]); image != c[0] || err != api.OK {
			t.Errorf("P23.3: Mirror(%+v) is %+v, %d, not %+v", c[1], image, err, c[0])
		}
	}
}

// code is the definition of a code for valid symbols.
func code(s api.Symbol) int {
	switch s.Kind {
	case 2:
		return 2000
	case 4:
		return 4016 + s.Amount
	}
	return 1000*s.Kind + 100*s.Dir + 30*(s.Level+1) + s.Amount
}

func TestCode(t *testing.T) {
	for _, s := range valid() {
		n, err := symbol.Code(s)
		if n != code(s) || err != api.OK {
			t.Fatalf("P23.4: Code(%+v) is %d, %d, not %d", s, n, err, code(s))
		}
		if n < 1000 || n > 4032 {
			t.Fatalf("P23.7: the code %d of %+v is not from 1000 to 4032", n, s)
		}
		if back, err := symbol.Decode(n, s.Column, s.Begin, s.Len); back != s || err != api.OK {
			t.Fatalf("P23.7: Decode(%d, %d, %d, %d) is %+v, %d, not %+v", n, s.Column, s.Begin, s.Len, back, err, s)
		}
	}
	for _, c := range []struct {
		s    api.Symbol
		want int
	}{
		{api.Symbol{Kind: api.Step, Len: 24, Dir: api.Forward}, 1130},
		{api.Symbol{Kind: api.Hold, Column: 1, Len: 24}, 2000},
		{api.Symbol{Kind: api.Gesture, Column: 6, Len: 24, Dir: api.Right, Level: api.High, Amount: 2}, 3362},
		{api.Symbol{Kind: api.Gesture, Column: 5, Len: 24, Dir: api.Left, Level: api.High, Amount: 2}, 3762},
		{api.Symbol{Kind: api.Turn, Column: 8, Len: 24, Amount: -16}, 4000},
		{api.Symbol{Kind: api.Turn, Column: 8, Begin: 8191, Len: 1, Amount: 16}, 4032},
	} {
		if n, err := symbol.Code(c.s); n != c.want || err != api.OK {
			t.Errorf("P23.4: Code(%+v) is %d, %d, not %d", c.s, n, err, c.want)
		}
	}
}

// TestCodesDiffer looks for symbols with equal codes and different contents, and the other way round.
func TestCodesDiffer(t *testing.T) {
	type content struct{ kind, dir, level, amount int }
	contents := map[int]content{}
	codes := map[content]int{}
	for _, s := range valid() {
		n, _ := symbol.Code(s)
		c := content{s.Kind, s.Dir, s.Level, s.Amount}
		if other, ok := contents[n]; ok && other != c {
			t.Fatalf("P23.7: %v and %v have the code %d", c, other, n)
		}
		if other, ok := codes[c]; ok && other != n {
			t.Fatalf("P23.7: %v has the codes %d and %d", c, n, other)
		}
		contents[n], codes[c] = c, n
	}
	if want := 27 + 1 + 7*(24+2) + 32; len(contents) != want {
		t.Errorf("P23.7: there are %d codes, not %d", len(contents), want)
	}
}

// decodable has the contents of all codes for which P23.5 names no ErrForm.
func decodable() map[int]api.Symbol {
	all := map[int]api.Symbol{2000: {Kind: 2}}
	for d := range 9 {
		for l := range 3 {
			all[1000+100*d+30*l] = api.Symbol{Kind: 1, Dir: d, Level: l - 1}
			for a := range 7 {
				all[3000+100*d+30*l+a] = api.Symbol{Kind: 3, Dir: d, Level: l - 1, Amount: a}
			}
		}
	}
	for n := 4000; n <= 4032; n++ {
		if n != 4016 {
			all[n] = api.Symbol{Kind: 4, Amount: n - 4016}
		}
	}
	return all
}

// codes are all near those of symbols, and some far outside.
func codes() []int {
	all := slices.Clone(extreme)
	for n := -5000; n <= 7000; n++ {
		all = append(all, n)
	}
	for n := range decodable() {
		all = append(all, n+1<<16, n+1<<32, n+math.MinInt, -n-1, 10*n, n+10000)
	}
	slices.Sort(all)
	return slices.Compact(all)
}

func TestDecode(t *testing.T) {
	contents := decodable()
	counts := map[api.Errno]int{}
	spans := [][2]int{{0, 24}, {8191, 1}, {0, 8192}, {-1, 24}, {8192, 1}, {8180, 13}, {3, 0}, {math.MaxInt, math.MaxInt}, {math.MinInt, math.MinInt}, {5, math.MaxInt}}
	for _, n := range codes() {
		for _, column := range []int{-1, 0, 1, 2, 3, 4, 5, 6, 7, 8, 9, math.MinInt, math.MaxInt} {
			for _, span := range spans {
				want, ok := contents[n]
				want.Column, want.Begin, want.Len = column, span[0], span[1]
				wantErr := api.ErrForm
				if ok {
					wantErr = check(want)
				}
				if wantErr != api.OK {
					want = api.Symbol{}
				}
				counts[wantErr]++
				s, err := symbol.Decode(n, column, span[0], span[1])
				if s != want || err != wantErr {
					t.Fatalf("P1, P23.5: Decode(%d, %d, %d, %d) is %+v, %d, not %+v, %d", n, column, span[0], span[1], s, err, want, wantErr)
				}
				if back, e := symbol.Code(s); err == api.OK && (back != n || e != api.OK) {
					t.Fatalf("P23.7: Code(%+v) is %d, %d, not %d", s, back, e, n)
				}
			}
		}
	}
	for _, err := range []api.Errno{api.OK, api.ErrForm, api.ErrColumn, api.ErrRange, api.ErrPlace} {
		if counts[err] < 20 {
			t.Errorf("P23.5: only %d codes with the error %d were tried", counts[err], err)
		}
	}
}

func TestDecodeExamples(t *testing.T) {
	if s, err := symbol.Decode(4019, 8, 0, 24); s != (api.Symbol{Kind: api.Turn, Column: 8, Len: 24, Amount: 3}) || err != api.OK {
		t.Errorf("P23.5: Decode(4019, 8, 0, 24) is %+v, %d", s, err)
	}
	if s, err := symbol.Decode(3030, 5, 0, 24); s != (api.Symbol{}) || err != api.ErrPlace {
		t.Errorf("P23.5: Decode(3030, 5, 0, 24) is %+v, %d, not ErrPlace", s, err)
	}
	for _, n := range []int{0, 999, 1001, 1890, 2001, 3007, 3090, 4016, 4033, 5000} {
		for column := range 9 {
			if s, err := symbol.Decode(n, column, 0, 24); s != (api.Symbol{}) || err != api.ErrForm {
				t.Errorf("P23.5: Decode(%d, %d, 0, 24) is %+v, %d, not ErrForm", n, column, s, err)
			}
		}
	}
	if s, err := symbol.Decode(1130, 0, -1, 24); s != (api.Symbol{}) || err != api.ErrRange {
		t.Errorf("P23.5: Decode(1130, 0, -1, 24) is %+v, %d, not ErrRange", s, err)
	}
}

func TestTarget(t *testing.T) {
	gestures := 0
	for _, s := range valid() {
		want, wantErr := api.Target{}, api.ErrKind
		if s.Kind == 3 {
			want, wantErr = api.Target{Dir: s.Dir, Level: s.Level, Bend: s.Amount}, api.OK
			gestures++
		}
		if target, err := symbol.Target(s); target != want || err != wantErr {
			t.Fatalf("P23.6: Target(%+v) is %+v, %d, not %+v, %d", s, target, err, want, wantErr)
		}
	}
	if gestures < 1000 {
		t.Errorf("P23.6: only %d gestures were tried", gestures)
	}
	s := api.Symbol{Kind: api.Gesture, Column: 6, Len: 24, Dir: api.Right, Level: api.High, Amount: 2}
	if target, err := symbol.Target(s); target != (api.Target{Dir: api.Right, Level: api.High, Bend: 2}) || err != api.OK {
		t.Errorf("P23.6: Target(%+v) is %+v, %d", s, target, err)
	}
}

// TestErrors tries every other function with invalid symbols.
func TestErrors(t *testing.T) {
	compare := func(s api.Symbol) {
		want := check(s)
		if want == api.OK {
			return
		}
		if image, err := symbol.Mirror(s); image != (api.Symbol{}) || err != want {
			t.Fatalf("P1, P23.3: Mirror(%+v) is %+v, %d, not %d", s, image, err, want)
		}
		if n, err := symbol.Code(s); n != 0 || err != want {
			t.Fatalf("P1, P23.4: Code(%+v) is %d, %d, not %d", s, n, err, want)
		}
		if target, err := symbol.Target(s); target != (api.Target{}) || err != want {
			t.Fatalf("P1, P23.6: Target(%+v) is %+v, %d, not %d", s, target, err, want)
		}
	}
	grid(compare)
	timed(compare)
	wrong(compare)
}
