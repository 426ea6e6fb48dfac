package match_test

import (
	"math"
	"math/rand"
	"slices"
	"testing"

	"dancestudio/api"
	"dancestudio/match"
)

// table makes a table of words, one for each row, with x for a permitted column.
func table(words ...string) [][]bool {
	l := make([][]bool, len(words))
	for i, word := range words {
		for _, letter := range word {
			l[i] = append(l[i], letter == 'x')
		}
	}
	return l
}

// filled makes a table by asking for each of its places whether it is permitted.
func filled(rows, columns int, is func(i, c int) bool) [][]bool {
	l := make([][]bool, rows)
	for i := range l {
		l[i] = make([]bool, columns)
		for c := range l[i] {
			l[i][c] = is(i, c)
		}
	}
	return l
}

func all(i, c int) bool { return true }

func nothing(i, c int) bool { return false }

// width is the number of columns.
func width(l [][]bool) int {
	if len(l) == 0 {
		return 0
	}
	return len(l[0])
}

func exchanged(l [][]bool) [][]bool {
	return filled(width(l), len(l), func(i, c int) bool { return l[c][i] })
}

func clone(l [][]bool) [][]bool {
	return filled(len(l), width(l), func(i, c int) bool { return l[i][c] })
}

// smallTables are all tables with so many rows and columns, or every so many-th of them.
func smallTables(rows, columns, every int) [][][]bool {
	var l [][][]bool
	for bits := 0; bits < 1<<(rows*columns); bits += every {
		l = append(l, filled(rows, columns, func(i, c int) bool { return bits>>(i*columns+c)&1 == 1 }))
	}
	return l
}

// allSmall are the tables with up to 3 rows and columns, and some with one or two more.
func allSmall() [][][]bool {
	l := [][][]bool{nil}
	for rows := 1; rows <= 3; rows++ {
		for columns := range 4 {
			l = append(l, smallTables(rows, columns, 1)...)
		}
	}
	return slices.Concat(l, smallTables(3, 4, 1), smallTables(4, 3, 1), smallTables(2, 5, 1), smallTables(5, 2, 1), smallTables(4, 4, 7), smallTables(3, 5, 5), smallTables(5, 3, 5))
}

// someTables are random tables, from thin ones to thick ones.
func someTables(seed int64, n, most int) [][][]bool {
	random := rand.New(rand.NewSource(seed))
	var l [][][]bool
	for range n {
		rows, columns := random.Intn(most+1), random.Intn(most+1)
		if random.Intn(3) == 0 {
			rows, columns = most, most
		}
		share := []float64{0.04, 0.08, 0.12, 0.2, 0.4, 0.8, 0.97}[random.Intn(7)]
		l = append(l, filled(rows, columns, func(i, c int) bool { return random.Float64() < share }))
	}
	return l
}

// edgeTables are tables at the limits, and tables in which a greatest matching needs many changes.
func edgeTables() [][][]bool {
	return [][][]bool{
		{}, {nil}, {{}}, make([][]bool, 24), filled(1, 24, all), filled(24, 1, all), filled(24, 24, all), filled(24, 24, nothing), filled(1, 24, nothing), filled(24, 1, nothing), filled(23, 24, all), filled(24, 23, all),
		filled(24, 24, func(i, c int) bool { return i == c }),
		filled(24, 24, func(i, c int) bool { return i+c == 23 }),
		filled(24, 24, func(i, c int) bool { return i+c <= 23 }),
		filled(24, 24, func(i, c int) bool { return i+c >= 23 }),
		filled(24, 24, func(i, c int) bool { return c == i || c == (i+1)%24 }),
		filled(24, 24, func(i, c int) bool { return c == i || c == i+1 && i < 23 || i == 23 && c == 0 }),
		filled(24, 23, func(i, c int) bool { return c == i || c == i-1 }),
		filled(23, 24, func(i, c int) bool { return c == i || c == i+1 }),
		filled(24, 24, func(i, c int) bool { return i < 23 && (c == i || c == i+1) || i == 23 && c == 0 }),
		filled(24, 24, func(i, c int) bool { return i < 12 || c < 11 }),
		filled(24, 24, func(i, c int) bool { return i%2 == 0 || c == 23 }),
		filled(24, 24, func(i, c int) bool { return c == 0 || i == 0 }),
		filled(24, 24, func(i, c int) bool { return c == 23 || i == 23 }),
		filled(24, 24, func(i, c int) bool { return i != c }),
	}
}

// wrongTables are tables with the errors that Check returns.
func wrongTables() map[api.Errno][][][]bool {
	with := func(l [][]bool, i, n int) [][]bool {
		l[i] = make([]bool, n)
		return l
	}
	return map[api.Errno][][][]bool{
		api.ErrFull: {
			make([][]bool, 25), filled(25, 1, all), filled(25, 24, all), filled(1, 25, all), filled(24, 25, all), filled(25, 25, nothing), filled(2, 1000, nothing), make([][]bool, 1000),
			// not all rows are of the same length, either
			with(make([][]bool, 25), 24, 1), with(make([][]bool, 25), 0, 3), with(filled(3, 25, all), 1, 2), with(filled(2, 25, all), 1, 0), with(filled(3, 4, all), 0, 25),
		},
		api.ErrForm: {
			table("x", ""), table("", "x"), table("x", "xx"), table("xx", "x"), table("", "", "."), table("...", "...", ".."), table("..", "...", ".."), {{true}, nil}, {nil, {true}}, {nil, {false}},
			with(filled(24, 24, all), 23, 23), with(filled(24, 24, all), 23, 25), with(filled(24, 24, all), 1, 25), with(filled(24, 24, all), 0, 23), with(filled(24, 24, all), 12, 0), with(table("x", "x"), 1, 1000), with(make([][]bool, 24), 23, 1),
		},
	}
}

// less compares two lists as P10.3 says: -1 counts as greater than every column.
func less(a, b []int) bool {
	order := func(c int) int {
		if c == -1 {
			return math.MaxInt
		}
		return c
	}
	for i := range a {
		if a[i] != b[i] {
			return order(a[i]) < order(b[i])
		}
	}
	return false
}

func size(m []int) int {
	n := 0
	for _, c := range m {
		if c >= 0 {
			n++
		}
	}
	return n
}

// isMatching is the definition.
func isMatching(l [][]bool, m []int) bool {
	if len(m) != len(l) {
		return false
	}
	for i, c := range m {
		if c == -1 {
			continue
		}
		if c < 0 || c >= width(l) || !l[i][c] || slices.Index(m, c) != i {
			return false
		}
	}
	return true
}

// lists are all lists of so many integers from least on, but less than end.
func lists(n, least, end int) [][]int {
	if n == 0 {
		return [][]int{nil}
	}
	var l [][]int
	for _, rest := range lists(n-1, least, end) {
		for c := least; c < end; c++ {
			l = append(l, append(slices.Clone(rest), c))
		}
	}
	return l
}

// best is the least of all greatest matchings, by trying all lists.
func best(l [][]bool) []int {
	var m []int
	for _, other := range lists(len(l), -1, width(l)) {
		if !isMatching(l, other) {
			continue
		}
		if m == nil || size(other) > size(m) || size(other) == size(m) && less(other, m) {
			m = other
		}
	}
	return m
}

func checkCheck(t *testing.T, l [][]bool, err api.Errno) {
	t.Helper()
	if e := match.Check(l); e != err {
		t.Errorf("P10.1: Check(%v) is %d, not %d", l, e, err)
	}
}

func checkSize(t *testing.T, l [][]bool, want int, err api.Errno) {
	t.Helper()
	if n, e := match.Size(l); n != want || e != err {
		t.Errorf("P10.2: Size(%v) is %d, %d, not %d, %d", l, n, e, want, err)
	}
}

func checkMatch(t *testing.T, l [][]bool, want []int, err api.Errno) {
	t.Helper()
	if m, e := match.Match(l); !slices.Equal(m, want) || e != err {
		t.Errorf("P10.3: Match(%v) is %v, %d, not %v, %d", l, m, e, want, err)
	}
}

// checkCover expects a cover with so many rows and columns.
func checkCover(t *testing.T, l [][]bool, want int) {
	t.Helper()
	rows, columns, e := match.Cover(l)
	if e != api.OK || len(rows)+len(columns) != want {
		t.Errorf("P10.4: Cover(%v) is %v, %v, %d, not %d", l, rows, columns, e, want)
	}
	isList := func(l []int, end int) bool {
		for i, n := range l {
			if n < 0 || n >= end || i > 0 && n <= l[i-1] {
				return false
			}
		}
		return true
	}
	if !isList(rows, len(l)) || !isList(columns, width(l)) {
		t.Errorf("P10.4: Cover(%v) is %v, %v", l, rows, columns)
	}
	for i, row := range l {
		for c, is := range row {
			if is && !slices.Contains(rows, i) && !slices.Contains(columns, c) {
				t.Errorf("P10.4: Cover(%v) is %v, %v, which does not cover the column %d of the row %d", l, rows, columns, c, i)
			}
		}
	}
}

func checkValid(t *testing.T, l [][]bool, m []int, want bool) {
	t.Helper()
	if is := match.Valid(l, m); is != want {
		t.Errorf("P10.5: Valid(%v, %v) is %t", l, m, is)
	}
}

// checkAll expects the results for a table whose least greatest matching is known.
func checkAll(t *testing.T, l [][]bool, m []int) {
	t.Helper()
	checkCheck(t, l, api.OK)
	checkSize(t, l, size(m), api.OK)
	checkMatch(t, l, m, api.OK)
	checkCover(t, l, size(m))
	checkValid(t, l, m, true)
}

func TestErrors(t *testing.T) {
	for err, tables := range wrongTables() {
		for _, l := range tables {
			checkCheck(t, l, err)
			checkSize(t, l, 0, err)
			checkMatch(t, l, nil, err)
			if rows, columns, e := match.Cover(l); len(rows)+len(columns) > 0 || e != err {
				t.Errorf("P10.4: Cover(%v) is %v, %v, %d, not %d", l, rows, columns, e, err)
			}
			checkValid(t, l, slices.Repeat([]int{-1}, len(l)), false)
			checkValid(t, l, nil, false)
		}
	}
	for rows := range 28 {
		for columns := range 28 {
			err := api.OK
			if rows > 24 || rows > 0 && columns > 24 {
				err = api.ErrFull
			}
			checkCheck(t, filled(rows, columns, nothing), err)
			checkCheck(t, filled(rows, columns, all), err)
		}
	}
}

func TestExamples(t *testing.T) {
	checkAll(t, nil, nil)
	checkAll(t, [][]bool{}, nil)
	checkAll(t, table("", "", ""), []int{-1, -1, -1})
	checkAll(t, table("xx", "x."), []int{1, 0})
	checkAll(t, table("x", "x"), []int{0, -1})
	checkAll(t, table("xx.", "x..", ".xx"), []int{1, 0, 2})
	l := table("x.", "x.", ".x")
	checkAll(t, l, []int{0, -1, 1})
	if rows, columns, _ := match.Cover(l); !(slices.Equal(rows, []int{2}) && slices.Equal(columns, []int{0})) && !(len(rows) == 0 && slices.Equal(columns, []int{0, 1})) {
		t.Errorf("P10.4: Cover(%v) is %v, %v", l, rows, columns)
	}
	checkValid(t, l, []int{-1, 0, 1}, true)
	checkValid(t, l, []int{0, 0, 1}, false)
	checkValid(t, l, []int{1, -1, -1}, false)
	checkValid(t, l, []int{0, -1}, false)
}

// TestLeast has tables in which a lesser column of an earlier row costs a later one.
func TestLeast(t *testing.T) {
	// the row 1 goes without a column, so that the row 0 has the least one
	checkAll(t, table("xx", "x.", ".x"), []int{0, -1, 1})
	checkAll(t, table("xx", "x.", ".."), []int{1, 0, -1})
	checkAll(t, table(".xx", ".x.", "..x"), []int{1, -1, 2})
	// -1 is greater than every column
	checkAll(t, table(".x", ".x", ".x"), []int{1, -1, -1})
	checkAll(t, table("..x", "..x", "xx."), []int{2, -1, 0})
	checkAll(t, table(".x", "xx", "x."), []int{1, 0, -1})
	// the size comes first
	checkAll(t, table("xxxx", "xxx.", "xx..", "x..."), []int{3, 2, 1, 0})
	checkAll(t, table("xx..", ".xx.", "..xx", "x..."), []int{1, 2, 3, 0})
	checkAll(t, table("xx..", "x.x.", "x...", ".x.x"), []int{1, 2, 0, 3})
	checkAll(t, table("xxx", "x.x", ".xx"), []int{0, 2, 1})
	// a row without a permitted column
	checkAll(t, table("...", "xx.", "x.."), []int{-1, 1, 0})
	checkAll(t, table("....", "xxxx", "....", "x.x."), []int{-1, 0, -1, 2})
}

func TestLimits(t *testing.T) {
	up := make([]int, 24)
	for i := range up {
		up[i] = i
	}
	down := slices.Clone(up)
	slices.Reverse(down)
	checkAll(t, filled(24, 24, all), up)
	checkAll(t, filled(23, 24, all), up[:23])
	checkAll(t, filled(24, 23, all), append(slices.Clone(up[:23]), -1))
	checkAll(t, filled(1, 24, all), []int{0})
	checkAll(t, filled(24, 1, all), append([]int{0}, slices.Repeat([]int{-1}, 23)...))
	checkAll(t, filled(24, 24, nothing), slices.Repeat([]int{-1}, 24))
	checkAll(t, make([][]bool, 24), slices.Repeat([]int{-1}, 24))
	checkAll(t, filled(24, 24, func(i, c int) bool { return i+c <= 23 }), down)
	checkAll(t, filled(24, 24, func(i, c int) bool { return i+c == 23 }), down)
	// the last row needs the first column, so every other row goes on to the next one
	checkAll(t, filled(24, 24, func(i, c int) bool { return i < 23 && (c == i || c == i+1) || i == 23 && c == 0 }), append(slices.Clone(up[1:]), 0))
	// the first row has the last column, since nobody else can have it
	checkAll(t, filled(24, 24, func(i, c int) bool { return i == 0 || c < 23 }), append([]int{23}, up[:23]...))
	// the last twelve rows have eleven columns, of which one of them gets none, and which all others leave to them
	checkAll(t, filled(24, 24, func(i, c int) bool { return i < 12 || c < 11 }), slices.Concat(up[11:23], up[:11], []int{-1}))
}

// TestSmall compares with the definitions, by trying all lists.
func TestSmall(t *testing.T) {
	for _, l := range allSmall() {
		checkAll(t, l, best(l))
	}
}

// TestValid compares with the definition, for lists of all integers about the columns.
func TestValid(t *testing.T) {
	for rows := range 4 {
		for columns := range 4 {
			all := lists(rows, -2, columns+2)
			for _, l := range smallTables(rows, columns, 1) {
				for _, m := range all {
					checkValid(t, l, m, isMatching(l, m))
				}
			}
		}
	}
	checkValid(t, nil, nil, true)
	checkValid(t, [][]bool{}, []int{}, true)
	checkValid(t, nil, []int{-1}, false)
	checkValid(t, nil, []int{0}, false)
	checkValid(t, [][]bool{{}}, []int{-1}, true)
	checkValid(t, [][]bool{{}}, []int{0}, false)
	l := filled(24, 24, all)
	for _, c := range []int{-1, 0, 23} {
		m := append([]int{c}, slices.Repeat([]int{-1}, 23)...)
		checkValid(t, l, m, true)
		checkValid(t, l, m[:23], false)
		checkValid(t, l, append(m, -1), false)
		checkValid(t, l, append([]int{c}, m[:23]...), c == -1)
	}
	for _, c := range []int{-2, 24, 25, math.MinInt, math.MaxInt, math.MinInt + 1, math.MaxInt - 23} {
		checkValid(t, l, append(slices.Repeat([]int{-1}, 23), c), false)
		checkValid(t, l, append([]int{c}, slices.Repeat([]int{-1}, 23)...), false)
	}
	for _, l := range slices.Concat(edgeTables(), someTables(1, 300, 24)) {
		m, _ := match.Match(l)
		checkValid(t, l, m, true)
		for i, c := range m {
			without := slices.Clone(m)
			without[i] = -1
			checkValid(t, l, without, true)
			other := clone(l)
			if c >= 0 {
				other[i][c] = false
			}
			checkValid(t, other, m, c == -1)
		}
	}
}

// restSize is the greatest size of a matching of the rows behind i, without the columns that are taken.
func restSize(l [][]bool, i int, taken []int) int {
	n, _ := match.Size(filled(len(l)-i-1, width(l), func(k, c int) bool { return l[i+1+k][c] && !slices.Contains(taken, c) }))
	return n
}

// TestLarge proves sizes by matchings and covers, and by sizes that no row can have a lesser column.
func TestLarge(t *testing.T) {
	for _, l := range slices.Concat(edgeTables(), someTables(2, 300, 24), someTables(3, 300, 9)) {
		m, e := match.Match(l)
		if !isMatching(l, m) || e != api.OK {
			t.Errorf("P10.3: Match(%v) is %v, %d", l, m, e)
			continue
		}
		checkSize(t, l, size(m), api.OK)
		checkCover(t, l, size(m))
		for i, chosen := range m {
			for c, is := range l[i] {
				if c == chosen {
					break
				}
				taken := append(slices.Clone(m[:i]), c)
				if is && !slices.Contains(m[:i], c) && size(taken)+restSize(l, i, taken) >= size(m) {
					t.Errorf("P10.3: Match(%v) is %v, but the row %d can have the column %d", l, m, i, c)
				}
			}
		}
	}
}

// TestGreatest tries P10.6 through the exported functions.
func TestGreatest(t *testing.T) {
	random := rand.New(rand.NewSource(4))
	for _, l := range slices.Concat(edgeTables(), smallTables(3, 3, 1), someTables(5, 500, 24), someTables(6, 500, 6)) {
		n, _ := match.Size(l)
		m, _ := match.Match(l)
		rows, columns, _ := match.Cover(l)
		if size(m) != n || len(rows)+len(columns) != n {
			t.Errorf("P10.6: %v has the size %d, the matching %v and the cover %v, %v", l, n, m, rows, columns)
		}
		if other, e := match.Size(exchanged(l)); other != n || e != api.OK {
			t.Errorf("P10.6: %v has the size %d, with rows and columns exchanged %d, %d", l, n, other, e)
		}
		if width(l) == 0 {
			continue
		}
		more := clone(l)
		more[random.Intn(len(l))][random.Intn(width(l))] = true
		if other, _ := match.Size(more); other != n && other != n+1 {
			t.Errorf("P10.6: %v has the size %d, but %v the size %d", l, n, more, other)
		}
	}
}

// TestMemory has tables with memory behind them, which stays as it is, and changes results and tables afterwards.
func TestMemory(t *testing.T) {
	same := func(a, b [][]bool) bool { return slices.EqualFunc(a, b, slices.Equal[[]bool]) }
	full := func(l []int) []int { return l[:cap(l)] }
	for _, want := range [][][]bool{table("xx.", "x..", ".xx"), table("xxx", "x..", "x..", "x.."), table("x..", "xx.", "..."), table("xx", "xx", ".x")} {
		memory := make([][]bool, 0, len(want)+2)
		for _, row := range want {
			memory = append(memory, append(slices.Clone(row), true, false)[:len(row)])
		}
		l := memory
		m := best(want)
		kept := slices.Clone(m)
		for range 2 {
			match.Check(l)
			match.Size(l)
			match.Valid(l, m)
			found, _ := match.Match(l)
			rows, columns, _ := match.Cover(l)
			wanted := slices.Clone(columns)
			for _, result := range [][]int{full(found), full(rows)} {
				for i := range result {
					result[i] = -7
				}
			}
			if !slices.Equal(columns, wanted) {
				t.Errorf("P10.4: rows and columns of the cover of %v share memory", want)
			}
			clear(full(columns))
			if !same(l, want) || !slices.Equal(m, kept) {
				t.Errorf("P10.1 to P10.5: %v, %v are changed to %v, %v", want, kept, l, m)
			}
			for i, row := range l {
				if behind := row[:len(row)+2]; !behind[len(row)] || behind[len(row)+1] || memory[:len(memory)+2][len(memory)] != nil {
					t.Errorf("P10.1 to P10.5: the memory behind the row %d of %v is changed", i, want)
				}
			}
		}
		checkAll(t, l, kept)
	}
	// rows that are the same memory
	row := []bool{true, true, false}
	checkAll(t, [][]bool{row, row, row}, []int{0, 1, -1})
}

// TestAgain expects that a call does not depend on those before it.
func TestAgain(t *testing.T) {
	for _, l := range someTables(7, 50, 24) {
		rows, columns, _ := match.Cover(l)
		m, _ := match.Match(l)
		match.Match(exchanged(l))
		match.Cover(filled(24, 24, all))
		otherRows, otherColumns, _ := match.Cover(clone(l))
		if !slices.Equal(otherRows, rows) || !slices.Equal(otherColumns, columns) {
			t.Errorf("P10.4: the cover of %v is %v, %v, and then %v, %v", l, rows, columns, otherRows, otherColumns)
		}
		checkMatch(t, clone(l), m, api.OK)
	}
}
