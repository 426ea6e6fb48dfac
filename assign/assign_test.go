package assign_test

import (
	"math"
	"math/rand"
	"slices"
	"testing"

	"dancestudio/api"
	"dancestudio/assign"
	"dancestudio/match"
)

// filled makes a table of n rows by asking for the cost of each of its places.
func filled(n int, cost func(i, j int) int) [][]int {
	c := make([][]int, n)
	for i := range c {
		c[i] = make([]int, n)
		for j := range c[i] {
			c[i][j] = cost(i, j)
		}
	}
	return c
}

func equal(cost int) func(i, j int) int {
	return func(i, j int) int { return cost }
}

// oneIf makes costs of 1 where a condition holds.
func oneIf(is func(i, j int) bool) func(i, j int) int {
	return func(i, j int) int {
		if is(i, j) {
			return 1
		}
		return 0
	}
}

func clone(c [][]int) [][]int {
	return filled(len(c), func(i, j int) int { return c[i][j] })
}

func transposed(c [][]int) [][]int {
	return filled(len(c), func(i, j int) int { return c[j][i] })
}

// changed is a table with another cost at one place.
func changed(c [][]int, i, j, cost int) [][]int {
	c = clone(c)
	c[i][j] = cost
	return c
}

// smallTables are all tables of n rows with costs less than end, or every so many-th of them.
func smallTables(n, end, every int) [][][]int {
	number := 1
	for range n * n {
		number *= end
	}
	var l [][][]int
	for code := 0; code < number; code += every {
		rest := code
		l = append(l, filled(n, func(i, j int) int {
			cost := rest % end
			rest /= end
			return cost
		}))
	}
	return l
}

// someTables are random tables of at most so many rows, with few different costs or with many, small ones and great ones.
func someTables(seed int64, number, most int) [][][]int {
	random := rand.New(rand.NewSource(seed))
	var l [][][]int
	for range number {
		n := random.Intn(most + 1)
		if random.Intn(2) == 0 {
			n = most
		}
		end := []int{2, 3, 4, 10, 100, 1 << 20, api.MaxCost + 1}[random.Intn(7)]
		least := []int{0, api.MaxCost + 1 - end}[random.Intn(2)]
		l = append(l, filled(n, func(i, j int) int { return least + random.Intn(end) }))
	}
	return l
}

// edgeTables are tables at the limits, and tables in which an assignment of the least cost needs many changes.
func edgeTables() [][][]int {
	const n, most = api.MaxPlaces, api.MaxCost
	return [][][]int{
		nil, {}, {{0}}, {{most}}, filled(n, equal(0)), filled(n, equal(most)), filled(n, equal(1)),
		filled(n, func(i, j int) int { return i * j }),
		filled(n, func(i, j int) int { return (i + 1) * (j + 1) }),
		filled(n, func(i, j int) int { return (n - i) * (j + 1) }),
		filled(n, func(i, j int) int { return (i - j) * (i - j) }),
		filled(n, func(i, j int) int { return (i + j) % n }),
		filled(n, func(i, j int) int { return i + j }),
		filled(n, func(i, j int) int { return most - i*j }),
		filled(n, func(i, j int) int { return most * oneIf(func(i, j int) bool { return i != j })(i, j) }),
		filled(n, func(i, j int) int { return most * oneIf(func(i, j int) bool { return i == j })(i, j) }),
		filled(n, func(i, j int) int { return most * oneIf(func(i, j int) bool { return i+j != n-1 })(i, j) }),
		filled(n, func(i, j int) int { return most * oneIf(func(i, j int) bool { return i+j > n-1 })(i, j) }),
		filled(n, func(i, j int) int { return most * oneIf(func(i, j int) bool { return i > 0 && j > 0 })(i, j) }),
		filled(n, func(i, j int) int { return most * oneIf(func(i, j int) bool { return i < n-1 && j < n-1 })(i, j) }),
		filled(n, oneIf(func(i, j int) bool { return i > j })),
		filled(n, oneIf(func(i, j int) bool { return i < j })),
		filled(n, oneIf(func(i, j int) bool { return j != i && j != (i+1)%n })),
		filled(n, oneIf(func(i, j int) bool { return (j != i && j != i+1 || i == n-1) && (i != n-1 || j != 0) })),
		filled(n, oneIf(func(i, j int) bool { return i >= n/2 && j >= n/2-1 })),
	}
}

// permutations are all lists that have each of the integers less than n once, the lexicographically least ones first.
func permutations(n int) [][]int {
	var l [][]int
	var extend func(begin []int)
	extend = func(begin []int) {
		if len(begin) == n {
			l = append(l, slices.Clone(begin))
			return
		}
		for j := range n {
			if !slices.Contains(begin, j) {
				extend(append(slices.Clone(begin), j))
			}
		}
	}
	extend(nil)
	return l
}

func sum(c [][]int, l []int) int {
	n := 0
	for i, j := range l {
		n += c[i][j]
	}
	return n
}

// best is the first of the assignments of the least cost, by trying all of them.
func best(c [][]int, all [][]int) []int {
	l := all[0]
	for _, other := range all {
		if sum(c, other) < sum(c, l) {
			l = other
		}
	}
	return l
}

func isAssignment(l []int, n int) bool {
	for j := range n {
		if !slices.Contains(l, j) {
			return false
		}
	}
	return len(l) == n
}

func checkCheck(t *testing.T, c [][]int, err api.Errno) {
	t.Helper()
	if e := assign.Check(c); e != err {
		t.Errorf("P11.1: Check(%v) is %d, not %d", c, e, err)
	}
}

func checkSolve(t *testing.T, c [][]int, want []int, cost int, err api.Errno) {
	t.Helper()
	if l, n, e := assign.Solve(c); !slices.Equal(l, want) || n != cost || e != err {
		t.Errorf("P11.2: Solve(%v) is %v, %d, %d, not %v, %d, %d", c, l, n, e, want, cost, err)
	}
}

// checkPrices expects prices whose sum is the least cost; the places of the assignment l have no slack (P11.5).
func checkPrices(t *testing.T, c [][]int, l []int) {
	t.Helper()
	u, v, e := assign.Prices(c)
	if len(u) != len(c) || len(v) != len(c) || e != api.OK {
		t.Errorf("P11.3: Prices(%v) is %v, %v, %d", c, u, v, e)
		return
	}
	total := 0
	for _, price := range slices.Concat(u, v) {
		if price < -1<<50 || price > 1<<50 {
			t.Errorf("P11.3: Prices(%v) is %v, %v", c, u, v)
		}
		total += price
	}
	if total != sum(c, l) {
		t.Errorf("P11.3: Prices(%v) is %v, %v, together %d, not %d", c, u, v, total, sum(c, l))
	}
	for i, row := range c {
		for j, cost := range row {
			if u[i]+v[j] > cost {
				t.Errorf("P11.3: Prices(%v) is %v, %v, but row %d, column %d cost %d", c, u, v, i, j, cost)
			}
		}
		if u[i]+v[l[i]] != row[l[i]] {
			t.Errorf("P11.5: Prices(%v) is %v, %v, but row %d, column %d cost %d", c, u, v, i, l[i], row[l[i]])
		}
	}
}

func checkCost(t *testing.T, c [][]int, l []int, want int, err api.Errno) {
	t.Helper()
	if n, e := assign.Cost(c, l); n != want || e != err {
		t.Errorf("P11.4: Cost(%v, %v) is %d, %d, not %d, %d", c, l, n, e, want, err)
	}
}

// checkAll expects the results for a table whose first assignment of the least cost is known.
func checkAll(t *testing.T, c [][]int, l []int) {
	t.Helper()
	checkCheck(t, c, api.OK)
	checkSolve(t, c, l, sum(c, l), api.OK)
	checkPrices(t, c, l)
	checkCost(t, c, l, sum(c, l), api.OK)
}

// wrongTables are tables with the errors that Check returns.
func wrongTables() map[api.Errno][][][]int {
	const n, most = api.MaxPlaces, api.MaxCost
	with := func(c [][]int, i int, row []int) [][]int {
		c[i] = row
		return c
	}
	wrong := map[api.Errno][][][]int{
		api.ErrFull: {
			// with other errors
			make([][]int, n+1), make([][]int, 1000), filled(n+1, equal(-1)), filled(n+1, equal(most+1)), with(filled(n+1, equal(0)), n, nil), with(filled(n+1, equal(-1)), 0, make([]int, n)),
			// without
			filled(n+1, equal(0)), filled(n+1, equal(most)), filled(n+2, equal(0)), filled(100, equal(1)),
		},
		api.ErrForm: {
			{nil}, {{}}, {{1, 2}}, {{1}, {2}}, {{1, 2}, {3}}, {{1}, {2, 3}}, {{1, 2}, {3, 4, 5}}, {{1, 2, 3}, {4, 5, 6}}, {{1, 2}, {3, 4}, {5, 6}}, {{1, 2}, nil}, {nil, {1, 2}}, {nil, nil}, make([][]int, n),
			// the rows come before the costs
			{{-1, 2}, {3}}, {{most + 1, 2}, {3}}, {{-1}, {3}}, {{math.MinInt, math.MaxInt}}, {{-1, -1}, {-1, -1, -1}}, with(filled(n, equal(-1)), n-1, make([]int, n-1)),
			with(filled(n, equal(0)), 0, make([]int, n-1)), with(filled(n, equal(0)), 0, make([]int, n+1)), with(filled(n, equal(0)), n-1, make([]int, n-1)), with(filled(n, equal(0)), n-1, make([]int, n+1)), with(filled(n, equal(0)), n/2, nil), with(filled(n, equal(0)), 3, make([]int, 1000)),
		},
		api.ErrRange: {filled(n, equal(-1)), filled(n, equal(most+1)), filled(n, equal(math.MinInt)), filled(n, equal(math.MaxInt))},
	}
	for _, cost := range []int{-1, most + 1, -most, 2 * most, math.MinInt, math.MaxInt, math.MinInt + 1, math.MaxInt - 1} {
		wrong[api.ErrRange] = append(wrong[api.ErrRange], [][]int{{cost}}, [][]int{{1, cost}, {2, 3}}, [][]int{{1, 2}, {cost, 3}}, [][]int{{1, 2}, {3, cost}}, changed(filled(n, equal(0)), 0, 0, cost), changed(filled(n, equal(most)), n-1, n-1, cost), changed(filled(n, equal(1)), 7, 0, cost), changed(filled(n, equal(1)), 0, n-1, cost))
	}
	return wrong
}

func TestErrors(t *testing.T) {
	for err, tables := range wrongTables() {
		for _, c := range tables {
			checkCheck(t, c, err)
			checkSolve(t, c, nil, 0, err)
			if u, v, e := assign.Prices(c); len(u)+len(v) > 0 || e != err {
				t.Errorf("P11.3: Prices(%v) is %v, %v, %d, not %d", c, u, v, e, err)
			}
			checkCost(t, c, []int{0}, 0, err)
			checkCost(t, c, nil, 0, err)
			up := make([]int, len(c))
			for i := range up {
				up[i] = i
			}
			checkCost(t, c, up, 0, err)
		}
	}
	for n := range 20 {
		err := api.OK
		if n > api.MaxPlaces {
			err = api.ErrFull
		}
		checkCheck(t, filled(n, equal(0)), err)
		checkCheck(t, filled(n, equal(api.MaxCost)), err)
	}
}

func TestExamples(t *testing.T) {
	checkAll(t, nil, nil)
	checkAll(t, [][]int{}, nil)
	c := [][]int{{4, 1, 3}, {2, 0, 5}, {3, 2, 2}}
	checkAll(t, c, []int{1, 0, 2})
	checkSolve(t, c, []int{1, 0, 2}, 5, api.OK)
	checkCost(t, c, []int{0, 1, 2}, 6, api.OK)
	checkAll(t, [][]int{{1, 1}, {1, 1}}, []int{0, 1})
	checkSolve(t, [][]int{{1, 1}, {1, 1}}, []int{0, 1}, 2, api.OK)
	checkAll(t, [][]int{{0, 0, 1}, {0, 0, 1}, {5, 5, 0}}, []int{0, 1, 2})
	for _, l := range [][]int{{0, 0, 2}, {0, 1}, {0, 1, 3}} {
		checkCost(t, c, l, 0, api.ErrForm)
	}
}

// TestLeast has tables with several assignments of the least cost.
func TestLeast(t *testing.T) {
	checkAll(t, [][]int{{1, 2}, {1, 1}}, []int{0, 1})
	checkAll(t, [][]int{{1, 2}, {2, 3}}, []int{0, 1})
	checkAll(t, [][]int{{2, 1}, {3, 2}}, []int{0, 1})
	checkAll(t, [][]int{{0, 0, 0}, {0, 9, 9}, {0, 0, 9}}, []int{2, 0, 1})
	checkAll(t, [][]int{{0, 0, 0}, {0, 9, 9}, {9, 9, 0}}, []int{1, 0, 2})
	checkAll(t, [][]int{{9, 0, 0}, {0, 9, 0}, {0, 0, 9}}, []int{1, 2, 0})
	checkAll(t, [][]int{{9, 0, 0, 9}, {0, 9, 9, 0}, {0, 9, 9, 0}, {9, 0, 0, 9}}, []int{1, 0, 3, 2})
	// the row 0 has the column 0, so that the rows 2, 1 and 3 each have the other one of theirs
	checkAll(t, [][]int{{0, 0, 9, 9}, {9, 9, 0, 0}, {0, 9, 0, 9}, {9, 0, 9, 0}}, []int{0, 3, 2, 1})
	checkAll(t, [][]int{{9, 0, 0, 9}, {9, 9, 0, 0}, {0, 0, 9, 9}, {0, 9, 9, 0}}, []int{1, 2, 0, 3})
}

func TestLimits(t *testing.T) {
	const n, most = api.MaxPlaces, api.MaxCost
	up := make([]int, n)
	for i := range up {
		up[i] = i
	}
	down := slices.Clone(up)
	slices.Reverse(down)
	checkAll(t, filled(n, equal(0)), up)
	checkAll(t, filled(n, equal(most)), up)
	checkSolve(t, filled(n, equal(most)), up, n*most, api.OK)
	checkCost(t, filled(n, equal(most)), down, n*most, api.OK)
	// every assignment of these costs as much
	checkAll(t, filled(n, func(i, j int) int { return i + j }), up)
	checkAll(t, filled(n, func(i, j int) int { return most - i - j }), up)
	checkAll(t, filled(n, func(i, j int) int { return i * j }), down)
	checkAll(t, filled(n, func(i, j int) int { return most - i*j }), up)
	checkAll(t, filled(n, func(i, j int) int { return (i - j) * (i - j) }), up)
	checkAll(t, filled(n, oneIf(func(i, j int) bool { return i+j > n-1 })), down)
	// the last row needs the first column, so every other row goes on to the next one
	checkAll(t, filled(n, func(i, j int) int {
		if i < n-1 && (j == i || j == i+1) || i == n-1 && j == 0 {
			return 0
		}
		return most
	}), append(slices.Clone(up[1:]), 0))
	// nobody but the first row gets the last column
	checkAll(t, filled(n, oneIf(func(i, j int) bool { return i > 0 && j == n-1 })), append([]int{n - 1}, up[:n-1]...))
}

// TestSmall compares with the definitions, by trying all assignments.
func TestSmall(t *testing.T) {
	all := make([][][]int, 7)
	for n := range all {
		all[n] = permutations(n)
	}
	for _, c := range slices.Concat(smallTables(1, 4, 1), smallTables(2, 5, 1), smallTables(3, 3, 1), smallTables(4, 2, 3), smallTables(4, 3, 4001), smallTables(5, 2, 3001), someTables(1, 2000, 4), someTables(2, 500, 5), someTables(3, 100, 6)) {
		checkAll(t, c, best(c, all[len(c)]))
	}
}

// TestCost compares with the definition, for lists of all integers about the columns.
func TestCost(t *testing.T) {
	for n := range 4 {
		c := filled(n, func(i, j int) int { return 1 << (i*n + j) })
		lists := [][]int{nil}
		for length := range 5 {
			for _, l := range lists {
				if len(l) != length {
					continue
				}
				if isAssignment(l, n) {
					checkCost(t, c, l, sum(c, l), api.OK)
				} else {
					checkCost(t, c, l, 0, api.ErrForm)
				}
				for j := -1; j <= n+1; j++ {
					lists = append(lists, append(slices.Clone(l), j))
				}
			}
		}
	}
	up := make([]int, api.MaxPlaces)
	for i := range up {
		up[i] = i
	}
	c := filled(len(up), func(i, j int) int { return 100*i + j })
	checkCost(t, c, up, sum(c, up), api.OK)
	checkCost(t, c, up[:15], 0, api.ErrForm)
	checkCost(t, c, append(up, 16), 0, api.ErrForm)
	for _, j := range []int{-1, 0, 14, 16, 17, math.MinInt, math.MaxInt, math.MinInt + 1, math.MaxInt - 16} {
		checkCost(t, c, append(slices.Clone(up[:15]), j), 0, api.ErrForm)
		checkCost(t, nil, []int{j}, 0, api.ErrForm)
		if j != 0 {
			checkCost(t, c, append([]int{j}, up[1:]...), 0, api.ErrForm)
			checkCost(t, [][]int{{5}}, []int{j}, 0, api.ErrForm)
		}
	}
	checkCost(t, [][]int{{5}}, nil, 0, api.ErrForm)
	checkCost(t, [][]int{{5}}, []int{0, 0}, 0, api.ErrForm)
	checkCost(t, nil, []int{}, 0, api.OK)
}

// restCost is the least cost of the rows behind i without the columns that are taken.
func restCost(c [][]int, i int, taken []int) int {
	var rest [][]int
	for _, row := range c[i+1:] {
		var others []int
		for j, cost := range row {
			if !slices.Contains(taken, j) {
				others = append(others, cost)
			}
		}
		rest = append(rest, others)
	}
	_, n, _ := assign.Solve(rest)
	return n
}

// TestLarge proves least costs by prices, and by the costs of the other rows that no row can have a lesser column (P11.6).
func TestLarge(t *testing.T) {
	for _, c := range slices.Concat(edgeTables(), someTables(4, 200, api.MaxPlaces), someTables(5, 200, 9)) {
		l, n, e := assign.Solve(c)
		if !isAssignment(l, len(c)) || n != sum(c, l) || e != api.OK {
			t.Errorf("P11.2: Solve(%v) is %v, %d, %d", c, l, n, e)
			continue
		}
		checkPrices(t, c, l)
		checkCost(t, c, l, n, api.OK)
		for i, chosen := range l {
			for j := range chosen {
				taken := append(slices.Clone(l[:i]), j)
				if !slices.Contains(l[:i], j) && sum(c, taken)+restCost(c, i, taken) <= n {
					t.Errorf("P11.6: Solve(%v) is %v, but the row %d can have the column %d", c, l, i, j)
				}
			}
		}
	}
}

// TestAdded tries P11.7 and P11.8 through the exported functions.
func TestAdded(t *testing.T) {
	random := rand.New(rand.NewSource(6))
	for _, c := range slices.Concat(edgeTables(), smallTables(2, 4, 1), smallTables(3, 2, 1), someTables(7, 300, api.MaxPlaces), someTables(8, 300, 5)) {
		l, n, _ := assign.Solve(c)
		if _, other, e := assign.Solve(transposed(c)); other != n || e != api.OK {
			t.Errorf("P11.8: %v costs %d, transposed %d, %d", c, n, other, e)
		}
		for i := range c {
			for _, inRow := range []bool{true, false} {
				is := func(k, j int) bool { return inRow && k == i || !inRow && j == i }
				least, most := api.MaxCost, 0
				for k, row := range c {
					for j, cost := range row {
						if is(k, j) {
							least, most = min(least, cost), max(most, cost)
						}
					}
				}
				for _, add := range []int{-least, api.MaxCost - most, -random.Intn(least + 1), random.Intn(api.MaxCost - most + 1)} {
					more := filled(len(c), func(k, j int) int { return c[k][j] + add*oneIf(is)(k, j) })
					if other, m, e := assign.Solve(more); !slices.Equal(other, l) || m != n+add || e != api.OK {
						t.Errorf("P11.7: Solve(%v) is %v, %d, but Solve(%v) is %v, %d, %d", c, l, n, more, other, m, e)
					}
				}
			}
		}
	}
}

// TestMatchings tries P11.9.
func TestMatchings(t *testing.T) {
	random := rand.New(rand.NewSource(9))
	tables := slices.Concat(smallTables(1, 2, 1), smallTables(2, 2, 1), smallTables(3, 2, 1), smallTables(4, 2, 5))
	for range 500 {
		share := random.Float64()
		tables = append(tables, filled(random.Intn(api.MaxPlaces+1), oneIf(func(i, j int) bool { return random.Float64() < share })))
	}
	for _, c := range tables {
		permitted := make([][]bool, len(c))
		for i, row := range c {
			for _, cost := range row {
				permitted[i] = append(permitted[i], cost == 0)
			}
		}
		size, _ := match.Size(permitted)
		if _, n, e := assign.Solve(c); len(c)-n != size || e != api.OK {
			t.Errorf("P11.9: %v costs %d, %d, but the size is %d", c, n, e, size)
		}
	}
}

// TestMemory has tables with memory behind them, which stays as it is, and changes results and tables afterwards.
func TestMemory(t *testing.T) {
	same := func(a, b [][]int) bool { return slices.EqualFunc(a, b, slices.Equal[[]int]) }
	full := func(l []int) []int { return l[:cap(l)] }
	for _, want := range [][][]int{{{4, 1, 3}, {2, 0, 5}, {3, 2, 2}}, {{1, 1}, {1, 1}}, {{9, 0, 0}, {0, 9, 0}, {0, 0, 9}}, {{7}}} {
		memory := make([][]int, 0, len(want)+2)
		for _, row := range want {
			memory = append(memory, append(slices.Clone(row), -3, -4)[:len(row)])
		}
		l := best(want, permutations(len(want)))
		kept := append(slices.Clone(l), -5)[:len(l)]
		for range 2 {
			assign.Check(memory)
			assign.Cost(memory, kept)
			found, _, _ := assign.Solve(memory)
			u, v, _ := assign.Prices(memory)
			wanted := slices.Clone(v)
			for _, result := range [][]int{full(found), full(u)} {
				for i := range result {
					result[i] = -7
				}
			}
			if !slices.Equal(v, wanted) {
				t.Errorf("P11.3: the prices of the rows and columns of %v share memory", want)
			}
			clear(full(v))
			if !same(memory, want) || !slices.Equal(kept, l) || kept[:len(l)+1][len(l)] != -5 {
				t.Errorf("P11.1 to P11.4: %v, %v are changed to %v, %v", want, l, memory, kept)
			}
			for i, row := range memory {
				if behind := row[:len(row)+2]; behind[len(row)] != -3 || behind[len(row)+1] != -4 || memory[:len(memory)+2][len(memory)] != nil {
					t.Errorf("P11.1 to P11.4: the memory behind the row %d of %v is changed", i, want)
				}
			}
		}
		checkAll(t, memory, l)
	}
	// rows that are the same memory
	row := []int{3, 1, 2}
	checkAll(t, [][]int{row, row, row}, []int{0, 1, 2})
}

// TestAgain expects that a call does not depend on those before it.
func TestAgain(t *testing.T) {
	for _, c := range someTables(10, 50, api.MaxPlaces) {
		u, v, _ := assign.Prices(c)
		l, n, _ := assign.Solve(c)
		assign.Solve(transposed(c))
		assign.Prices(filled(api.MaxPlaces, equal(9)))
		otherRows, otherColumns, _ := assign.Prices(clone(c))
		if !slices.Equal(otherRows, u) || !slices.Equal(otherColumns, v) {
			t.Errorf("P11.3: the prices of %v are %v, %v, and then %v, %v", c, u, v, otherRows, otherColumns)
		}
		checkSolve(t, clone(c), l, n, api.OK)
	}
}
