package share_test

import (
	"math"
	"math/big"
	"math/rand"
	"slices"
	"testing"

	"dancestudio/api"
	"dancestudio/share"
)

const (
	most = 1 << 40
	full = 512
)

// extreme are integers far outside the bounds, and next to them.
var extreme = []int{math.MinInt, math.MinInt + 1, -1 << 62, -most, -2, -1, most + 1, most + 2, 2 * most, 1 << 62, math.MaxInt - 1, math.MaxInt}

func sum(l []int) int {
	n := 0
	for _, a := range l {
		n += a
	}
	return n
}

// quotient is a * b / c, rounded down, and what is left of a * b.
func quotient(a, b, c int) (int, int) {
	product := new(big.Int).Mul(big.NewInt(int64(a)), big.NewInt(int64(b)))
	q, r := new(big.Int).DivMod(product, big.NewInt(int64(c)), new(big.Int))
	return int(q.Int64()), int(r.Int64())
}

// split is the definition of P12.1: unit after unit goes to the largest remainder of which nothing was given out yet, the first of equal ones.
func split(total int, weights []int) []int {
	var amounts, rests []int
	for _, w := range weights {
		q, r := quotient(total, w, sum(weights))
		amounts, rests = append(amounts, q), append(rests, r)
	}
	for range total - sum(amounts) {
		i := slices.Index(rests, slices.Max(rests))
		amounts[i]++
		rests[i] = -1
	}
	return amounts
}

func checkSplit(t *testing.T, total int, weights, want []int, err api.Errno) {
	t.Helper()
	l, e := share.Split(total, weights)
	if !slices.Equal(l, want) || e != err {
		t.Errorf("P1, P12.1: Split(%d, %v) is %v, %d, not %v, %d", total, weights, l, e, want, err)
	}
}

func checkStages(t *testing.T, total, n int, want []int, err api.Errno) {
	t.Helper()
	l, e := share.Stages(total, n)
	if !slices.Equal(l, want) || e != err {
		t.Errorf("P1, P12.2: Stages(%d, %d) is %v, %d, not %v, %d", total, n, l, e, want, err)
	}
}

// checkFair tries what P12.3 says of one division, up to the first fault.
func checkFair(t *testing.T, total int, weights []int) {
	t.Helper()
	l, e := share.Split(total, weights)
	if len(l) != len(weights) || sum(l) != total || e != api.OK {
		t.Errorf("P12.3: Split(%d, %v) is %v, %d, which add up to %d", total, weights, l, e, sum(l))
		return
	}
	for i, w := range weights {
		q, r := quotient(total, w, sum(weights))
		if l[i] != q && (l[i] != q+1 || r == 0) || w == 0 && l[i] != 0 {
			t.Errorf("P12.3: Split(%d, %v) is %v, but the share of %d is %d and something", total, weights, l, i, q)
			return
		}
		for j, v := range weights[:i] {
			if w > v && l[i] < l[j] || w < v && l[i] > l[j] || w == v && l[i] > l[j] {
				t.Errorf("P12.3: Split(%d, %v) is %v, which is not fair to %d and %d", total, weights, l, j, i)
				return
			}
		}
	}
}

// lists are all lists of n integers less than end.
func lists(n, end int) [][]int {
	if n == 0 {
		return [][]int{nil}
	}
	var l [][]int
	for _, rest := range lists(n-1, end) {
		for a := range end {
			l = append(l, append(slices.Clone(rest), a))
		}
	}
	return l
}

// someWeights are random valid lists: short and long ones, with few different weights or with many, small ones and such that their sum is about MaxCost.
func someWeights(seed int64, number int) [][]int {
	random := rand.New(rand.NewSource(seed))
	var l [][]int
	for len(l) < number {
		n := 1 + random.Intn(8)
		if random.Intn(8) == 0 {
			n = 1 + random.Intn(full)
		}
		greatest := []int{1, 2, 7, 1000, most/n - 1, most / n}[random.Intn(6)]
		weights := make([]int, n)
		for i := range weights {
			weights[i] = greatest - random.Intn(min(greatest, 3)+1)
			if random.Intn(2) == 0 {
				weights[i] = random.Intn(greatest + 1)
			}
		}
		if random.Intn(4) == 0 {
			// the sum becomes MaxCost exactly
			weights[random.Intn(n)] += most - sum(weights)
		}
		if sum(weights) > 0 {
			l = append(l, weights)
		}
	}
	return l
}

func someTotals(random *rand.Rand, n int) []int {
	return []int{0, 1, n - 1, n, random.Intn(1000), random.Intn(most + 1), most - random.Intn(1000), most - 1, most}
}

func TestSplitExamples(t *testing.T) {
	for _, c := range []struct {
		total         int
		weights, want []int
	}{
		{10, []int{3, 3, 1}, []int{4, 4, 2}},
		{100, []int{96, 192}, []int{33, 67}},
		{1000, []int{1, 1, 1}, []int{334, 333, 333}},
		{0, []int{0, 5}, []int{0, 0}},
		{0, []int{most}, []int{0}},
		{7, []int{1}, []int{7}},
		{1, []int{1, 1}, []int{1, 0}},
		{1, []int{1, 2}, []int{0, 1}},
		{1, []int{0, 1, 1, 0}, []int{0, 1, 0, 0}},
		{2, []int{1, 1, 1, 1}, []int{1, 1, 0, 0}},
		// the exact shares are 3/2, 1 and 1/2: the first one has a remainder as large as the last one
		{3, []int{3, 2, 1}, []int{2, 1, 0}},
		{3, []int{1, 2, 3}, []int{1, 1, 1}},
		{6, []int{1, 2, 3}, []int{1, 2, 3}},
		// the smallest weight has the largest remainder
		{10, []int{3, 6, 1, 1}, []int{3, 5, 1, 1}},
		{most, []int{1, most - 1}, []int{1, most - 1}},
		{most, []int{most}, []int{most}},
		{most, []int{0, most, 0}, []int{0, most, 0}},
		{most, []int{1, 1, 1}, []int{most/3 + 1, most / 3, most / 3}},
		// the remainders are 4, 4, 4 and 2
		{most, []int{2, 2, 2, 1}, []int{2*most/7 + 1, 2*most/7 + 1, 2 * most / 7, most / 7}},
		{most - 1, []int{1, most - 1}, []int{1, most - 2}},
		{most - 1, []int{most / 2, most / 2}, []int{most / 2, most/2 - 1}},
		{most - 1, []int{most/2 - 1, most/2 + 1}, []int{most/2 - 1, most / 2}},
		{1, []int{most/2 - 1, most/2 + 1}, []int{0, 1}},
	} {
		if !slices.Equal(split(c.total, c.weights), c.want) {
			t.Errorf("the test's Split(%d, %v) is %v, not %v", c.total, c.weights, split(c.total, c.weights), c.want)
		}
		checkSplit(t, c.total, c.weights, c.want, api.OK)
		checkFair(t, c.total, c.weights)
	}
}

// TestSplitErrors has each error alone, and together with all that come later.
func TestSplitErrors(t *testing.T) {
	zeros := make([]int, full)
	large := slices.Repeat([]int{most}, full)
	for _, n := range extreme {
		// the total comes first
		for _, l := range [][]int{nil, {}, {5}, {n}, {0}, {0, 0}, {most, 1}, zeros, append(zeros, 0), append(zeros, n)} {
			checkSplit(t, n, l, nil, api.ErrRange)
		}
		for _, total := range []int{0, 1, most} {
			// the number of weights comes before the weights, and these before their sum
			checkSplit(t, total, append(zeros, n), nil, api.ErrFull)
			checkSplit(t, total, append([]int{n}, zeros...), nil, api.ErrFull)
			for _, l := range [][]int{{n}, {0, n}, {n, 0}, {5, n, 5}, {most, n}, {n, most}, {most, 1, n}, {n, -1}, {-1, n}, {n, most + 1}} {
				checkSplit(t, total, l, nil, api.ErrRange)
			}
			checkSplit(t, total, append(zeros[1:], n), nil, api.ErrRange)
			checkSplit(t, total, append(large[1:], n), nil, api.ErrRange)
		}
	}
	// a sum that would be valid if the weights were
	checkSplit(t, 1, []int{most + 1, -1}, nil, api.ErrRange)
	checkSplit(t, 1, []int{-3, 3}, nil, api.ErrRange)
	checkSplit(t, 1, []int{math.MaxInt, math.MaxInt, 2}, nil, api.ErrRange)
	for _, total := range []int{0, 1, 5, most} {
		checkSplit(t, total, nil, nil, api.ErrEmpty)
		checkSplit(t, total, []int{}, nil, api.ErrEmpty)
		checkSplit(t, total, append(zeros, 0), nil, api.ErrFull)
		checkSplit(t, total, append(large, most), nil, api.ErrFull)
		checkSplit(t, total, slices.Repeat([]int{1}, full+1), nil, api.ErrFull)
		checkSplit(t, total, slices.Repeat([]int{1}, 2*full), nil, api.ErrFull)
		checkSplit(t, total, []int{0}, nil, api.ErrDivide)
		checkSplit(t, total, []int{0, 0}, nil, api.ErrDivide)
		checkSplit(t, total, zeros, nil, api.ErrDivide)
		for _, l := range [][]int{{most, 1}, {1, most}, {0, most, 0, 1}, {most / 2, most/2 + 1}, {most, most}, large} {
			checkSplit(t, total, l, nil, api.ErrOverflow)
		}
	}
}

// TestSplit compares with the definition.
func TestSplit(t *testing.T) {
	for n := 1; n <= 5; n++ {
		for _, weights := range lists(n, 8-n) {
			if sum(weights) == 0 {
				continue
			}
			for total := range 14 {
				checkSplit(t, total, weights, split(total, weights), api.OK)
				checkFair(t, total, weights)
			}
		}
	}
	random := rand.New(rand.NewSource(1))
	for _, weights := range someWeights(2, 400) {
		for _, total := range someTotals(random, len(weights)) {
			checkSplit(t, total, weights, split(total, weights), api.OK)
		}
	}
}

func TestSplitLimits(t *testing.T) {
	ones, last := slices.Repeat([]int{1}, full), slices.Repeat([]int{2}, full)
	last[full-1]++
	long := slices.Repeat([]int{most / full}, full)
	rising, falling := make([]int, full), make([]int, full)
	for i := range full {
		rising[i], falling[i] = i, full-1-i
	}
	for _, weights := range [][]int{ones, last, long, rising, falling} {
		for _, total := range []int{0, 1, 255, 511, 512, 513, 1000, most - 1, most} {
			checkSplit(t, total, weights, split(total, weights), api.OK)
			checkFair(t, total, weights)
		}
	}
	checkSplit(t, most, long, long, api.OK)
	checkSplit(t, 511, ones, append(slices.Clone(ones[1:]), 0), api.OK)
}

// TestFair tries P12.3 at random.
func TestFair(t *testing.T) {
	random := rand.New(rand.NewSource(3))
	for _, weights := range someWeights(4, 200) {
		for _, total := range someTotals(random, len(weights)) {
			checkFair(t, total, weights)
		}
	}
}

// TestFactors multiplies weights, up to the greatest factor that has no error.
func TestFactors(t *testing.T) {
	random := rand.New(rand.NewSource(5))
	for _, weights := range slices.Concat(someWeights(6, 300), lists(3, 3)[1:]) {
		greatest := most / sum(weights)
		for _, factor := range []int{1, 2, 3, 10, random.Intn(greatest) + 1, greatest, greatest + 1} {
			more := slices.Clone(weights)
			for i := range more {
				more[i] *= factor
			}
			for _, total := range someTotals(random, len(weights)) {
				l, e := share.Split(total, weights)
				other, f := share.Split(total, more)
				switch {
				case e != api.OK:
					t.Errorf("P12.1: Split(%d, %v) has the error %d", total, weights, e)
				case factor > greatest:
					if f != api.ErrRange && f != api.ErrOverflow {
						t.Errorf("P12.1: Split(%d, %v) has the error %d", total, more, f)
					}
				case f != api.OK || !slices.Equal(other, l):
					t.Errorf("P12.3: Split(%d, %v) is %v, but with the factor %d %v, %d", total, weights, l, factor, other, f)
				}
			}
		}
	}
}

func TestStagesExamples(t *testing.T) {
	checkStages(t, 10, 4, []int{2, 3, 2, 3}, api.OK)
	checkStages(t, 2, 3, []int{0, 1, 1}, api.OK)
	checkStages(t, 0, 3, []int{0, 0, 0}, api.OK)
	checkStages(t, 1, 2, []int{0, 1}, api.OK)
	checkStages(t, 7, 1, []int{7}, api.OK)
	checkStages(t, 8, 4, []int{2, 2, 2, 2}, api.OK)
	checkStages(t, 9, 4, []int{2, 2, 2, 3}, api.OK)
	checkStages(t, 11, 4, []int{2, 3, 3, 3}, api.OK)
	checkStages(t, most, 1, []int{most}, api.OK)
	checkStages(t, most, 2, []int{most / 2, most / 2}, api.OK)
	checkStages(t, most, 3, []int{most / 3, most / 3, most/3 + 1}, api.OK)
	checkStages(t, most, full, slices.Repeat([]int{most / full}, full), api.OK)
	checkStages(t, 1, full, append(make([]int, full-1), 1), api.OK)
}

func TestStagesErrors(t *testing.T) {
	for _, n := range extreme {
		checkStages(t, n, 1, nil, api.ErrRange)
		checkStages(t, n, full, nil, api.ErrRange)
		for _, total := range []int{0, 5, most, n} {
			checkStages(t, total, n, nil, api.ErrRange)
		}
	}
	for _, n := range []int{0, full + 1, full + 2, 1024, most} {
		for _, total := range []int{0, 1, 5, most, most + 1, -1} {
			checkStages(t, total, n, nil, api.ErrRange)
		}
	}
}

// checkEven compares with the definition, and tries P12.4, up to the first fault.
func checkEven(t *testing.T, total, n int) {
	t.Helper()
	l, e := share.Stages(total, n)
	if len(l) != n || e != api.OK {
		t.Errorf("P12.2: Stages(%d, %d) is %v, %d", total, n, l, e)
		return
	}
	for k := range n + 1 {
		if due, _ := quotient(total, k, n); sum(l[:k]) != due {
			t.Errorf("P12.2: the first %d of Stages(%d, %d) add up to %d, not %d", k, total, n, sum(l[:k]), due)
			return
		}
	}
	if sum(l) != total || slices.Max(l)-slices.Min(l) > 1 {
		t.Errorf("P12.4: Stages(%d, %d) is %v", total, n, l)
	}
}

func TestStages(t *testing.T) {
	for total := range 40 {
		for n := 1; n <= 20; n++ {
			checkEven(t, total, n)
		}
	}
	random := rand.New(rand.NewSource(7))
	for n := 1; n <= full; n++ {
		checkEven(t, random.Intn(most+1), n)
		checkEven(t, random.Intn(2*n), n)
		if n < 20 || n > full-20 {
			for _, total := range []int{0, n - 1, n, n + 1, most - n, most - 1, most} {
				checkEven(t, total, n)
			}
		}
	}
}

// TestMemory has weights with memory behind them, which stays as it is, and changes results afterwards.
func TestMemory(t *testing.T) {
	for _, want := range [][]int{{3, 3, 1}, {0, 5}, {7}, {1, 2, 3, 4}, {most}} {
		memory := append(slices.Clone(want), -3, -4)
		weights := memory[:len(want)]
		for range 2 {
			l, _ := share.Split(10, weights)
			again, _ := share.Split(10, weights)
			kept := slices.Clone(again)
			for i := range l[:cap(l)] {
				l[:cap(l)][i] = -7
			}
			if !slices.Equal(again, kept) || !slices.Equal(again, split(10, want)) {
				t.Errorf("P12.1: Split(10, %v) is %v", want, again)
			}
			if !slices.Equal(memory, append(slices.Clone(want), -3, -4)) {
				t.Errorf("P12.1: %v with -3 and -4 behind it is changed to %v", want, memory)
			}
		}
		bad := append(slices.Clone(want), -1)
		share.Split(1, bad)
		if !slices.Equal(bad, append(slices.Clone(want), -1)) {
			t.Errorf("P12.1: %v is changed to %v", append(slices.Clone(want), -1), bad)
		}
	}
	for range 2 {
		l, _ := share.Stages(10, 4)
		for i := range l[:cap(l)] {
			l[:cap(l)][i] = -7
		}
		checkStages(t, 10, 4, []int{2, 3, 2, 3}, api.OK)
	}
}
