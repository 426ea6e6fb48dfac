package ident_test

import (
	"math"
	"math/big"
	"math/rand"
	"regexp"
	"slices"
	"strconv"
	"strings"
	"testing"

	"dancestudio/api"
	"dancestudio/ident"
)

var (
	// shape is the definition of a name, but for the number of bytes.
	shape = regexp.MustCompile(`\A[a-z][a-z0-9]*(-[a-z0-9]+)*\z`)
	// piece is the definition of a piece of a name.
	piece = regexp.MustCompile(`[0-9]+|[^0-9]`)
)

func isName(s string) bool { return len(s) >= 1 && len(s) <= 24 && shape.MatchString(s) }

// noNames are strings that are no names, each for a reason of its own.
var noNames = []string{
	"", "A", "1a", "-a", "a-", "a--b", "a_b", "a b", strings.Repeat("a", 25), "Z9", "aB", "0", "-", "--", "a---b", "a-b-", "-a-",
	" a", "a ", "a\n", "\na", "a\x00", "\x00", "a.b", "a/b", "a`", "a{", "{a", "`a", "a:", "\u00e9", "a\u00e9", "a\u0660", "\xff", "a\x80", "a\u2010b",
	strings.Repeat("a", 24) + "-", "a" + strings.Repeat("0", 24), strings.Repeat("a", 1000), strings.Repeat("a-", 12),
}

// words are all strings of the bytes of an alphabet with at most so many bytes.
func words(alphabet string, most int) []string {
	all, last := []string{""}, []string{""}
	for range most {
		var longer []string
		for _, s := range last {
			for i := range len(alphabet) {
				longer = append(longer, s+alphabet[i:i+1])
			}
		}
		all, last = append(all, longer...), longer
	}
	return all
}

// names are those of the words that are names.
func names(words []string) []string {
	return slices.DeleteFunc(words, func(s string) bool { return !isName(s) })
}

// someName is a name of any length, with rows of digits and with zeros.
func someName(random *rand.Rand) string {
	alphabet := []string{"ab", "a0", "a019-", "a0123456789bz-", "00000001"}[random.Intn(5)]
	for {
		s := []byte("a")
		for range random.Intn(24) {
			s = append(s, alphabet[random.Intn(len(alphabet))])
		}
		if isName(string(s)) {
			return string(s)
		}
	}
}

// numbered are the names n0, n1 and so on.
func numbered(n int) []string {
	var l []string
	for i := range n {
		l = append(l, "n"+strconv.Itoa(i))
	}
	return l
}

// comesFirst is the definition of the order, over the pieces of names.
func comesFirst(a, b []string) bool {
	for i := range min(len(a), len(b)) {
		if a[i] == b[i] {
			continue
		}
		numberA, rowA := new(big.Int).SetString(a[i], 10)
		numberB, rowB := new(big.Int).SetString(b[i], 10)
		if rowA && rowB && numberA.Cmp(numberB) == 0 {
			return len(a[i]) < len(b[i])
		}
		if rowA && rowB {
			return numberA.Cmp(numberB) < 0
		}
		return rowA || !rowB && a[i][0] < b[i][0]
	}
	return len(a) < len(b)
}

func pieces(s string) []string { return piece.FindAllString(s, -1) }

func table(t *testing.T, names ...string) *ident.Table {
	t.Helper()
	x, e := ident.New(names...)
	if x == nil || e != api.OK {
		t.Fatalf("P5.3: New of %d names is %v, %d", len(names), x, e)
	}
	return x
}

// checkTable expects that a table has exactly these names, with these numbers.
func checkTable(t *testing.T, x *ident.Table, names []string) {
	t.Helper()
	for i, want := range names {
		if s, e := x.Name(i); s != want || e != api.OK {
			t.Errorf("P5.6: Name(%d) is %q, %d, not %q", i, s, e, want)
		}
		if n, ok := x.Index(want); n != i || !ok {
			t.Errorf("P5.5: Index(%q) is %d, %t, not %d", want, n, ok, i)
		}
	}
	for _, i := range []int{math.MinInt, -len(names), -1, len(names), len(names) + 1, 1 << 32, math.MaxInt} {
		within := i >= 0 && i < len(names)
		if s, e := x.Name(i); !within && (s != "" || e != api.ErrNone) {
			t.Errorf("P5.6: Name(%d) is %q, %d, but there are %d names", i, s, e, len(names))
		}
	}
	sorted := x.Sorted()
	if !slices.Equal(slices.Sorted(slices.Values(sorted)), slices.Sorted(slices.Values(names))) {
		t.Errorf("P5.7: Sorted of the names %q is %q", names, sorted)
	}
	for i := 1; i < len(sorted); i++ {
		if !comesFirst(pieces(sorted[i-1]), pieces(sorted[i])) {
			t.Errorf("P5.7: Sorted has %q before %q", sorted[i-1], sorted[i])
		}
	}
}

func checkValid(t *testing.T, s string) {
	t.Helper()
	if valid := ident.Valid(s); valid != isName(s) {
		t.Errorf("P5.1: Valid(%q) is %t", s, valid)
	}
}

func TestValidExamples(t *testing.T) {
	for _, s := range []string{
		"a", "z", "z9", "pas-de-2", "a-1-b", "a0", "x-y-z", "a-0", "abcdefghijklmnopqrstuvwx", "a-a-a-a-a-a-a-a-a-a-a-aa", "a00000000000000000000000",
	} {
		if !ident.Valid(s) {
			t.Errorf("P5.1: Valid(%q) is false", s)
		}
	}
	for _, s := range append([]string{"2-step"}, noNames...) {
		if ident.Valid(s) {
			t.Errorf("P5.1: Valid(%q) is true", s)
		}
	}
}

func TestValid(t *testing.T) {
	for _, s := range words("az09-A ", 5) {
		checkValid(t, s)
	}
	for n := range 40 {
		checkValid(t, strings.Repeat("a", n))
		checkValid(t, strings.Repeat("a-", n))
		checkValid(t, "b"+strings.Repeat("-a", n))
		checkValid(t, "b"+strings.Repeat("7", n))
	}
	// Every byte at every place.
	for _, s := range []string{"a", "b7", "a-b", "pas-de-2", "abcdefghijklmnopqrstuvwx"} {
		for i := range len(s) {
			for c := range 256 {
				changed := []byte(s)
				changed[i] = byte(c)
				checkValid(t, string(changed))
			}
		}
	}
}

func checkLess(t *testing.T, a, b string, want bool) {
	t.Helper()
	if less := ident.Less(a, b); less != want {
		t.Errorf("P5.2: Less(%q, %q) is %t", a, b, less)
	}
}

// TestLessExamples has names in their order.
func TestLessExamples(t *testing.T) {
	l := []string{
		"a", "a0", "a0-0", "a00", "a00-0", "a1", "a1x", "a01", "a01a", "a7", "a07", "a007", "a8", "a10", "a10-9", "a10-10", "a10b", "a010",
		"a9223372036854775807", "a9223372036854775808", "a09223372036854775808", "a18446744073709551615", "a18446744073709551616",
		"a99999999999999999999998", "a99999999999999999999999", "a-0", "a-1", "a-b", "a-b-9", "a-ba", "a-c", "aa", "aa9", "aa-a", "aaa", "ab", "b",
		"part-9", "part-09", "part-10", "part-a", "z",
	}
	for i, a := range l {
		for k, b := range l {
			checkLess(t, a, b, i < k)
		}
	}
}

// TestLess compares with the order of pieces, for all short names of an alphabet and for long ones.
func TestLess(t *testing.T) {
	random := rand.New(rand.NewSource(5))
	long := make([]string, 500)
	for i := range long {
		long[i] = someName(random)
	}
	for _, l := range [][]string{names(words("ab019-", 4)), long} {
		cut := make([][]string, len(l))
		for i, s := range l {
			cut[i] = pieces(s)
		}
		for i, a := range l {
			for k, b := range l {
				checkLess(t, a, b, comesFirst(cut[i], cut[k]))
			}
		}
	}
}

func TestLessOfNoNames(t *testing.T) {
	for _, a := range noNames {
		for _, b := range append([]string{"a", "b", "a0", "z9", "pas-de-2"}, noNames...) {
			checkLess(t, a, b, false)
			checkLess(t, b, a, false)
		}
	}
}

// TestOrder tries the order on its own, without the definition of the pieces.
func TestOrder(t *testing.T) {
	l := names(words("ab07-", 3))
	for i, a := range l {
		for k, b := range l {
			if ident.Less(a, b) == ident.Less(b, a) && i != k || i == k && ident.Less(a, b) {
				t.Errorf("P5.8: %q and %q", a, b)
			}
			for _, c := range l {
				if ident.Less(a, b) && ident.Less(b, c) && !ident.Less(a, c) {
					t.Errorf("P5.8: %q, %q and %q", a, b, c)
				}
			}
		}
	}
}

func TestNew(t *testing.T) {
	for _, l := range [][]string{
		nil, {}, {"a"}, {"a", "b"}, {"b", "a"}, {"p10", "q", "p9"}, {"a7", "a007", "a07"}, {"z", "a-b", "ab", "a0", "a"}, numbered(511), numbered(512),
	} {
		checkTable(t, table(t, l...), l)
	}
}

func TestNewErrors(t *testing.T) {
	full := numbered(512)
	for _, c := range []struct {
		names []string
		err   api.Errno
	}{
		{[]string{"a", "B", "a"}, api.ErrName}, {[]string{"a", "a", "B"}, api.ErrName}, {[]string{"B", "B"}, api.ErrName}, {[]string{""}, api.ErrName},
		{[]string{"a", "b", "a"}, api.ErrTwice}, {[]string{"a", "a"}, api.ErrTwice}, {[]string{"b", "a", "c", "a"}, api.ErrTwice},
		{numbered(513), api.ErrFull}, {numbered(2000), api.ErrFull},
		{slices.Concat(full, []string{"b"}), api.ErrFull},
		{slices.Concat(full, []string{"n0"}), api.ErrTwice},
		{slices.Concat(full, []string{"n511"}), api.ErrTwice},
		{slices.Concat([]string{"n511"}, full), api.ErrTwice},
		{slices.Concat(full, full), api.ErrTwice},
		{slices.Concat(full, []string{"n512", "n512"}), api.ErrTwice},
		{slices.Concat(full[1:], []string{"n1"}), api.ErrTwice},
		{slices.Concat(full, []string{"n0", "a-"}), api.ErrName},
		{slices.Concat(full, []string{"N"}), api.ErrName},
		{slices.Concat([]string{"N"}, full), api.ErrName},
		{slices.Concat(full[1:], []string{"N"}), api.ErrName},
	} {
		if x, e := ident.New(c.names...); x != nil || e != c.err {
			t.Errorf("P5.3: New of the %d names %q is %v, %d, not %d", len(c.names), c.names, x, e, c.err)
		}
	}
	for _, s := range noNames {
		for _, l := range [][]string{{s}, {"a", s}, {s, "a"}, {"a", "a", s}} {
			if x, e := ident.New(l...); x != nil || e != api.ErrName {
				t.Errorf("P5.3: New of %q is %v, %d", l, x, e)
			}
		}
	}
}

func checkAdd(t *testing.T, x *ident.Table, name string, number int, err api.Errno) {
	t.Helper()
	if n, e := x.Add(name); n != number || e != err {
		t.Errorf("P5.4: Add(%q) is %d, %d, not %d, %d", name, n, e, number, err)
	}
}

// TestAdd fills tables that begin with some names, and looks at them on the way.
func TestAdd(t *testing.T) {
	all := numbered(512)
	for _, begin := range []int{0, 1, 2, 300, 511, 512} {
		x := table(t, all[:begin]...)
		for i := begin; i < len(all); i++ {
			if n, ok := x.Index(all[i]); n != 0 || ok {
				t.Errorf("P5.5: Index(%q) is %d, %t, before it is added", all[i], n, ok)
			}
			checkAdd(t, x, "A", 0, api.ErrName)
			checkAdd(t, x, all[i], i, api.OK)
			checkAdd(t, x, all[i], 0, api.ErrTwice)
			checkAdd(t, x, all[0], 0, api.ErrTwice)
			if i%100 == 0 {
				checkTable(t, x, all[:i+1])
			}
		}
		checkTable(t, x, all)
		for range 2 {
			checkAdd(t, x, "new", 0, api.ErrFull)
			checkAdd(t, x, "n512", 0, api.ErrFull)
			checkAdd(t, x, "n0", 0, api.ErrTwice)
			checkAdd(t, x, "n511", 0, api.ErrTwice)
			checkAdd(t, x, "New", 0, api.ErrName)
		}
		checkTable(t, x, all)
		if n, ok := x.Index("new"); n != 0 || ok {
			t.Errorf("P5.4: a full table has the number %d for what was not added", n)
		}
	}
}

func TestAddErrors(t *testing.T) {
	l := []string{"x", "y", "a07"}
	x := table(t, l...)
	for _, s := range noNames {
		checkAdd(t, x, s, 0, api.ErrName)
	}
	for _, s := range l {
		checkAdd(t, x, s, 0, api.ErrTwice)
	}
	checkTable(t, x, l)
	// Equal numbers do not make equal names.
	checkAdd(t, x, "a7", 3, api.OK)
	checkAdd(t, x, "a007", 4, api.OK)
	checkTable(t, x, []string{"x", "y", "a07", "a7", "a007"})
}

func TestIndexOfOthers(t *testing.T) {
	x := table(t, "x", "y", "a07")
	for _, s := range append([]string{"z", "a7", "a007", "xy", "a"}, noNames...) {
		if n, ok := x.Index(s); n != 0 || ok {
			t.Errorf("P5.5: Index(%q) is %d, %t", s, n, ok)
		}
	}
}

func TestSorted(t *testing.T) {
	for _, l := range [][]string{
		nil, {"a"}, {"p9", "p10", "q"}, {"a", "a7", "a07", "a007", "a8", "a10", "a-b", "ab", "b"}, numbered(512),
	} {
		random := rand.New(rand.NewSource(7))
		for range 20 {
			shuffled := slices.Clone(l)
			random.Shuffle(len(l), func(i, k int) { shuffled[i], shuffled[k] = shuffled[k], shuffled[i] })
			x := table(t, shuffled...)
			if sorted := x.Sorted(); !slices.Equal(sorted, l) {
				t.Errorf("P5.7: Sorted of %q is %q", shuffled, sorted)
			}
			checkTable(t, x, shuffled)
		}
	}
	x := table(t, "b")
	checkAdd(t, x, "a", 1, api.OK)
	if sorted := x.Sorted(); !slices.Equal(sorted, []string{"a", "b"}) {
		t.Errorf("P5.7: Sorted is %q after Add", sorted)
	}
}

// TestNumbers expects that Index and Name are inverse, also after names were refused.
func TestNumbers(t *testing.T) {
	random := rand.New(rand.NewSource(9))
	for range 20 {
		x, count := table(t), 0
		for range 700 {
			s := someName(random)
			n, known := x.Index(s)
			switch {
			case known:
				checkAdd(t, x, s, 0, api.ErrTwice)
			case count == 512:
				checkAdd(t, x, s, 0, api.ErrFull)
			default:
				checkAdd(t, x, s, count, api.OK)
				n, count = count, count+1
			}
			if back, e := x.Name(n); (known || count < 512) && (back != s || e != api.OK) {
				t.Errorf("P5.9: Name(%d) is %q, %d, not %q", n, back, e, s)
			}
		}
		for i := range count {
			s, e := x.Name(i)
			if n, ok := x.Index(s); n != i || !ok || e != api.OK {
				t.Errorf("P5.9: Index(%q), the name %d, is %d, %t", s, i, n, ok)
			}
		}
	}
}

func TestNil(t *testing.T) {
	var x *ident.Table
	for _, s := range append([]string{"a", "pas-de-2"}, noNames...) {
		checkAdd(t, x, s, 0, api.ErrNil)
		if n, ok := x.Index(s); n != 0 || ok {
			t.Errorf("P5.5: Index(%q) is %d, %t for a nil table", s, n, ok)
		}
	}
	for _, i := range []int{math.MinInt, -1, 0, 1, math.MaxInt} {
		if s, e := x.Name(i); s != "" || e != api.ErrNil {
			t.Errorf("P5.6: Name(%d) is %q, %d for a nil table", i, s, e)
		}
	}
	if l := x.Sorted(); len(l) != 0 {
		t.Errorf("P5.7: Sorted is %q for a nil table", l)
	}
}

// TestMemory expects that a table shares no memory with arguments and results, nor with another table.
func TestMemory(t *testing.T) {
	want := []string{"c", "b", "a"}
	l := append(make([]string, 0, 8), want...)
	x, y := table(t, l...), table(t, l...)
	checkAdd(t, x, "d", 3, api.OK)
	if !slices.Equal(l, want) || l[:4][3] != "" {
		t.Errorf("P5.3, P5.4: the argument becomes %q", l[:4])
	}
	checkTable(t, y, want)
	clear(l)
	checkTable(t, x, []string{"c", "b", "a", "d"})
	sorted := x.Sorted()
	clear(sorted)
	if again := x.Sorted(); !slices.Equal(again, []string{"a", "b", "c", "d"}) {
		t.Errorf("P5.7: Sorted is %q after its result was changed", again)
	}
	checkTable(t, x, []string{"c", "b", "a", "d"})
}
