package wire_test

import (
	"bytes"
	"math"
	"math/big"
	"math/rand"
	"slices"
	"strings"
	"testing"

	"dancestudio/api"
	"dancestudio/wire"
)

// bounds are greatest lengths that may be asked for.
var bounds = []int{math.MinInt, -2, -1, 0, 1, 2, 3, 63, 64, 1 << 40, math.MaxInt}

// edges are the integers next to all powers of two and to 0, positive and negative, and the extreme ones.
func edges() []int {
	l := []int{math.MinInt, math.MinInt + 1, math.MaxInt - 1, math.MaxInt}
	for k := range 63 {
		for d := -2; d <= 2; d++ {
			l = append(l, 1<<k+d, -(1<<k)+d)
		}
	}
	return l
}

// someInt is a random integer of a random length.
func someInt(random *rand.Rand) int {
	return int(random.Uint64()) >> random.Intn(64)
}

func someInts(random *rand.Rand, most int) []int {
	var l []int
	for range random.Intn(most + 1) {
		l = append(l, someInt(random))
	}
	return l
}

func someBytes(random *rand.Rand, most int) []byte {
	b := make([]byte, random.Intn(most+1))
	random.Read(b)
	return b
}

// rows are all rows of at most so many bytes of an alphabet.
func rows(alphabet []byte, most int) [][]byte {
	all, last := [][]byte{nil}, [][]byte{nil}
	for range most {
		var longer [][]byte
		for _, b := range last {
			for _, c := range alphabet {
				longer = append(longer, append(slices.Clone(b), c))
			}
		}
		all, last = append(all, longer...), longer
	}
	return all
}

// everyByte are the bytes from 0 to 255.
func everyByte() []byte {
	var b []byte
	for c := range 256 {
		b = append(b, byte(c))
	}
	return b
}

// unsigned is the definition of the number as which an integer is encoded.
func unsigned(n int) *big.Int {
	u := big.NewInt(int64(n))
	u.Mul(u, big.NewInt(2))
	if n < 0 {
		u.Neg(u).Sub(u, big.NewInt(1))
	}
	return u
}

// encoding is the definition of the encoding of an integer.
func encoding(n int) []byte {
	u, group := unsigned(n), new(big.Int)
	var b []byte
	for {
		u.DivMod(u, big.NewInt(128), group)
		if u.Sign() == 0 {
			return append(b, byte(group.Int64()))
		}
		b = append(b, byte(group.Int64()+128))
	}
}

func textEncoding(s string) []byte { return append(encoding(len(s)), s...) }

func listEncoding(l []int) []byte {
	b := encoding(len(l))
	for _, n := range l {
		b = append(b, encoding(n)...)
	}
	return b
}

// intAt is the definition of TakeInt.
func intAt(b []byte) (int, int, api.Errno) {
	size := 1
	for size <= len(b) && b[size-1] >= 128 {
		size++
	}
	switch {
	case size > len(b):
		return 0, 0, api.ErrTruncated
	case size > 10 || size == 10 && b[9] > 1:
		return 0, 0, api.ErrOverflow
	case size > 1 && b[size-1] == 0:
		return 0, 0, api.ErrForm
	}
	u, one := new(big.Int), big.NewInt(1)
	for i := size - 1; i >= 0; i-- {
		u.Lsh(u, 7).Add(u, big.NewInt(int64(b[i]&127)))
	}
	if u.Bit(0) == 1 {
		u.Add(u, one).Rsh(u, 1).Neg(u)
	} else {
		u.Rsh(u, 1)
	}
	return int(u.Int64()), size, api.OK
}

// countAt is the definition of the errors of a length.
func countAt(b []byte, most int) (int, int, api.Errno) {
	n, size, err := intAt(b)
	if err == api.OK && n < 0 {
		err = api.ErrForm
	}
	if err == api.OK && n > most {
		err = api.ErrFull
	}
	if err != api.OK {
		return 0, 0, err
	}
	return n, size, api.OK
}

// textAt is the definition of TakeText.
func textAt(b []byte, most int) (string, int, api.Errno) {
	n, size, err := countAt(b, most)
	if err != api.OK {
		return "", 0, err
	}
	if n > len(b[size:]) {
		return "", 0, api.ErrTruncated
	}
	return string(b[size:][:n]), size + n, api.OK
}

// listAt is the definition of TakeList.
func listAt(b []byte, most int) ([]int, int, api.Errno) {
	count, size, err := countAt(b, most)
	if err != api.OK {
		return nil, 0, err
	}
	var l []int
	for len(l) < count {
		n, k, err := intAt(b[size:])
		if err != api.OK {
			return nil, 0, err
		}
		l, size = append(l, n), size+k
	}
	return l, size, api.OK
}

// shown is at most the beginning of some bytes, for reports.
func shown(b []byte) []byte { return b[:min(len(b), 24)] }

func checkTakeInt(t *testing.T, b []byte) {
	t.Helper()
	want, size, err := intAt(b)
	n, k, e := wire.TakeInt(b)
	if n != want || k != size || e != err {
		t.Errorf("P7.2: TakeInt of %d bytes %d is %d, %d, %d, not %d, %d, %d", len(b), shown(b), n, k, e, want, size, err)
	}
	if e == api.OK && !bytes.Equal(wire.PutInt(nil, n), b[:k]) {
		t.Errorf("P7.6: %d is taken from %d, but written as %d", n, b[:k], wire.PutInt(nil, n))
	}
}

func checkTakeText(t *testing.T, b []byte, most int) {
	t.Helper()
	want, size, err := textAt(b, most)
	s, k, e := wire.TakeText(b, most)
	if s != want || k != size || e != err {
		t.Errorf("P7.3: TakeText of %d bytes %d with most %d is %.24q, %d, %d, not %.24q, %d, %d", len(b), shown(b), most, s, k, e, want, size, err)
	}
	if e == api.OK && !bytes.Equal(wire.PutText(nil, s), b[:k]) {
		t.Errorf("P7.6: %.24q is taken from %d, but written otherwise", s, shown(b[:k]))
	}
}

func checkTakeList(t *testing.T, b []byte, most int) {
	t.Helper()
	want, size, err := listAt(b, most)
	l, k, e := wire.TakeList(b, most)
	if !slices.Equal(l, want) || k != size || e != err {
		t.Errorf("P7.4: TakeList of %d bytes %d with most %d is %d numbers, %d, %d, not %d numbers, %d, %d", len(b), shown(b), most, len(l), k, e, len(want), size, err)
	}
	if e == api.OK && !bytes.Equal(wire.PutList(nil, l), b[:k]) {
		t.Errorf("P7.6: %d numbers are taken from %d, but written otherwise", len(l), shown(b[:k]))
	}
}

// before are what stands before something that is written.
var before = [][]byte{nil, {}, {0}, {128}, {7, 200, 255}}

// behind are what stands behind something that is read.
var behind = [][]byte{nil, {0}, {127}, {128}, {255, 255, 255}, {0, 0}, {1, 128, 4}}

func checkInt(t *testing.T, n int) {
	t.Helper()
	want := encoding(n)
	for _, b := range before {
		if got := wire.PutInt(b, n); !bytes.Equal(got, slices.Concat(b, want)) {
			t.Errorf("P7.1: PutInt(%d, %d) is %d, not that followed by %d", b, n, got, want)
		}
	}
	for _, b := range behind {
		if back, k, e := wire.TakeInt(slices.Concat(want, b)); back != n || k != len(want) || e != api.OK {
			t.Errorf("P7.5: %d before %d is read back as %d, %d, %d", n, b, back, k, e)
		}
	}
	for i := range want {
		if back, k, e := wire.TakeInt(want[:i]); back != 0 || k != 0 || e != api.ErrTruncated {
			t.Errorf("P7.7: %d of the bytes of %d are %d, %d, %d", i, n, back, k, e)
		}
	}
}

func checkText(t *testing.T, s string) {
	t.Helper()
	want := textEncoding(s)
	for _, b := range before {
		if got := wire.PutText(b, s); !bytes.Equal(got, slices.Concat(b, want)) {
			t.Errorf("P7.3: PutText(%d, %.24q) is %d, not that followed by %d", b, s, shown(got), shown(want))
		}
	}
	for _, b := range behind {
		for _, most := range []int{len(s), len(s) + 1, math.MaxInt} {
			if back, k, e := wire.TakeText(slices.Concat(want, b), most); back != s || k != len(want) || e != api.OK {
				t.Errorf("P7.5: %.24q before %d is read back with most %d as %.24q, %d, %d", s, b, most, back, k, e)
			}
		}
		for _, most := range []int{len(s) - 1, -1, math.MinInt} {
			if back, k, e := wire.TakeText(slices.Concat(want, b), most); back != "" || k != 0 || e != api.ErrFull {
				t.Errorf("P7.3: %.24q is read with most %d as %.24q, %d, %d", s, most, back, k, e)
			}
		}
	}
	for i := range want {
		if back, k, e := wire.TakeText(want[:i], len(s)); back != "" || k != 0 || e != api.ErrTruncated {
			t.Errorf("P7.7: %d of the bytes of %.24q are %.24q, %d, %d", i, s, back, k, e)
		}
	}
}

func checkList(t *testing.T, l []int) {
	t.Helper()
	want := listEncoding(l)
	for _, b := range before {
		if got := wire.PutList(b, l); !bytes.Equal(got, slices.Concat(b, want)) {
			t.Errorf("P7.4: PutList of %d and %d numbers is %d, not that followed by %d", b, len(l), shown(got), shown(want))
		}
	}
	for _, b := range behind {
		for _, most := range []int{len(l), len(l) + 1, math.MaxInt} {
			if back, k, e := wire.TakeList(slices.Concat(want, b), most); !slices.Equal(back, l) || k != len(want) || e != api.OK {
				t.Errorf("P7.5: %d numbers before %d are read back with most %d as %d numbers, %d, %d", len(l), b, most, len(back), k, e)
			}
		}
		for _, most := range []int{len(l) - 1, -1, math.MinInt} {
			if back, k, e := wire.TakeList(slices.Concat(want, b), most); len(back) != 0 || k != 0 || e != api.ErrFull {
				t.Errorf("P7.4: %d numbers are read with most %d as %d numbers, %d, %d", len(l), most, len(back), k, e)
			}
		}
	}
	for i := range want {
		if back, k, e := wire.TakeList(want[:i], len(l)); len(back) != 0 || k != 0 || e != api.ErrTruncated {
			t.Errorf("P7.7: %d of the bytes of %d numbers are %d numbers, %d, %d", i, len(l), len(back), k, e)
		}
	}
}

// run is as many bytes 255 as are given, followed by the last ones.
func run(n int, last ...byte) []byte { return append(bytes.Repeat([]byte{255}, n), last...) }

func TestIntExamples(t *testing.T) {
	for _, c := range []struct {
		n int
		b []byte
	}{
		{0, []byte{0}}, {-1, []byte{1}}, {1, []byte{2}}, {-2, []byte{3}}, {2, []byte{4}},
		{63, []byte{126}}, {-64, []byte{127}}, {64, []byte{128, 1}}, {-65, []byte{129, 1}}, {150, []byte{172, 2}},
		{8191, []byte{254, 127}}, {-8192, []byte{255, 127}}, {8192, []byte{128, 128, 1}},
		{math.MaxInt, append([]byte{254}, run(8, 1)...)}, {math.MinInt, run(9, 1)},
	} {
		if b := wire.PutInt(nil, c.n); !bytes.Equal(b, c.b) {
			t.Errorf("P7.1: PutInt(nil, %d) is %d, not %d", c.n, b, c.b)
		}
		if n, k, e := wire.TakeInt(c.b); n != c.n || k != len(c.b) || e != api.OK {
			t.Errorf("P7.2: TakeInt(%d) is %d, %d, %d, not %d", c.b, n, k, e, c.n)
		}
	}
	if n, k, e := wire.TakeInt([]byte{172, 2, 9}); n != 150 || k != 2 || e != api.OK {
		t.Errorf("P7.2: TakeInt of 172 2 9 is %d, %d, %d", n, k, e)
	}
}

func TestIntErrors(t *testing.T) {
	for _, c := range []struct {
		b   []byte
		err api.Errno
	}{
		{nil, api.ErrTruncated}, {[]byte{}, api.ErrTruncated}, {[]byte{128}, api.ErrTruncated}, {run(9), api.ErrTruncated}, {run(10), api.ErrTruncated}, {run(11), api.ErrTruncated}, {run(100000), api.ErrTruncated},
		{run(9, 2), api.ErrOverflow}, {run(9, 127), api.ErrOverflow}, {run(10, 0), api.ErrOverflow}, {run(10, 1), api.ErrOverflow}, {run(11, 0), api.ErrOverflow}, {run(100000, 0), api.ErrOverflow},
		{append(bytes.Repeat([]byte{128}, 10), 0), api.ErrOverflow}, {append(bytes.Repeat([]byte{128}, 9), 2), api.ErrOverflow},
		{[]byte{128, 0}, api.ErrForm}, {[]byte{255, 0}, api.ErrForm}, {[]byte{128, 0, 1}, api.ErrForm}, {run(8, 0), api.ErrForm}, {run(9, 0), api.ErrForm}, {append(bytes.Repeat([]byte{128}, 9), 0), api.ErrForm},
	} {
		if n, k, e := wire.TakeInt(c.b); n != 0 || k != 0 || e != c.err {
			t.Errorf("P7.2: TakeInt of %d bytes %d is %d, %d, %d, not %d", len(c.b), shown(c.b), n, k, e, c.err)
		}
	}
}

func TestInts(t *testing.T) {
	for n := -20000; n <= 20000; n++ {
		checkInt(t, n)
	}
	for _, n := range edges() {
		checkInt(t, n)
	}
	random := rand.New(rand.NewSource(1))
	for range 20000 {
		checkInt(t, someInt(random))
	}
}

// TestTakeInt takes integers from all short rows of bytes, and from rows about ten bytes long with every last byte.
func TestTakeInt(t *testing.T) {
	for _, b := range rows(everyByte(), 2) {
		checkTakeInt(t, b)
	}
	for _, b := range rows([]byte{0, 1, 2, 127, 128, 129, 255}, 5) {
		checkTakeInt(t, b)
	}
	for n := range 15 {
		for _, first := range []byte{128, 129, 170, 213, 254, 255} {
			long := bytes.Repeat([]byte{first}, n)
			for c := range 256 {
				checkTakeInt(t, append(slices.Clone(long), byte(c)))
				checkTakeInt(t, append(slices.Clone(long), byte(c), 0, 255))
			}
		}
	}
	random := rand.New(rand.NewSource(2))
	for range 50000 {
		b := someBytes(random, 12)
		for i := range b[:random.Intn(len(b)+1)] {
			b[i] |= 128
		}
		checkTakeInt(t, b)
	}
}

// TestSizes compares the numbers of bytes of integers in the order of the numbers as which they are encoded.
func TestSizes(t *testing.T) {
	l := edges()
	for n := range 20000 {
		l = append(l, n, -n-1)
	}
	slices.SortFunc(l, func(a, b int) int { return unsigned(a).Cmp(unsigned(b)) })
	last := 0
	for _, n := range l {
		size := len(wire.PutInt(nil, n))
		if (size == 1) != (-64 <= n && n <= 63) || size < 1 || size > 10 || size < last {
			t.Errorf("P7.8: %d has %d bytes, those before it have %d", n, size, last)
		}
		last = size
	}
	if last != 10 {
		t.Errorf("P7.8: the longest integer has %d bytes", last)
	}
}

func TestTextExamples(t *testing.T) {
	if b := wire.PutText(nil, "hi"); !bytes.Equal(b, []byte{4, 104, 105}) {
		t.Errorf("P7.3: PutText(nil, hi) is %d", b)
	}
	for _, c := range []struct {
		b    []byte
		most int
		s    string
		k    int
		err  api.Errno
	}{
		{[]byte{4, 104, 105}, 2, "hi", 3, api.OK}, {[]byte{4, 104, 105, 106}, 9, "hi", 3, api.OK}, {[]byte{0}, 0, "", 1, api.OK}, {[]byte{0, 104}, 9, "", 1, api.OK}, {[]byte{2, 255}, 1, "\xff", 2, api.OK},
		{nil, 9, "", 0, api.ErrTruncated}, {[]byte{128}, 9, "", 0, api.ErrTruncated}, {run(9, 2), 9, "", 0, api.ErrOverflow}, {[]byte{132, 0, 104, 105}, 9, "", 0, api.ErrForm},
		{[]byte{1}, 9, "", 0, api.ErrForm}, {[]byte{1}, -9, "", 0, api.ErrForm}, {[]byte{3, 104, 105}, math.MinInt, "", 0, api.ErrForm}, {run(9, 1), math.MaxInt, "", 0, api.ErrForm},
		{[]byte{4, 104, 105}, 1, "", 0, api.ErrFull}, {[]byte{4}, 1, "", 0, api.ErrFull}, {[]byte{0}, -1, "", 0, api.ErrFull}, {encoding(math.MaxInt), math.MaxInt - 1, "", 0, api.ErrFull},
		{[]byte{4, 104}, 2, "", 0, api.ErrTruncated}, {[]byte{4}, 2, "", 0, api.ErrTruncated}, {append(encoding(math.MaxInt), 104), math.MaxInt, "", 0, api.ErrTruncated}, {append(encoding(math.MaxInt-9), 104), math.MaxInt, "", 0, api.ErrTruncated}, {encoding(1 << 62), math.MaxInt, "", 0, api.ErrTruncated},
	} {
		if s, k, e := wire.TakeText(c.b, c.most); s != c.s || k != c.k || e != c.err {
			t.Errorf("P7.3: TakeText(%d, %d) is %q, %d, %d, not %q, %d, %d", c.b, c.most, s, k, e, c.s, c.k, c.err)
		}
	}
}

func TestTexts(t *testing.T) {
	for n := range 140 {
		checkText(t, strings.Repeat("a", n))
		checkText(t, strings.Repeat("\x00", n))
		checkText(t, strings.Repeat("\xff\u00e9", n))
	}
	for _, n := range []int{8191, 8192, 16384} {
		checkText(t, strings.Repeat("b", n))
	}
	every := string(everyByte())
	for i := range every {
		checkText(t, every[i:])
		checkText(t, every[i:i+1])
	}
	random := rand.New(rand.NewSource(3))
	for range 500 {
		checkText(t, string(someBytes(random, 200)))
	}
}

// TestTakeText takes strings from all short rows of an alphabet, and from strings that are damaged.
func TestTakeText(t *testing.T) {
	for _, b := range rows([]byte{0, 1, 2, 3, 4, 6, 127, 128, 129, 255}, 4) {
		for _, most := range bounds {
			checkTakeText(t, b, most)
		}
	}
	random := rand.New(rand.NewSource(4))
	for range 20000 {
		b := damaged(random, wire.PutText(nil, string(someBytes(random, 100))))
		checkTakeText(t, b, bounds[random.Intn(len(bounds))])
		checkTakeText(t, b, random.Intn(100))
	}
}

// damaged changes, removes or adds a few bytes.
func damaged(random *rand.Rand, b []byte) []byte {
	for range random.Intn(3) {
		i := random.Intn(len(b) + 1)
		switch c := byte(random.Intn(256)); {
		case i == len(b) || random.Intn(3) == 0:
			b = slices.Insert(b, i, c)
		case random.Intn(2) == 0:
			b[i] = c
		default:
			b = b[:i]
		}
	}
	return b
}

func TestListExamples(t *testing.T) {
	if b := wire.PutList(nil, []int{1, -1}); !bytes.Equal(b, []byte{4, 2, 1}) {
		t.Errorf("P7.4: PutList(nil, 1 -1) is %d", b)
	}
	for _, c := range []struct {
		b    []byte
		most int
		l    []int
		k    int
		err  api.Errno
	}{
		{[]byte{4, 2, 1}, 2, []int{1, -1}, 3, api.OK}, {[]byte{4, 2, 1, 128}, 9, []int{1, -1}, 3, api.OK}, {[]byte{0}, 0, nil, 1, api.OK}, {[]byte{0, 128}, 9, nil, 1, api.OK}, {append([]byte{2}, run(9, 1)...), 1, []int{math.MinInt}, 11, api.OK},
		{nil, 9, nil, 0, api.ErrTruncated}, {[]byte{128}, 9, nil, 0, api.ErrTruncated}, {run(9, 2), 9, nil, 0, api.ErrOverflow}, {[]byte{132, 0, 2, 1}, 9, nil, 0, api.ErrForm},
		{[]byte{1}, 9, nil, 0, api.ErrForm}, {[]byte{1}, -9, nil, 0, api.ErrForm}, {[]byte{3, 2, 1}, math.MinInt, nil, 0, api.ErrForm}, {run(9, 1), math.MaxInt, nil, 0, api.ErrForm},
		{[]byte{4, 2, 1}, 1, nil, 0, api.ErrFull}, {[]byte{4, 128, 0}, 1, nil, 0, api.ErrFull}, {[]byte{4}, 1, nil, 0, api.ErrFull}, {[]byte{0}, -1, nil, 0, api.ErrFull},
		{[]byte{4, 2, 128}, 2, nil, 0, api.ErrTruncated}, {[]byte{4, 2}, 2, nil, 0, api.ErrTruncated}, {[]byte{4}, 2, nil, 0, api.ErrTruncated}, {[]byte{4, 2, 128, 0}, 2, nil, 0, api.ErrForm},
		{[]byte{6, 128, 0, 128}, 3, nil, 0, api.ErrForm}, {append([]byte{6, 2}, run(9, 2, 128, 0)...), 3, nil, 0, api.ErrOverflow}, {append([]byte{6, 2, 128, 0}, run(9, 2)...), 3, nil, 0, api.ErrForm}, {append([]byte{4, 2}, run(20)...), 2, nil, 0, api.ErrTruncated},
		{append(encoding(math.MaxInt), 2, 2), math.MaxInt, nil, 0, api.ErrTruncated}, {append(encoding(1<<61), 2, 128, 0), math.MaxInt, nil, 0, api.ErrForm},
	} {
		if l, k, e := wire.TakeList(c.b, c.most); !slices.Equal(l, c.l) || k != c.k || e != c.err {
			t.Errorf("P7.4: TakeList(%d, %d) is %d, %d, %d, not %d, %d, %d", c.b, c.most, l, k, e, c.l, c.k, c.err)
		}
	}
}

func TestLists(t *testing.T) {
	checkList(t, nil)
	checkList(t, []int{})
	for n := range 140 {
		checkList(t, slices.Repeat([]int{n}, n))
		checkList(t, slices.Repeat([]int{-1 - n, 1000 * n}, n/4))
	}
	for _, n := range edges() {
		checkList(t, []int{n})
		checkList(t, []int{n, 0, n, -n})
	}
	checkList(t, edges())
	checkList(t, make([]int, 2000))
	random := rand.New(rand.NewSource(5))
	for range 500 {
		checkList(t, someInts(random, 40))
	}
}

// TestTakeList takes lists from all short rows of an alphabet, and from lists that are damaged.
func TestTakeList(t *testing.T) {
	for _, b := range rows([]byte{0, 1, 2, 3, 4, 6, 127, 128, 129, 255}, 4) {
		for _, most := range bounds {
			checkTakeList(t, b, most)
		}
	}
	for _, b := range rows([]byte{0, 2, 4, 6, 128}, 6) {
		checkTakeList(t, b, 3)
	}
	random := rand.New(rand.NewSource(6))
	for range 20000 {
		b := damaged(random, wire.PutList(nil, someInts(random, 20)))
		checkTakeList(t, b, bounds[random.Intn(len(bounds))])
		checkTakeList(t, b, random.Intn(20))
	}
}

// TestMemory has arguments with memory behind them, which stays as it is, and changes results and arguments afterwards.
func TestMemory(t *testing.T) {
	memory := []byte{7, 8, 9, 9, 9, 9, 9, 9, 9, 9, 9, 9, 9, 9, 9, 9}
	kept := slices.Clone(memory)
	numbers := []int{1, -1, 300}
	for i, put := range []func(b []byte) []byte{
		func(b []byte) []byte { return wire.PutInt(b, 5) },
		func(b []byte) []byte { return wire.PutInt(b, math.MinInt) },
		func(b []byte) []byte { return wire.PutText(b, "") },
		func(b []byte) []byte { return wire.PutText(b, "text") },
		func(b []byte) []byte { return wire.PutList(b, nil) },
		func(b []byte) []byte { return wire.PutList(b, numbers) },
	} {
		for n := range 3 {
			one := put(memory[:n])
			want := slices.Clone(one)
			other := put(memory[:n])
			clear(other[:cap(other)])
			if !bytes.Equal(memory, kept) || !bytes.Equal(one, want) || !slices.Equal(numbers, []int{1, -1, 300}) {
				t.Errorf("P7.1, P7.3, P7.4: the function %d shares or changes memory", i)
			}
		}
	}
	text, list := []byte{4, 104, 105}, []byte{4, 2, 1}
	s, _, _ := wire.TakeText(text, 2)
	one, _, _ := wire.TakeList(list, 2)
	other, _, _ := wire.TakeList(list, 2)
	if !bytes.Equal(text, []byte{4, 104, 105}) || !bytes.Equal(list, []byte{4, 2, 1}) {
		t.Error("P7.3, P7.4: the bytes are changed:", text, list)
	}
	clear(text)
	clear(list)
	clear(other)
	if s != "hi" || !slices.Equal(one, []int{1, -1}) {
		t.Error("P7.3, P7.4: the results share memory:", s, one)
	}
}

// TestRow writes things behind each other and reads them in the same order.
func TestRow(t *testing.T) {
	random := rand.New(rand.NewSource(7))
	for range 200 {
		n, s, l := someInt(random), string(someBytes(random, 50)), someInts(random, 50)
		b := wire.PutInt(wire.PutList(wire.PutText(wire.PutInt(nil, n), s), l), -n)
		first, a, _ := wire.TakeInt(b)
		text, c, _ := wire.TakeText(b[a:], len(s))
		list, d, _ := wire.TakeList(b[a+c:], len(l))
		last, f, _ := wire.TakeInt(b[a+c+d:])
		if first != n || text != s || !slices.Equal(list, l) || last != -n || a+c+d+f != len(b) {
			t.Errorf("P7.5: %d, %q, %d and %d are read back as %d, %q, %d and %d", n, s, l, -n, first, text, list, last)
		}
	}
}
