package field_test

import (
	"math/big"
	"math/rand"
	"regexp"
	"slices"
	"strconv"
	"strings"
	"testing"

	"dancestudio/api"
	"dancestudio/field"
)

var (
	// token is a written field at the beginning of a line, with the space after it or the end of the line.
	token = regexp.MustCompile(`\A(?:([!-&(-~][!-~]*)|'((?:[ -&(-~]|'')*)')( |\z)`)
	// decimal is the definition of a decimal form.
	decimal = regexp.MustCompile(`\A(0|-?[1-9][0-9]*)\z`)
	// farthest is the greatest number that Number returns.
	farthest = big.NewInt(1 << 50)
)

// words are all strings of the bytes of an alphabet with at most so many bytes.
func words(alphabet string, most int) []string {
	all, last := []string{""}, []string{""}
	for range most {
		var longer []string
		for _, s := range last {
			for i := range len(alphabet) {
				longer = append(longer, s+alphabet[i:i+1])
			}
		}
		all, last = append(all, longer...), longer
	}
	return all
}

// written is the definition of what is written for a field.
func written(s string) string {
	if s != "" && s[0] != '\'' && !strings.ContainsRune(s, ' ') {
		return s
	}
	w := "'"
	for i := range len(s) {
		w += s[i : i+1]
		if s[i] == '\'' {
			w += "'"
		}
	}
	return w + "'"
}

// lineOf is the definition of the line of fields.
func lineOf(fields []string) string {
	var l []string
	for _, s := range fields {
		l = append(l, written(s))
	}
	return strings.Join(l, " ")
}

// fieldsOf is the definition of the fields of a line, by the shape of written fields; false if there are none.
func fieldsOf(line string) ([]string, bool) {
	var fields []string
	for rest, more := line, line != ""; more; {
		m := token.FindStringSubmatch(rest)
		if m == nil {
			return nil, false
		}
		s, needed := m[1], true
		if rest[0] == '\'' {
			s = strings.ReplaceAll(m[2], "''", "'")
			needed = s == "" || s[0] == '\'' || strings.ContainsRune(s, ' ')
		}
		if !needed || len(s) > 256 {
			return nil, false
		}
		fields = append(fields, s)
		rest, more = rest[len(m[0]):], m[3] == " "
	}
	return fields, true
}

// joinError is the definition of the error of Join.
func joinError(fields []string) api.Errno {
	for _, s := range fields {
		if len(s) > 256 {
			return api.ErrFull
		}
		for i := range len(s) {
			if s[i] < 32 || s[i] > 126 {
				return api.ErrForm
			}
		}
	}
	if len(lineOf(fields)) > 1024 {
		return api.ErrFull
	}
	return api.OK
}

func checkJoin(t *testing.T, fields []string) {
	t.Helper()
	want, err := "", joinError(fields)
	if err == api.OK {
		want = lineOf(fields)
	}
	line, e := field.Join(fields...)
	if line != want || e != err {
		t.Errorf("P6.1: Join of %q is %q, %d, not %q, %d", fields, line, e, want, err)
	}
	if back, e := field.Split(want); err == api.OK && (!slices.Equal(back, fields) || e != api.OK) {
		t.Errorf("P6.6: Split of the line of %q is %q, %d", fields, back, e)
	}
}

func checkSplit(t *testing.T, line string) {
	t.Helper()
	want, right := fieldsOf(line)
	err := api.OK
	switch {
	case len(line) > 1024:
		want, err = nil, api.ErrFull
	case !right:
		err = api.ErrForm
	}
	fields, e := field.Split(line)
	if !slices.Equal(fields, want) || e != err {
		t.Errorf("P6.2: Split(%q) is %q, %d, not %q, %d", line, fields, e, want, err)
	}
	if again, e := field.Join(fields...); err == api.OK && (again != line || e != api.OK) {
		t.Errorf("P6.6: the fields of the line %q have the line %q, %d", line, again, e)
	}
}

// examples are lists of fields and their lines.
var examples = []struct {
	fields []string
	line   string
}{
	{nil, ""}, {[]string{}, ""}, {[]string{""}, "''"}, {[]string{"", ""}, "'' ''"}, {[]string{"a"}, "a"}, {[]string{"a", "b"}, "a b"},
	{[]string{"a", "", "it's", "'x", "b c"}, "a '' it's '''x' 'b c'"},
	{[]string{" "}, "' '"}, {[]string{"  "}, "'  '"}, {[]string{" ", " "}, "' ' ' '"}, {[]string{"a ", " b"}, "'a ' ' b'"},
	{[]string{"'"}, "''''"}, {[]string{"''"}, "''''''"}, {[]string{"'", "'"}, "'''' ''''"}, {[]string{"' '"}, "''' '''"}, {[]string{"a' 'b"}, "'a'' ''b'"},
	{[]string{"a'"}, "a'"}, {[]string{"a''"}, "a''"}, {[]string{"a'b'c", "d'"}, "a'b'c d'"}, {[]string{"a 'b'"}, "'a ''b'''"}, {[]string{"a' b"}, "'a'' b'"},
	{[]string{"%", "% x", "-0", "~", "!", "\""}, "% '% x' -0 ~ ! \""},
}

func TestExamples(t *testing.T) {
	for _, c := range examples {
		if line, e := field.Join(c.fields...); line != c.line || e != api.OK {
			t.Errorf("P6.1: Join of %q is %q, %d, not %q", c.fields, line, e, c.line)
		}
		if fields, e := field.Split(c.line); !slices.Equal(fields, c.fields) || e != api.OK {
			t.Errorf("P6.2: Split(%q) is %q, %d, not %q", c.line, fields, e, c.fields)
		}
	}
}

// TestJoin joins all short lists of short fields.
func TestJoin(t *testing.T) {
	one, two := words("a' %", 5), words("a' ", 3)
	for _, a := range one {
		checkJoin(t, []string{a})
	}
	for _, a := range two {
		for _, b := range two {
			checkJoin(t, []string{a, b})
		}
	}
	three := words("a' ", 2)
	for _, a := range three {
		for _, b := range three {
			for _, c := range three {
				checkJoin(t, []string{a, b, c})
			}
		}
	}
}

// TestJoinBytes has every byte at every place of some fields.
func TestJoinBytes(t *testing.T) {
	for _, s := range []string{"x", "ab", "a b", "'ab'", "it's", strings.Repeat("a", 256)} {
		for _, i := range []int{0, 1, len(s) / 2, len(s) - 1} {
			for c := range 256 {
				changed := []byte(s)
				changed[min(i, len(s)-1)] = byte(c)
				checkJoin(t, []string{string(changed)})
				checkJoin(t, []string{"y", string(changed), ""})
			}
		}
	}
}

func TestJoinErrors(t *testing.T) {
	long, tooLong := strings.Repeat("a", 256), strings.Repeat("a", 257)
	for _, c := range []struct {
		fields []string
		err    api.Errno
	}{
		{[]string{tooLong}, api.ErrFull}, {[]string{strings.Repeat(" ", 257)}, api.ErrFull}, {[]string{tooLong + "\n"}, api.ErrFull}, {[]string{"\n" + tooLong}, api.ErrFull},
		{[]string{"\n"}, api.ErrForm}, {[]string{"a\x1f"}, api.ErrForm}, {[]string{"\x7f"}, api.ErrForm}, {[]string{"\u00e9"}, api.ErrForm}, {[]string{"\x00"}, api.ErrForm}, {[]string{"\xff"}, api.ErrForm},
		{[]string{"a", "\t", tooLong}, api.ErrForm}, {[]string{"a", tooLong, "\t"}, api.ErrFull},
		{[]string{long, long, long, long}, api.ErrFull},
		{[]string{long, long, long, long, "\n"}, api.ErrForm},
		{[]string{long, long, long, long, tooLong, "\n"}, api.ErrFull},
		{slices.Concat(slices.Repeat([]string{"a"}, 5000), []string{"\n"}), api.ErrForm},
		{slices.Repeat([]string{"a"}, 5000), api.ErrFull},
		{slices.Repeat([]string{""}, 342), api.ErrFull},
		{slices.Repeat([]string{"a"}, 513), api.ErrFull},
	} {
		if line, e := field.Join(c.fields...); line != "" || e != c.err {
			t.Errorf("P6.1: Join of %d fields %.20q is %q, %d, not %d", len(c.fields), c.fields, line, e, c.err)
		}
	}
}

// TestJoinLengths has lines of 1024 bytes and of a few more and less, whose fields are as long as they may be and longer.
func TestJoinLengths(t *testing.T) {
	for n := range 300 {
		for _, s := range []string{"a", "'", " ", "a'"} {
			checkJoin(t, []string{strings.Repeat(s, n)})
		}
		long := strings.Repeat("a", 256)
		checkJoin(t, []string{long, long, long, strings.Repeat("b", n)})
		checkJoin(t, []string{strings.Repeat("b", n), long, long, long})
		checkJoin(t, []string{long, "b " + strings.Repeat("'", 250), strings.Repeat("c", n)})
		checkJoin(t, []string{strings.Repeat("'", 256), strings.Repeat("'", n)})
		checkJoin(t, slices.Repeat([]string{""}, n+200))
		checkJoin(t, slices.Repeat([]string{"a"}, n+300))
	}
	for _, c := range []struct {
		last string
		want int
	}{
		{strings.Repeat("a", 253), 1024}, {strings.Repeat("a", 254), 0}, {strings.Repeat("a", 250) + " ", 1024}, {strings.Repeat("a", 251) + " ", 0},
	} {
		long := strings.Repeat("a", 256)
		if line, _ := field.Join(long, long, long, c.last); len(line) != c.want {
			t.Errorf("P6.1: the line has %d bytes, not %d", len(line), c.want)
		}
	}
}

// linesOf puts every list of fields of an alphabet whose line has at most so many bytes into a map, by its line.
func linesOf(t *testing.T, alphabet string, most int) map[string][]string {
	t.Helper()
	lines := map[string][]string{"": nil}
	fields := words(alphabet, most)
	var longer func(list []string)
	longer = func(list []string) {
		for _, s := range fields {
			l := append(slices.Clone(list), s)
			line := lineOf(l)
			if len(line) > most {
				continue
			}
			if other, twice := lines[line]; twice {
				t.Errorf("P6.6: %q and %q have the same line", l, other)
			}
			lines[line] = l
			longer(l)
		}
	}
	longer(nil)
	return lines
}

// TestSplit splits all short strings: the lines of lists of fields have those, all others have none.
func TestSplit(t *testing.T) {
	for _, c := range []struct {
		alphabet string
		most     int
	}{{"a' ", 6}, {"' ", 8}, {"a'% \n", 4}} {
		lines := linesOf(t, strings.TrimSuffix(c.alphabet, "\n"), c.most)
		for _, line := range words(c.alphabet, c.most) {
			want, right := lines[line]
			fields, e := field.Split(line)
			if right != (e == api.OK) || !right && e != api.ErrForm || !slices.Equal(fields, want) {
				t.Errorf("P6.2: Split(%q) is %q, %d, not %q", line, fields, e, want)
			}
		}
	}
	for _, line := range words("a' ", 9) {
		checkSplit(t, line)
	}
}

func TestSplitErrors(t *testing.T) {
	for _, s := range []string{
		" ", "  ", "a ", " a", "a  b", "'a'", "'a", "'", "'''", "'''''", "''a", "''a'", "a '", "'a b", "'a b'c", "'a b''", "'a b' ", "'a b'  c", "'it''s'", "'a'b'", "'a 'b'",
		"'' ", " ''", "''  ''", "'a ' ' b", "a 'b'", "a\tb", "a\n", "\n", "\r", "a\r", "\x00", "'a \x7f'", "\u00e9", "'\xff '", "'a\nb c'",
		strings.Repeat("a", 257), "'" + strings.Repeat(" ", 257) + "'", "a '" + strings.Repeat("''", 257) + "'", strings.Repeat("a", 257) + " b", "b " + strings.Repeat("a", 1022),
	} {
		if l, e := field.Split(s); len(l) != 0 || e != api.ErrForm {
			t.Errorf("P6.2: Split(%q) is %q, %d", s, l, e)
		}
	}
	for _, s := range []string{
		strings.Repeat("a", 1025), strings.Repeat(" ", 1025), strings.Repeat("a ", 512) + "b", strings.Repeat("\n", 2000), strings.Repeat("'", 1025), strings.Repeat("a", 100000),
	} {
		if l, e := field.Split(s); len(l) != 0 || e != api.ErrFull {
			t.Errorf("P6.2: Split of %d bytes %.10q is %q, %d", len(s), s, l, e)
		}
	}
}

// TestSplitBytes has every byte at every place of some lines, instead of the byte there and before it.
func TestSplitBytes(t *testing.T) {
	for _, c := range examples {
		for i := range len(c.line) {
			for b := range 256 {
				changed := []byte(c.line)
				changed[i] = byte(b)
				checkSplit(t, string(changed))
				checkSplit(t, string(slices.Insert([]byte(c.line), i, byte(b))))
			}
		}
	}
}

func TestSplitLengths(t *testing.T) {
	for n := range 300 {
		checkSplit(t, strings.Repeat("a", n))
		checkSplit(t, "'"+strings.Repeat(" ", n)+"'")
		checkSplit(t, strings.Repeat("'", 2*n))
		checkSplit(t, strings.Repeat("'", 2*n+1))
		checkSplit(t, strings.Repeat("a ", n+300)+"b")
		checkSplit(t, strings.Repeat("a ", n+300))
		checkSplit(t, strings.Repeat(" ", n))
	}
}

// someField is a field of any length, with marks and spaces.
func someField(random *rand.Rand) string {
	alphabet := []string{"ab", "a' ", "'", " ", "!~%-0"}[random.Intn(5)]
	var s []byte
	for range random.Intn(1 + []int{2, 8, 40, 256}[random.Intn(4)]) {
		s = append(s, alphabet[random.Intn(len(alphabet))])
	}
	return string(s)
}

func someFields(random *rand.Rand) []string {
	l := make([]string, random.Intn(12))
	for i := range l {
		l[i] = someField(random)
	}
	return l
}

// TestInverse joins and splits random lists, and lines in which a byte is wrong.
func TestInverse(t *testing.T) {
	random := rand.New(rand.NewSource(6))
	for range 5000 {
		l := someFields(random)
		checkJoin(t, l)
		line := []byte(lineOf(l))
		checkSplit(t, string(line))
		if len(line) > 0 {
			i := random.Intn(len(line))
			checkSplit(t, string(slices.Delete(slices.Clone(line), i, i+1)))
			line[i] = "' a\n"[random.Intn(4)]
			checkSplit(t, string(line))
		}
	}
}

// lines is the definition of Lines.
func lines(text string) ([][]string, api.Errno) {
	all := strings.Split(text, "\n")
	if all[len(all)-1] != "" {
		return nil, api.ErrForm
	}
	var l [][]string
	for _, line := range all {
		if line == "" || strings.HasPrefix(line, "%") {
			continue
		}
		fields, right := fieldsOf(line)
		if len(line) > 1024 {
			return nil, api.ErrFull
		}
		if !right {
			return nil, api.ErrForm
		}
		l = append(l, fields)
	}
	return l, api.OK
}

func checkLines(t *testing.T, text string) {
	t.Helper()
	want, err := lines(text)
	l, e := field.Lines(text)
	if !slices.EqualFunc(l, want, slices.Equal[[]string]) || e != err {
		t.Errorf("P6.3: Lines(%q) is %q, %d, not %q, %d", text, l, e, want, err)
	}
}

func TestLinesExamples(t *testing.T) {
	for _, c := range []struct {
		text string
		want [][]string
	}{
		{"", nil}, {"\n", nil}, {"\n\n\n", nil}, {"%\n", nil}, {"%  'x\x00\xff\n", nil}, {"% a", nil}, {"% a\n% b\n\n", nil},
		{"a b\n\n% c\nd\n", [][]string{{"a", "b"}, {"d"}}},
		{"a\n", [][]string{{"a"}}}, {"a\na\n", [][]string{{"a"}, {"a"}}}, {"\n\na\n\nb\n\n", [][]string{{"a"}, {"b"}}},
		{"''\n", [][]string{{""}}}, {"' '\n'' ''\n", [][]string{{" "}, {"", ""}}}, {"a %\n% b\n'% c'\n", [][]string{{"a", "%"}, {"% c"}}},
		{strings.Repeat("a", 256) + "\n%" + strings.Repeat(" ", 5000) + "\nb\n", [][]string{{strings.Repeat("a", 256)}, {"b"}}},
		{strings.Repeat("a ", 511) + "bc\n", [][]string{append(slices.Repeat([]string{"a"}, 511), "bc")}},
	} {
		err := api.OK
		if c.text == "% a" {
			err = api.ErrForm
		}
		l, e := field.Lines(c.text)
		if !slices.EqualFunc(l, c.want, slices.Equal[[]string]) || e != err {
			t.Errorf("P6.3: Lines(%q) is %q, %d, not %q, %d", c.text, l, e, c.want, err)
		}
	}
}

func TestLinesErrors(t *testing.T) {
	long := strings.Repeat("b", 1025)
	for _, c := range []struct {
		text string
		err  api.Errno
	}{
		{"a", api.ErrForm}, {"a\nb", api.ErrForm}, {"%", api.ErrForm}, {"\n%", api.ErrForm}, {"a\n ", api.ErrForm}, {"a\r\n", api.ErrForm}, {"\r\n", api.ErrForm}, {"a\n\r", api.ErrForm},
		{" \n", api.ErrForm}, {" %\n", api.ErrForm}, {"a\nb \nc\n", api.ErrForm}, {"'a\nb'\n", api.ErrForm}, {"'a \n b'\n", api.ErrForm}, {"\v\n", api.ErrForm}, {"\x00\n", api.ErrForm}, {"\xff\n", api.ErrForm},
		{"a\n" + long + "\nc \n", api.ErrFull}, {"c \n" + long + "\n", api.ErrForm}, {long + "\n", api.ErrFull}, {long, api.ErrForm}, {long + "\nc", api.ErrForm},
		{"%\n" + long + "\n", api.ErrFull}, {" " + long + "\n", api.ErrFull}, {long[:257] + "\n", api.ErrForm}, {long[:1024] + "\n", api.ErrForm},
	} {
		if l, e := field.Lines(c.text); len(l) != 0 || e != c.err {
			t.Errorf("P6.3: Lines(%.20q) is %q, %d, not %d", c.text, l, e, c.err)
		}
	}
}

// someText has lines of fields, empty ones and remarks, and seldom a wrong line.
func someText(random *rand.Rand) string {
	text := ""
	for range random.Intn(8) {
		switch random.Intn(8) {
		case 0:
			text += "\n"
		case 1:
			text += "% " + someField(random) + "'\n"
		case 2:
			text += []string{"a", "a ", "'\n", "x\r\n", strings.Repeat("a", 1025) + "\n", "''\n", "b\n", "c\n"}[random.Intn(8)]
		default:
			text += lineOf(someFields(random)) + "\n"
		}
	}
	return text
}

func TestLines(t *testing.T) {
	for _, text := range words("a '%\n", 6) {
		checkLines(t, text)
	}
	random := rand.New(rand.NewSource(8))
	for range 5000 {
		checkLines(t, someText(random))
	}
}

// TestTexts puts two texts together.
func TestTexts(t *testing.T) {
	random := rand.New(rand.NewSource(9))
	for range 5000 {
		a, b := someText(random), someText(random)
		first, e := field.Lines(a)
		second, f := field.Lines(b)
		if e != api.OK || f != api.OK {
			continue
		}
		both, g := field.Lines(a + b)
		if !slices.EqualFunc(both, slices.Concat(first, second), slices.Equal[[]string]) || g != api.OK {
			t.Errorf("P6.7: Lines of %q and %q is %q, %d", a, b, both, g)
		}
	}
}

// number is the definition of Number.
func number(s string) (int, api.Errno) {
	if !decimal.MatchString(s) {
		return 0, api.ErrForm
	}
	n, _ := new(big.Int).SetString(s, 10)
	if n.CmpAbs(farthest) > 0 {
		return 0, api.ErrRange
	}
	return int(n.Int64()), api.OK
}

func checkNumber(t *testing.T, s string) {
	t.Helper()
	want, err := number(s)
	if n, e := field.Number(s); n != want || e != err {
		t.Errorf("P6.4: Number(%.40q) is %d, %d, not %d, %d", s, n, e, want, err)
	}
}

func TestNumberExamples(t *testing.T) {
	for _, c := range []struct {
		s    string
		want int
		err  api.Errno
	}{
		{"0", 0, api.OK}, {"1", 1, api.OK}, {"-1", -1, api.OK}, {"-12", -12, api.OK}, {"10", 10, api.OK}, {"9999999999", 9999999999, api.OK},
		{"1125899906842624", 1 << 50, api.OK}, {"-1125899906842624", -1 << 50, api.OK}, {"1125899906842623", 1<<50 - 1, api.OK}, {"-1125899906842623", 1 - 1<<50, api.OK},
		{"1125899906842625", 0, api.ErrRange}, {"-1125899906842625", 0, api.ErrRange}, {"9223372036854775807", 0, api.ErrRange}, {"9223372036854775808", 0, api.ErrRange},
		{"-9223372036854775808", 0, api.ErrRange}, {"18446744073709551616", 0, api.ErrRange}, {"18446744073709551617", 0, api.ErrRange}, {"-18446744073709551617", 0, api.ErrRange},
		{"10000000000000000", 0, api.ErrRange}, {"-10000000000000000", 0, api.ErrRange}, {"340282366920938463463374607431768211457", 0, api.ErrRange},
		{"", 0, api.ErrForm}, {"-", 0, api.ErrForm}, {"--1", 0, api.ErrForm}, {"-0", 0, api.ErrForm}, {"00", 0, api.ErrForm}, {"007", 0, api.ErrForm}, {"-007", 0, api.ErrForm}, {"+1", 0, api.ErrForm}, {"+0", 0, api.ErrForm},
		{" 1", 0, api.ErrForm}, {"1 ", 0, api.ErrForm}, {"1\n", 0, api.ErrForm}, {"1_000", 0, api.ErrForm}, {"0x10", 0, api.ErrForm}, {"1e3", 0, api.ErrForm}, {"1.0", 0, api.ErrForm}, {"1-", 0, api.ErrForm}, {"x", 0, api.ErrForm},
		{"\u0663", 0, api.ErrForm}, {"1\x00", 0, api.ErrForm}, {"\xff", 0, api.ErrForm}, {"1125899906842625x", 0, api.ErrForm}, {"01125899906842625", 0, api.ErrForm}, {"-01125899906842625", 0, api.ErrForm},
		{strings.Repeat("9", 100000), 0, api.ErrRange}, {"-" + strings.Repeat("9", 100000), 0, api.ErrRange}, {strings.Repeat("9", 100000) + " ", 0, api.ErrForm}, {strings.Repeat("0", 100000), 0, api.ErrForm},
	} {
		if n, e := field.Number(c.s); n != c.want || e != c.err {
			t.Errorf("P6.4: Number(%.40q) is %d, %d, not %d, %d", c.s, n, e, c.want, c.err)
		}
	}
}

func TestNumber(t *testing.T) {
	for _, s := range words("-+0189x ", 5) {
		checkNumber(t, s)
	}
	for n := -3000; n <= 3000; n++ {
		checkNumber(t, strconv.Itoa(n))
		checkNumber(t, strconv.Itoa(n+1<<50))
		checkNumber(t, strconv.Itoa(n-1<<50))
	}
	power, ten := big.NewInt(1), big.NewInt(10)
	for range 200 {
		for d := int64(-2); d <= 2; d++ {
			n := new(big.Int).Add(power, big.NewInt(d))
			checkNumber(t, n.String())
			checkNumber(t, "-"+n.String())
			checkNumber(t, "0"+n.String())
			checkNumber(t, n.String()+"x")
		}
		power.Mul(power, ten)
	}
	for bits := range uint(200) {
		for d := int64(-2); d <= 2; d++ {
			n := new(big.Int).Lsh(big.NewInt(1), bits)
			n.Add(n, big.NewInt(d))
			checkNumber(t, n.String())
			checkNumber(t, n.Neg(n).String())
		}
	}
}

// TestNumberBytes has every byte at every place of some numbers.
func TestNumberBytes(t *testing.T) {
	for _, s := range []string{"0", "7", "-12", "1125899906842624", "-1125899906842624", strings.Repeat("123", 20)} {
		for i := range len(s) {
			for c := range 256 {
				changed := []byte(s)
				changed[i] = byte(c)
				checkNumber(t, string(changed))
				checkNumber(t, string(slices.Insert([]byte(s), i, byte(c))))
			}
		}
	}
}

// TestOneForm expects that no number has two forms, and that each has the one that strconv writes.
func TestOneForm(t *testing.T) {
	forms := make(map[int]string)
	for _, s := range words("-+01 ", 6) {
		n, e := field.Number(s)
		if e != api.OK {
			continue
		}
		if other, twice := forms[n]; twice || strconv.Itoa(n) != s {
			t.Errorf("P6.8: %q denotes %d, as %q does", s, n, other)
		}
		forms[n] = s
	}
	// Up to 6 digits, and up to 5 after a minus sign.
	if len(forms) != 1+63+31 {
		t.Errorf("P6.4: the numbers of the digits 0 and 1 are %d", len(forms))
	}
}

func TestNumbers(t *testing.T) {
	for _, c := range []struct {
		l    []string
		want []int
		err  api.Errno
	}{
		{nil, nil, api.OK}, {[]string{}, nil, api.OK}, {[]string{"0"}, []int{0}, api.OK}, {[]string{"3", "-4", "3"}, []int{3, -4, 3}, api.OK},
		{[]string{"1125899906842624", "-1125899906842624"}, []int{1 << 50, -1 << 50}, api.OK},
		{[]string{""}, nil, api.ErrForm}, {[]string{"1", "-0", "2"}, nil, api.ErrForm}, {[]string{"1 2"}, nil, api.ErrForm},
		{[]string{"3", "1125899906842625", "x"}, nil, api.ErrRange}, {[]string{"3", "x", "1125899906842625"}, nil, api.ErrForm},
		{[]string{"3", "4", "x"}, nil, api.ErrForm}, {[]string{"-1125899906842625", "4"}, nil, api.ErrRange},
	} {
		if l, e := field.Numbers(c.l...); !slices.Equal(l, c.want) || e != c.err {
			t.Errorf("P6.5: Numbers of %q is %d, %d, not %d, %d", c.l, l, e, c.want, c.err)
		}
	}
	var l []string
	for i := range 10000 {
		l = append(l, strconv.Itoa(5000-i))
	}
	numbers, e := field.Numbers(l...)
	if len(numbers) != len(l) || e != api.OK {
		t.Fatalf("P6.5: %d of 10000 numbers, %d", len(numbers), e)
	}
	for i, n := range numbers {
		if n != 5000-i {
			t.Errorf("P6.5: the number %d is %d, not %d", i, n, 5000-i)
		}
	}
}

// TestMemory expects that arguments stay as they are, and that results share nothing with each other.
func TestMemory(t *testing.T) {
	want := []string{"it's", "'x", "b c"}
	l := append(make([]string, 0, 8), want...)
	if _, e := field.Join(l...); e != api.OK || !slices.Equal(l, want) || l[:4][3] != "" {
		t.Errorf("P6.1: the argument becomes %q, %d", l[:4], e)
	}
	digits := append(make([]string, 0, 8), "1", "2")
	if _, e := field.Numbers(digits...); e != api.OK || !slices.Equal(digits[:3], []string{"1", "2", ""}) {
		t.Errorf("P6.5: the argument becomes %q, %d", digits[:3], e)
	}
	text := "a b\nc d\ne f\n"
	rows, _ := field.Lines(text)
	for i, row := range rows {
		rows[i] = append(row[:1], "x", "y", "z")
	}
	if rows[0][0] != "a" || rows[1][0] != "c" || rows[2][0] != "e" {
		t.Errorf("P6.3: the lines share memory: %q", rows)
	}
	checkLines(t, text)
	fields, _ := field.Split("a b")
	clear(fields)
	checkSplit(t, "a b")
}
