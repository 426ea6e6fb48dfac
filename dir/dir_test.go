package dir_test

import (
	"math"
	"math/rand"
	"strings"
	"testing"

	"dancestudio/api"
	"dancestudio/dir"
)

// extreme are integers far outside all bounds.
var extreme = []int{math.MinInt, math.MinInt + 1, math.MinInt + 7, -1 << 62, -1 << 32, -1<<32 + 3, -1 << 31, -257, -255, -8, 16, 255, 257, 1 << 31, 1<<32 - 1, 1 << 32, 1<<32 + 3, 1 << 62, math.MaxInt - 7, math.MaxInt - 1, math.MaxInt}

// directions are the words of the directions, in the order of their numbers.
var directions = strings.Fields("place forward forward-right right back-right back back-left left forward-left")

// levels are the words of the levels, from -1 on.
var levels = strings.Fields("low middle high")

// mirrors has the mirror image of each direction.
var mirrors = []int{api.Place, api.Forward, api.ForwardLeft, api.Left, api.BackLeft, api.Back, api.BackRight, api.Right, api.ForwardRight}

// noDirections are integers that are no direction.
func noDirections() []int {
	wrong := append([]int{-1, 9}, extreme...)
	for n := 2; n <= 40; n++ {
		wrong = append(wrong, -n, 8+n)
	}
	return wrong
}

// noLevels are integers that are no level.
func noLevels() []int {
	wrong := append([]int{-2, 2}, extreme...)
	for n := 3; n <= 40; n++ {
		wrong = append(wrong, -n, n)
	}
	return wrong
}

// turns are numbers of eighths: all small ones, extreme and random ones.
func turns() []int {
	all := append([]int{}, extreme...)
	for n := -50; n <= 50; n++ {
		all = append(all, n)
	}
	random := rand.New(rand.NewSource(16))
	for range 300 {
		all = append(all, int(random.Uint64()))
	}
	return all
}

// next is the direction an eighth of a turn clockwise.
func next(d int) int {
	switch d {
	case 0:
		return 0
	case 8:
		return 1
	}
	return d + 1
}

// rotated is the definition of P16.3: as many single steps as the rest by eight says.
func rotated(d, eighths int) int {
	rest := eighths % 8
	if rest < 0 {
		rest += 8
	}
	for range rest {
		d = next(d)
	}
	return d
}

func checkCheck(t *testing.T, d, level int, err api.Errno) {
	t.Helper()
	if e := dir.Check(d, level); e != err {
		t.Fatalf("P1, P16.1: Check(%d, %d) is %d, not %d", d, level, e, err)
	}
}

func checkMirror(t *testing.T, d, want int, err api.Errno) {
	t.Helper()
	if n, e := dir.Mirror(d); n != want || e != err {
		t.Fatalf("P1, P16.2: Mirror(%d) is %d, %d, not %d, %d", d, n, e, want, err)
	}
}

func checkRotate(t *testing.T, d, eighths, want int, err api.Errno) {
	t.Helper()
	if n, e := dir.Rotate(d, eighths); n != want || e != err {
		t.Fatalf("P1, P16.3: Rotate(%d, %d) is %d, %d, not %d, %d", d, eighths, n, e, want, err)
	}
}

func checkEighth(t *testing.T, d, want int, err api.Errno) {
	t.Helper()
	if n, e := dir.Eighth(d); n != want || e != err {
		t.Fatalf("P1, P16.4: Eighth(%d) is %d, %d, not %d, %d", d, n, e, want, err)
	}
}

func checkName(t *testing.T, d, level int, want string, err api.Errno) {
	t.Helper()
	if s, e := dir.Name(d, level); s != want || e != err {
		t.Fatalf("P1, P16.5: Name(%d, %d) is %q, %d, not %q, %d", d, level, s, e, want, err)
	}
}

func checkParse(t *testing.T, s string, d, level int, err api.Errno) {
	t.Helper()
	if a, b, e := dir.Parse(s); a != d || b != level || e != err {
		t.Fatalf("P1, P16.5: Parse(%.60q) is %d, %d, %d, not %d, %d, %d", s, a, b, e, d, level, err)
	}
}

func TestCheck(t *testing.T) {
	for d := range 9 {
		for level := -1; level <= 1; level++ {
			checkCheck(t, d, level, api.OK)
		}
	}
}

func TestWrongDirections(t *testing.T) {
	for _, d := range noDirections() {
		for _, level := range append(noLevels(), -1, 0, 1) {
			checkCheck(t, d, level, api.ErrRange)
			checkName(t, d, level, "", api.ErrRange)
		}
		checkMirror(t, d, 0, api.ErrRange)
		checkEighth(t, d, 0, api.ErrRange)
		for _, n := range turns() {
			checkRotate(t, d, n, 0, api.ErrRange)
		}
	}
}

func TestWrongLevels(t *testing.T) {
	for d := range 9 {
		for _, level := range noLevels() {
			checkCheck(t, d, level, api.ErrRange)
			checkName(t, d, level, "", api.ErrRange)
		}
	}
}

func TestMirror(t *testing.T) {
	for d, want := range mirrors {
		checkMirror(t, d, want, api.OK)
	}
}

func TestRotate(t *testing.T) {
	checkRotate(t, api.Left, 3, api.ForwardRight, api.OK)
	checkRotate(t, api.Forward, -1, api.ForwardLeft, api.OK)
	for _, n := range turns() {
		for d := range 9 {
			checkRotate(t, d, n, rotated(d, n), api.OK)
		}
	}
}

func TestEighth(t *testing.T) {
	checkEighth(t, api.Place, 0, api.ErrPlace)
	checkEighth(t, api.Back, 4, api.OK)
	for n, d := 0, api.Forward; n < 8; n, d = n+1, next(d) {
		checkEighth(t, d, n, api.OK)
	}
}

func TestNames(t *testing.T) {
	checkName(t, api.BackLeft, api.High, "back-left-high", api.OK)
	checkParse(t, "place-low", api.Place, api.Low, api.OK)
	for d, word := range directions {
		for i, level := range levels {
			checkName(t, d, i-1, word+"-"+level, api.OK)
			checkParse(t, word+"-"+level, d, i-1, api.OK)
		}
	}
}

// names has each name, with its direction and its level.
func names() map[string][2]int {
	all := map[string][2]int{}
	for d, word := range directions {
		for i, level := range levels {
			all[word+"-"+level] = [2]int{d, i - 1}
		}
	}
	return all
}

// checkAny parses any string: the names have a direction and a level, and all others ErrName.
func checkAny(t *testing.T, all map[string][2]int, s string) {
	t.Helper()
	if place, ok := all[s]; ok {
		checkParse(t, s, place[0], place[1], api.OK)
		return
	}
	checkParse(t, s, 0, 0, api.ErrName)
}

func TestNoNames(t *testing.T) {
	for _, s := range []string{"forward", "up-high", "Forward-low", "forward--low", "", "-", "--", "low", "-low", "place", "place-", "-place", "low-place", "placelow", "place low", "place_low", "place\u2010low", "place\u2212low", "place-low\x00", "place-low\n", "\ufeffplace-low", "right-forward-low", "left-back-high", "place-mid", "place-Low", "PLACE-LOW", "\xff", "place-\xff", "forward-right", "forward-right-left-low", "place-low-high", strings.Repeat("place-low", 1<<16)} {
		checkParse(t, s, 0, 0, api.ErrName)
	}
}

// TestWordsInAnyOrder parses all strings of up to three words with any hyphens between them.
func TestWordsInAnyOrder(t *testing.T) {
	all := names()
	words := append(append(strings.Fields("forward-forward left-right up"), directions...), levels...)
	words = append(words, "")
	for _, a := range words {
		checkAny(t, all, a)
		for _, b := range words {
			for _, join := range []string{"", "-", "--", " ", "_"} {
				checkAny(t, all, a+join+b)
			}
			for _, c := range words {
				checkAny(t, all, a+"-"+b+"-"+c)
			}
		}
	}
}

// TestChangedNames parses each name with a byte that is missing, changed, doubled or inserted.
func TestChangedNames(t *testing.T) {
	all := names()
	for name := range all {
		for i := range len(name) {
			checkAny(t, all, name[:i])
			checkAny(t, all, name[i+1:])
			checkAny(t, all, name[:i]+name[i+1:])
			checkAny(t, all, name[:i]+strings.ToUpper(name[i:i+1])+name[i+1:])
			for b := range 256 {
				one := string([]byte{byte(b)})
				checkAny(t, all, name[:i]+one+name[i+1:])
				checkAny(t, all, name[:i]+one+name[i:])
				checkAny(t, all, name+one)
			}
		}
	}
}

// TestRotations checks that rotations add up, the sum wrapping around as an int does.
func TestRotations(t *testing.T) {
	for d := range 9 {
		for _, a := range turns() {
			first, _ := dir.Rotate(d, a)
			for _, b := range []int{-9, -8, -3, -1, 0, 1, 2, 7, 8, 803, math.MinInt, math.MaxInt} {
				second, _ := dir.Rotate(first, b)
				if sum, _ := dir.Rotate(d, a+b); second != sum {
					t.Fatalf("P16.6: Rotate(Rotate(%d, %d), %d) is %d, and by their sum %d", d, a, b, second, sum)
				}
			}
		}
		for eighths := -80; eighths <= 80; eighths += 8 {
			if same, _ := dir.Rotate(d, eighths); same != d {
				t.Fatalf("P16.6: Rotate(%d, %d) is %d", d, eighths, same)
			}
		}
	}
}

func TestMirrorsOfRotations(t *testing.T) {
	for d := range 9 {
		image, _ := dir.Mirror(d)
		if back, _ := dir.Mirror(image); back != d {
			t.Fatalf("P16.6: Mirror(Mirror(%d)) is %d", d, back)
		}
		for _, a := range turns() {
			turned, _ := dir.Rotate(d, a)
			left, _ := dir.Mirror(turned)
			if right, _ := dir.Rotate(image, -a); left != right {
				t.Fatalf("P16.6: Mirror(Rotate(%d, %d)) is %d, and Rotate(%d, %d) %d", d, a, left, image, -a, right)
			}
		}
	}
}

func TestEighthsFromForward(t *testing.T) {
	for d := api.Forward; d <= api.ForwardLeft; d++ {
		n, _ := dir.Eighth(d)
		if same, _ := dir.Rotate(api.Forward, n); same != d {
			t.Fatalf("P16.6: Rotate(Forward, Eighth(%d)) is %d", d, same)
		}
	}
}

func TestNamesAreDifferent(t *testing.T) {
	found := map[string]bool{}
	for d := -20; d <= 20; d++ {
		for level := -20; level <= 20; level++ {
			name, err := dir.Name(d, level)
			if err != api.OK {
				continue
			}
			found[name] = true
			if a, b, e := dir.Parse(name); a != d || b != level || e != api.OK {
				t.Fatalf("P16.7: Parse(Name(%d, %d)) is %d, %d, %d", d, level, a, b, e)
			}
		}
	}
	if len(found) != 27 {
		t.Fatalf("P16.7: there are %d names, not 27", len(found))
	}
}
