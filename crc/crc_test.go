package crc_test

import (
	"bytes"
	"encoding/binary"
	"hash/crc32"
	"math"
	"math/rand"
	"slices"
	"testing"

	"dancestudio/api"
	"dancestudio/crc"
	"dancestudio/wire"
)

// extended is Extend by the library.
func extended(sum uint32, b []byte) uint32 {
	return crc32.Update(sum, crc32.MakeTable(crc32.Castagnoli), b)
}

// framed is a frame with any length: its bytes need not be those of the content.
func framed(length, content []byte) []byte {
	sum := extended(extended(0, length), content)
	return slices.Concat(length, binary.LittleEndian.AppendUint32(nil, sum), content)
}

// frame is the definition of the frame of a content, also of one that is too long.
func frame(content []byte) []byte {
	return framed(wire.PutInt(nil, len(content)), content)
}

// openAt is the definition of Open, error by error.
func openAt(b []byte) ([]byte, int, api.Errno) {
	length, size, err := wire.TakeInt(b)
	if err == api.OK && length < 0 {
		err = api.ErrForm
	}
	if err == api.OK && length > 65536 {
		err = api.ErrFull
	}
	if err == api.OK && len(b) < size+4+length {
		err = api.ErrTruncated
	}
	if err == api.OK && binary.LittleEndian.Uint32(b[size:]) != extended(extended(0, b[:size]), b[size+4:][:length]) {
		err = api.ErrChecksum
	}
	if err != api.OK {
		return nil, 0, err
	}
	return b[size+4:][:length], size + 4 + length, api.OK
}

// counting are so many bytes 0, 1, 2 and so on.
func counting(n int) []byte {
	b := make([]byte, n)
	for i := range b {
		b[i] = byte(i)
	}
	return b
}

func someBytes(random *rand.Rand, most int) []byte {
	b := make([]byte, random.Intn(most+1))
	random.Read(b)
	return b
}

func someContents(random *rand.Rand, count, most int) [][]byte {
	var l [][]byte
	for range random.Intn(count + 1) {
		l = append(l, someBytes(random, most))
	}
	return l
}

// row is the frames of contents, one after the other, and where each of them ends.
func row(contents [][]byte) ([]byte, []int) {
	var b []byte
	var ends []int
	for _, c := range contents {
		b = append(b, frame(c)...)
		ends = append(ends, len(b))
	}
	return b, ends
}

// same says whether two lists contain the same bytes; nil and empty mean the same.
func same(a, b [][]byte) bool {
	return slices.EqualFunc(a, b, bytes.Equal)
}

// shown is at most the beginning of some bytes, for reports.
func shown(b []byte) []byte { return b[:min(len(b), 24)] }

func checkSum(t *testing.T, b []byte) {
	t.Helper()
	if got, want := crc.Sum(b), extended(0, b); got != want {
		t.Errorf("P8.1: Sum of %d bytes %x is %#x, not %#x", len(b), shown(b), got, want)
	}
}

func checkExtend(t *testing.T, sum uint32, b []byte) {
	t.Helper()
	if got, want := crc.Extend(sum, b), extended(sum, b); got != want {
		t.Errorf("P8.2: Extend(%#x) by %d bytes %x is %#x, not %#x", sum, len(b), shown(b), got, want)
	}
}

func checkOpen(t *testing.T, b []byte) {
	t.Helper()
	want, size, err := openAt(b)
	content, n, e := crc.Open(b)
	if !bytes.Equal(content, want) || n != size || e != err {
		t.Errorf("P8.4: Open of %d bytes %x is %d bytes, %d, %d, not %d bytes, %d, %d", len(b), shown(b), len(content), n, e, len(want), size, err)
	}
}

func checkFrame(t *testing.T, content []byte) {
	t.Helper()
	f, e := crc.Frame(content)
	if want := frame(content); e != api.OK || !bytes.Equal(f, want) {
		t.Errorf("P8.3: Frame of %d bytes %x is %x, %d, not %x", len(content), shown(content), shown(f), e, shown(want))
	}
	for _, behind := range [][]byte{nil, {0}, {255}, {1, 2, 3, 4, 5, 6}, f} {
		b := slices.Concat(f, behind)
		checkOpen(t, b)
		if back, n, e := crc.Open(b); e != api.OK || n != len(f) || !bytes.Equal(back, content) {
			t.Errorf("P8.4: %d bytes %x before %d bytes are read back as %x, %d, %d", len(content), shown(content), len(behind), shown(back), n, e)
		}
	}
}

// checkAll compares All with Open, applied to what is left again and again.
func checkAll(t *testing.T, b []byte) {
	t.Helper()
	var want [][]byte
	size := 0
	for {
		content, n, err := openAt(b[size:])
		if err != api.OK {
			break
		}
		want, size = append(want, content), size+n
	}
	if contents, n := crc.All(b); !same(contents, want) || n != size {
		t.Errorf("P8.5: All of %d bytes %x is %d contents, %d, not %d contents, %d", len(b), shown(b), len(contents), n, len(want), size)
	}
}

func TestSumExamples(t *testing.T) {
	for _, c := range []struct {
		b   []byte
		sum uint32
	}{
		{nil, 0}, {[]byte{}, 0}, {[]byte{0}, 0x527D5351}, {[]byte("123456789"), 0xE3069283},
		{make([]byte, 32), 0x8A9136AA}, {bytes.Repeat([]byte{255}, 32), 0x62A8AB43}, {counting(32), 0x46DD794E},
	} {
		if sum := crc.Sum(c.b); sum != c.sum {
			t.Errorf("P8.1: Sum(%x) is %#x, not %#x", c.b, sum, c.sum)
		}
	}
	if sum := crc.Extend(crc.Sum([]byte("1234")), []byte("56789")); sum != 0xE3069283 {
		t.Errorf("P8.2: Extend(Sum(1234), 56789) is %#x", sum)
	}
}

func TestSums(t *testing.T) {
	for a := range 256 {
		checkSum(t, []byte{byte(a)})
		for b := range 256 {
			checkSum(t, []byte{byte(a), byte(b)})
		}
	}
	for n := range 600 {
		checkSum(t, counting(n))
		checkSum(t, make([]byte, n))
	}
	checkSum(t, counting(200000))
	random := rand.New(rand.NewSource(1))
	for range 2000 {
		checkSum(t, someBytes(random, 300))
	}
}

func TestExtend(t *testing.T) {
	sums := []uint32{0, 1, 2, 77, math.MaxInt32, 1 << 31, math.MaxUint32 - 1, math.MaxUint32, 0x82F63B78, 0x1EDC6F41, ^uint32(0x82F63B78)}
	for k := range 32 {
		sums = append(sums, 1<<k, ^uint32(1<<k))
	}
	random := rand.New(rand.NewSource(2))
	for range 500 {
		sums = append(sums, random.Uint32())
	}
	for _, sum := range sums {
		for _, none := range [][]byte{nil, {}} {
			if got := crc.Extend(sum, none); got != sum {
				t.Errorf("P8.2: Extend(%#x) by nothing is %#x", sum, got)
			}
		}
		for c := range 256 {
			checkExtend(t, sum, []byte{byte(c)})
		}
		checkExtend(t, sum, someBytes(random, 300))
	}
}

func TestSumOfBoth(t *testing.T) {
	random := rand.New(rand.NewSource(3))
	for range 100 {
		b := someBytes(random, 100)
		for i := range len(b) + 1 {
			if got, want := crc.Extend(crc.Sum(b[:i]), b[i:]), crc.Sum(b); got != want {
				t.Errorf("P8.6: Extend(Sum(%x), %x) is %#x, not %#x", b[:i], b[i:], got, want)
			}
		}
	}
}

func TestThreeSums(t *testing.T) {
	random := rand.New(rand.NewSource(4))
	for n := range 300 {
		a, b, c, all := make([]byte, n), make([]byte, n), make([]byte, n), make([]byte, n)
		random.Read(a)
		random.Read(b)
		random.Read(c)
		for i := range all {
			all[i] = a[i] ^ b[i] ^ c[i]
		}
		if got, want := crc.Sum(a)^crc.Sum(b)^crc.Sum(c), crc.Sum(all); got != want {
			t.Errorf("P8.7: the sums of %x, %x and %x are together %#x, not %#x", a, b, c, got, want)
		}
	}
}

func TestFrameExamples(t *testing.T) {
	for _, none := range [][]byte{nil, {}} {
		if f, e := crc.Frame(none); !bytes.Equal(f, []byte{0x00, 0x51, 0x53, 0x7D, 0x52}) || e != api.OK {
			t.Errorf("P8.3: the frame of nothing is %x, %d", f, e)
		}
	}
	if f, e := crc.Frame(make([]byte, 65536)); len(f) != 65543 || e != api.OK {
		t.Errorf("P8.3: the frame of 65536 bytes has %d, %d", len(f), e)
	}
	for _, n := range []int{65537, 65538, 100000, 1 << 17, 1<<17 + 1, 1 << 20} {
		if f, e := crc.Frame(make([]byte, n)); len(f) != 0 || e != api.ErrFull {
			t.Errorf("P8.3: the frame of %d bytes has %d, %d", n, len(f), e)
		}
	}
}

func TestFrames(t *testing.T) {
	for c := range 256 {
		checkFrame(t, []byte{byte(c)})
	}
	for n := range 300 {
		checkFrame(t, counting(n))
		checkFrame(t, bytes.Repeat([]byte{255}, n))
	}
	for _, n := range []int{8190, 8191, 8192, 8193, 65534, 65535, 65536} {
		checkFrame(t, counting(n))
		checkFrame(t, make([]byte, n))
	}
	random := rand.New(rand.NewSource(5))
	for range 500 {
		checkFrame(t, someBytes(random, 500))
	}
	checkFrame(t, frame([]byte("a frame in a frame")))
}

func TestOpenExamples(t *testing.T) {
	run := func(n int, last ...byte) []byte { return append(bytes.Repeat([]byte{255}, n), last...) }
	abc := frame([]byte("abc"))
	if content, n, e := crc.Open(append(slices.Clone(abc), 1, 2, 3)); string(content) != "abc" || n != 8 || e != api.OK {
		t.Errorf("P8.4: the frame of abc and others is opened as %q, %d, %d", content, n, e)
	}
	for _, c := range []struct {
		b   []byte
		err api.Errno
	}{
		// the length
		{nil, api.ErrTruncated}, {[]byte{}, api.ErrTruncated}, {[]byte{128}, api.ErrTruncated}, {run(20), api.ErrTruncated},
		{run(9, 2), api.ErrOverflow}, {run(10, 0), api.ErrOverflow}, {run(100000, 1), api.ErrOverflow},
		{[]byte{128, 0}, api.ErrForm}, {framed([]byte{128, 0}, nil), api.ErrForm}, {framed([]byte{134, 0}, []byte("abc")), api.ErrForm},
		// a negative length comes before all that is missing or wrong behind it
		{[]byte{1}, api.ErrForm}, {framed([]byte{1}, nil), api.ErrForm}, {run(9, 1), api.ErrForm}, {framed([]byte{5}, []byte("abc")), api.ErrForm}, {append(wire.PutInt(nil, -65537), 0, 0), api.ErrForm},
		// so does a length that is too great
		{[]byte{0x82, 0x80, 8}, api.ErrFull}, {wire.PutInt(nil, math.MaxInt), api.ErrFull}, {append(wire.PutInt(nil, math.MaxInt-3), 1, 2, 3, 4, 5), api.ErrFull},
		{frame(make([]byte, 65537)), api.ErrFull}, {frame(make([]byte, 65538)), api.ErrFull}, {frame(make([]byte, 1<<17)), api.ErrFull}, {append(wire.PutInt(nil, 65537), make([]byte, 65541)...), api.ErrFull},
		// too few bytes come before a wrong checksum
		{[]byte{6}, api.ErrTruncated}, {[]byte{0x80, 0x80, 8}, api.ErrTruncated}, {[]byte{0}, api.ErrTruncated}, {[]byte{0, 0x51, 0x53, 0x7D}, api.ErrTruncated}, {[]byte{0, 9, 9, 9}, api.ErrTruncated},
		{[]byte{6, 9, 9, 9, 9, 'a', 'b'}, api.ErrTruncated}, {abc[:7], api.ErrTruncated}, {append(wire.PutInt(nil, 65536), make([]byte, 65539)...), api.ErrTruncated},
		{[]byte{0, 0x52, 0x53, 0x7D, 0x52}, api.ErrChecksum}, {[]byte{0, 0x52, 0x7D, 0x53, 0x51}, api.ErrChecksum}, {append(wire.PutInt(nil, 65536), make([]byte, 65540)...), api.ErrChecksum},
		// the checksum is not that of the content alone
		{binary.LittleEndian.AppendUint32([]byte{0}, extended(0, nil)), api.ErrChecksum}, {append(binary.LittleEndian.AppendUint32([]byte{6}, extended(0, []byte("abc"))), "abc"...), api.ErrChecksum},
	} {
		if content, n, e := crc.Open(c.b); len(content) != 0 || n != 0 || e != c.err {
			t.Errorf("P8.4: Open of %d bytes %x is %x, %d, %d, not %d", len(c.b), shown(c.b), shown(content), n, e, c.err)
		}
		checkOpen(t, c.b)
		if contents, n := crc.All(c.b); len(contents) != 0 || n != 0 {
			t.Errorf("P8.5: All of %d bytes %x is %d contents, %d", len(c.b), shown(c.b), len(contents), n)
		}
	}
}

// TestLengths has every length of one or two bytes, and the bytes that are missing, exact or more.
func TestLengths(t *testing.T) {
	random := rand.New(rand.NewSource(6))
	for a := range 256 {
		for b := range 256 {
			length := []byte{byte(a), byte(b)}
			if a < 128 {
				length = length[:1]
			}
			checkOpen(t, length)
			checkOpen(t, framed(length, nil))
			checkOpen(t, framed(length, someBytes(random, 80)))
			checkOpen(t, framed(length, counting(63)))
		}
	}
}

// TestChanges changes each byte of frames to each other value.
func TestChanges(t *testing.T) {
	for _, content := range [][]byte{nil, {0}, {255}, []byte("abc"), counting(70)} {
		f := frame(content)
		_, size, _ := wire.TakeInt(f)
		for i := range f {
			for c := range 256 {
				b := slices.Clone(f)
				b[i] = byte(c)
				checkOpen(t, b)
				content, n, e := crc.Open(b)
				if i >= size && b[i] != f[i] && (len(content) != 0 || n != 0 || e != api.ErrChecksum) {
					t.Errorf("P8.8: %x with the byte %d changed to %d is opened as %x, %d, %d", shown(f), i, c, content, n, e)
				}
			}
		}
	}
	f := frame(counting(65536))
	for i := 3; i < len(f); i += 2999 {
		b := slices.Clone(f)
		b[i] ^= 16
		if content, n, e := crc.Open(b); len(content) != 0 || n != 0 || e != api.ErrChecksum {
			t.Errorf("P8.8: the longest frame with the byte %d changed is opened as %x, %d, %d", i, shown(content), n, e)
		}
	}
}

// TestCuts cuts rows of frames at every place.
func TestCuts(t *testing.T) {
	random := rand.New(rand.NewSource(7))
	for range 60 {
		contents := someContents(random, 6, 90)
		b, ends := row(contents)
		if all, n := crc.All(b); !same(all, contents) || n != len(b) {
			t.Errorf("P8.6: %d frames of %d bytes are read back as %d, %d", len(contents), len(b), len(all), n)
		}
		for i := range b {
			checkAll(t, b[:i])
			whole, size := 0, 0
			for whole < len(ends) && ends[whole] <= i {
				size = ends[whole]
				whole++
			}
			if all, n := crc.All(b[:i]); !same(all, contents[:whole]) || n != size {
				t.Errorf("P8.9: %d frames cut off after %d bytes are %d frames, %d, not %d, %d", len(contents), i, len(all), n, whole, size)
			}
		}
	}
}

func TestAll(t *testing.T) {
	three, _ := row([][]byte{[]byte("one"), nil, []byte("three")})
	cut := frame([]byte("cut"))
	if all, n := crc.All(slices.Concat(three, cut[:7])); !same(all, [][]byte{[]byte("one"), nil, []byte("three")}) || n != len(three) {
		t.Errorf("P8.5: three frames and a cut one are %q, %d", all, n)
	}
	for _, none := range [][]byte{nil, {}} {
		if all, n := crc.All(none); len(all) != 0 || n != 0 {
			t.Errorf("P8.5: All of nothing is %q, %d", all, n)
		}
	}
	big := slices.Concat(frame(counting(65536)), frame(nil), frame(counting(65537)), frame(nil))
	if all, n := crc.All(big); len(all) != 2 || n != 65543+5 || !bytes.Equal(all[0], counting(65536)) || len(all[1]) != 0 {
		t.Errorf("P8.5: All goes on to %d frames, %d bytes", len(all), n)
	}
	if all, n := crc.All(bytes.Repeat(frame(nil), 20000)); len(all) != 20000 || n != 100000 {
		t.Errorf("P8.5: All of 20000 empty frames is %d frames, %d bytes", len(all), n)
	}
}

// TestDamage has whole frames behind one that is damaged: they are not found.
func TestDamage(t *testing.T) {
	random := rand.New(rand.NewSource(8))
	for range 5000 {
		b, _ := row(someContents(random, 5, 40))
		for range random.Intn(3) {
			i := random.Intn(len(b) + 1)
			switch c := byte(random.Intn(256)); {
			case i == len(b) || random.Intn(3) == 0:
				b = slices.Insert(b, i, c)
			case random.Intn(2) == 0:
				b[i] = c
			default:
				b = slices.Delete(b, i, i+1)
			}
		}
		checkAll(t, b)
		checkOpen(t, b)
	}
	one, other := frame([]byte("one")), frame([]byte("other"))
	for i := 1; i < len(one); i++ {
		b := slices.Concat(other, one, other)
		b[len(other)+i]++
		if all, n := crc.All(b); !same(all, [][]byte{[]byte("other")}) || n != len(other) {
			t.Errorf("P8.5: All of three frames, the second one of which is damaged at %d, is %q, %d", i, all, n)
		}
	}
}

// TestMemory has arguments with memory behind them, which stays as it is, and changes results and arguments afterwards.
func TestMemory(t *testing.T) {
	memory := []byte("content and some more memory")
	kept := slices.Clone(memory)
	content := memory[:7]
	f, _ := crc.Frame(content)
	whole := slices.Clone(f)
	other, _ := crc.Frame(content)
	clear(other[:cap(other)])
	crc.Extend(crc.Sum(content), content)
	if !bytes.Equal(memory, kept) || !bytes.Equal(f, whole) {
		t.Errorf("P8.1, P8.2, P8.3: memory is shared or changed: %q, %x", memory, f)
	}
	both := slices.Concat(f, f)
	one, _, _ := crc.Open(both)
	first, _ := crc.All(both)
	second, _ := crc.All(both)
	if !bytes.Equal(both, slices.Concat(whole, whole)) {
		t.Errorf("P8.4, P8.5: the bytes are changed: %x", both)
	}
	clear(both)
	clear(second[0][:cap(second[0])])
	clear(first[0][:cap(first[0])])
	if string(one) != "content" || string(first[1]) != "content" || string(second[1]) != "content" {
		t.Errorf("P8.4, P8.5: results share memory: %q, %q, %q", one, first, second)
	}
	clear(first[:cap(first)])
	if len(second) != 2 || string(second[1]) != "content" {
		t.Error("P8.5: lists share memory")
	}
}
