package codec

import (
	"bytes"
	"encoding/binary"
	"hash/fnv"
	"math"
	"slices"
	"testing"

	"partbook/api"
	"partbook/digest"
)

// random returns so many numbers of a fixed sequence.
func random(seed uint64, n int) []uint64 {
	l := make([]uint64, n)
	for i := range l {
		seed = seed*6364136223846793005 + 1442695040888963407
		l[i] = seed ^ seed>>31
	}
	return l
}

// randomBytes returns so many bytes of a fixed sequence.
func randomBytes(seed uint64, n int) []byte {
	b := make([]byte, n)
	for i, u := range random(seed, n) {
		b[i] = byte(u >> 40)
	}
	return b
}

// randomInts returns so many integers of a fixed sequence, of all sizes.
func randomInts(seed uint64, n int) []int {
	l := make([]int, n)
	for i, u := range random(seed, n) {
		l[i] = int(u) >> (u >> 20 % 64)
	}
	return l
}

// borders returns the integers around all powers of two, and their opposites.
func borders() []int {
	l := []int{0, math.MaxInt, math.MinInt, math.MinInt + 1}
	for shift := range 63 {
		for by := -1; by <= 1; by++ {
			n := 1<<shift + by
			l = append(l, n, -n)
		}
	}
	return l
}

// lists returns lists of all kinds, with the longest ones among them.
func lists() [][]int {
	l := [][]int{
		nil, {}, {0}, {1}, {-1}, {5}, {63}, {64}, {-64}, {-65}, {127}, {128}, {-128}, {-129}, {0, 0}, {0, -1, 64}, {0, 0, 0}, {2, 5, 5}, {6, 0, -1, 64},
		{8191}, {8192}, {-8192}, {-8193}, {math.MaxInt}, {math.MinInt}, {math.MinInt, math.MaxInt, math.MinInt + 1}, {math.MaxInt32, math.MinInt32, math.MaxUint32},
		borders(), randomInts(1, 62), randomInts(2, 63), randomInts(3, 64), randomInts(4, 500),
		make([]int, api.MaxInts), slices.Repeat([]int{math.MinInt}, api.MaxInts), slices.Repeat([]int{math.MaxInt}, api.MaxInts-1), randomInts(5, api.MaxInts),
	}
	for _, n := range borders() {
		l = append(l, []int{n})
	}
	return l
}

// short returns those of the lists that have few integers.
func short() [][]int {
	return slices.DeleteFunc(lists(), func(l []int) bool { return len(l) > 64 })
}

// written returns the bytes of a list by another program.
func written(l []int) []byte {
	b := binary.AppendVarint(nil, int64(len(l)))
	for _, n := range l {
		b = binary.AppendVarint(b, int64(n))
	}
	return b
}

// readBack returns the list that has these bytes, and whether there is one: what another, tolerant program reads has to be written as the same bytes.
func readBack(b []byte) ([]int, bool) {
	l := []int{}
	count, at := binary.Varint(b)
	if at <= 0 || count < 0 || count > api.MaxInts {
		return nil, false
	}
	for range count {
		n, size := binary.Varint(b[at:])
		if size <= 0 {
			return nil, false
		}
		l = append(l, int(n))
		at += size
	}
	return l, bytes.Equal(written(l), b)
}

// sealed returns bytes between their length and the digest, by another program.
func sealed(b []byte) []byte {
	f := slices.Concat([]byte{byte(len(b) >> 16), byte(len(b) >> 8), byte(len(b))}, b)
	h := fnv.New64a()
	h.Write(f)
	return h.Sum(f)
}

// framed returns the frames of lists by another program, one after the other.
func framed(l ...[]int) []byte {
	b := []byte{}
	for _, x := range l {
		b = append(b, sealed(written(x))...)
	}
	return b
}

// same reports whether lists of lists are equal.
func same(a, b [][]int) bool {
	return slices.EqualFunc(a, b, slices.Equal[[]int])
}

// checkGet checks that bytes are read as the other program says.
func checkGet(t *testing.T, b []byte) {
	t.Helper()
	want, ok := readBack(b)
	l, e := Get(b)
	switch {
	case ok && (e != api.OK || !slices.Equal(l, want)):
		t.Errorf("%.40v, %d bytes: %.40v, %v instead of %.40v", b, len(b), l, e, want)
	case !ok && (e != api.ErrForm || l != nil):
		t.Errorf("%.40v, %d bytes: %.40v, %v instead of ErrForm", b, len(b), l, e)
	}
}

// checkFrames checks which lists are read, and how many bytes they have.
func checkFrames(t *testing.T, what string, b []byte, want [][]int, size int) {
	t.Helper()
	l, n, e := Frames(b)
	if !same(l, want) || n != size || e != api.OK {
		t.Errorf("%s: %d lists, %d bytes, %v instead of %d lists, %d bytes", what, len(l), n, e, len(want), size)
	}
}

// P5.1, E1: the example, no integers, negative ones, the least one, and others by hand.
func TestPutExamples(t *testing.T) {
	for _, x := range []struct {
		l    []int
		want []byte
	}{
		{[]int{0, -1, 64}, []byte{6, 0, 1, 128, 1}},
		{nil, []byte{0}},
		{[]int{}, []byte{0}},
		{[]int{0}, []byte{2, 0}},
		{[]int{63, -64}, []byte{4, 126, 127}},
		{[]int{64, -65}, []byte{4, 128, 1, 129, 1}},
		{[]int{8191, -8192, 8192, -8193}, []byte{8, 254, 127, 255, 127, 128, 128, 1, 129, 128, 1}},
		{[]int{math.MaxInt}, []byte{2, 254, 255, 255, 255, 255, 255, 255, 255, 255, 1}},
		{[]int{math.MinInt}, []byte{2, 255, 255, 255, 255, 255, 255, 255, 255, 255, 1}},
		{make([]int, 63), append([]byte{126}, make([]byte, 63)...)},
		{make([]int, 64), append([]byte{128, 1}, make([]byte, 64)...)},
		{make([]int, 4000), append([]byte{192, 62}, make([]byte, 4000)...)},
	} {
		if b, e := Put(x.l); !bytes.Equal(b, x.want) || e != api.OK {
			t.Errorf("%.40v: %.40v, %v", x.l, b, e)
		}
	}
}

// P5.1, E1, and P5.2: against another program, and back.
func TestPut(t *testing.T) {
	for _, l := range lists() {
		b, e := Put(l)
		if !bytes.Equal(b, written(l)) || e != api.OK {
			t.Errorf("%.40v, %d integers: %.40v, %v", l, len(l), b, e)
		}
		if back, e := Get(b); !slices.Equal(back, l) || e != api.OK {
			t.Errorf("%.40v, %d integers: read as %.40v, %v", l, len(l), back, e)
		}
	}
	for n := -70000; n <= 70000; n++ {
		b, e := Put([]int{n, -n})
		back, f := Get(b)
		if !bytes.Equal(b, written([]int{n, -n})) || !slices.Equal(back, []int{n, -n}) || e != api.OK || f != api.OK {
			t.Fatalf("%d: %v, %v; %v, %v", n, b, e, back, f)
		}
	}
}

// P5.1, E1 and E3: the limit of 4000 integers.
func TestTooManyIntegers(t *testing.T) {
	for _, n := range []int{4001, 4002, 8000, 300000} {
		if b, e := Put(make([]int, n)); b != nil || e != api.ErrLimit {
			t.Errorf("put %d: %d bytes, %v", n, len(b), e)
		}
		if b, e := Frame(make([]int, n)); b != nil || e != api.ErrLimit {
			t.Errorf("frame %d: %d bytes, %v", n, len(b), e)
		}
	}
	for _, put := range []func([]int) ([]byte, api.Errno){Put, Frame} {
		if b, e := put(make([]int, 4000)); len(b) < 4002 || e != api.OK {
			t.Errorf("4000: %d bytes, %v", len(b), e)
		}
	}
}

// P5.1, E2: the example, and bytes that are more or fewer than needed.
func TestGetExamples(t *testing.T) {
	for _, x := range []struct {
		b    []byte
		want []int
	}{
		{[]byte{6, 0, 1, 128, 1}, []int{0, -1, 64}},
		{[]byte{0}, []int{}},
		{[]byte{2, 0}, []int{0}},
		{[]byte{2, 255, 255, 255, 255, 255, 255, 255, 255, 255, 1}, []int{math.MinInt}},
		{[]byte{2, 254, 255, 255, 255, 255, 255, 255, 255, 255, 1}, []int{math.MaxInt}},
	} {
		if l, e := Get(x.b); !slices.Equal(l, x.want) || e != api.OK {
			t.Errorf("%v: %v, %v", x.b, l, e)
		}
	}
	for _, b := range [][]byte{
		nil, {}, {2}, {4, 0}, {128}, {2, 128}, {2, 255, 255}, // fewer than needed
		{0, 0}, {2, 0, 0}, {0, 128}, {6, 0, 1, 128, 1, 6}, // others behind the list
		{2, 128, 0}, {2, 129, 0}, {128, 0}, {130, 0, 0}, {2, 128, 128, 0}, {2, 255, 128, 0}, {130, 128, 0, 0}, // a byte too many in a number
		{1}, {3}, {3, 0}, {3, 0, 0}, {127}, {129, 1}, {255, 255, 255, 255, 255, 255, 255, 255, 255, 1}, // fewer than no integers
		{2, 128, 128, 128, 128, 128, 128, 128, 128, 128, 2}, {2, 255, 255, 255, 255, 255, 255, 255, 255, 255, 3}, // more than 64 bits
		{2, 255, 255, 255, 255, 255, 255, 255, 255, 255, 127}, {2, 128, 128, 128, 128, 128, 128, 128, 128, 128, 0},
		{2, 128, 128, 128, 128, 128, 128, 128, 128, 128, 128, 1}, {2, 129, 128, 128, 128, 128, 128, 128, 128, 128, 128, 1},
		{2, 129, 128, 128, 128, 128, 128, 128, 128, 128, 128, 0}, {2, 255, 255, 255, 255, 255, 255, 255, 255, 255, 129, 0},
		append(append([]byte{2}, bytes.Repeat([]byte{128}, 18)...), 2), append(append([]byte{2}, bytes.Repeat([]byte{128}, 1000)...), 1),
		append(append([]byte{2, 5}, bytes.Repeat([]byte{128}, 128)...), 1),
		{254, 255, 255, 255, 255, 255, 255, 255, 255, 1}, {254, 255, 255, 255, 15, 0}, // more integers than there are
		append([]byte{194, 62}, make([]byte, 4001)...), // 4001 integers
		written(make([]int, 4001)), written(make([]int, 4002)), written(make([]int, 300000)),
	} {
		if l, e := Get(b); l != nil || e != api.ErrForm {
			t.Errorf("%.40v, %d bytes: %v, %v", b, len(b), l, e)
		}
		if _, ok := readBack(b); ok {
			t.Errorf("%.40v, %d bytes: the other program reads them", b, len(b))
		}
	}
}

// P5.1, E2, and P5.2: all that is short, and bytes of all kinds, are read as what has these bytes, or not at all.
func TestGet(t *testing.T) {
	for a := range 256 {
		checkGet(t, []byte{byte(a)})
		for b := range 256 {
			checkGet(t, []byte{byte(a), byte(b)})
			checkGet(t, []byte{2, byte(a), byte(b)})
			checkGet(t, []byte{4, byte(a), byte(b)})
			checkGet(t, []byte{2, 200, byte(a), byte(b)})
			checkGet(t, []byte{byte(a), byte(b), 0, 0, 0})
			checkGet(t, []byte{2, 255, 255, 255, 255, 255, 255, 255, 255, byte(a), byte(b)})
			checkGet(t, []byte{2, 128, 128, 128, 128, 128, 128, 128, 128, 128, byte(a), byte(b)})
		}
	}
	for seed := range uint64(20000) {
		b := randomBytes(seed, int(seed%40))
		checkGet(t, b)
		checkGet(t, append([]byte{byte(2 * (seed % 20))}, b...))
	}
	for _, l := range lists() {
		b := written(l)
		checkGet(t, b)
		for at := 0; at < len(b); at += 1 + len(b)/50 {
			changed := slices.Clone(b)
			for by := 1; by < 256; by += 1 + len(b)/20 {
				changed[at] = b[at] ^ byte(by)
				checkGet(t, changed)
			}
			checkGet(t, slices.Insert(slices.Clone(b), at, 128))
			checkGet(t, slices.Delete(slices.Clone(b), at, at+1))
		}
	}
}

// P5.1, E3: the example, and others with the digest that the chapter asks for.
func TestFrame(t *testing.T) {
	b, e := Frame([]int{5})
	if len(b) != 13 || !bytes.Equal(b[:5], []byte{0, 0, 2, 2, 10}) || binary.BigEndian.Uint64(b[5:]) != digest.Sum([]byte{0, 0, 2, 2, 10}) || e != api.OK {
		t.Errorf("5: %v, %v", b, e)
	}
	for _, l := range lists() {
		if b, e := Frame(l); !bytes.Equal(b, framed(l)) || e != api.OK {
			t.Errorf("%.40v, %d integers: %.40v, %v", l, len(l), b, e)
		}
	}
	// The two highest of the three bytes are used as well: there are 40002 bytes.
	long, e := Frame(slices.Repeat([]int{math.MinInt}, 4000))
	if len(long) != 40013 || !bytes.Equal(long[:5], []byte{0, 156, 66, 192, 62}) || e != api.OK {
		t.Errorf("4000 of the least one: %v, %d bytes, %v", long[:5], len(long), e)
	}
}

// P5.1, E4, and P5.2: no frames, single ones, and many.
func TestFrames(t *testing.T) {
	checkFrames(t, "nil", nil, nil, 0)
	checkFrames(t, "no bytes", []byte{}, nil, 0)
	checkFrames(t, "no integers", framed(nil), [][]int{{}}, 12)
	checkFrames(t, "no integers twice", framed(nil, nil), [][]int{{}, {}}, 24)
	for _, l := range lists() {
		b, _ := Frame(l)
		checkFrames(t, "one frame", b, [][]int{l}, len(b))
		checkFrames(t, "three frames", slices.Concat(b, b, b), [][]int{l, l, l}, 3*len(b))
	}
	all := slices.DeleteFunc(lists(), func(l []int) bool { return len(l) > 1000 })
	checkFrames(t, "all frames", framed(all...), all, len(framed(all...)))
}

// P5.1, E4: the limit of 200000 bytes, of which each counts, whether it belongs to a whole frame or not.
func TestTooManyBytes(t *testing.T) {
	single := framed([]int{1, 2, 3, 4}) // 16 bytes
	many := bytes.Repeat(single, 12500)
	if len(many) != 200000 {
		t.Fatalf("%d bytes", len(many))
	}
	want := slices.Repeat([][]int{{1, 2, 3, 4}}, 12500)
	checkFrames(t, "200000 bytes", many, want, 200000)
	checkFrames(t, "199999 bytes", many[:199999], want[1:], 199984)
	checkFrames(t, "200000 bytes, without a frame", make([]byte, 200000), nil, 0)
	checkFrames(t, "200000 bytes, one frame", append(slices.Clone(single), make([]byte, 199984)...), want[:1], 16)
	for _, b := range [][]byte{append(slices.Clone(many), 0), append(slices.Clone(many), single...), make([]byte, 200001), append(slices.Clone(single), make([]byte, 199985)...), make([]byte, 1000000)} {
		if l, n, e := Frames(b); l != nil || n != 0 || e != api.ErrLimit {
			t.Errorf("%d bytes: %d lists, %d, %v", len(b), len(l), n, e)
		}
	}
}

// sequences returns frames that stand one after the other.
func sequences() [][][]int {
	return [][][]int{
		{nil}, {{5}}, {nil, nil}, {{5}, {0, -1, 64}}, {{0}, nil, {1, 2, 3}}, {randomInts(9, 40), {-1}}, {{math.MinInt, math.MaxInt}, {math.MinInt}},
		{nil, {1}, {2, 2}, {3, 3, 3}, {4, 4, 4, 4}, nil, randomInts(10, 70)}, {borders(), {7}}, {randomInts(11, 300)},
	}
}

// P5.3: frames that are cut at each byte.
func TestTorn(t *testing.T) {
	for _, lists := range sequences() {
		whole := framed(lists...)
		ends := []int{}
		for n := range lists {
			ends = append(ends, len(framed(lists[:n+1]...)))
		}
		for cut := range len(whole) + 1 {
			n, size := 0, 0
			for n < len(ends) && ends[n] <= cut {
				size = ends[n]
				n++
			}
			checkFrames(t, "a sequence that was cut", whole[:cut], lists[:n], size)
		}
	}
	long := slices.Repeat([]int{math.MinInt}, api.MaxInts)
	b := framed(long)
	for _, cut := range []int{0, 1, 2, 3, 4, 5, 1000, len(b) - 9, len(b) - 8, len(b) - 7, len(b) - 1} {
		checkFrames(t, "a long one that was cut", b[:cut], nil, 0)
	}
}

// rests returns bytes of which some begin with frames, or with what is nearly one.
func rests() [][]byte {
	l := [][]byte{
		nil, {0}, {0, 0}, {0, 0, 0}, {0, 0, 2}, {255}, {255, 255, 255}, bytes.Repeat([]byte{255}, 30), make([]byte, 11), make([]byte, 12), make([]byte, 100),
		randomBytes(1, 7), randomBytes(2, 300), []byte("partbook"), {6, 0, 1, 128, 1}, framed([]int{5})[1:], framed([]int{5})[3:],
		framed([]int{5}), framed(nil), framed([]int{1}, []int{2}), append(framed([]int{5}), 0, 0), append(framed([]int{5}, nil), randomBytes(3, 40)...),
		append([]byte{0}, framed([]int{5})...), append([]byte{0, 0, 0}, framed([]int{5})...), framed([]int{5}, []int{6})[:20],
	}
	return append(l, sealedWrongs()...)
}

// sealedWrongs returns what has its length and its digest, but is no frame of a list.
func sealedWrongs() [][]byte {
	l := [][]byte{}
	for _, b := range [][]byte{
		nil, {2}, {1}, {0, 0}, {2, 128, 0}, {128, 0}, {4, 10}, {2, 10, 10}, {128}, []byte("partbook"), make([]byte, 300), written(make([]int, 4001)),
		{2, 255, 255, 255, 255, 255, 255, 255, 255, 255, 3}, append([]byte{194, 62}, make([]byte, 4001)...), framed([]int{5}),
	} {
		l = append(l, sealed(b))
	}
	return l
}

// P5.1, E4: what is nearly a frame ends the frames.
func TestNearlyFrames(t *testing.T) {
	for _, b := range sealedWrongs() {
		checkFrames(t, "a wrong list", b, nil, 0)
		checkFrames(t, "a wrong list between frames", slices.Concat(framed([]int{5}), b, framed([]int{6})), [][]int{{5}}, 13)
	}
	b := written([]int{5, 6})
	h := fnv.New64a()
	h.Write(b)
	checkFrames(t, "a digest of the list alone", h.Sum(append([]byte{0, 0, byte(len(b))}, b...)), nil, 0)
	little := framed([]int{5, 6})
	slices.Reverse(little[len(little)-8:])
	checkFrames(t, "a digest whose lowest byte is first", little, nil, 0)
}

// P5.4: whatever stands after whole frames.
func TestAfterFrames(t *testing.T) {
	for _, before := range sequences() {
		frames := framed(before...)
		for _, rest := range rests() {
			l, n, e := Frames(rest)
			if e != api.OK {
				t.Fatalf("%.40v: %v", rest, e)
			}
			checkFrames(t, "frames with others behind", slices.Concat(frames, rest), slices.Concat(before, l), len(frames)+n)
		}
	}
}

// P5.5: each other byte at each place of the last frame but the first three, alone and with other bytes behind it.
func TestChanged(t *testing.T) {
	for _, lists := range sequences() {
		b := framed(lists...)
		before := lists[:len(lists)-1]
		from := len(framed(before...))
		for at := from + 3; at < len(b); at++ {
			right := b[at]
			for by := 1; by < 256; by += 1 + len(b)/100 {
				b[at] = right ^ byte(by)
				checkFrames(t, "a changed frame", b, before, from)
				checkFrames(t, "a changed frame before another one", append(slices.Clone(b), framed([]int{1})...), before, from)
			}
			b[at] = right
		}
	}
	long := framed([]int{3}, randomInts(12, api.MaxInts))
	for at := 16; at < len(long); at += 97 {
		long[at] ^= 1
		checkFrames(t, "a long one that was changed", long, [][]int{{3}}, 13)
		long[at] ^= 1
	}
}

// P5.4: with another byte among the first three of the last frame, the frames before it are read.
func TestChangedSize(t *testing.T) {
	b := framed([]int{0, -1, 64}, []int{5})
	for at := 16; at < 19; at++ {
		for by := 1; by < 256; by++ {
			changed := slices.Clone(b)
			changed[at] ^= byte(by)
			checkFrames(t, "a changed size", changed, [][]int{{0, -1, 64}}, 16)
		}
	}
}

// P5.6: no bytes of a list are the beginning of those of another one, nor is what is cut off a list.
func TestPrefixes(t *testing.T) {
	all := lists()
	for _, a := range all {
		first, _ := Put(a)
		for _, b := range all {
			second, _ := Put(b)
			if bytes.HasPrefix(second, first) && !slices.Equal(a, b) {
				t.Errorf("%.40v, %d integers, and %.40v, %d integers", a, len(a), b, len(b))
			}
		}
	}
	for _, l := range short() {
		b, _ := Put(l)
		for cut := range b {
			if got, e := Get(b[:cut]); got != nil || e != api.ErrForm {
				t.Errorf("%v, cut at %d: %v, %v", l, cut, got, e)
			}
		}
		for _, rest := range rests() {
			if len(rest) == 0 {
				continue
			}
			if got, e := Get(slices.Concat(b, rest)); got != nil || e != api.ErrForm {
				t.Errorf("%v with %.40v: %v, %v", l, rest, got, e)
			}
		}
	}
}

// P1: bytes of all kinds are read without a panic.
func TestAnyBytes(t *testing.T) {
	for seed := range uint64(3000) {
		b := randomBytes(seed, int(seed%200))
		checkGet(t, b)
		// Sizes that are right or nearly right are looked at as well.
		for size := range min(len(b), 30) {
			c := slices.Concat([]byte{0, 0, byte(size)}, b)
			checkFrames(t, "other bytes", c, nil, 0)
		}
	}
}

// P1, and the Rules: arguments are not changed, nor what lies behind them, and no result shares memory with them or with another one.
func TestMemory(t *testing.T) {
	ints, spareInt := withSpare([]int{5, math.MinInt, -1})
	for _, put := range []func([]int) ([]byte, api.Errno){Put, Frame} {
		b, _ := put(ints)
		again, _ := put(ints)
		kept := slices.Clone(again)
		wipe(b)
		if !slices.Equal(ints, []int{5, math.MinInt, -1}) || *spareInt != 0 || !bytes.Equal(again, kept) {
			t.Error("integers, or what was put before, were changed")
		}
	}
	b, spare := withSpare(written(ints))
	l, _ := Get(b)
	wipe(l)
	if !bytes.Equal(b, written(ints)) || *spare != 0 {
		t.Error("bytes were changed")
	}
	want := [][]int{{1, 2}, {}, {3}, {4, 5, 6}}
	b, spare = withSpare(framed(want...))
	found, _, _ := Frames(b)
	again, _, _ := Frames(b)
	if !bytes.Equal(b, framed(want...)) || *spare != 0 {
		t.Error("frames were changed")
	}
	wipe(b)
	if !same(found, want) {
		t.Error("a result changes with the bytes")
	}
	for i := range found {
		wipe(found[i])
		found[i] = append(found[i], 99)
		if !same(found[i+1:], want[i+1:]) || !same(again, want) {
			t.Errorf("list %d shares memory with others", i)
		}
	}
}

// withSpare returns a list with room behind it, and the zero that is there.
func withSpare[T any](l []T) ([]T, *T) {
	var zero T
	longer := append(slices.Clone(l), zero)
	return longer[:len(l)], &longer[len(l)]
}

// wipe overwrites a list, and all the room behind it.
func wipe[T int | byte](l []T) {
	l = l[:cap(l)]
	for i := range l {
		l[i] = 77
	}
}
