package digest

import (
	"bytes"
	"encoding/binary"
	"hash/fnv"
	"math"
	"math/big"
	"slices"
	"strings"
	"testing"
)

// nothing is the digest of no bytes, as the chapter has it.
const nothing uint64 = 14695981039346656037

// samples returns bytes of all kinds: none, single ones, all there are, texts, and long ones.
func samples() [][]byte {
	all := make([]byte, 256)
	for i := range all {
		all[i] = byte(i)
	}
	return [][]byte{
		nil, {}, {0}, {255}, {128}, {0, 0}, {0, 0, 0, 0, 0, 0, 0, 0},
		[]byte("a"), []byte("b"), []byte("foobar"), []byte("5 -1 "), []byte("\u00e9\u266d \xff\xfe"),
		all, bytes.Repeat(all, 40), bytes.Repeat([]byte{0}, 1000), random(3, 5000),
	}
}

// random returns so many bytes of a fixed sequence.
func random(seed uint64, n int) []byte {
	b := make([]byte, n)
	for i := range b {
		seed = seed*6364136223846793005 + 1442695040888963407
		b[i] = byte(seed >> 33)
	}
	return b
}

// numbers returns digests of all kinds, each byte of some another one.
func numbers() []uint64 {
	return []uint64{0, 1, 97, 255, 256, 0x0102030405060708, 0xf0e0d0c0b0a09080, 1 << 63, 1<<63 - 1, math.MaxUint64, nothing}
}

// lists returns lists of integers of all kinds.
func lists() [][]int {
	many := []int{}
	for n := -1100; n <= 1100; n++ {
		many = append(many, n)
	}
	return [][]int{
		nil, {}, {0}, {7}, {-1}, {5, -1}, {5, 1}, {51}, {5, 0, 1}, {0, 0}, {0, 0, 0}, {9}, {10}, {-9}, {-10}, {99, 100, 101}, {-99, -100},
		{1680}, {1000000000}, {-1000000000}, {math.MaxInt}, {math.MinInt}, {math.MinInt, math.MaxInt, math.MinInt}, {math.MaxInt - 1, math.MinInt + 1},
		{math.MaxInt32, math.MinInt32, math.MaxInt32 + 1, math.MinInt32 - 1, math.MaxUint32},
		many,
	}
}

// reference returns the digest of bytes by another program.
func reference(b []byte) uint64 {
	h := fnv.New64a()
	h.Write(b)
	return h.Sum64()
}

// spelled returns the bytes of a number, and of the texts of integers, each with a blank after it.
func spelled(d uint64, l []int) []byte {
	b := binary.BigEndian.AppendUint64(nil, d)
	for _, n := range l {
		b = append(b, big.NewInt(int64(n)).String()+" "...)
	}
	return b
}

// chained returns the chain of lists, step by step by the words of the chapter.
func chained(l [][]int) uint64 {
	d := nothing
	for _, x := range l {
		d = reference(spelled(d, slices.Concat([]int{len(x)}, x)))
	}
	return d
}

// chains returns lists of lists of all kinds.
func chains() [][][]int {
	all := [][][]int{
		nil, {}, {nil}, {{}}, {nil, nil}, {nil, nil, nil}, {{7}, nil}, {nil, {7}}, {{7}, {}}, {{7, 0}}, {{7}, {0}}, {{0}}, {{1, 0}}, {{0}, {0}}, {{1}, {1}},
		{{1, 2}, {3}}, {{1}, {2, 3}}, {{1, 2, 3}}, {{1}, {2}, {3}}, {{12, 3}}, {{1, 23}}, {{-1}, {-1, math.MinInt}}, {{math.MinInt}}, {{math.MaxInt}},
		lists(), slices.Repeat([][]int{{1, -2}}, 3000),
	}
	for _, l := range lists() {
		all = append(all, [][]int{l})
	}
	return all
}

// P4.1, D1: the examples, the beginning itself, and other texts with known digests.
func TestSumExamples(t *testing.T) {
	for _, x := range []struct {
		text string
		want uint64
	}{
		{"", 14695981039346656037}, {"a", 12638187200555641996}, {"foobar", 9625390261332436968},
		{"b", 0xaf63df4c8601f1a5}, {"fo", 0x08985907b541d342}, {"foo", 0xdcb27518fed9d577}, {"\x00", 0xaf63bd4c8601b7df},
	} {
		if d := Sum([]byte(x.text)); d != x.want {
			t.Errorf("%q: %d", x.text, d)
		}
	}
	if d := Sum(nil); d != nothing {
		t.Errorf("nil: %d", d)
	}
}

// P4.1, D1: against another program.
func TestSum(t *testing.T) {
	for _, b := range samples() {
		if d := Sum(b); d != reference(b) {
			t.Errorf("%.40q, %d bytes: %d", b, len(b), d)
		}
	}
	for a := range 256 {
		for b := range 256 {
			if d := Sum([]byte{byte(a), byte(b)}); d != reference([]byte{byte(a), byte(b)}) {
				t.Errorf("%d, %d: %d", a, b, d)
			}
		}
	}
}

// P4.2: all other bytes at each place, of those that are short; some at some places, of those that are long.
func TestOneByte(t *testing.T) {
	for _, b := range append(samples(), spelled(nothing, []int{1, -2, 30})) {
		digest := Sum(b)
		// The first and the last place are always among them.
		for at := 0; at < len(b); at += 1 + len(b)/300 {
			for _, place := range []int{at, len(b) - 1 - at} {
				checkChanges(t, b, place, digest)
			}
		}
	}
}

// checkChanges checks that bytes have another digest with other bytes at a place.
func checkChanges(t *testing.T, b []byte, at int, digest uint64) {
	t.Helper()
	c := slices.Clone(b)
	for by := 1; by < 256; by += 1 + len(b)/40 {
		c[at] = b[at] ^ byte(by)
		if Sum(c) == digest {
			t.Errorf("%.40q, %d bytes: the digest is the same with %d at %d", b, len(b), c[at], at)
		}
	}
}

// P4.2: each two single bytes have different digests, and so have two with bytes around them that are the same.
func TestSingleBytes(t *testing.T) {
	for _, around := range [][2]string{{"", ""}, {"ab", ""}, {"", "cd"}, {"\x00\xff", "\x00\x00\x00"}} {
		found := map[uint64]int{}
		for x := range 256 {
			d := Sum(slices.Concat([]byte(around[0]), []byte{byte(x)}, []byte(around[1])))
			if y, ok := found[d]; ok {
				t.Errorf("%d and %d within %q: both %d", x, y, around, d)
			}
			found[d] = x
		}
	}
}

// same returns groups of different bytes with the same digest.
func same() [][][]byte {
	zero := []byte{0xd5, 0x6b, 0xb9, 0x53, 0x42, 0x87, 0x08, 0x36}
	return [][][]byte{
		// Their digest is 0, and 0 is left at 0 by bytes 0.
		{zero, []byte("77kepQFQ8Kl"), slices.Concat(zero, []byte{0}), slices.Concat(zero, make([]byte, 1000)), []byte("77kepQFQ8Kl\x00\x00")},
		{spelled(nothing, []int{1, 4142590422128741805}), spelled(nothing, []int{1, -3382409966218954425})},
	}
}

// P4.3: the same digest, and the same bytes after them.
func TestSameAfter(t *testing.T) {
	for i, group := range same() {
		for _, b := range group {
			if bytes.Equal(b, group[0]) {
				continue
			}
			for _, after := range samples() {
				first, second := Sum(slices.Concat(group[0], after)), Sum(slices.Concat(b, after))
				if first != second {
					t.Errorf("group %d, %q with %.40q: %d, %d", i, b, after, first, second)
				}
			}
		}
	}
}

// P4.3: different digests, and the same bytes after them.
func TestDifferentAfter(t *testing.T) {
	for _, a := range samples() {
		for _, b := range samples() {
			if Sum(a) == Sum(b) {
				continue
			}
			for _, after := range samples() {
				if Sum(slices.Concat(a, after)) == Sum(slices.Concat(b, after)) {
					t.Errorf("%.40q and %.40q with %.40q: the digest is the same", a, b, after)
				}
			}
		}
	}
}

// P4.1, D2: the example, no integers, and texts by hand.
func TestNextExamples(t *testing.T) {
	for _, x := range []struct {
		d    uint64
		l    []int
		want string
	}{
		{97, []int{5, -1}, "\x00\x00\x00\x00\x00\x00\x00\x615 -1 "},
		{97, nil, "\x00\x00\x00\x00\x00\x00\x00\x61"},
		{97, []int{}, "\x00\x00\x00\x00\x00\x00\x00\x61"},
		{0, nil, "\x00\x00\x00\x00\x00\x00\x00\x00"},
		{0, []int{0}, "\x00\x00\x00\x00\x00\x00\x00\x000 "},
		{0x0102030405060708, []int{10, 100}, "\x01\x02\x03\x04\x05\x06\x07\x0810 100 "},
		{math.MaxUint64, []int{-10, 0, -100}, "\xff\xff\xff\xff\xff\xff\xff\xff-10 0 -100 "},
		{1 << 63, []int{math.MinInt, math.MaxInt}, "\x80\x00\x00\x00\x00\x00\x00\x00-9223372036854775808 9223372036854775807 "},
	} {
		if d := Next(x.d, x.l...); d != Sum([]byte(x.want)) {
			t.Errorf("%d, %v: %d", x.d, x.l, d)
		}
	}
	if Next(97, 5, -1) != Next(97, []int{5, -1}...) {
		t.Error("a variadic list is another one")
	}
}

// P4.4: the digest of the bytes of the number and of the texts.
func TestNext(t *testing.T) {
	for _, d := range numbers() {
		for _, l := range lists() {
			if n := Next(d, l...); n != Sum(spelled(d, l)) || n != reference(spelled(d, l)) {
				t.Errorf("%d, %.60s: %d", d, spelled(0, l), n)
			}
		}
		for n := range 100000 {
			if Next(d, n, -n) != Sum(spelled(d, []int{n, -n})) {
				t.Fatalf("%d, %d", d, n)
			}
		}
	}
}

// otherLastDigits returns an integer that is not negative with each other last digit that it can have, and none for a negative one.
func otherLastDigits(n int) []int {
	l := []int{}
	for digit := range 10 {
		other := n - n%10 + digit
		// Beyond the greatest integer it is negative.
		if n >= 0 && other >= 0 && other != n {
			l = append(l, other)
		}
	}
	return l
}

// changed returns a list with another integer at a place.
func changed(l []int, at, n int) []int {
	c := slices.Clone(l)
	c[at] = n
	return c
}

// P4.4: another last digit.
func TestNextLastDigit(t *testing.T) {
	checked := 0
	for _, d := range numbers() {
		for _, l := range append(lists()[:len(lists())-1], []int{3, -30, 333, 0, 12, math.MaxInt}) {
			digest := Next(d, l...)
			for at, n := range l {
				for _, other := range otherLastDigits(n) {
					if Next(d, changed(l, at, other)...) == digest {
						t.Errorf("%d, %v: the digest is the same with %d at %d", d, l, other, at)
					}
					checked++
				}
			}
		}
	}
	if checked < 2000 {
		t.Errorf("only %d were checked", checked)
	}
}

// P4.1, D3: the example, no lists, and lists of nothing.
func TestChainExamples(t *testing.T) {
	begin := Sum(nil)
	for _, x := range []struct {
		l    [][]int
		want uint64
	}{
		{[][]int{{7}, {}}, Next(Next(14695981039346656037, 1, 7), 0)},
		{[][]int{{7}, nil}, Next(Next(begin, 1, 7), 0)},
		{nil, begin},
		{[][]int{}, begin},
		{[][]int{nil}, Next(begin, 0)},
		{[][]int{{}, {}}, Next(Next(begin, 0), 0)},
		{[][]int{{1, -2, 3}}, Next(begin, 3, 1, -2, 3)},
		{[][]int{{math.MinInt}, {0, 0}}, Next(Next(begin, 1, math.MinInt), 2, 0, 0)},
	} {
		if d := Chain(x.l); d != x.want {
			t.Errorf("%v: %d", x.l, d)
		}
	}
}

// P4.1, D3, and P4.5: each chain, and each with a further list.
func TestChain(t *testing.T) {
	for i, l := range chains() {
		d := Chain(l)
		if d != chained(l) {
			t.Errorf("chain %d: %d", i, d)
		}
		for _, further := range lists() {
			longer := append(slices.Clone(l), further)
			if n := Chain(longer); n != Next(d, slices.Concat([]int{len(further)}, further)...) {
				t.Errorf("chain %d with %.60s: %d", i, spelled(0, further), n)
			}
		}
	}
}

// P4.5: different lists with the same chain, and the same lists after them.
func TestSameChains(t *testing.T) {
	first, second := [][]int{{4142590422128741805}}, [][]int{{-3382409966218954425}}
	if d := Chain(first); d != 10239721279898351812 || Chain(second) != d {
		t.Fatalf("%d, %d", d, Chain(second))
	}
	for i, after := range chains() {
		one, other := Chain(slices.Concat(first, after)), Chain(slices.Concat(second, after))
		if one != other {
			t.Errorf("chain %d after them: %d, %d", i, one, other)
		}
	}
}

// P4.6: another last digit in the last list.
func TestChainLastDigit(t *testing.T) {
	checked := 0
	for i, l := range chains() {
		for _, last := range [][]int{{0}, {5, -1}, {-5, 1, 19}, {100, 0, math.MaxInt, math.MinInt}, {-1}, {math.MinInt, 8}} {
			whole := append(slices.Clone(l), last)
			digest := Chain(whole)
			for at, n := range last {
				for _, other := range otherLastDigits(n) {
					whole[len(whole)-1] = changed(last, at, other)
					if Chain(whole) == digest {
						t.Errorf("chain %d and %v: it is the same with %d at %d", i, last, other, at)
					}
					checked++
				}
			}
		}
	}
	if checked < 2000 {
		t.Errorf("only %d were checked", checked)
	}
}

// P1, and the Rules: arguments are not changed, what is after them in their memory neither, and no state is kept.
func TestArgumentsAreKept(t *testing.T) {
	for round := range 2 {
		b, spare := withSpare(random(7, 500))
		ints, spareInts := withSpare([]int{5, -1, math.MinInt})
		l := [][]int{ints, nil, {0, 1}}
		sum, next, chain := Sum(b), Next(1, ints...), Chain(l)
		if !bytes.Equal(b, random(7, 500)) || !slices.Equal(ints, []int{5, -1, math.MinInt}) || len(l) != 3 || l[1] != nil || !slices.Equal(l[2], []int{0, 1}) {
			t.Errorf("round %d: an argument was changed", round)
		}
		if *spare != 0 || *spareInts != 0 {
			t.Errorf("round %d: what lies after an argument was changed", round)
		}
		if sum != Sum(b) || next != Next(1, ints...) || chain != Chain(l) || Sum(nil) != nothing {
			t.Errorf("round %d: a result is another one when asked again", round)
		}
	}
}

// withSpare returns a list with room behind it, and the zero that is there.
func withSpare[T any](l []T) ([]T, *T) {
	var zero T
	longer := append(slices.Clone(l), zero)
	return longer[:len(l)], &longer[len(l)]
}

// P1: large arguments.
func TestLarge(t *testing.T) {
	b := bytes.Repeat([]byte(strings.Repeat("partbook", 1000)), 250)
	if Sum(b) != reference(b) {
		t.Error("bytes")
	}
	l := slices.Repeat([]int{math.MinInt, 0, 77}, 100000)
	if Next(5, l...) != reference(spelled(5, l)) {
		t.Error("integers")
	}
	many := append(slices.Repeat([][]int{{1, 2}, nil, {-3}}, 50000), l)
	if Chain(many) != chained(many) {
		t.Error("lists")
	}
}
