package meter

import (
	"math"
	"math/big"
	"slices"
	"testing"

	"partbook/api"
	"partbook/ratio"
)

// rat returns a ratio as it is written.
func rat(n, d int) api.Rat { return api.Rat{N: n, D: d} }

// at returns a position.
func at(bar, n, d int) api.Position { return api.Position{Bar: bar, At: rat(n, d)} }

// parts returns the duration that has so many 1680th parts of a quarter, by unlimited numbers.
func parts(n int) api.Rat {
	r := big.NewRat(int64(n), 1680)
	return rat(int(r.Num().Int64()), int(r.Denom().Int64()))
}

// barsOf returns bars that have so many 1680th parts of a quarter, with the IDs from one on.
func barsOf(id int, lengths ...int) []api.Bar {
	l := []api.Bar{}
	for i, n := range lengths {
		l = append(l, api.Bar{ID: id + i, Length: parts(n), Key: i%15 - 7})
	}
	return l
}

// random returns so many numbers from 0 to before a limit, of a fixed sequence.
func random(seed uint64, n, limit int) []int {
	l := make([]int, n)
	for i := range l {
		seed = seed*6364136223846793005 + 1442695040888963407
		l[i] = int((seed ^ seed>>31) >> 8 % uint64(limit))
	}
	return l
}

// randomBars returns so many bars of all lengths, with the IDs from one on.
func randomBars(seed uint64, id, n int) []api.Bar {
	l := random(seed, n, 24*1680)
	for i := range l {
		l[i]++
	}
	return barsOf(id, l...)
}

// example returns the bars of the chapter.
func example() []api.Bar {
	return []api.Bar{{ID: 7, Length: rat(3, 1)}, {ID: 3, Length: rat(4, 1), Key: -7}, {ID: 1000000, Length: rat(3, 2), Key: 7}}
}

// few returns short lists of bars.
func few() [][]api.Bar {
	l := [][]api.Bar{
		example(),
		{{ID: 1, Length: rat(1, 1680)}},
		{{ID: 1000000, Length: rat(24, 1), Key: -7}},
		{{ID: 1, Length: rat(40319, 1680), Key: 7}, {ID: 1000000, Length: rat(1, 1680)}},
		{{ID: 2, Length: rat(24, 1)}, {ID: 1, Length: rat(24, 1)}},
		{{ID: 9, Length: rat(7, 16), Key: 3}, {ID: 8, Length: rat(5, 3)}, {ID: 7, Length: rat(11, 35)}, {ID: 6, Length: rat(13, 7)}},
		barsOf(1, slices.Repeat([]int{1}, 50)...),
	}
	for seed := range uint64(20) {
		l = append(l, randomBars(seed, 1+int(seed)*1000, 1+int(seed)))
	}
	return l
}

// many returns lists with very many bars.
func many() [][]api.Bar {
	return [][]api.Bar{
		barsOf(1, slices.Repeat([]int{24 * 1680}, 4000)...),
		barsOf(996001, slices.Repeat([]int{1}, 4000)...),
		randomBars(21, 1, 4000),
		randomBars(22, 500, 3999),
	}
}

// noBars returns lists that are no bars.
func noBars() [][]api.Bar {
	l := [][]api.Bar{
		nil, {}, {{}}, {{ID: 1}}, {{Length: rat(1, 1)}}, {{ID: 1, Length: rat(4, 1)}, {}},
		append(example(), example()...), append(example(), example()[0]), append(example(), example()[1]), append(example(), example()[2]),
		slices.Repeat([]api.Bar{{ID: 1, Length: rat(4, 1)}}, 2), slices.Repeat([]api.Bar{{ID: 1, Length: rat(4, 1)}}, 4000),
		{{ID: 5, Length: rat(1, 1), Key: 1}, {ID: 5, Length: rat(2, 1), Key: 2}},
		barsOf(1, slices.Repeat([]int{1680}, 4001)...), barsOf(1, slices.Repeat([]int{1}, 4002)...), barsOf(1, slices.Repeat([]int{1}, 20000)...), barsOf(996001, slices.Repeat([]int{1}, 4001)...),
	}
	wrong := []api.Bar{}
	for _, id := range []int{0, -1, -7, 1000001, 2000000, math.MaxInt, math.MinInt} {
		wrong = append(wrong, api.Bar{ID: id, Length: rat(4, 1)})
	}
	for _, key := range []int{-8, 8, -12, 100, math.MaxInt, math.MinInt} {
		wrong = append(wrong, api.Bar{ID: 2, Length: rat(4, 1), Key: key})
	}
	lengths := append(noDurations(), rat(0, 1), rat(25, 1), rat(40321, 1680), rat(49, 2), rat(1000000000, 1), rat(999999999, 560))
	for _, r := range lengths {
		wrong = append(wrong, api.Bar{ID: 2, Length: r})
	}
	for _, b := range wrong {
		for place := range 4 {
			l = append(l, slices.Insert(example(), place, b))
		}
		l = append(l, []api.Bar{b}, append(barsOf(3, slices.Repeat([]int{1680}, 3999)...), b))
	}
	return l
}

// noDurations returns ratios that are no durations.
func noDurations() []api.Rat {
	return []api.Rat{
		{}, rat(1, 0), rat(4, 0), rat(0, 2), rat(2, 2), rat(2, 4), rat(8, 2), rat(1680, 1680), rat(0, -1), rat(-1, -1), rat(1, -2), rat(4, -1), rat(-8, -2),
		rat(1, 9), rat(1, 11), rat(1, 32), rat(3, 25), rat(1, 49), rat(1, 1679), rat(1, 3360), rat(1, 1000000), rat(1, 1000001), rat(1000000001, 1), rat(3000000001, 1680),
		rat(-1, 1), rat(-1, 2), rat(-1, 1680), rat(-1000000000, 1), rat(math.MaxInt, 1), rat(math.MinInt, 1), rat(1, math.MaxInt), rat(1, math.MinInt), rat(math.MinInt, math.MinInt), rat(math.MinInt, -1), rat(math.MinInt, 1680),
	}
}

// noShifts returns ratios that are neither durations nor opposites of them.
func noShifts() []api.Rat {
	l := slices.DeleteFunc(noDurations(), func(r api.Rat) bool { return ratio.Valid(r) && 1680%r.D == 0 })
	for _, r := range slices.Clone(l) {
		l = append(l, opposite(r))
	}
	return l
}

// noPositions returns positions that are none in bars.
func noPositions(l []api.Bar) []api.Position {
	wrong := []api.Position{
		at(len(l), 1, 1680), at(len(l), 1, 1), at(len(l), -1, 1), at(len(l), 0, 0), at(len(l), 0, 2), at(len(l), 0, -1), at(len(l)+1, 0, 1), at(len(l)+1, 1, 2),
		at(-1, 0, 1), at(-1, 1, 1680), at(-1, -1, 1), at(math.MinInt, 0, 1), at(math.MaxInt, 0, 1), at(4001, 0, 1), at(-len(l), 0, 1),
	}
	for _, bar := range []int{0, len(l) / 2, len(l) - 1} {
		wrong = append(wrong, api.Position{Bar: bar, At: l[bar].Length}, at(bar, 24, 1), at(bar, 25, 1), at(bar, 1000000000, 1))
		for _, r := range noDurations() {
			wrong = append(wrong, api.Position{Bar: bar, At: r})
		}
	}
	return wrong
}

// number returns a ratio as an unlimited number.
func number(r api.Rat) *big.Rat { return big.NewRat(int64(r.N), int64(r.D)) }

// timed returns the time of a position by unlimited numbers.
func timed(l []api.Bar, p api.Position) *big.Rat {
	sum := number(p.At)
	for _, b := range l[:p.Bar] {
		sum.Add(sum, number(b.Length))
	}
	return sum
}

// placed returns the position that has a time by unlimited numbers, and whether there is one.
func placed(l []api.Bar, time *big.Rat) (api.Position, bool) {
	left := new(big.Rat).Set(time)
	if left.Sign() < 0 {
		return api.Position{}, false
	}
	for i, b := range l {
		if left.Cmp(number(b.Length)) < 0 {
			return at(i, int(left.Num().Int64()), int(left.Denom().Int64())), true
		}
		left.Sub(left, number(b.Length))
	}
	return at(len(l), 0, 1), left.Sign() == 0
}

// positions returns places of bars, in order: of each bar, or of some if there are many, its beginning, its last position and some between; and the end.
func positions(l []api.Bar) []api.Position {
	places := []api.Position{}
	for i := 0; i < len(l); i += 1 + len(l)/20 {
		last := l[i].Length.N*(1680/l[i].Length.D) - 1
		inside := append(random(uint64(i), 4, last+1), 0, last/2, last)
		slices.Sort(inside)
		for _, n := range slices.Compact(inside) {
			places = append(places, api.Position{Bar: i, At: parts(n)})
		}
	}
	last := api.Position{Bar: len(l) - 1, At: parts(l[len(l)-1].Length.N*(1680/l[len(l)-1].Length.D) - 1)}
	if places[len(places)-1] != last {
		places = append(places, last)
	}
	return append(places, at(len(l), 0, 1))
}

// checkPosition checks the time of a position, and that it is found again.
func checkPosition(t *testing.T, l []api.Bar, p api.Position) {
	t.Helper()
	time, e := Time(l, p)
	if e != api.OK || !ratio.Valid(time) || number(time).Cmp(timed(l, p)) != 0 {
		t.Fatalf("%d bars: %v has the time %v, %v", len(l), p, time, e)
	}
	if back, e := Where(l, time); back != p || e != api.OK {
		t.Fatalf("%d bars: %v, %v has the time %v of %v", len(l), back, e, time, p)
	}
}

// checkShift checks a shift against unlimited numbers.
func checkShift(t *testing.T, l []api.Bar, p api.Position, by api.Rat) {
	t.Helper()
	want, ok := placed(l, new(big.Rat).Add(timed(l, p), number(by)))
	q, e := Shift(l, p, by)
	switch {
	case ok && (q != want || e != api.OK):
		t.Fatalf("%d bars: %v by %v: %v, %v instead of %v", len(l), p, by, q, e, want)
	case !ok && (q != api.Position{} || e != api.ErrRange):
		t.Fatalf("%d bars: %v by %v: %v, %v instead of ErrRange", len(l), p, by, q, e)
	}
}

// less returns the difference of two ratios.
func less(t *testing.T, a, b api.Rat) api.Rat {
	t.Helper()
	r, e := ratio.Sub(a, b)
	if e != api.OK {
		t.Fatalf("%v - %v: %v", a, b, e)
	}
	return r
}

// timesOf returns the times of positions.
func timesOf(t *testing.T, l []api.Bar, places []api.Position) []api.Rat {
	t.Helper()
	times := []api.Rat{}
	for _, p := range places {
		time, e := Time(l, p)
		if e != api.OK {
			t.Fatalf("%d bars: %v: %v", len(l), p, e)
		}
		times = append(times, time)
	}
	return times
}

// opposite returns the opposite of a ratio.
func opposite(r api.Rat) api.Rat { return rat(-r.N, r.D) }

// P6.1: the examples of the chapter.
func TestExamples(t *testing.T) {
	l := example()
	if !Valid(l) {
		t.Error("no bars")
	}
	if r, e := Total(l); r != rat(17, 2) || e != api.OK {
		t.Errorf("total: %v, %v", r, e)
	}
	if r, e := Time(l, at(1, 1, 2)); r != rat(7, 2) || e != api.OK {
		t.Errorf("time: %v, %v", r, e)
	}
	if p, e := Where(l, rat(7, 1)); p != at(2, 0, 1) || e != api.OK {
		t.Errorf("where 7 is: %v, %v", p, e)
	}
	if p, e := Where(l, rat(17, 2)); p != at(3, 0, 1) || e != api.OK {
		t.Errorf("where the end is: %v, %v", p, e)
	}
	if p, e := Shift(l, at(2, 1, 1), rat(-5, 1)); p != at(1, 0, 1) || e != api.OK {
		t.Errorf("shift: %v, %v", p, e)
	}
}

// P6.1, F1: bars, with the limits of their number, IDs, Lengths and Keys.
func TestValid(t *testing.T) {
	for i, l := range append(few(), many()...) {
		if !Valid(l) {
			t.Errorf("list %d of %d bars is invalid", i, len(l))
		}
	}
	for key := -7; key <= 7; key++ {
		if !Valid([]api.Bar{{ID: 4, Length: rat(4, 1), Key: key}}) {
			t.Errorf("the key %d is invalid", key)
		}
	}
	for _, id := range []int{1, 2, 999999, 1000000} {
		if !Valid([]api.Bar{{ID: id, Length: rat(4, 1)}}) {
			t.Errorf("the ID %d is invalid", id)
		}
	}
	for n := 1; n <= 24*1680; n++ {
		if !Valid([]api.Bar{{ID: 1, Length: parts(n)}}) {
			t.Fatalf("the length %v is invalid", parts(n))
		}
	}
	for d := 1; d <= 2000; d++ {
		if got := Valid([]api.Bar{{ID: 1, Length: rat(1, d)}}); got != (1680%d == 0) {
			t.Errorf("the length 1 / %d: %v", d, got)
		}
	}
}

// P6.1, F1: what bars have twice but may have twice.
func TestAlikeBars(t *testing.T) {
	if !Valid([]api.Bar{{ID: 1, Length: rat(4, 1), Key: 2}, {ID: 2, Length: rat(4, 1), Key: 2}, {ID: 3, Length: rat(4, 1), Key: 2}}) {
		t.Error("bars with different IDs, alike in all else, are invalid")
	}
}

// P6.1: no bars are refused by all functions, whatever else they are given.
func TestNoBars(t *testing.T) {
	for i, l := range noBars() {
		if Valid(l) {
			t.Errorf("list %d of %d bars is valid", i, len(l))
		}
		if r, e := Total(l); r != (api.Rat{}) || e != api.ErrArg {
			t.Errorf("list %d, total: %v, %v", i, r, e)
		}
		for _, p := range []api.Position{at(0, 0, 1), at(len(l), 0, 1), at(1, 1, 2), at(-1, 0, 1), {}} {
			if r, e := Time(l, p); r != (api.Rat{}) || e != api.ErrArg {
				t.Errorf("list %d, time of %v: %v, %v", i, p, r, e)
			}
			for _, by := range []api.Rat{rat(0, 1), rat(1, 1), rat(-1, 1), rat(1000000000, 1), rat(1, 9), {}} {
				if q, e := Shift(l, p, by); q != (api.Position{}) || e != api.ErrArg {
					t.Errorf("list %d, %v shifted by %v: %v, %v", i, p, by, q, e)
				}
			}
		}
		for _, time := range []api.Rat{rat(0, 1), rat(1, 2), rat(1000000000, 1), rat(-1, 1), rat(1, 9), {}} {
			if p, e := Where(l, time); p != (api.Position{}) || e != api.ErrArg {
				t.Errorf("list %d, where %v is: %v, %v", i, time, p, e)
			}
		}
	}
}

// P6.1, F2, and P6.4: totals against unlimited numbers; the end has the total time.
func TestTotal(t *testing.T) {
	for i, l := range append(few(), many()...) {
		r, e := Total(l)
		if e != api.OK || !ratio.Valid(r) || number(r).Cmp(timed(l, at(len(l), 0, 1))) != 0 {
			t.Errorf("list %d: %v, %v", i, r, e)
		}
		if time, e := Time(l, at(len(l), 0, 1)); time != r || e != api.OK {
			t.Errorf("list %d: the end has the time %v, %v instead of %v", i, time, e, r)
		}
	}
	if r, e := Total(many()[0]); r != rat(96000, 1) || e != api.OK {
		t.Errorf("the longest bars: %v, %v", r, e)
	}
	if r, e := Total(many()[1]); r != rat(50, 21) || e != api.OK {
		t.Errorf("4000 of the shortest bars: %v, %v", r, e)
	}
}

// P6.1, F3 and F4, and P6.2: positions against unlimited numbers, there and back.
func TestPositions(t *testing.T) {
	for _, l := range append(few(), many()...) {
		for _, p := range positions(l) {
			checkPosition(t, l, p)
		}
	}
}

// P6.1, F4, and P6.2: all times of some bars, back and there.
func TestTimes(t *testing.T) {
	for _, l := range [][]api.Bar{example(), few()[1], few()[3], few()[5], few()[6], randomBars(23, 1, 2)} {
		end, _ := Total(l)
		for n := 0; n <= end.N*(1680/end.D); n++ {
			time := parts(n)
			want, ok := placed(l, number(time))
			p, e := Where(l, time)
			if !ok || p != want || e != api.OK {
				t.Fatalf("%v is at %v, %v instead of %v", time, p, e, want)
			}
			if back, e := Time(l, p); back != time || e != api.OK {
				t.Fatalf("%v has the time %v, %v instead of %v", p, back, e, time)
			}
		}
	}
	for i, l := range append(few(), many()...) {
		end, _ := Total(l)
		for _, n := range random(uint64(i), 50, end.N*(1680/end.D)+1) {
			p, e := Where(l, parts(n))
			back, f := Time(l, p)
			if back != parts(n) || e != api.OK || f != api.OK {
				t.Fatalf("list %d: %v is at %v, %v, with the time %v, %v", i, parts(n), p, e, back, f)
			}
		}
	}
}

// P6.1, F4: the borders of bars: the first position, the last one of a bar, the first one of the next, and the end.
func TestBorders(t *testing.T) {
	for _, x := range []struct {
		time api.Rat
		want api.Position
	}{
		{rat(0, 1), at(0, 0, 1)}, {rat(1, 1680), at(0, 1, 1680)}, {rat(5039, 1680), at(0, 5039, 1680)}, {rat(3, 1), at(1, 0, 1)}, {rat(5041, 1680), at(1, 1, 1680)},
		{rat(11759, 1680), at(1, 6719, 1680)}, {rat(7, 1), at(2, 0, 1)}, {rat(14279, 1680), at(2, 2519, 1680)}, {rat(17, 2), at(3, 0, 1)},
	} {
		if p, e := Where(example(), x.time); p != x.want || e != api.OK {
			t.Errorf("%v is at %v, %v instead of %v", x.time, p, e, x.want)
		}
		if r, e := Time(example(), x.want); r != x.time || e != api.OK {
			t.Errorf("%v has the time %v, %v instead of %v", x.want, r, e, x.time)
		}
	}
}

// P6.1, F3: what is no position is refused.
func TestNoPositions(t *testing.T) {
	for i, l := range append(few(), many()[0]) {
		for _, p := range noPositions(l) {
			if r, e := Time(l, p); r != (api.Rat{}) || e != api.ErrArg {
				t.Errorf("list %d: %v has the time %v, %v", i, p, r, e)
			}
		}
	}
}

// P6.1, F4: what is no duration is refused, and then what is later than the end.
func TestNoTimes(t *testing.T) {
	for i, l := range append(few(), many()...) {
		for _, time := range noDurations() {
			if p, e := Where(l, time); p != (api.Position{}) || e != api.ErrArg {
				t.Errorf("list %d: %v is at %v, %v", i, time, p, e)
			}
		}
		end, _ := Total(l)
		past := end.N*(1680/end.D) + 1
		for _, time := range []api.Rat{parts(past), parts(past + 1), parts(past + 40000), rat(96001, 1), rat(161280001, 1680), rat(480000, 1), rat(1000000000, 1), rat(999999999, 560), rat(999999991, 1680)} {
			if p, e := Where(l, time); p != (api.Position{}) || e != api.ErrRange {
				t.Errorf("list %d: %v is at %v, %v", i, time, p, e)
			}
		}
	}
}

// P6.1, F5, and P6.6: from each of some positions to each other one, against unlimited numbers, and back.
func TestShift(t *testing.T) {
	for _, l := range append(few()[:12], many()...) {
		places := positions(l)
		step := 1 + len(places)/15
		for i := 0; i < len(places); i += step {
			for k := len(places) - 1; k >= 0; k -= step {
				times := timesOf(t, l, []api.Position{places[i], places[k]})
				by := less(t, times[1], times[0])
				if q, e := Shift(l, places[i], by); q != places[k] || e != api.OK {
					t.Fatalf("%d bars: %v by %v: %v, %v instead of %v", len(l), places[i], by, q, e, places[k])
				}
				if q, e := Shift(l, places[k], opposite(by)); q != places[i] || e != api.OK {
					t.Fatalf("%d bars: %v back by %v: %v, %v instead of %v", len(l), places[k], by, q, e, places[i])
				}
			}
		}
	}
}

// P6.1, F5: shifts of all sizes, to the end, to the beginning, and past both.
func TestShiftPast(t *testing.T) {
	for _, l := range append(few(), many()[:3]...) {
		end, _ := Total(l)
		places := positions(l)
		for i := 0; i < len(places); i += 1 + len(places)/5 {
			time, _ := Time(l, places[i])
			toEnd, toBegin := less(t, end, time), opposite(time)
			checkShift(t, l, places[i], rat(0, 1))
			checkShift(t, l, places[i], toEnd)
			checkShift(t, l, places[i], toBegin)
			for _, by := range []api.Rat{rat(1, 1680), rat(1, 2), rat(1, 1), rat(24, 1), rat(96000, 1), rat(1000000000, 1), rat(999999999, 560), rat(999999991, 1680)} {
				checkShift(t, l, places[i], by)
				checkShift(t, l, places[i], opposite(by))
				if by.N > 1000000 {
					continue
				}
				past, _ := ratio.Add(toEnd, by)
				before, _ := ratio.Sub(toBegin, by)
				checkShift(t, l, places[i], past)
				checkShift(t, l, places[i], before)
				checkShift(t, l, places[i], less(t, toEnd, by))
				checkShift(t, l, places[i], opposite(less(t, time, by)))
			}
		}
	}
	for _, x := range []struct {
		p    api.Position
		by   api.Rat
		want api.Position
		e    api.Errno
	}{
		{at(2, 1, 1), rat(1, 2), at(3, 0, 1), api.OK}, {at(2, 1, 1), rat(841, 1680), api.Position{}, api.ErrRange},
		{at(2, 1, 1), rat(-8, 1), at(0, 0, 1), api.OK}, {at(2, 1, 1), rat(-13441, 1680), api.Position{}, api.ErrRange},
		{at(3, 0, 1), rat(0, 1), at(3, 0, 1), api.OK}, {at(3, 0, 1), rat(-1, 1680), at(2, 2519, 1680), api.OK}, {at(3, 0, 1), rat(-17, 2), at(0, 0, 1), api.OK},
		{at(3, 0, 1), rat(1, 1680), api.Position{}, api.ErrRange}, {at(0, 0, 1), rat(-1, 1680), api.Position{}, api.ErrRange}, {at(0, 0, 1), rat(17, 2), at(3, 0, 1), api.OK},
		{at(0, 0, 1), rat(-3, 1), api.Position{}, api.ErrRange}, {at(0, 5039, 1680), rat(1, 1680), at(1, 0, 1), api.OK}, {at(1, 0, 1), rat(-1, 1680), at(0, 5039, 1680), api.OK},
	} {
		if q, e := Shift(example(), x.p, x.by); q != x.want || e != x.e {
			t.Errorf("%v by %v: %v, %v instead of %v, %v", x.p, x.by, q, e, x.want, x.e)
		}
	}
}

// P6.1, F5: what is no position, and what is neither a duration nor the opposite of one, is refused before what is past the bars.
func TestShiftRefuses(t *testing.T) {
	shifts := []api.Rat{rat(0, 1), rat(1, 1), rat(-1, 1), rat(1000000000, 1), rat(-1000000000, 1), rat(1, 9)}
	for i, l := range append(few(), many()[0]) {
		for _, p := range noPositions(l) {
			for _, by := range shifts {
				if q, e := Shift(l, p, by); q != (api.Position{}) || e != api.ErrArg {
					t.Errorf("list %d: %v by %v: %v, %v", i, p, by, q, e)
				}
			}
		}
		for _, by := range noShifts() {
			for _, p := range []api.Position{at(0, 0, 1), at(len(l)-1, 0, 1), at(len(l), 0, 1), at(-1, 0, 1)} {
				if q, e := Shift(l, p, by); q != (api.Position{}) || e != api.ErrArg {
					t.Errorf("list %d: %v by %v: %v, %v", i, p, by, q, e)
				}
			}
		}
	}
}

// P6.3: of two positions the earlier one has the lesser time.
func TestOrder(t *testing.T) {
	for i, l := range append(few(), many()...) {
		places := positions(l)
		times := timesOf(t, l, places)
		for k := range places[1:] {
			if order, e := ratio.Compare(times[k], times[k+1]); order != -1 || e != api.OK {
				t.Errorf("list %d: %v has the time %v, and %v %v", i, places[k], times[k], places[k+1], times[k+1])
			}
		}
		for k := 1; k < len(places); k += 7 {
			for n := range k {
				if order, e := ratio.Compare(times[n], times[k]); order != -1 || e != api.OK {
					t.Errorf("list %d: %v has the time %v, and %v %v", i, places[n], times[n], places[k], times[k])
				}
			}
		}
	}
}

// P6.4: the next bar begins as much later as the bar is long, and the first one at 0; the end has the total time.
func TestNextBars(t *testing.T) {
	for i, l := range append(few(), many()...) {
		end, _ := Total(l)
		if first, e := Time(l, at(0, 0, 1)); first != rat(0, 1) || e != api.OK {
			t.Errorf("list %d begins at %v, %v", i, first, e)
		}
		for bar := range l {
			if len(l) > 100 && bar%40 != 0 && bar < len(l)-10 {
				continue
			}
			times := timesOf(t, l, []api.Position{at(bar, 0, 1), at(bar+1, 0, 1)})
			if long := less(t, times[1], times[0]); long != l[bar].Length {
				t.Errorf("list %d: the bar %d takes %v instead of %v", i, bar, long, l[bar].Length)
			}
			if next, e := Shift(l, at(bar, 0, 1), l[bar].Length); next != at(bar+1, 0, 1) || e != api.OK {
				t.Errorf("list %d: behind the bar %d is %v, %v", i, bar, next, e)
			}
			if bar == len(l)-1 && times[1] != end {
				t.Errorf("list %d: the end is at %v instead of %v", i, times[1], end)
			}
		}
	}
}

// P6.5: bars one behind the other: totals are added, positions of the first ones stay, and those of the second ones are as much later.
func TestBehind(t *testing.T) {
	for _, x := range [][2][]api.Bar{
		{example(), {{ID: 1, Length: rat(1, 1680)}}}, {{{ID: 1, Length: rat(24, 1)}}, example()}, {barsOf(1, 1), barsOf(2, 24*1680)},
		{randomBars(1, 1, 10), randomBars(2, 11, 20)}, {randomBars(3, 500, 1), randomBars(4, 1, 50)}, {randomBars(5, 1, 2000), randomBars(6, 2001, 2000)},
		{barsOf(1, slices.Repeat([]int{24 * 1680}, 3999)...), barsOf(4000, 24*1680)}, {barsOf(1, 1), barsOf(2, slices.Repeat([]int{24 * 1680}, 3999)...)},
	} {
		both := slices.Concat(x[0], x[1])
		first, _ := Total(x[0])
		second, _ := Total(x[1])
		want, _ := ratio.Add(first, second)
		if r, e := Total(both); r != want || e != api.OK {
			t.Errorf("%d and %d bars: %v, %v instead of %v", len(x[0]), len(x[1]), r, e, want)
		}
		for _, p := range positions(x[0]) {
			times := timesOf(t, x[0], []api.Position{p})
			if r, e := Time(both, p); r != times[0] || e != api.OK {
				t.Errorf("%d and %d bars: %v has the time %v, %v instead of %v", len(x[0]), len(x[1]), p, r, e, times[0])
			}
		}
		for _, p := range positions(x[1]) {
			times := timesOf(t, x[1], []api.Position{p})
			later, _ := ratio.Add(first, times[0])
			p.Bar += len(x[0])
			if r, e := Time(both, p); r != later || e != api.OK {
				t.Errorf("%d and %d bars: %v has the time %v, %v instead of %v", len(x[0]), len(x[1]), p, r, e, later)
			}
		}
	}
}

// P6.6: two shifts make one, as long as all positions exist.
func TestTwoShifts(t *testing.T) {
	for i, l := range append(few(), many()[2:]...) {
		end, _ := Total(l)
		sizes := random(uint64(i), 6, end.N*(1680/end.D)+1)
		places := positions(l)
		for k := 0; k < len(places); k += 1 + len(places)/6 {
			for _, a := range sizes {
				for _, b := range sizes {
					checkTwoShifts(t, l, places[k], parts(a), parts(-b))
					checkTwoShifts(t, l, places[k], parts(-a), parts(b))
				}
			}
			checkTwoShifts(t, l, places[k], parts(sizes[0]/3), parts(sizes[1]/3))
			checkTwoShifts(t, l, places[k], parts(-sizes[0]/3), parts(-sizes[1]/3))
		}
	}
}

// checkTwoShifts checks two shifts against one.
func checkTwoShifts(t *testing.T, l []api.Bar, p api.Position, a, b api.Rat) {
	t.Helper()
	middle, e := Shift(l, p, a)
	if e != api.OK {
		return
	}
	if back, e := Shift(l, middle, opposite(a)); back != p || e != api.OK {
		t.Fatalf("%v by %v and back: %v, %v", p, a, back, e)
	}
	both, _ := ratio.Add(a, b)
	twice, e := Shift(l, middle, b)
	once, f := Shift(l, p, both)
	if twice != once || e != f {
		t.Fatalf("%v by %v and by %v: %v, %v; at once: %v, %v", p, a, b, twice, e, once, f)
	}
}

// P1: arguments are left as they are, and what was asked before plays no part.
func TestMemory(t *testing.T) {
	l := randomBars(30, 1, 20)
	kept := slices.Clone(l)
	first, _ := Total(l)
	Time(l, at(3, 0, 1))
	Where(l, rat(5, 1))
	Shift(l, at(3, 0, 1), rat(5, 1))
	if !slices.Equal(l, kept) {
		t.Error("the bars were changed")
	}
	Total(example())
	l[0].Length = rat(0, 1)
	if Valid(l) {
		t.Error("a length that was changed is not seen")
	}
	l[0] = kept[0]
	if again, e := Total(l); again != first || e != api.OK {
		t.Errorf("%v, %v instead of %v", again, e, first)
	}
	room := slices.Clone(kept)[:5]
	if r, e := Total(room); number(r).Cmp(timed(room, at(5, 0, 1))) != 0 || e != api.OK {
		t.Errorf("bars behind those that count play a part: %v, %v", r, e)
	}
}
