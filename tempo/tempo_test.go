package tempo_test

import (
	"math"
	"math/big"
	"slices"
	"testing"

	"partbook/api"
	"partbook/meter"
	"partbook/ratio"
	"partbook/reprise"
	"partbook/tempo"
)

// piece is bars with tempos for them.
type piece struct {
	bars   []api.Bar
	tempos []api.Tempo
}

// rat returns a ratio as it is written.
func rat(n, d int) api.Rat { return api.Rat{N: n, D: d} }

// at returns a position, or what is none.
func at(bar, n, d int) api.Position { return api.Position{Bar: bar, At: rat(n, d)} }

// slow returns a tempo, or what is none.
func slow(bar, n, d int) api.Tempo { return api.Tempo{Bar: bar, Quarter: rat(n, d)} }

// number returns a ratio as an unlimited number.
func number(r api.Rat) *big.Rat { return big.NewRat(int64(r.N), int64(r.D)) }

// reduced returns the ratio n / d by unlimited numbers.
func reduced(n, d int) api.Rat {
	r := big.NewRat(int64(n), int64(d))
	return rat(int(r.Num().Int64()), int(r.Denom().Int64()))
}

// units returns the number of 1680th parts of a quarter that a duration has.
func units(r api.Rat) int { return r.N * (1680 / r.D) }

// dice returns a function that returns numbers from 0 to before a limit, of a fixed sequence.
func dice(seed uint64) func(limit int) int {
	return func(limit int) int {
		seed = seed*6364136223846793005 + 1442695040888963407
		return int((seed ^ seed>>31) >> 8 % uint64(limit))
	}
}

// barsOf returns bars that have so many 1680th parts of a quarter.
func barsOf(lengths ...int) []api.Bar {
	l := []api.Bar{}
	for i, n := range lengths {
		l = append(l, api.Bar{ID: 1000000 - i, Length: reduced(n, 1680), Key: i%15 - 7})
	}
	return l
}

// plain returns so many bars of 4 quarters.
func plain(n int) []api.Bar { return barsOf(slices.Repeat([]int{4 * 1680}, n)...) }

// longest returns so many bars of 24 quarters.
func longest(n int) []api.Bar { return barsOf(slices.Repeat([]int{24 * 1680}, n)...) }

// temposOf returns so many tempos of all sizes, of bars that follow each other by a step.
func temposOf(n, step int) []api.Tempo {
	l := []api.Tempo{}
	for i := range n {
		l = append(l, api.Tempo{Bar: i * step, Quarter: reduced(1+i*7%600, 60)})
	}
	return l
}

// anyPiece returns so many bars, with at most so many tempos.
func anyPiece(seed uint64, bars, tempos int) piece {
	roll := dice(seed)
	lengths := []int{}
	for range bars {
		lengths = append(lengths, 1+roll(24*1680))
	}
	p := piece{barsOf(lengths...), []api.Tempo{{Quarter: reduced(1+roll(600), 60)}}}
	for bar := 1; bar < bars && len(p.tempos) < tempos; bar += 1 + roll(1+3*bars/tempos) {
		p.tempos = append(p.tempos, api.Tempo{Bar: bar, Quarter: reduced(1+roll(600), 60)})
	}
	return p
}

// example returns the bars and tempos of the chapter.
func example() piece { return piece{plain(3), []api.Tempo{slow(0, 1, 1), slow(2, 1, 2)}} }

// few returns short pieces.
func few() []piece {
	l := []piece{
		example(),
		{barsOf(1), []api.Tempo{slow(0, 1, 60)}},
		{barsOf(24 * 1680), []api.Tempo{slow(0, 10, 1)}},
		{barsOf(24*1680, 1), []api.Tempo{slow(0, 599, 60), slow(1, 1, 60)}},
		{barsOf(1, 24*1680), []api.Tempo{slow(0, 7, 12), slow(1, 7, 12)}},
		{plain(7), []api.Tempo{slow(0, 2, 3), slow(1, 5, 4), slow(2, 10, 1), slow(3, 1, 30), slow(4, 13, 20), slow(5, 17, 15), slow(6, 3, 10)}},
		{plain(7), []api.Tempo{slow(0, 2, 3), slow(6, 5, 4)}},
		{plain(9), []api.Tempo{slow(0, 1, 2)}},
	}
	for seed := range uint64(25) {
		l = append(l, anyPiece(seed, 1+int(seed), 1+int(seed)/2))
	}
	return l
}

// many returns pieces at the limits of bars and tempos, of which some take longer than a valid ratio can say.
func many() []piece {
	last := append(temposOf(999, 1), slow(3999, 3, 2))
	return []piece{
		{longest(4000), []api.Tempo{slow(0, 10, 1)}},
		{plain(4000), temposOf(1000, 4)},
		{plain(4000), last},
		{plain(1000), temposOf(1000, 1)},
		anyPiece(100, 4000, 1000),
		anyPiece(101, 3999, 17),
	}
}

// inForce returns the tempo of a bar, by the words of the chapter.
func inForce(l []api.Tempo, bar int) api.Rat {
	quarter := api.Rat{}
	for _, t := range l {
		if t.Bar <= bar {
			quarter = t.Quarter
		}
	}
	return quarter
}

// spent returns how long a part of a bar takes, by unlimited numbers.
func spent(p piece, bar int, from, until api.Rat) *big.Rat {
	long := new(big.Rat).Sub(number(until), number(from))
	return long.Mul(long, number(inForce(p.tempos, bar)))
}

// lasting returns how long it takes from a position to a later one, by unlimited numbers.
func lasting(p piece, from, until api.Position) *big.Rat {
	sum := new(big.Rat)
	for bar := from.Bar; bar <= min(until.Bar, len(p.bars)-1); bar++ {
		first, last := rat(0, 1), p.bars[bar].Length
		if bar == from.Bar {
			first = from.At
		}
		if bar == until.Bar {
			last = until.At
		}
		sum.Add(sum, spent(p, bar, first, last))
	}
	return sum
}

// visited returns how long the bars of visits take, by unlimited numbers.
func visited(p piece, l []api.Visit) *big.Rat {
	sum := new(big.Rat)
	for _, v := range l {
		sum.Add(sum, spent(p, v.Bar, rat(0, 1), p.bars[v.Bar].Length))
	}
	return sum
}

// expected returns the valid ratio that is an unlimited number, or ErrRange.
func expected(r *big.Rat) (api.Rat, api.Errno) {
	if r.Num().CmpAbs(big.NewInt(1000000000)) > 0 || r.Denom().Cmp(big.NewInt(1000000)) > 0 {
		return api.Rat{}, api.ErrRange
	}
	return rat(int(r.Num().Int64()), int(r.Denom().Int64())), api.OK
}

// places returns positions, in order: of each bar, or of some if there are many, its beginning, its last position and some between; and the end.
func places(bars []api.Bar) []api.Position {
	l := []api.Position{}
	for i := 0; i < len(bars); i += 1 + len(bars)/15 {
		last, roll := units(bars[i].Length)-1, dice(uint64(i))
		inside := []int{0, last, roll(last + 1), roll(last + 1)}
		slices.Sort(inside)
		for _, n := range slices.Compact(inside) {
			l = append(l, api.Position{Bar: i, At: reduced(n, 1680)})
		}
	}
	return append(l, at(len(bars), 0, 1))
}

// noPositions returns what is no position in bars.
func noPositions(bars []api.Bar) []api.Position {
	n := len(bars)
	wrong := []api.Position{
		at(n, 1, 1680), at(n, 1, 1), at(n, -1, 1), at(n, 0, 0), at(n, 0, 2), at(n+1, 0, 1), at(n+1, 1, 2), at(4001, 0, 1),
		at(-1, 0, 1), at(-1, 1, 1680), at(-n, 0, 1), at(math.MinInt, 0, 1), at(math.MaxInt, 0, 1), at(math.MaxInt, math.MaxInt, math.MaxInt),
	}
	for _, bar := range []int{0, n - 1} {
		wrong = append(wrong, api.Position{Bar: bar, At: bars[bar].Length}, api.Position{Bar: bar}, at(bar, 24, 1), at(bar, 1000000000, 1), at(bar, -1, 1), at(bar, -1, 1680), at(bar, 0, -1), at(bar, 2, 3360), at(bar, 1, 3360), at(bar, 1, 100800), at(bar, 1, 0), at(bar, math.MinInt, 1), at(bar, 1, math.MinInt))
	}
	return wrong
}

// noQuarters returns what no quarter can take.
func noQuarters() []api.Rat {
	return []api.Rat{
		{}, rat(0, 1), rat(-1, 1), rat(-1, 2), rat(-1, 60), rat(-10, 1), rat(11, 1), rat(21, 2), rat(601, 60), rat(301, 30), rat(1000000000, 1), rat(-1000000000, 1),
		rat(1, 7), rat(1, 8), rat(3, 8), rat(1, 9), rat(1, 16), rat(1, 40), rat(1, 120), rat(1, 1680), rat(1, 61), rat(1, 1000000), rat(7, 59), rat(9999999, 1000000),
		rat(2, 2), rat(2, 4), rat(60, 60), rat(10, 60), rat(0, 60), rat(0, 0), rat(1, 0), rat(10, 0), rat(1, -1), rat(-1, -1), rat(-1, -2), rat(1, -60),
		rat(1000000001, 1), rat(1, 1000001), rat(math.MaxInt, 1), rat(math.MinInt, 1), rat(1, math.MaxInt), rat(1, math.MinInt), rat(math.MinInt, math.MinInt), rat(math.MaxInt, math.MaxInt), rat(math.MinInt, -1), rat(math.MaxInt/10+1, math.MaxInt/10+1),
	}
}

// noBars returns lists that are no bars, some of them with tempos that would be well-formed for bars.
func noBars() []piece {
	l := []piece{
		{nil, []api.Tempo{slow(0, 1, 1)}}, {nil, nil}, {[]api.Bar{}, []api.Tempo{slow(0, 1, 1)}}, {plain(4001), []api.Tempo{slow(0, 1, 1)}}, {plain(4001), temposOf(1000, 4)},
		{append(plain(3), plain(1)...), example().tempos},
	}
	for _, b := range []api.Bar{{}, {ID: 1}, {Length: rat(4, 1)}, {ID: 1000001, Length: rat(4, 1)}, {ID: 1, Length: rat(25, 1)}, {ID: 1, Length: rat(8, 2)}, {ID: 1, Length: rat(1, 9)}, {ID: 1, Length: rat(-4, 1)}, {ID: 1, Length: rat(4, 1), Key: 8}, {ID: 1, Length: rat(4, 1), Key: -8}} {
		for place := range 4 {
			l = append(l, piece{slices.Insert(plain(3), place, b), example().tempos})
		}
	}
	return l
}

// noTempos returns bars with lists that are no tempos for them.
func noTempos() []piece {
	l := []piece{
		{plain(3), nil}, {plain(3), []api.Tempo{}}, {plain(3), []api.Tempo{{}}}, {plain(4000), temposOf(1001, 1)}, {plain(4000), temposOf(2000, 2)}, {plain(4000), temposOf(4000, 1)},
		{plain(1), []api.Tempo{slow(1, 1, 1)}}, {plain(3), []api.Tempo{slow(1, 1, 1)}}, {plain(3), []api.Tempo{slow(1, 1, 1), slow(2, 1, 1)}}, {plain(3), []api.Tempo{slow(-1, 1, 1), slow(1, 1, 1)}},
		{plain(3), []api.Tempo{slow(-1, 1, 1), slow(0, 1, 1), slow(1, 1, 1)}}, {plain(3), []api.Tempo{slow(0, 1, 1), slow(1, 1, 1), slow(1, 1, 2)}}, {plain(3), []api.Tempo{slow(0, 1, 1), slow(0, 1, 1)}}, {plain(3), []api.Tempo{slow(0, 1, 1), slow(2, 1, 1), slow(1, 1, 1)}},
		{plain(3), []api.Tempo{slow(0, 1, 1), slow(3, 1, 1)}}, {plain(3), temposOf(4, 1)}, {plain(999), temposOf(1000, 1)}, {plain(4000), append(temposOf(999, 4), slow(4000, 1, 1))},
		{plain(3), []api.Tempo{slow(0, 1, 1), slow(math.MaxInt, 1, 1)}}, {plain(3), []api.Tempo{slow(0, 1, 1), slow(math.MaxInt, 1, 1), slow(math.MinInt, 1, 1)}}, {plain(3), []api.Tempo{slow(0, 1, 1), slow(math.MinInt, 1, 1)}}, {plain(3), []api.Tempo{slow(math.MinInt, 1, 1)}},
	}
	for _, r := range noQuarters() {
		for place := range 3 {
			tempos := temposOf(3, 1)
			tempos[place].Quarter = r
			l = append(l, piece{plain(3), tempos})
		}
		l = append(l, piece{plain(3), []api.Tempo{{Quarter: r}}}, piece{plain(4000), append(temposOf(999, 4), api.Tempo{Bar: 3999, Quarter: r})})
	}
	return l
}

// straight returns the form of so many bars, one after the other.
func straight(bars int) api.Form { return api.Form{Bars: bars} }

// cuts returns a cut of the bars from an index on, on a pass.
func cuts(from, until, pass int) []api.Cut {
	return []api.Cut{{From: from, Until: until, Pass: pass}}
}

// rich returns a form of 8 bars with all that a form can have; it plays 0 1 2 3 4 2 3 5 6 7 0 1 but for the second 2 and 3.
func rich() api.Form {
	return api.Form{Bars: 8, Repeats: []api.Repeat{{From: 2, Until: 6, Times: 2}}, Endings: []api.Ending{{From: 4, Until: 5, Pass: 1}, {From: 5, Until: 6, Pass: 2}}, Jump: api.Jump{At: 8, Fine: 2}, Cuts: cuts(2, 4, 2)}
}

// anyForm returns a form of so many bars that is well-formed: one of many tries.
func anyForm(seed uint64, bars int) api.Form {
	roll := dice(seed)
	span := func() (int, int) {
		from := roll(bars)
		return from, from + 1 + roll(bars-from)
	}
	for {
		f := straight(bars)
		from, until := span()
		f.Repeats = []api.Repeat{{From: from, Until: until, Times: 1 + roll(4)}}
		from, until = span()
		f.Endings = []api.Ending{{From: from, Until: until, Pass: 1 + roll(3)}}
		f.Jump = api.Jump{At: 1 + roll(bars), To: roll(bars), Fine: 1 + roll(bars)}
		from, until = span()
		f.Cuts = cuts(from, until, roll(4))
		if roll(3) == 0 {
			f.Endings = nil
		}
		if roll(3) == 0 {
			f.Jump = api.Jump{}
		}
		if reprise.Valid(f) {
			return f
		}
	}
}

// formsOf returns forms of so many bars.
func formsOf(bars int) []api.Form {
	l := []api.Form{straight(bars), {Bars: bars, Repeats: []api.Repeat{{Until: bars, Times: 3}}}, {Bars: bars, Cuts: cuts(0, bars, 0)}}
	for seed := range uint64(8) {
		l = append(l, anyForm(seed, bars))
	}
	return l
}

// order returns the order of a form.
func order(t *testing.T, f api.Form) []api.Visit {
	t.Helper()
	l, e := reprise.Unfold(f)
	if e != api.OK {
		t.Fatalf("%v has no order: %v", f, e)
	}
	return l
}

// checkSeconds checks how long it takes from a position to a later one against unlimited numbers.
func checkSeconds(t *testing.T, p piece, from, until api.Position) api.Errno {
	t.Helper()
	want, e := expected(lasting(p, from, until))
	if got, f := tempo.Seconds(p.bars, p.tempos, from, until); got != want || f != e {
		t.Fatalf("%d bars, %d tempos: from %v to %v: %v, %v instead of %v, %v", len(p.bars), len(p.tempos), from, until, got, f, want, e)
	}
	return e
}

// checkPlayed checks how long visits of a form take against unlimited numbers.
func checkPlayed(t *testing.T, p piece, f api.Form, visits []api.Visit, from, until int) api.Errno {
	t.Helper()
	want, e := expected(visited(p, visits[from:until]))
	if got, g := tempo.Played(p.bars, p.tempos, f, from, until); got != want || g != e {
		t.Fatalf("%d bars, %d tempos: %v from %d to %d: %v, %v instead of %v, %v", len(p.bars), len(p.tempos), f, from, until, got, g, want, e)
	}
	return e
}

// refused checks that a function returned no ratio, with an error.
func refused(t *testing.T, name string, got api.Rat, e, want api.Errno) {
	t.Helper()
	if got != (api.Rat{}) || e != want {
		t.Errorf("%s: %v, %v instead of %v", name, got, e, want)
	}
}

// made returns the ratio that a function returned without an error.
func made(t *testing.T, r api.Rat, e api.Errno) api.Rat {
	t.Helper()
	if e != api.OK || !ratio.Valid(r) {
		t.Fatalf("%v, %v", r, e)
	}
	return r
}

// seconds returns how long it takes from a position to a later one.
func seconds(t *testing.T, p piece, from, until api.Position) api.Rat {
	t.Helper()
	r, e := tempo.Seconds(p.bars, p.tempos, from, until)
	return made(t, r, e)
}

// played returns how long visits of a form take.
func played(t *testing.T, p piece, f api.Form, from, until int) api.Rat {
	t.Helper()
	r, e := tempo.Played(p.bars, p.tempos, f, from, until)
	return made(t, r, e)
}

// P10.1: the examples of the chapter.
func TestExamples(t *testing.T) {
	p := example()
	if !tempo.Valid(p.bars, p.tempos) {
		t.Error("the example is invalid")
	}
	if r := seconds(t, p, at(0, 0, 1), at(3, 0, 1)); r != rat(10, 1) {
		t.Errorf("from the beginning to the end: %v", r)
	}
	if r := seconds(t, p, at(1, 3, 1), at(2, 1, 1)); r != rat(3, 2) {
		t.Errorf("from 3 quarters into the bar 1 to 1 quarter into the bar 2: %v", r)
	}
	f := api.Form{Bars: 3, Repeats: []api.Repeat{{From: 2, Until: 3, Times: 2}}}
	if r := played(t, p, f, 0, 4); r != rat(12, 1) {
		t.Errorf("with the bar 2 repeated: %v", r)
	}
	for bar, want := range []api.Rat{rat(1, 1), rat(1, 1), rat(1, 2)} {
		if r, e := tempo.At(p.bars, p.tempos, bar); r != want || e != api.OK {
			t.Errorf("the bar %d has the tempo %v, %v", bar, r, e)
		}
	}
	q := piece{plain(8), []api.Tempo{slow(0, 1, 1), slow(2, 1, 2), slow(5, 3, 1)}}
	if r := played(t, q, rich(), 0, 10); r != rat(58, 1) {
		t.Errorf("with a jump, and a cut: %v", r)
	}
	if r := played(t, q, rich(), 4, 8); r != rat(38, 1) {
		t.Errorf("with an ending left out: %v", r)
	}
}

// P10.1, J1: bars with tempos, and how many there may be of both.
func TestValid(t *testing.T) {
	for i, p := range append(few(), many()...) {
		if !tempo.Valid(p.bars, p.tempos) {
			t.Errorf("the piece %d is invalid: %v", i, p.tempos)
		}
	}
	for n := range 1100 {
		if got := tempo.Valid(plain(1100), temposOf(n, 1)); got != (n >= 1 && n <= 1000) {
			t.Errorf("%d tempos: %v", n, got)
		}
	}
	for n := 1; n <= 12; n++ {
		for k := range 15 {
			if got := tempo.Valid(plain(n), temposOf(k, 1)); got != (k >= 1 && k <= n) {
				t.Errorf("%d bars, %d tempos: %v", n, k, got)
			}
		}
	}
}

// P10.1, J1: the bars of tempos: all lists of up to three of them in 4 bars, or nearly so.
func TestBarsOfTempos(t *testing.T) {
	bars := plain(4)
	for a := -2; a <= 6; a++ {
		if got := tempo.Valid(bars, []api.Tempo{slow(a, 1, 1)}); got != (a == 0) {
			t.Errorf("%d: %v", a, got)
		}
		for b := -2; b <= 6; b++ {
			if got := tempo.Valid(bars, []api.Tempo{slow(a, 1, 1), slow(b, 2, 1)}); got != (a == 0 && b > 0 && b < 4) {
				t.Errorf("%d, %d: %v", a, b, got)
			}
			for c := -2; c <= 6; c++ {
				if got := tempo.Valid(bars, []api.Tempo{slow(a, 1, 1), slow(b, 2, 1), slow(c, 1, 1)}); got != (a == 0 && b > 0 && c > b && c < 4) {
					t.Errorf("%d, %d, %d: %v", a, b, c, got)
				}
			}
		}
	}
}

// P10.1, J1: how long a quarter can take.
func TestQuarters(t *testing.T) {
	valid := 0
	for d := -3; d <= 130; d++ {
		for n := -20; n <= 10*max(d, 1)+20; n++ {
			want := d > 0 && n > 0 && n <= 10*d && 60%d == 0 && reduced(n, d) == rat(n, d)
			if got := tempo.Valid(plain(1), []api.Tempo{slow(0, n, d)}); got != want {
				t.Errorf("%d / %d: %v", n, d, got)
			}
			if want {
				valid++
			}
		}
	}
	if valid != 600 {
		t.Errorf("%d tempos instead of those of 600 numbers", valid)
	}
}

// P10.1: what is no bars or no tempos is refused by all functions, whatever else they are given.
func TestRefuses(t *testing.T) {
	for i, p := range append(noBars(), noTempos()...) {
		n := len(p.bars)
		if tempo.Valid(p.bars, p.tempos) {
			t.Errorf("the list %d is valid", i)
		}
		for _, bar := range []int{0, n - 1, n, -1} {
			r, e := tempo.At(p.bars, p.tempos, bar)
			refused(t, "At", r, e, api.ErrArg)
		}
		for _, from := range []api.Position{at(0, 0, 1), at(1, 1, 2), at(n, 0, 1), at(-1, 0, 1), {}} {
			for _, until := range []api.Position{at(0, 0, 1), at(1, 3, 2), at(n, 0, 1), {}} {
				r, e := tempo.Seconds(p.bars, p.tempos, from, until)
				refused(t, "Seconds", r, e, api.ErrArg)
			}
		}
		for _, f := range []api.Form{straight(n), straight(1), straight(0), {}} {
			for _, visits := range [][2]int{{0, 0}, {0, 1}, {0, n}, {n, 0}, {-1, 1}} {
				r, e := tempo.Played(p.bars, p.tempos, f, visits[0], visits[1])
				refused(t, "Played", r, e, api.ErrArg)
			}
		}
	}
}

// P10.1, J2, and P10.7: the tempo of each bar, and what is no bar.
func TestAt(t *testing.T) {
	without := 0
	for _, p := range append(few(), many()...) {
		for bar := range p.bars {
			if len(p.bars) > 100 && bar%37 > 4 && bar < len(p.bars)-10 {
				continue
			}
			if r, e := tempo.At(p.bars, p.tempos, bar); r != inForce(p.tempos, bar) || e != api.OK {
				t.Errorf("%d tempos: the bar %d has the tempo %v, %v instead of %v", len(p.tempos), bar, r, e, inForce(p.tempos, bar))
			}
			if !slices.ContainsFunc(p.tempos, func(l api.Tempo) bool { return l.Bar == bar }) {
				without++
			}
		}
		for _, bar := range []int{-1, -2, len(p.bars), len(p.bars) + 1, 4000, 5000, math.MinInt, math.MaxInt} {
			r, e := tempo.At(p.bars, p.tempos, bar)
			refused(t, "no bar", r, e, api.ErrArg)
		}
	}
	if without < 100 {
		t.Errorf("%d bars have no tempo of their own", without)
	}
}

// P10.7: from the bar of a tempo to before that of the next one, or to the last bar.
func TestTempoLasts(t *testing.T) {
	bars := plain(200)
	tempos := []api.Tempo{slow(0, 1, 60), slow(1, 2, 1), slow(2, 3, 1), slow(7, 10, 1), slow(8, 4, 1), slow(100, 1, 2), slow(199, 2, 3)}
	ends := []int{1, 2, 7, 8, 100, 199, 200}
	for i, l := range tempos {
		for bar := l.Bar; bar < ends[i]; bar++ {
			if r, e := tempo.At(bars, tempos, bar); r != l.Quarter || e != api.OK {
				t.Errorf("the bar %d has the tempo %v, %v instead of %v", bar, r, e, l.Quarter)
			}
		}
	}
}

// P10.7: a tempo that is in force already changes nothing.
func TestSameTempo(t *testing.T) {
	for _, p := range append(few(), many()[5]) {
		places, last := places(p.bars), len(p.bars)-1
		for bar := 1; bar <= last; bar += 1 + last/12 {
			next, own := slices.BinarySearchFunc(p.tempos, bar, func(l api.Tempo, bar int) int { return l.Bar - bar })
			if own {
				continue
			}
			q := piece{p.bars, slices.Insert(slices.Clone(p.tempos), next, api.Tempo{Bar: bar, Quarter: inForce(p.tempos, bar)})}
			for i := range places {
				from, until := places[i*7%(i+1)], places[i]
				a, e := tempo.Seconds(p.bars, p.tempos, from, until)
				b, f := tempo.Seconds(q.bars, q.tempos, from, until)
				if a != b || e != f {
					t.Errorf("%d bars, from %v to %v: %v, %v, with the same tempo again at %d: %v, %v", len(p.bars), from, until, a, e, bar, b, f)
				}
			}
			if got, e := tempo.At(q.bars, q.tempos, last); got != inForce(p.tempos, last) || e != api.OK {
				t.Errorf("with the same tempo at %d, the last bar has %v, %v", bar, got, e)
			}
		}
	}
}

// P10.1, J3: from each of some positions to each later one, and to itself.
func TestSeconds(t *testing.T) {
	for _, p := range few() {
		l := places(p.bars)
		for i := range l {
			for _, until := range l[i:] {
				checkSeconds(t, p, l[i], until)
			}
			if r := seconds(t, p, l[i], l[i]); r != rat(0, 1) {
				t.Errorf("from %v to itself: %v", l[i], r)
			}
		}
	}
	for _, p := range many() {
		l := places(p.bars)
		for i := 0; i < len(l); i += 7 {
			for k := i; k < len(l); k += 5 {
				checkSeconds(t, p, l[i], l[k])
			}
			checkSeconds(t, p, l[i], at(len(p.bars), 0, 1))
		}
	}
}

// P10.1, J3: all positions of some bars.
func TestAllPositions(t *testing.T) {
	p := piece{barsOf(140, 1, 140, 211), []api.Tempo{slow(0, 7, 12), slow(1, 10, 1), slow(2, 1, 60), slow(3, 11, 15)}}
	all := []api.Position{}
	for bar, b := range p.bars {
		for n := range units(b.Length) {
			all = append(all, api.Position{Bar: bar, At: reduced(n, 1680)})
		}
	}
	all = append(all, at(4, 0, 1))
	for i, from := range all {
		for k := i; k < len(all); k += 1 + (i+k)%9 {
			checkSeconds(t, p, from, all[k])
		}
	}
}

// P10.1, J3: what is no position, and positions of which the first one is later.
func TestSecondsRefuses(t *testing.T) {
	for _, p := range append(few(), many()[0], many()[4]) {
		l := places(p.bars)
		for _, wrong := range noPositions(p.bars) {
			for _, right := range []api.Position{l[0], l[len(l)/2], l[len(l)-1], wrong} {
				r, e := tempo.Seconds(p.bars, p.tempos, wrong, right)
				refused(t, "from no position", r, e, api.ErrArg)
				r, e = tempo.Seconds(p.bars, p.tempos, right, wrong)
				refused(t, "to no position", r, e, api.ErrArg)
			}
		}
		for i := 0; i < len(l); i += 1 + len(l)/15 {
			for k := 0; k < i; k += 1 + len(l)/15 {
				r, e := tempo.Seconds(p.bars, p.tempos, l[i], l[k])
				refused(t, "from a later position", r, e, api.ErrArg)
			}
		}
	}
}

// precise returns bars of so many ticks (of which 100800 are a second), most of them played as slowly as can be, and the last ones as fast.
func precise(ticks int) piece {
	last := 600 + ticks%600
	lengths := []int{}
	for left := (ticks - last) / 600; left > 0; left -= 24 * 1680 {
		lengths = append(lengths, min(left, 24*1680))
	}
	return piece{barsOf(append(lengths, last)...), []api.Tempo{slow(0, 10, 1), slow(len(lengths), 1, 60)}}
}

// P10.1, J3: times around the one from which on not all are valid ratios.
func TestRange(t *testing.T) {
	errors, valid := 0, 0
	for ticks := 1000000000 - 400; ticks <= 1000000000+400; ticks++ {
		p := precise(ticks)
		switch e := checkSeconds(t, p, at(0, 0, 1), at(len(p.bars), 0, 1)); {
		case e == api.ErrRange:
			errors++
		case ticks > 1000000000:
			valid++
		}
	}
	if errors == 0 || errors > 400 || valid == 0 {
		t.Errorf("%d times are no valid ratios, %d after the first one are", errors, valid)
	}
	for _, x := range []struct {
		ticks int
		want  api.Rat
		e     api.Errno
	}{{999999997, rat(999999997, 100800), api.OK}, {1000000000, rat(625000, 63), api.OK}, {1000000003, api.Rat{}, api.ErrRange}, {1000000006, rat(500000003, 50400), api.OK}, {3000000007, api.Rat{}, api.ErrRange}, {20 * 100800000, rat(20000, 1), api.OK}, {20*100800000 + 1, api.Rat{}, api.ErrRange}} {
		p := precise(x.ticks)
		if got, e := tempo.Seconds(p.bars, p.tempos, at(0, 0, 1), at(len(p.bars), 0, 1)); got != x.want || e != x.e {
			t.Errorf("%d ticks: %v, %v instead of %v, %v", x.ticks, got, e, x.want, x.e)
		}
		if got, e := tempo.Played(p.bars, p.tempos, straight(len(p.bars)), 0, len(p.bars)); got != x.want || e != x.e {
			t.Errorf("%d ticks, played: %v, %v instead of %v, %v", x.ticks, got, e, x.want, x.e)
		}
	}
}

// P10.1, J3 and J4: a time that is a valid ratio, though times on the way to it are none; and the longest ones.
func TestOnTheWay(t *testing.T) {
	lengths := slices.Concat([]int{1}, slices.Repeat([]int{24 * 1680}, 102), []int{100799 - 2*24*1680})
	p := piece{barsOf(lengths...), []api.Tempo{slow(0, 1, 60), slow(1, 10, 1), slow(101, 1, 60)}}
	r, e := tempo.Seconds(p.bars, p.tempos, at(0, 0, 1), at(101, 0, 1))
	refused(t, "on the way", r, e, api.ErrRange)
	r, e = tempo.Played(p.bars, p.tempos, straight(104), 0, 101)
	refused(t, "on the way, played", r, e, api.ErrRange)
	if r := seconds(t, p, at(0, 0, 1), at(104, 0, 1)); r != rat(24001, 1) {
		t.Errorf("in the end: %v", r)
	}
	if r := played(t, p, straight(104), 0, 104); r != rat(24001, 1) {
		t.Errorf("in the end, played: %v", r)
	}
	q := many()[0]
	if r := seconds(t, q, at(0, 0, 1), at(4000, 0, 1)); r != rat(960000, 1) {
		t.Errorf("the longest bars: %v", r)
	}
	five := api.Form{Bars: 4000, Repeats: []api.Repeat{{Until: 4000, Times: 5}}}
	if r := played(t, q, five, 0, 20000); r != rat(4800000, 1) {
		t.Errorf("the longest bars, five times: %v", r)
	}
}

// P10.1, J4: all visits of forms from one to a later one, and none.
func TestPlayed(t *testing.T) {
	leftOut := 0
	for _, p := range few() {
		for _, f := range formsOf(len(p.bars)) {
			visits := order(t, f)
			for from := range len(visits) + 1 {
				for until := from; until <= len(visits); until += 1 + len(visits)/12 {
					checkPlayed(t, p, f, visits, from, until)
				}
				checkPlayed(t, p, f, visits, from, len(visits))
				if r := played(t, p, f, from, from); r != rat(0, 1) {
					t.Errorf("no visits take %v", r)
				}
			}
			whole := f
			whole.Cuts = nil
			leftOut += len(order(t, whole)) - len(visits)
		}
	}
	if leftOut < 100 {
		t.Errorf("%d visits are left out", leftOut)
	}
}

// P10.1, J4: long forms, of which some take longer than a valid ratio can say.
func TestPlayedLong(t *testing.T) {
	errors := 0
	for _, p := range many() {
		n := len(p.bars)
		for _, f := range []api.Form{straight(n), {Bars: n, Repeats: []api.Repeat{{Until: n, Times: 5}}}, {Bars: n, Repeats: []api.Repeat{{From: 7, Until: 900, Times: 9}}, Jump: api.Jump{At: n, To: 3, Fine: n - 1}, Cuts: cuts(0, n-3, 2)}, anyForm(3, n)} {
			visits := order(t, f)
			for _, from := range []int{0, 1, len(visits) / 2, len(visits)} {
				for until := from; until <= len(visits); until += 1 + len(visits)/6 {
					checkPlayed(t, p, f, visits, from, until)
				}
				if checkPlayed(t, p, f, visits, from, len(visits)) == api.ErrRange {
					errors++
				}
			}
		}
	}
	if errors < 5 {
		t.Errorf("%d times are no valid ratios", errors)
	}
}

// P10.1, J4: visits that there are not, and the wrong way round.
func TestPlayedRefusesVisits(t *testing.T) {
	for _, p := range append(few(), many()[0], many()[4]) {
		for _, f := range formsOf(len(p.bars)) {
			n := len(order(t, f))
			for _, x := range [][2]int{{-1, 0}, {-1, n}, {-1, -1}, {-2, -1}, {0, -1}, {0, n + 1}, {n, n + 1}, {n + 1, n + 1}, {n + 1, n}, {n + 1, n + 2}, {1, 0}, {n, n - 1}, {math.MinInt, n}, {0, math.MaxInt}, {math.MinInt, math.MaxInt}, {math.MaxInt, math.MinInt}, {math.MinInt, math.MinInt}, {math.MaxInt, math.MaxInt}, {0, 20001}} {
				r, e := tempo.Played(p.bars, p.tempos, f, x[0], x[1])
				refused(t, "no visits", r, e, api.ErrArg)
			}
		}
	}
}

// P10.1, J4: visits that only a form without its cuts has are none.
func TestPlayedRefusesCut(t *testing.T) {
	p := piece{plain(8), []api.Tempo{slow(0, 1, 1)}}
	if r := played(t, p, rich(), 0, 10); r != rat(40, 1) {
		t.Errorf("with the cut: %v", r)
	}
	r, e := tempo.Played(p.bars, p.tempos, rich(), 0, 11)
	refused(t, "with the cut", r, e, api.ErrArg)
	whole := rich()
	whole.Cuts = nil
	if r := played(t, p, whole, 0, 12); r != rat(48, 1) {
		t.Errorf("without the cut: %v", r)
	}
	nothing := straight(8)
	nothing.Cuts = cuts(0, 8, 0)
	if r := played(t, p, nothing, 0, 0); r != rat(0, 1) {
		t.Errorf("no visits: %v", r)
	}
	r, e = tempo.Played(p.bars, p.tempos, nothing, 0, 1)
	refused(t, "all is cut", r, e, api.ErrArg)
}

// P10.1, J4: a form that is not well-formed, or is not one of these bars.
func TestPlayedRefusesForms(t *testing.T) {
	p := piece{plain(8), temposOf(8, 1)}
	wrong := []api.Form{
		{}, straight(7), straight(9), straight(1), straight(0), straight(-8), straight(4000), straight(4001), straight(math.MaxInt), straight(math.MinInt),
		{Bars: 8, Repeats: []api.Repeat{{From: 2, Until: 9, Times: 2}}}, {Bars: 8, Repeats: []api.Repeat{{From: 2, Until: 2, Times: 2}}}, {Bars: 8, Repeats: []api.Repeat{{From: 2, Until: 4, Times: 10}}}, {Bars: 8, Repeats: []api.Repeat{{From: -1, Until: 4, Times: 2}}},
		{Bars: 8, Endings: []api.Ending{{From: 2, Until: 3, Pass: 1}}}, {Bars: 8, Jump: api.Jump{At: 9, Fine: 1}}, {Bars: 8, Jump: api.Jump{To: 1}}, {Bars: 8, Cuts: cuts(0, 9, 0)}, {Bars: 8, Cuts: cuts(0, 8, 21)}, {Bars: 8, Cuts: append(cuts(0, 1, 0), cuts(0, 1, 0)...)},
	}
	for _, n := range []int{7, 9} {
		f := rich()
		f.Bars = n
		wrong = append(wrong, f)
	}
	for _, f := range wrong {
		for _, x := range [][2]int{{0, 0}, {0, 1}, {0, 7}, {0, 8}, {1, 0}, {-1, 3}} {
			r, e := tempo.Played(p.bars, p.tempos, f, x[0], x[1])
			refused(t, "no form", r, e, api.ErrArg)
		}
	}
	q := many()[0]
	six := api.Form{Bars: 4000, Repeats: []api.Repeat{{Until: 4000, Times: 6}}}
	r, e := tempo.Played(q.bars, q.tempos, six, 0, 1)
	refused(t, "more than 20000 visits", r, e, api.ErrArg)
}

// P10.2: a time and the one from there on make one time, and later positions take longer.
func TestParts(t *testing.T) {
	for _, p := range append(few(), many()...) {
		l := places(p.bars)
		step := 1 + len(l)/9
		for i := 0; i < len(l); i += step {
			for k := i; k < len(l); k += step {
				first, e := tempo.Seconds(p.bars, p.tempos, l[i], l[k])
				for m := k; m < len(l); m += step {
					second, f := tempo.Seconds(p.bars, p.tempos, l[k], l[m])
					both, g := tempo.Seconds(p.bars, p.tempos, l[i], l[m])
					if e != api.OK || f != api.OK || g != api.OK {
						continue
					}
					if sum, h := ratio.Add(first, second); sum != both || h != api.OK {
						t.Errorf("%d bars: from %v to %v and %v: %v and %v instead of %v", len(p.bars), l[i], l[k], l[m], first, second, both)
					}
					if c, h := ratio.Compare(first, both); h != api.OK || (c < 0) != (m > k) || c > 0 {
						t.Errorf("%d bars: from %v to %v it takes %v, and to %v %v", len(p.bars), l[i], l[k], first, l[m], both)
					}
				}
			}
		}
	}
}

// P10.3: with one tempo alone a time is the tempo times the duration.
func TestOneTempo(t *testing.T) {
	compared := 0
	for i, p := range append(few(), many()...) {
		l := places(p.bars)
		for _, n := range []int{1, 7, 59, 60, 61, 330, 599, 600, 1 + i*13} {
			p.tempos = []api.Tempo{{Quarter: reduced(n, 60)}}
			for k := 0; k < len(l); k += 1 + len(l)/6 {
				for m := k; m < len(l); m += 1 + len(l)/6 {
					begin, _ := meter.Time(p.bars, l[k])
					end, _ := meter.Time(p.bars, l[m])
					long, _ := ratio.Sub(end, begin)
					want, e := ratio.Mul(long, p.tempos[0].Quarter)
					if got, f := tempo.Seconds(p.bars, p.tempos, l[k], l[m]); got != want || e != f {
						t.Fatalf("from %v to %v at %v: %v, %v instead of %v, %v", l[k], l[m], p.tempos, got, f, want, e)
					}
					compared++
				}
			}
		}
	}
	if compared < 2000 {
		t.Errorf("%d times were compared", compared)
	}
}

// P10.4: visits take as long as each one alone, together; and each one as long as its bar.
func TestEachVisit(t *testing.T) {
	for _, p := range few() {
		for _, f := range formsOf(len(p.bars)) {
			visits, sum := order(t, f), rat(0, 1)
			for i, v := range visits {
				alone := played(t, p, f, i, i+1)
				if bar := seconds(t, p, at(v.Bar, 0, 1), at(v.Bar+1, 0, 1)); bar != alone {
					t.Errorf("%v takes %v, and its bar %v", v, alone, bar)
				}
				quarter, _ := tempo.At(p.bars, p.tempos, v.Bar)
				if long, e := ratio.Mul(p.bars[v.Bar].Length, quarter); long != alone || e != api.OK {
					t.Errorf("%v takes %v instead of %v", v, alone, long)
				}
				next, e := ratio.Add(sum, alone)
				sum = made(t, next, e)
				if together := played(t, p, f, 0, i+1); together != sum {
					t.Errorf("%v: %d visits take %v instead of %v", f, i+1, together, sum)
				}
			}
		}
	}
}

// P10.4: visits from one to another one, and from there on, take as long as all of them.
func TestVisitsTogether(t *testing.T) {
	for _, p := range append(few(), many()[1]) {
		for _, f := range formsOf(len(p.bars))[:6] {
			n := len(order(t, f))
			step := 1 + n/5
			for i := 0; i <= n; i += step {
				for k := i; k <= n; k += step {
					for m := k; m <= n; m += step {
						first, e := tempo.Played(p.bars, p.tempos, f, i, k)
						second, g := tempo.Played(p.bars, p.tempos, f, k, m)
						both, h := tempo.Played(p.bars, p.tempos, f, i, m)
						sum, _ := ratio.Add(first, second)
						if e == api.OK && g == api.OK && h == api.OK && sum != both {
							t.Errorf("%v from %d to %d and %d: %v and %v instead of %v", f, i, k, m, first, second, both)
						}
					}
				}
			}
		}
	}
}

// P10.5: without repeats, jump and cuts visits take as long as from bar to bar.
func TestStraight(t *testing.T) {
	for _, p := range append(few(), many()...) {
		n := len(p.bars)
		for from := 0; from <= n; from += 1 + n/12 {
			for _, until := range []int{from, min(from+1, n), (from + n) / 2, n - 1, n} {
				if until < from {
					continue
				}
				a, e := tempo.Played(p.bars, p.tempos, straight(n), from, until)
				b, f := tempo.Seconds(p.bars, p.tempos, at(from, 0, 1), at(until, 0, 1))
				if a != b || e != f || e != api.OK && e != api.ErrRange {
					t.Errorf("%d bars: %v, %v played from %d to %d, and %v, %v from bar to bar", n, a, e, from, until, b, f)
				}
			}
		}
	}
}

// later returns a piece with other tempos from a bar on, which is not the first one.
func later(p piece, bar int) []piece {
	kept := slices.DeleteFunc(slices.Clone(p.tempos), func(l api.Tempo) bool { return l.Bar >= bar })
	other := append(slices.Clone(kept), slow(bar, 19, 2))
	more := slices.Clone(other)
	for i := bar + 1; i < len(p.bars) && len(more) < 1000; i++ {
		more = append(more, api.Tempo{Bar: i, Quarter: reduced(1+i%600, 60)})
	}
	return []piece{{p.bars, kept}, {p.bars, other}, {p.bars, more}}
}

// P10.6: what happens before a bar does not depend on the tempos from this bar on.
func TestLaterTempos(t *testing.T) {
	for _, p := range append(few(), many()[3], many()[5]) {
		l, n := places(p.bars), len(p.bars)
		for bar := 1; bar < n; bar += 1 + n/6 {
			before := append(slices.DeleteFunc(slices.Clone(l), func(x api.Position) bool { return x.Bar >= bar }), at(bar, 0, 1))
			for _, q := range later(p, bar) {
				for i := range before {
					a, e := tempo.Seconds(p.bars, p.tempos, before[i/2], before[i])
					b, f := tempo.Seconds(q.bars, q.tempos, before[i/2], before[i])
					if a != b || e != f {
						t.Errorf("%d bars: from %v to %v: %v, %v, and with other tempos from %d on %v, %v", n, before[i/2], before[i], a, e, bar, b, f)
					}
				}
				a, _ := tempo.At(p.bars, p.tempos, bar-1)
				if b, e := tempo.At(q.bars, q.tempos, bar-1); a != b || e != api.OK {
					t.Errorf("before %d: %v, and %v, %v", bar, a, b, e)
				}
				c, e := tempo.Played(p.bars, p.tempos, straight(n), bar/2, bar)
				if d, f := tempo.Played(q.bars, q.tempos, straight(n), bar/2, bar); c != d || e != f {
					t.Errorf("before %d: %v, %v, and %v, %v", bar, c, e, d, f)
				}
			}
		}
	}
}

// P1: arguments are left as they are, and what was asked before plays no part.
func TestMemory(t *testing.T) {
	p, f := anyPiece(40, 20, 8), anyForm(40, 20)
	p.tempos = append(slices.Grow(p.tempos, 2), slow(0, 9, 1))[:len(p.tempos)]
	bars, tempos, repeats, cuts := slices.Clone(p.bars), slices.Clone(p.tempos), slices.Clone(f.Repeats), slices.Clone(f.Cuts)
	n := len(order(t, f))
	first, visits := seconds(t, p, at(0, 0, 1), at(20, 0, 1)), played(t, p, f, 0, n)
	tempo.At(p.bars, p.tempos, 3)
	if !slices.Equal(p.bars, bars) || !slices.Equal(p.tempos, tempos) || !slices.Equal(f.Repeats, repeats) || !slices.Equal(f.Cuts, cuts) || p.tempos[:len(tempos)+1][len(tempos)] != slow(0, 9, 1) {
		t.Error("arguments were changed")
	}
	seconds(t, example(), at(0, 0, 1), at(3, 0, 1))
	p.tempos[0].Quarter = rat(11, 1)
	if tempo.Valid(p.bars, p.tempos) {
		t.Error("a tempo that was changed is not seen")
	}
	p.tempos[0] = tempos[0]
	if again := seconds(t, p, at(0, 0, 1), at(20, 0, 1)); again != first {
		t.Errorf("%v instead of %v", again, first)
	}
	if again := played(t, p, f, 0, n); again != visits {
		t.Errorf("%v instead of %v", again, visits)
	}
}
