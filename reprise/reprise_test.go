package reprise_test

import (
	"math"
	"slices"
	"testing"

	"partbook/api"
	"partbook/reprise"
)

// dice returns a function that returns numbers from 0 to before a limit, of a fixed sequence.
func dice(seed uint64) func(limit int) int {
	return func(limit int) int {
		seed = seed*6364136223846793005 + 1442695040888963407
		return int((seed ^ seed>>31) >> 8 % uint64(limit))
	}
}

// outside returns numbers that are beyond all limits.
func outside() []int { return []int{-1, -2, 4001, 20001, 1 << 40, math.MinInt, math.MaxInt} }

// visit returns a visit, or what is none.
func visit(bar, pass int) api.Visit { return api.Visit{Bar: bar, Pass: pass} }

// cut returns a cut, or what is none.
func cut(from, until, pass int) api.Cut { return api.Cut{From: from, Until: until, Pass: pass} }

// repeat returns a repeat, or what is none.
func repeat(from, until, times int) api.Repeat {
	return api.Repeat{From: from, Until: until, Times: times}
}

// ending returns an ending, or what is none.
func ending(from, until, pass int) api.Ending {
	return api.Ending{From: from, Until: until, Pass: pass}
}

// plain returns a form of so many bars, one after the other.
func plain(bars int) api.Form { return api.Form{Bars: bars} }

// chapter returns the form of the chapter's example.
func chapter() api.Form {
	return api.Form{Bars: 8, Repeats: []api.Repeat{repeat(2, 6, 2)}, Endings: []api.Ending{ending(4, 5, 1), ending(5, 6, 2)}}
}

// jumping returns the form of the chapter's example with its jump.
func jumping() api.Form {
	return changed(chapter(), func(f *api.Form) { f.Jump = api.Jump{At: 8, Fine: 2} })
}

// rich returns a form with all that a form can have.
func rich() api.Form {
	return api.Form{
		Bars:    20,
		Repeats: []api.Repeat{repeat(0, 3, 2), repeat(3, 8, 3), repeat(10, 11, 9), repeat(14, 20, 1)},
		Endings: []api.Ending{ending(1, 2, 1), ending(2, 3, 2), ending(4, 5, 3), ending(5, 7, 1), ending(17, 19, 2)},
		Jump:    api.Jump{At: 13, To: 3, Fine: 20},
		Cuts:    []api.Cut{cut(4, 6, 1), cut(10, 12, 0), cut(3, 4, 20), cut(5, 6, 1), cut(3, 8, 4)},
	}
}

// clone returns a form with memory of its own.
func clone(f api.Form) api.Form {
	f.Repeats, f.Endings, f.Cuts = slices.Clone(f.Repeats), slices.Clone(f.Endings), slices.Clone(f.Cuts)
	return f
}

// changed returns a form with a change.
func changed(f api.Form, change func(f *api.Form)) api.Form {
	f = clone(f)
	change(&f)
	return f
}

// uncut returns a form without its cuts.
func uncut(f api.Form) api.Form { return changed(f, func(f *api.Form) { f.Cuts = nil }) }

// same reports whether two forms are equal.
func same(a, b api.Form) bool {
	return a.Bars == b.Bars && slices.Equal(a.Repeats, b.Repeats) && slices.Equal(a.Endings, b.Endings) && a.Jump == b.Jump && slices.Equal(a.Cuts, b.Cuts)
}

// covers reports whether a bar is from an index to before another one.
func covers(from, until, bar int) bool { return bar >= from && bar < until }

// repeatOf returns the repeat of a bar, if it is in one.
func repeatOf(f api.Form, bar int) (api.Repeat, bool) {
	for _, r := range f.Repeats {
		if covers(r.From, r.Until, bar) {
			return r, true
		}
	}
	return api.Repeat{}, false
}

// endingOf returns the pass of the ending of a bar, or 0.
func endingOf(f api.Form, bar int) int {
	for _, e := range f.Endings {
		if covers(e.From, e.Until, bar) {
			return e.Pass
		}
	}
	return 0
}

// walk returns the order of a form without its cuts, as one who walks from bar to bar finds it.
func walk(f api.Form) []api.Visit {
	parts := [][2]int{{0, f.Bars}}
	if f.Jump != (api.Jump{}) {
		parts = [][2]int{{0, f.Jump.At}, {f.Jump.To, f.Jump.Fine}}
	}
	l, came := []api.Visit{}, [4000]int{}
	for second, part := range parts {
		pass := 0
		for bar := part[0]; bar < part[1]; {
			r, repeated := repeatOf(f, bar)
			if repeated && bar == r.From && pass == 0 {
				pass = []int{1, r.Times}[second]
			}
			if only := endingOf(f, bar); only == 0 || only == pass {
				came[bar]++
				l = append(l, visit(bar, came[bar]))
			}
			bar++
			if repeated && bar == r.Until && pass < r.Times {
				bar = r.From
				pass++
			} else if repeated && bar == r.Until {
				pass = 0
			}
		}
	}
	return l
}

// leavesOut reports whether a cut leaves out a visit.
func leavesOut(c api.Cut, v api.Visit) bool {
	return covers(c.From, c.Until, v.Bar) && (c.Pass == 0 || c.Pass == v.Pass)
}

// without returns visits that none of some cuts leaves out.
func without(l []api.Visit, cuts []api.Cut) []api.Visit {
	return slices.DeleteFunc(slices.Clone(l), func(v api.Visit) bool {
		return slices.ContainsFunc(cuts, func(c api.Cut) bool { return leavesOut(c, v) })
	})
}

// played returns the order of a form.
func played(f api.Form) []api.Visit { return without(walk(f), f.Cuts) }

// barsOf returns the bars of visits.
func barsOf(l []api.Visit) []int {
	bars := []int{}
	for _, v := range l {
		bars = append(bars, v.Bar)
	}
	return bars
}

// right reports whether a form is well-formed, by the words of the chapter.
func right(f api.Form) bool {
	if f.Bars < 1 || f.Bars > 4000 || len(f.Repeats) > 100 || len(f.Endings) > 100 || len(f.Cuts) > 100 {
		return false
	}
	for i, r := range f.Repeats {
		if r.From < 0 || r.From >= r.Until || r.Until > f.Bars || r.Times < 1 || r.Times > 9 || i > 0 && r.From < f.Repeats[i-1].Until {
			return false
		}
	}
	for i, e := range f.Endings {
		holders := 0
		for _, r := range f.Repeats {
			if e.From >= r.From && e.Until <= r.Until {
				holders++
			}
		}
		if e.From >= e.Until || holders == 0 || e.Pass < 1 || e.Pass > 9 || i > 0 && e.From < f.Endings[i-1].Until {
			return false
		}
	}
	for i, c := range f.Cuts {
		if c.From < 0 || c.From >= c.Until || c.Until > f.Bars || c.Pass < 0 || c.Pass > 20 || slices.Contains(f.Cuts[:i], c) {
			return false
		}
	}
	return rightJump(f) && len(walk(f)) <= 20000
}

// rightJump reports whether the jump of a form is well-formed.
func rightJump(f api.Form) bool {
	j := f.Jump
	for _, r := range f.Repeats {
		for _, at := range []int{j.At, j.To, j.Fine} {
			if at > r.From && at < r.Until {
				return false
			}
		}
	}
	return j == api.Jump{} || j.At >= 1 && j.At <= f.Bars && j.To >= 0 && j.To < j.At && j.Fine > j.To && j.Fine <= f.Bars
}

// anyRepeats returns repeats of so many bars, and endings of these.
func anyRepeats(roll func(limit int) int, bars int) ([]api.Repeat, []api.Ending) {
	repeats, endings := []api.Repeat{}, []api.Ending{}
	for at := roll(3); at < bars; at += roll(3) {
		r := repeat(at, min(at+1+roll(6), bars), 1+roll(1+roll(9)))
		repeats = append(repeats, r)
		for from := at + roll(3); from < r.Until; from += roll(3) {
			until := min(from+1+roll(3), r.Until)
			endings = append(endings, ending(from, until, 1+roll(min(r.Times+1, 9))))
			from = until
		}
		at = r.Until
	}
	return repeats, endings
}

// anyCuts returns at most so many different cuts of so many bars.
func anyCuts(roll func(limit int) int, bars, n int) []api.Cut {
	l := []api.Cut{}
	for range n {
		from := roll(bars)
		c := cut(from, from+1+roll(min(bars-from, 5)), roll(1+roll(21)))
		if !slices.Contains(l, c) {
			l = append(l, c)
		}
	}
	return l
}

// anyForm returns a form that is well-formed, of at most so many bars, and with at most so many cuts.
func anyForm(seed uint64, bars, cuts int) api.Form {
	roll := dice(seed)
	f := plain(1 + roll(bars))
	f.Repeats, f.Endings = anyRepeats(roll, f.Bars)
	f.Cuts = anyCuts(roll, f.Bars, roll(cuts+1))
	if roll(3) == 0 {
		return f
	}
	pick := func(from, until int) int {
		for {
			at := from + roll(until-from+1)
			if r, ok := repeatOf(f, at); !ok || at == r.From {
				return at
			}
		}
	}
	f.Jump.At = pick(1, f.Bars)
	f.Jump.To = pick(0, f.Jump.At-1)
	f.Jump.Fine = pick(f.Jump.To+1, f.Bars)
	return f
}

// few returns short forms.
func few() []api.Form {
	all := []api.Form{chapter(), jumping(), rich(), plain(1), plain(7), {Bars: 3, Repeats: []api.Repeat{}, Endings: []api.Ending{}, Cuts: []api.Cut{}}}
	for seed := range uint64(300) {
		all = append(all, anyForm(seed, 2+int(seed)%30, int(seed)%9))
	}
	return all
}

// most returns forms with exactly 20000 visits without their cuts.
func most() []api.Form {
	return []api.Form{
		{Bars: 4000, Repeats: []api.Repeat{repeat(0, 4000, 5)}},
		{Bars: 4000, Repeats: []api.Repeat{repeat(1000, 3000, 9)}},
		{Bars: 4000, Repeats: []api.Repeat{repeat(0, 4000, 4)}, Jump: api.Jump{At: 4000, Fine: 4000}},
		{Bars: 4000, Repeats: []api.Repeat{repeat(0, 2000, 2), repeat(2000, 4000, 7)}, Jump: api.Jump{At: 4000, To: 2000, Fine: 4000}},
		{Bars: 4000, Repeats: []api.Repeat{repeat(0, 4000, 9)}, Endings: []api.Ending{ending(2000, 4000, 1)}},
		{Bars: 4000, Repeats: []api.Repeat{repeat(0, 4000, 5)}, Cuts: []api.Cut{cut(0, 4000, 2), cut(17, 3011, 4)}},
		{Bars: 4000, Repeats: []api.Repeat{repeat(0, 4000, 5)}, Cuts: []api.Cut{cut(0, 4000, 0)}},
	}
}

// long returns forms at the limits of bars, repeats, endings, cuts and visits.
func long() []api.Form {
	all := append(most(), plain(4000))
	f := plain(4000)
	for i := range 100 {
		f.Repeats = append(f.Repeats, repeat(40*i, 40*i+20+i%21, 1+i%9))
		f.Endings = append(f.Endings, ending(40*i+i%3, 40*i+10+i%11, 1+i*7%9))
		f.Cuts = append(f.Cuts, cut(30*i, 30*i+1+i*i%900, i%21))
	}
	return append(all, f, changed(f, func(f *api.Form) { f.Jump = api.Jump{At: 3000, To: 40, Fine: 4000} }))
}

// nothing checks that a function that returns a form returned none, with an error.
func nothing(t *testing.T, name string, got api.Form, e, want api.Errno) {
	t.Helper()
	if !same(got, api.Form{}) || e != want {
		t.Errorf("%s: %v, %v instead of %v", name, got, e, want)
	}
}

// checkInvalid checks that a form is not well-formed, and that this is the first error of all functions, whatever else is wrong.
func checkInvalid(t *testing.T, name string, f api.Form) {
	t.Helper()
	if reprise.Valid(f) {
		t.Errorf("%s: valid: %v", name, f)
	}
	if l, e := reprise.Unfold(f); len(l) != 0 || e != api.ErrArg {
		t.Errorf("%s: Unfold: %v, %v", name, l, e)
	}
	for _, v := range []api.Visit{visit(0, 1), visit(1, 1), {}, visit(-1, 30)} {
		if at, ok, e := reprise.Find(f, v); at != 0 || ok || e != api.ErrArg {
			t.Errorf("%s: Find of %v: %d, %v, %v", name, v, at, ok, e)
		}
	}
	for _, c := range append([]api.Cut{cut(0, 1, 0), cut(0, 1, 7), {}, cut(3, 1, 40)}, f.Cuts[:min(len(f.Cuts), 2)]...) {
		got, e := reprise.Cut(f, c)
		nothing(t, name+": Cut", got, e, api.ErrArg)
		got, e = reprise.Open(f, c)
		nothing(t, name+": Open", got, e, api.ErrArg)
	}
	for _, x := range [][2]int{{0, 1}, {0, 9}, {-1, 1}, {100, 0}, {0, 10}, {math.MaxInt, math.MinInt}} {
		got, e := reprise.Times(f, x[0], x[1])
		nothing(t, name+": Times", got, e, api.ErrArg)
	}
}

// checkValid checks that a form is well-formed, and that its order is that of one who walks.
func checkValid(t *testing.T, name string, f api.Form) {
	t.Helper()
	if !reprise.Valid(f) {
		t.Errorf("%s: invalid: %v", name, f)
	}
	if l, e := reprise.Unfold(f); e != api.OK || !slices.Equal(l, played(f)) {
		t.Errorf("%s: %v has the order %v, %v instead of %v", name, f, l[:min(len(l), 30)], e, played(f)[:min(len(played(f)), 30)])
	}
}

// check checks whether a form is well-formed, as it should be.
func check(t *testing.T, name string, f api.Form) {
	t.Helper()
	if right(f) {
		checkValid(t, name, f)
	} else {
		checkInvalid(t, name, f)
	}
}

// checkFind checks where a visit of a form is found, or that it is not.
func checkFind(t *testing.T, f api.Form, v api.Visit, want int) {
	t.Helper()
	at, ok, e := reprise.Find(f, v)
	if e != api.OK || ok != (want >= 0) || at != max(want, 0) {
		t.Errorf("%v is found at %d, %v, %v instead of %d in %v", v, at, ok, e, want, f)
	}
}

// made returns the form that a function returned without an error.
func made(t *testing.T, f api.Form, e api.Errno) api.Form {
	t.Helper()
	if e != api.OK {
		t.Errorf("%v, %v", f, e)
	}
	return f
}

// P9.1: the examples of the chapter, and that of DOC.md.
func TestExamples(t *testing.T) {
	twice := api.Form{Bars: 8, Repeats: []api.Repeat{repeat(2, 6, 2)}}
	later := func(f *api.Form) { f.Cuts = []api.Cut{cut(2, 4, 2)} }
	for _, x := range []struct {
		f            api.Form
		bars, passes []int
	}{
		{chapter(), []int{0, 1, 2, 3, 4, 2, 3, 5, 6, 7}, []int{1, 1, 1, 1, 1, 2, 2, 1, 1, 1}},
		{jumping(), []int{0, 1, 2, 3, 4, 2, 3, 5, 6, 7, 0, 1}, []int{1, 1, 1, 1, 1, 2, 2, 1, 1, 1, 2, 2}},
		{changed(jumping(), later), []int{0, 1, 2, 3, 4, 5, 6, 7, 0, 1}, []int{1, 1, 1, 1, 1, 1, 1, 1, 2, 2}},
		{changed(twice, later), []int{0, 1, 2, 3, 4, 5, 4, 5, 6, 7}, []int{1, 1, 1, 1, 1, 1, 2, 2, 1, 1}},
	} {
		want := []api.Visit{}
		for i, bar := range x.bars {
			want = append(want, visit(bar, x.passes[i]))
		}
		if l, e := reprise.Unfold(x.f); e != api.OK || !slices.Equal(l, want) {
			t.Errorf("%v has the order %v, %v instead of %v", x.f, l, e, want)
		}
		checkValid(t, "example", x.f)
	}
	got, e := reprise.Cut(jumping(), cut(2, 4, 2))
	if !same(made(t, got, e), changed(jumping(), later)) {
		t.Errorf("the cut of the example makes %v", got)
	}
}

// P9.1, I1 and I2: forms of all kinds.
func TestForms(t *testing.T) {
	jumps, empty := 0, 0
	for _, f := range append(few(), long()...) {
		checkValid(t, "form", f)
		if f.Jump != (api.Jump{}) {
			jumps++
		}
		if len(played(f)) == 0 {
			empty++
		}
	}
	if jumps < 50 || empty == 0 {
		t.Errorf("%d forms have jumps, and %d leave nothing", jumps, empty)
	}
}

// P9.1, I1: all forms of up to 4 bars with a repeat and an ending in it, or nearly so, and a jump or none.
func TestSmallForms(t *testing.T) {
	valid := 0
	for bars := range 5 {
		for i := range 36 * 36 * 9 {
			f := plain(bars)
			f.Repeats = []api.Repeat{repeat(i%6-1, i/6%6, 1+i/1296%3)}
			f.Endings = []api.Ending{ending(i/36%6-1, i/216%6, 1+i/3888)}
			if i%7 == 0 {
				f.Jump = api.Jump{At: bars, To: i % 2, Fine: 1 + i%5}
			}
			check(t, "small form", f)
			if right(f) {
				valid++
			}
		}
	}
	if valid < 200 {
		t.Errorf("%d forms are valid", valid)
	}
}

// P9.1, I1: the numbers of bars.
func TestBars(t *testing.T) {
	for _, n := range []int{1, 2, 100, 3999, 4000} {
		checkValid(t, "bars", plain(n))
	}
	for _, n := range append(outside(), 0) {
		checkInvalid(t, "bars", plain(n))
		checkInvalid(t, "bars", changed(rich(), func(f *api.Form) { f.Bars = n }))
	}
	checkInvalid(t, "no form", api.Form{})
	for n := range 20 {
		checkInvalid(t, "too few bars", changed(rich(), func(f *api.Form) { f.Bars = n }))
	}
	checkValid(t, "more bars", changed(rich(), func(f *api.Form) { f.Bars = 21 }))
}

// P9.1, I1: each limit of a repeat.
func TestRepeats(t *testing.T) {
	for from := -2; from <= 9; from++ {
		for until := -2; until <= 10; until++ {
			for times := -1; times <= 11; times++ {
				f := changed(plain(8), func(f *api.Form) { f.Repeats = []api.Repeat{repeat(from, until, times)} })
				check(t, "repeat", f)
				if reprise.Valid(f) != (from >= 0 && from < until && until <= 8 && times >= 1 && times <= 9) {
					t.Errorf("%v: %v", f.Repeats, reprise.Valid(f))
				}
			}
		}
	}
	for _, n := range outside() {
		for _, r := range []api.Repeat{repeat(n, 5, 2), repeat(2, n, 2), repeat(2, 5, n), repeat(n, n, n), repeat(n-1, n, 2), repeat(n, n+1, 2), {}} {
			checkInvalid(t, "repeat", changed(plain(8), func(f *api.Form) { f.Repeats = []api.Repeat{r} }))
			checkInvalid(t, "one repeat of four", changed(rich(), func(f *api.Form) { f.Repeats[3] = r }))
		}
	}
}

// P9.1, I1: repeats that touch, that leave bars between, that cross, that are in one another, there twice, or not in order.
func TestRepeatsTogether(t *testing.T) {
	for i := range 9 * 9 * 9 * 9 {
		a, b := repeat(i%9, i/9%9, 2), repeat(i/81%9, i/729, 3)
		if a.From >= a.Until || b.From >= b.Until {
			continue
		}
		f := changed(plain(8), func(f *api.Form) { f.Repeats = []api.Repeat{a, b} })
		if reprise.Valid(f) != (b.From >= a.Until) {
			t.Errorf("%v: %v", f.Repeats, reprise.Valid(f))
		}
		check(t, "two repeats", f)
	}
	third := func(r api.Repeat) api.Form {
		return changed(plain(8), func(f *api.Form) { f.Repeats = []api.Repeat{repeat(1, 3, 2), repeat(5, 6, 2), r} })
	}
	checkValid(t, "third repeat", third(repeat(6, 8, 2)))
	for _, r := range []api.Repeat{repeat(0, 1, 2), repeat(3, 5, 2), repeat(5, 8, 2), repeat(4, 8, 2)} {
		checkInvalid(t, "third repeat", third(r))
	}
}

// P9.1, I1: 100 repeats and endings, and more.
func TestNumberOfRepeats(t *testing.T) {
	f := plain(303)
	for i := range 100 {
		f.Repeats = append(f.Repeats, repeat(3*i, 3*i+2, 1+i%9))
		checkValid(t, "repeats", f)
		f.Endings = append(f.Endings, ending(3*i, 3*i+1, 1+i*4%9))
		checkValid(t, "repeats and endings", f)
	}
	checkInvalid(t, "101 repeats", changed(f, func(f *api.Form) { f.Repeats = append(f.Repeats, repeat(300, 302, 1)) }))
	f.Repeats[99].Until = 303
	checkValid(t, "100 endings", f)
	checkInvalid(t, "101 endings", changed(f, func(f *api.Form) { f.Endings = append(f.Endings, ending(300, 301, 1)) }))
}

// P9.1, I1: each limit of an ending, and repeats in which it is or is not.
func TestEndings(t *testing.T) {
	for from := -2; from <= 14; from++ {
		for until := -2; until <= 14; until++ {
			for pass := -1; pass <= 11; pass++ {
				f := plain(13)
				f.Repeats = []api.Repeat{repeat(1, 3, 2), repeat(3, 6, 3), repeat(8, 12, 9)}
				f.Endings = []api.Ending{ending(from, until, pass)}
				within := from >= 1 && until <= 3 || from >= 3 && until <= 6 || from >= 8 && until <= 12
				if reprise.Valid(f) != (within && from < until && pass >= 1 && pass <= 9) {
					t.Errorf("%v: %v", f.Endings, reprise.Valid(f))
				}
				check(t, "ending", f)
			}
		}
	}
	for _, n := range outside() {
		for _, e := range []api.Ending{ending(n, 5, 2), ending(4, n, 2), ending(4, 5, n), ending(n, n, n), ending(n-1, n, 2), ending(n, n+1, 2), {}} {
			checkInvalid(t, "ending", changed(jumping(), func(f *api.Form) { f.Endings = []api.Ending{e} }))
			checkInvalid(t, "one ending of five", changed(rich(), func(f *api.Form) { f.Endings[4] = e }))
		}
	}
	checkInvalid(t, "no repeat", changed(chapter(), func(f *api.Form) { f.Repeats = nil }))
	checkInvalid(t, "another repeat", changed(chapter(), func(f *api.Form) { f.Repeats[0] = repeat(0, 4, 2) }))
}

// P9.1, I1: endings that touch, that leave bars between, that cross, that are in one another, there twice, or not in order; in one repeat and in two.
func TestEndingsTogether(t *testing.T) {
	for i := range 9 * 9 * 9 * 9 {
		a, b := ending(i%9, i/9%9, 2), ending(i/81%9, i/729, 3)
		if a.From >= a.Until || b.From >= b.Until {
			continue
		}
		f := changed(plain(8), func(f *api.Form) {
			f.Repeats, f.Endings = []api.Repeat{repeat(0, 8, 3)}, []api.Ending{a, b}
		})
		if reprise.Valid(f) != (b.From >= a.Until) {
			t.Errorf("%v: %v", f.Endings, reprise.Valid(f))
		}
		check(t, "two endings", f)
		check(t, "in two repeats", changed(f, func(f *api.Form) { f.Repeats = []api.Repeat{repeat(0, 4, 3), repeat(4, 8, 2)} }))
	}
}

// P9.1, I1 and I2: all jumps around repeats.
func TestJumps(t *testing.T) {
	f := changed(chapter(), func(f *api.Form) {
		f.Bars, f.Repeats = 11, []api.Repeat{repeat(2, 6, 2), repeat(6, 7, 3), repeat(8, 10, 1)}
	})
	valid := 0
	for at := -1; at <= 12; at++ {
		for to := -1; to <= 12; to++ {
			for fine := -1; fine <= 12; fine++ {
				f.Jump = api.Jump{At: at, To: to, Fine: fine}
				check(t, "jump", f)
				if right(f) {
					valid++
				}
			}
		}
	}
	if valid < 100 {
		t.Errorf("%d jumps are valid", valid)
	}
	for _, n := range outside() {
		for _, j := range []api.Jump{{At: n, To: 0, Fine: 2}, {At: 8, To: n, Fine: 2}, {At: 8, To: 0, Fine: n}, {At: n, To: n, Fine: n}, {At: n, To: n - 1, Fine: n}} {
			checkInvalid(t, "jump", changed(jumping(), func(f *api.Form) { f.Jump = j }))
		}
	}
}

// P9.1, I1: a jump at, to or before the bounds of a repeat, within one, and of which parts are 0.
func TestJumpsAtBounds(t *testing.T) {
	for _, x := range []struct {
		j     api.Jump
		valid bool
	}{
		{api.Jump{}, true}, {api.Jump{At: 2, To: 0, Fine: 1}, true}, {api.Jump{At: 2, To: 1, Fine: 2}, true}, {api.Jump{At: 6, To: 2, Fine: 6}, true},
		{api.Jump{At: 6, To: 2, Fine: 8}, true}, {api.Jump{At: 8, To: 6, Fine: 7}, true}, {api.Jump{At: 1, To: 0, Fine: 8}, true}, {api.Jump{At: 8, To: 7, Fine: 8}, true},
		{api.Jump{At: 8, To: 0, Fine: 8}, true}, {api.Jump{At: 7, To: 2, Fine: 6}, true},
		{api.Jump{At: 3, To: 0, Fine: 2}, false}, {api.Jump{At: 5, To: 0, Fine: 2}, false}, {api.Jump{At: 8, To: 3, Fine: 6}, false}, {api.Jump{At: 8, To: 5, Fine: 6}, false},
		{api.Jump{At: 8, To: 0, Fine: 3}, false}, {api.Jump{At: 8, To: 0, Fine: 5}, false}, {api.Jump{At: 2, To: 2, Fine: 6}, false}, {api.Jump{At: 2, To: 6, Fine: 8}, false},
		{api.Jump{At: 8, To: 2, Fine: 2}, false}, {api.Jump{At: 8, To: 6, Fine: 2}, false}, {api.Jump{At: 9, To: 0, Fine: 2}, false}, {api.Jump{At: 8, To: 0, Fine: 9}, false},
		{api.Jump{At: 0, To: 0, Fine: 2}, false}, {api.Jump{At: 0, To: 2, Fine: 0}, false}, {api.Jump{At: 8, To: 0, Fine: 0}, false}, {api.Jump{At: 8, To: -1, Fine: 2}, false}, {api.Jump{At: 0, To: -1, Fine: 0}, false},
	} {
		f := changed(chapter(), func(f *api.Form) { f.Jump = x.j })
		if reprise.Valid(f) != x.valid {
			t.Errorf("%v: %v", x.j, !x.valid)
		}
		check(t, "jump", f)
	}
}

// P9.1, I2: in the second part repeats come once, as on their last pass, and bars that came before have a greater Pass.
func TestSecondParts(t *testing.T) {
	for _, x := range []struct {
		f    api.Form
		bars []int
	}{
		{changed(jumping(), func(f *api.Form) { f.Jump.Fine = 8 }), []int{0, 1, 2, 3, 4, 2, 3, 5, 6, 7, 0, 1, 2, 3, 5, 6, 7}},
		{changed(jumping(), func(f *api.Form) { f.Repeats[0].Times, f.Jump.Fine = 1, 8 }), []int{0, 1, 2, 3, 4, 6, 7, 0, 1, 2, 3, 4, 6, 7}},
		{changed(jumping(), func(f *api.Form) { f.Repeats[0].Times, f.Jump.Fine = 3, 8 }), []int{0, 1, 2, 3, 4, 2, 3, 5, 2, 3, 6, 7, 0, 1, 2, 3, 6, 7}},
		{changed(jumping(), func(f *api.Form) { f.Jump = api.Jump{At: 6, To: 2, Fine: 6} }), []int{0, 1, 2, 3, 4, 2, 3, 5, 2, 3, 5}},
		{changed(jumping(), func(f *api.Form) { f.Jump = api.Jump{At: 2, To: 1, Fine: 8} }), []int{0, 1, 1, 2, 3, 5, 6, 7}},
		{changed(jumping(), func(f *api.Form) { f.Jump = api.Jump{At: 7, To: 6, Fine: 7} }), []int{0, 1, 2, 3, 4, 2, 3, 5, 6, 6}},
		{changed(plain(4), func(f *api.Form) { f.Jump = api.Jump{At: 1, To: 0, Fine: 4} }), []int{0, 0, 1, 2, 3}},
		{changed(plain(4), func(f *api.Form) { f.Jump = api.Jump{At: 4, To: 0, Fine: 4} }), []int{0, 1, 2, 3, 0, 1, 2, 3}},
		{changed(plain(4), func(f *api.Form) { f.Jump = api.Jump{At: 2, To: 0, Fine: 1} }), []int{0, 1, 0}},
	} {
		l, e := reprise.Unfold(x.f)
		if e != api.OK || !slices.Equal(barsOf(l), x.bars) {
			t.Errorf("%v has the bars %v, %v instead of %v", x.f, barsOf(l), e, x.bars)
		}
		checkValid(t, "second part", x.f)
	}
}

// P9.1, I2: bars that no pass plays, and forms of which nothing is played.
func TestSilentBars(t *testing.T) {
	for _, x := range []struct {
		f    api.Form
		bars []int
	}{
		{changed(chapter(), func(f *api.Form) { f.Endings[1].Pass = 3 }), []int{0, 1, 2, 3, 4, 2, 3, 6, 7}},
		{changed(chapter(), func(f *api.Form) { f.Endings = []api.Ending{ending(2, 6, 9)} }), []int{0, 1, 6, 7}},
		{changed(chapter(), func(f *api.Form) { f.Endings = []api.Ending{ending(2, 6, 2)} }), []int{0, 1, 2, 3, 4, 5, 6, 7}},
		{changed(jumping(), func(f *api.Form) { f.Endings = []api.Ending{ending(2, 4, 1), ending(4, 6, 1)} }), []int{0, 1, 2, 3, 4, 5, 6, 7, 0, 1}},
		{api.Form{Bars: 2, Repeats: []api.Repeat{repeat(0, 2, 2)}, Endings: []api.Ending{ending(0, 1, 2), ending(1, 2, 1)}}, []int{1, 0}},
		{api.Form{Bars: 2, Repeats: []api.Repeat{repeat(0, 2, 3)}, Endings: []api.Ending{ending(0, 1, 3), ending(1, 2, 1)}}, []int{1, 0}},
		{api.Form{Bars: 2, Repeats: []api.Repeat{repeat(0, 2, 1)}, Endings: []api.Ending{ending(0, 1, 2), ending(1, 2, 3)}}, []int{}},
		{api.Form{Bars: 3, Repeats: []api.Repeat{repeat(0, 3, 8)}, Endings: []api.Ending{ending(0, 3, 9)}, Jump: api.Jump{At: 3, To: 0, Fine: 3}}, []int{}},
	} {
		l, e := reprise.Unfold(x.f)
		if e != api.OK || !slices.Equal(barsOf(l), x.bars) {
			t.Errorf("%v has the bars %v, %v instead of %v", x.f, barsOf(l), e, x.bars)
		}
		checkValid(t, "silent bars", x.f)
		for bar := range x.f.Bars {
			checkFind(t, x.f, visit(bar, 1), slices.Index(x.bars, bar))
		}
	}
}

// P9.1, I1: forms with 20000 visits, and with more, of which cuts may leave out some.
func TestVisits(t *testing.T) {
	for i, f := range most() {
		if n := len(walk(f)); n != 20000 {
			t.Errorf("form %d has %d visits", i, n)
		}
		checkValid(t, "20000 visits", f)
	}
	for _, more := range []api.Form{
		{Bars: 4000, Repeats: []api.Repeat{repeat(0, 2000, 9), repeat(2000, 2001, 2)}},
		{Bars: 4000, Repeats: []api.Repeat{repeat(0, 2001, 9)}},
		{Bars: 4000, Repeats: []api.Repeat{repeat(0, 4000, 6)}},
		{Bars: 4000, Repeats: []api.Repeat{repeat(0, 4000, 9)}},
		{Bars: 4000, Repeats: []api.Repeat{repeat(0, 4000, 9)}, Jump: api.Jump{At: 4000, Fine: 4000}},
		{Bars: 4000, Repeats: []api.Repeat{repeat(0, 4000, 5)}, Jump: api.Jump{At: 4000, Fine: 4000}},
		{Bars: 4000, Repeats: []api.Repeat{repeat(1000, 3000, 9)}, Jump: api.Jump{At: 4000, Fine: 1}},
		{Bars: 4000, Repeats: []api.Repeat{repeat(0, 4000, 9)}, Endings: []api.Ending{ending(2001, 4000, 1)}},
	} {
		checkInvalid(t, "more visits", more)
		checkInvalid(t, "more visits", changed(more, func(f *api.Form) { f.Cuts = []api.Cut{cut(0, 4000, 0), cut(5, 4000, 1)} }))
	}
}

// P9.1, I1 and I4: each limit of a cut, as one of a form and as a further one.
func TestCutsOfForms(t *testing.T) {
	for from := -2; from <= 9; from++ {
		for until := -2; until <= 10; until++ {
			for pass := -2; pass <= 22; pass++ {
				checkCut(t, jumping(), cut(from, until, pass), from >= 0 && from < until && until <= 8 && pass >= 0 && pass <= 20)
			}
		}
	}
	for _, n := range append(outside(), 9, 21) {
		for _, c := range []api.Cut{cut(n, 5, 2), cut(2, n, 2), cut(n, n, n), cut(n-1, n, 2), cut(n, n+1, 2), {}} {
			checkCut(t, jumping(), c, false)
		}
	}
	for _, n := range append(outside(), 21) {
		checkCut(t, jumping(), cut(2, 5, n), false)
	}
}

// checkCut checks that a form can have a cut, or not, as its only one and as a further one.
func checkCut(t *testing.T, f api.Form, c api.Cut, valid bool) {
	t.Helper()
	with := changed(f, func(f *api.Form) { f.Cuts = append(f.Cuts, c) })
	if reprise.Valid(with) != valid {
		t.Errorf("%v: %v", c, !valid)
	}
	got, e := reprise.Cut(f, c)
	if !valid {
		checkInvalid(t, "cut", with)
		nothing(t, "no cut", got, e, api.ErrArg)
		return
	}
	checkValid(t, "cut", with)
	if !same(made(t, got, e), with) {
		t.Errorf("the cut %v makes %v", c, got)
	}
	twice, e := reprise.Cut(got, c)
	nothing(t, "cut twice", twice, e, api.ErrTwice)
	checkInvalid(t, "cut twice", changed(with, func(f *api.Form) { f.Cuts = append(f.Cuts, c) }))
	opened, e := reprise.Open(got, c)
	if !same(made(t, opened, e), f) {
		t.Errorf("without the cut %v: %v", c, opened)
	}
}

// P9.1, I4: 100 cuts and more, and the errors in their order.
func TestNumberOfCuts(t *testing.T) {
	f := plain(8)
	for i := range 100 {
		c := cut(i%5, i%5+1+i/5%3, i/15)
		got, e := reprise.Cut(f, c)
		f.Cuts = append(f.Cuts, c)
		if !same(made(t, got, e), f) {
			t.Errorf("%d cuts: %v", i+1, got)
		}
		checkValid(t, "cuts", f)
	}
	for _, c := range f.Cuts {
		got, e := reprise.Cut(f, c)
		nothing(t, "there already", got, e, api.ErrTwice)
	}
	for _, c := range []api.Cut{cut(5, 6, 0), cut(0, 8, 0), cut(0, 1, 20), cut(0, 8, 20)} {
		got, e := reprise.Cut(f, c)
		nothing(t, "101 cuts", got, e, api.ErrLimit)
		checkInvalid(t, "101 cuts", changed(f, func(f *api.Form) { f.Cuts = append(f.Cuts, c) }))
	}
	for _, c := range []api.Cut{cut(5, 9, 0), cut(-1, 1, 0), cut(1, 1, 0), cut(0, 1, 21), {}} {
		got, e := reprise.Cut(f, c)
		nothing(t, "no cut", got, e, api.ErrArg)
	}
	for i, c := range f.Cuts {
		got, e := reprise.Open(f, c)
		if want := slices.Concat(f.Cuts[:i], f.Cuts[i+1:]); e != api.OK || !slices.Equal(got.Cuts, want) {
			t.Errorf("without the cut %d: %v, %v", i, got, e)
		}
	}
}

// P9.1, I5: cuts that are not there, among them those that can be none.
func TestOpenNone(t *testing.T) {
	for _, f := range few() {
		for _, c := range []api.Cut{{}, cut(0, 1, 19), cut(0, f.Bars, 18), cut(0, f.Bars+1, 0), cut(-1, 1, 0), cut(0, 1, 21), cut(0, 1, -1), cut(1, 0, 0), cut(math.MinInt, math.MaxInt, math.MaxInt)} {
			if got, e := reprise.Open(f, c); !slices.Contains(f.Cuts, c) {
				nothing(t, "not there", got, e, api.ErrNone)
			}
		}
		for _, c := range f.Cuts {
			for _, other := range []api.Cut{cut(c.From-1, c.Until, c.Pass), cut(c.From, c.Until+1, c.Pass), cut(c.From, c.Until, c.Pass+1), cut(c.From, c.Until, c.Pass-1)} {
				if got, e := reprise.Open(f, other); !slices.Contains(f.Cuts, other) {
					nothing(t, "another cut", got, e, api.ErrNone)
				}
			}
		}
	}
}

// P9.1, I6, and P9.7: all other numbers of times.
func TestTimes(t *testing.T) {
	for _, f := range few() {
		for i := range f.Repeats {
			for times := 1; times <= 9; times++ {
				want := changed(f, func(f *api.Form) { f.Repeats[i].Times = times })
				got, e := reprise.Times(f, i, times)
				if !same(made(t, got, e), want) {
					t.Errorf("the repeat %d of %v %d times: %v", i, f, times, got)
				}
				checkValid(t, "times", got)
				checkOthers(t, f, got, f.Repeats[i])
			}
			for _, times := range append(outside(), 0, 10) {
				got, e := reprise.Times(f, i, times)
				nothing(t, "times", got, e, api.ErrArg)
			}
		}
		for _, i := range append(outside(), len(f.Repeats), len(f.Repeats)+1, 100, 4000) {
			for _, times := range []int{1, 9, 0, 10, math.MinInt} {
				got, e := reprise.Times(f, i, times)
				nothing(t, "no repeat", got, e, api.ErrNone)
			}
		}
	}
}

// checkOthers checks that all visits of two forms are the same, in the same order, but for those of a repeat.
func checkOthers(t *testing.T, a, b api.Form, r api.Repeat) {
	t.Helper()
	others := [2][]api.Visit{}
	for i, f := range []api.Form{a, b} {
		l, e := reprise.Unfold(f)
		others[i] = slices.DeleteFunc(l, func(v api.Visit) bool { return covers(r.From, r.Until, v.Bar) })
		if e != api.OK {
			t.Errorf("%v: %v", f, e)
		}
	}
	if !slices.Equal(others[0], others[1]) {
		t.Errorf("%v and %v: other visits are %v and %v", a, b, others[0], others[1])
	}
}

// P9.1, I6: numbers of times with which there are 20000 visits, and more, whatever is cut.
func TestTimesOfLongForms(t *testing.T) {
	for i, f := range long() {
		for k := range f.Repeats {
			for _, times := range []int{0, 1, 4, 5, 6, 7, 9, 10} {
				want, refused := changed(f, func(f *api.Form) { f.Repeats[k].Times = times }), api.ErrLimit
				if times < 1 || times > 9 {
					refused = api.ErrArg
				}
				got, e := reprise.Times(f, k, times)
				if !right(want) {
					nothing(t, "more visits", got, e, refused)
				} else if !same(made(t, got, e), want) {
					t.Errorf("the repeat %d of the form %d %d times: %v", k, i, times, got)
				}
			}
		}
	}
	f := api.Form{Bars: 4000, Repeats: []api.Repeat{repeat(0, 1000, 2), repeat(1000, 4000, 6)}}
	for times := range 12 {
		got, e := reprise.Times(f, 1, times)
		switch {
		case times == 0 || times > 9:
			nothing(t, "times", got, e, api.ErrArg)
		case times > 6:
			nothing(t, "more visits", got, e, api.ErrLimit)
		case !same(made(t, got, e), changed(f, func(f *api.Form) { f.Repeats[1].Times = times })):
			t.Errorf("%d times: %v", times, got)
		}
	}
	again, e := reprise.Times(f, 0, 2)
	if !same(made(t, again, e), f) {
		t.Errorf("as often as before: %v", again)
	}
	one, e := reprise.Times(api.Form{Bars: 4000, Repeats: []api.Repeat{repeat(0, 2000, 9), repeat(2000, 2001, 1)}}, 1, 2)
	nothing(t, "one visit more", one, e, api.ErrLimit)
}

// P9.1: forms that are nearly well-formed.
func TestNearForms(t *testing.T) {
	counts := [2]int{}
	for seed := range uint64(3000) {
		roll := dice(seed + 7000)
		f := anyForm(seed, 12, 3)
		change(roll, &f)
		check(t, "near form", f)
		if right(f) {
			counts[1]++
		} else {
			counts[0]++
		}
	}
	if min(counts[0], counts[1]) < 500 {
		t.Errorf("%d forms are invalid, and %d valid", counts[0], counts[1])
	}
}

// change changes one number of a form a little, or exchanges two of its elements.
func change(roll func(limit int) int, f *api.Form) {
	numbers := []*int{&f.Bars, &f.Jump.At, &f.Jump.To, &f.Jump.Fine}
	for i := range f.Repeats {
		numbers = append(numbers, &f.Repeats[i].From, &f.Repeats[i].Until, &f.Repeats[i].Times)
	}
	for i := range f.Endings {
		numbers = append(numbers, &f.Endings[i].From, &f.Endings[i].Until, &f.Endings[i].Pass)
	}
	for i := range f.Cuts {
		numbers = append(numbers, &f.Cuts[i].From, &f.Cuts[i].Until, &f.Cuts[i].Pass)
	}
	*numbers[roll(len(numbers))] += roll(7) - 3
	if n := len(f.Repeats); n > 0 && roll(8) == 0 {
		i, k := roll(n), roll(n)
		f.Repeats[i], f.Repeats[k] = f.Repeats[k], f.Repeats[i]
	}
	if n := len(f.Cuts); n > 0 && roll(4) == 0 {
		f.Cuts[roll(n)] = f.Cuts[roll(n)]
	}
}

// P9.2: no visit comes twice; those of a bar have a rising Pass, which is 1, 2 and so on without cuts.
func TestVisitsOfBars(t *testing.T) {
	for _, f := range append(few(), long()...) {
		l, _ := reprise.Unfold(f)
		seen, last := map[api.Visit]bool{}, map[int]int{}
		for _, v := range l {
			if seen[v] || v.Pass <= last[v.Bar] || v.Bar < 0 || v.Bar >= f.Bars {
				t.Fatalf("%v: %v comes behind the pass %d", f, v, last[v.Bar])
			}
			seen[v], last[v.Bar] = true, v.Pass
		}
		l, _ = reprise.Unfold(uncut(f))
		clear(last)
		for _, v := range l {
			if last[v.Bar]++; v.Pass != last[v.Bar] {
				t.Fatalf("%v: %v is the visit %d of its bar", f, v, last[v.Bar])
			}
		}
	}
}

// P9.3: without cuts, the next bar follows, unless a repeat begins anew, an ending is left out, or the jump is taken.
func TestSteps(t *testing.T) {
	for _, f := range append(few(), long()...) {
		l, _ := reprise.Unfold(uncut(f))
		jumps := 0
		for i := range l[:max(len(l), 1)-1] {
			from, to := l[i].Bar, l[i+1].Bar
			if silent(f, from+1, to) || again(f, from, to) {
				continue
			}
			jumps++
			if f.Jump.At == 0 || jumps > 1 || !silent(f, from+1, f.Jump.At) || !silent(f, f.Jump.To, to) {
				t.Fatalf("%v: the visits %v and %v", f, l[i], l[i+1])
			}
		}
	}
}

// silent reports whether there are only bars of endings, or none, from an index to another one, which is not less.
func silent(f api.Form, from, until int) bool {
	for bar := from; bar < until; bar++ {
		if endingOf(f, bar) == 0 {
			return false
		}
	}
	return from <= until
}

// again reports whether a step from a bar to another one is one to the beginning of their repeat.
func again(f api.Form, from, to int) bool {
	r, ok := repeatOf(f, from)
	return ok && covers(r.From, r.Until, to) && silent(f, from+1, r.Until) && silent(f, r.From, to)
}

// P9.4: a further cut leaves out the visits that it is about, and no others.
func TestFurtherCuts(t *testing.T) {
	for i, f := range append(few(), most()...) {
		before, _ := reprise.Unfold(f)
		for _, c := range append(anyCuts(dice(uint64(i)+400), f.Bars, 12), cut(0, f.Bars, 0), cut(0, f.Bars, 1), cut(0, f.Bars, 20)) {
			got, e := reprise.Cut(f, c)
			if slices.Contains(f.Cuts, c) {
				nothing(t, "there already", got, e, api.ErrTwice)
				continue
			}
			l, e := reprise.Unfold(made(t, got, e))
			if want := without(before, []api.Cut{c}); e != api.OK || !slices.Equal(l, want) {
				t.Fatalf("%v with the cut %v has the order %v, %v instead of %v", f, c, l, e, want)
			}
		}
		got, e := reprise.Cut(uncut(f), cut(0, f.Bars, 0))
		if l, e := reprise.Unfold(made(t, got, e)); e != api.OK || len(l) != 0 {
			t.Errorf("when all is cut, there is left %v, %v", l, e)
		}
	}
}

// P9.5: cuts can be made in any order, and what is cut and opened is as it was.
func TestOpening(t *testing.T) {
	for i, f := range append(few(), most()[:2]...) {
		roll := dice(uint64(i) + 900)
		f = uncut(f)
		cuts := anyCuts(roll, f.Bars, 6)
		want := without(walk(f), cuts)
		for range 6 {
			shuffle(roll, cuts)
			x := f
			for _, c := range cuts {
				got, e := reprise.Cut(x, c)
				opened, d := reprise.Open(made(t, got, e), c)
				if !same(made(t, opened, d), x) {
					t.Fatalf("%v, cut and opened, is %v", x, opened)
				}
				x = got
			}
			if l, e := reprise.Unfold(x); e != api.OK || !slices.Equal(l, want) || !slices.Equal(x.Cuts, cuts) {
				t.Fatalf("%v with %v has the order %v, %v instead of %v", f, cuts, l, e, want)
			}
			left := slices.Clone(cuts)
			shuffle(roll, cuts)
			for _, c := range cuts {
				got, e := reprise.Open(x, c)
				left = slices.DeleteFunc(left, func(o api.Cut) bool { return o == c })
				if x = made(t, got, e); !slices.Equal(x.Cuts, left) {
					t.Fatalf("without the cut %v: %v instead of %v", c, x.Cuts, left)
				}
			}
			if !same(x, f) {
				t.Fatalf("%v, all of it opened, is %v", f, x)
			}
		}
	}
}

// shuffle brings cuts into any order.
func shuffle(roll func(limit int) int, l []api.Cut) {
	for k := range l {
		o := roll(k + 1)
		l[k], l[o] = l[o], l[k]
	}
}

// P9.6: each visit is found where it is, but not one that a cut leaves out, or that there never was.
func TestFind(t *testing.T) {
	leftOut := 0
	for _, f := range few() {
		order := played(f)
		for bar := -1; bar <= f.Bars; bar++ {
			for pass := -1; pass <= 22; pass++ {
				checkFind(t, f, visit(bar, pass), slices.Index(order, visit(bar, pass)))
			}
		}
		for _, v := range walk(f) {
			if !slices.Contains(order, v) {
				checkFind(t, f, v, -1)
				leftOut++
			}
		}
		for _, n := range outside() {
			checkFind(t, f, visit(n, 1), -1)
			checkFind(t, f, visit(0, n), -1)
			checkFind(t, f, visit(n, n), -1)
		}
	}
	if leftOut < 100 {
		t.Errorf("%d visits are left out", leftOut)
	}
	for _, f := range long() {
		order := played(f)
		for at := 0; at < len(order); at += 1 + len(order)/50 {
			checkFind(t, f, order[at], at)
		}
		if n := len(order); n > 0 {
			checkFind(t, f, order[n-1], n-1)
		}
		checkFind(t, f, visit(f.Bars, 1), -1)
	}
}

// P1: arguments are left as they are, and results have memory of their own.
func TestMemory(t *testing.T) {
	roomy := func(f api.Form) api.Form {
		f.Repeats, f.Endings = append(slices.Grow(f.Repeats, 5), repeat(0, 1, 1))[:len(f.Repeats)], append(slices.Grow(f.Endings, 5), ending(0, 1, 1))[:len(f.Endings)]
		f.Cuts = append(slices.Grow(f.Cuts, 5), cut(0, 1, 5))[:len(f.Cuts)]
		return f
	}
	for _, f := range few() {
		if len(f.Repeats) == 0 || len(f.Cuts) == 0 || len(f.Cuts) > 5 {
			continue
		}
		f, kept := roomy(f), clone(f)
		results := []api.Form{}
		for _, at := range []int{0, len(f.Repeats) - 1} {
			got, e := reprise.Times(f, at, 10-f.Repeats[at].Times)
			results = append(results, made(t, got, e))
		}
		for range 2 {
			got, e := reprise.Cut(f, cut(0, 1, 17))
			results = append(results, made(t, got, e))
			got, e = reprise.Open(f, f.Cuts[0])
			results = append(results, made(t, got, e))
		}
		want := []api.Form{}
		for _, r := range results {
			want = append(want, clone(r))
		}
		for i, r := range results {
			if !same(r, want[i]) || !same(f, kept) || f.Cuts[:len(f.Cuts)+1][len(f.Cuts)] != cut(0, 1, 5) {
				t.Fatalf("%v was changed to %v", kept, f)
			}
			clear(r.Repeats)
			clear(r.Endings)
			clear(r.Cuts)
		}
		first, _ := reprise.Unfold(f)
		clear(first)
		reprise.Find(f, visit(0, 1))
		checkValid(t, "again", f)
		if !same(f, kept) {
			t.Fatalf("%v was changed to %v", kept, f)
		}
	}
}

// P1: what has no elements is the same as what is nil.
func TestEmpty(t *testing.T) {
	a, b := plain(3), api.Form{Bars: 3, Repeats: []api.Repeat{}, Endings: []api.Ending{}, Cuts: []api.Cut{}}
	for _, f := range []api.Form{a, b} {
		checkValid(t, "empty", f)
		got, e := reprise.Cut(f, cut(1, 2, 0))
		l, _ := reprise.Unfold(made(t, got, e))
		if !slices.Equal(barsOf(l), []int{0, 2}) {
			t.Errorf("%v has the order %v", got, l)
		}
		got, e = reprise.Times(f, 0, 1)
		nothing(t, "no repeat", got, e, api.ErrNone)
	}
}
