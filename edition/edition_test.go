package edition_test

import (
	"math"
	"slices"
	"strconv"
	"strings"
	"testing"

	"partbook/api"
	"partbook/edition"
	"partbook/score"
)

// rat returns a ratio as it is written.
func rat(n, d int) api.Rat { return api.Rat{N: n, D: d} }

// dice returns a function that returns numbers from 0 to before a limit, of a fixed sequence.
func dice(seed uint64) func(limit int) int {
	return func(limit int) int {
		seed = seed*6364136223846793005 + 1442695040888963407
		return int((seed ^ seed>>31) >> 8 % uint64(limit))
	}
}

// printed returns a printed bar.
func printed(number, bar, pass int) api.Printed {
	return api.Printed{Number: number, Bar: bar, Pass: pass}
}

// visit returns a visit of a bar (its ID).
func visit(bar, pass int) api.Visit { return api.Visit{Bar: bar, Pass: pass} }

// letter returns a letter.
func letter(name string, at int) api.Letter { return api.Letter{Name: name, At: at} }

// chapter returns the edition of the chapter's examples.
func chapter() api.Edition {
	return api.Edition{ID: 7, Version: 4, Bars: []api.Printed{printed(1, 11, 0), printed(2, 12, 1), printed(2, 12, 2), printed(3, 13, 0)}}
}

// example returns an edition with numbers and bars that are there several times, in no order.
func example() api.Edition {
	return api.Edition{
		ID:      3,
		Version: 4,
		Bars: []api.Printed{
			printed(5, 12, 2), printed(0, 11, 0), printed(100000, 11, 3), printed(7, 1000000, 9), printed(5, 12, 0),
			printed(6, 12, 2), printed(5, 13, 1), printed(8, 1000000, 9), printed(9, 13, 0), printed(10, 13, 0), printed(0, 1, 0),
		},
		Letters: []api.Letter{letter("B", 3), letter("A", 9), letter("Z9", 0), letter("CODA12345678", 10), letter("A1", 3), letter("AA", 9)},
	}
}

// changed returns the example with a change.
func changed(change func(e *api.Edition)) api.Edition {
	e := example()
	change(&e)
	return e
}

// clone returns an edition with memory of its own.
func clone(e api.Edition) api.Edition {
	e.Bars, e.Letters = slices.Clone(e.Bars), slices.Clone(e.Letters)
	return e
}

// same reports whether two editions are equal.
func same(a, b api.Edition) bool {
	return a.ID == b.ID && a.Version == b.Version && slices.Equal(a.Bars, b.Bars) && slices.Equal(a.Letters, b.Letters)
}

// scoreOf returns a score with bars of these IDs.
func scoreOf(version int, ids ...int) api.Score {
	p := api.Part{ID: 1, Desks: 1, Low: api.Pitch{Octave: 1}, High: api.Pitch{Octave: 8}}
	s := api.Score{Version: version, Parts: []api.Part{p}}
	for _, id := range ids {
		s.Bars = append(s.Bars, api.Bar{ID: id, Length: rat(4, 1)})
	}
	return s
}

// home returns a score for which an edition is valid, if there is one: its bars are those that it prints, each once, backwards.
func home(e api.Edition) api.Score {
	ids := []int{}
	for _, p := range e.Bars {
		ids = append(ids, p.Bar)
	}
	slices.Sort(ids)
	ids = slices.Compact(ids)
	slices.Reverse(ids)
	return scoreOf(e.Version, ids...)
}

// name returns a name, another one for each number.
func name(n int) string { return strings.ToUpper("N" + strconv.FormatInt(int64(n), 36)) }

// anyEdition returns an edition with so many printed bars and letters, of which some have the same numbers and bars.
func anyEdition(seed uint64, bars, letters int) api.Edition {
	roll := dice(seed)
	e := api.Edition{ID: 1 + roll(1000000), Version: 1 + roll(1000000)}
	for range bars {
		// Most printed bars are for all passes.
		e.Bars = append(e.Bars, printed(roll(2*bars), 1+roll(bars)*7, roll(4)*roll(2)))
	}
	for i := range letters {
		e.Letters = append(e.Letters, letter(name((i*7919+int(seed))%999983), roll(bars)))
	}
	return e
}

// few returns short editions.
func few() []api.Edition {
	l := []api.Edition{chapter(), example(), {ID: 1, Version: 1, Bars: []api.Printed{printed(0, 1, 0)}}, {ID: 1000000, Version: 1000000, Bars: []api.Printed{printed(100000, 1000000, 9)}}}
	for seed := range uint64(40) {
		l = append(l, anyEdition(seed, 1+int(seed)%25, int(seed)*2))
	}
	return l
}

// many returns editions at the limits of printed bars and letters.
func many() []api.Edition {
	return []api.Edition{anyEdition(70, 4000, 1000), anyEdition(71, 4000, 0), anyEdition(72, 1, 1000)}
}

// visitAt returns the visit that is printed at a printed bar, by the words of the chapter, and whether there is one.
func visitAt(p api.Printed, times int) (api.Visit, bool) {
	switch {
	case p.Pass != 0:
		return visit(p.Bar, p.Pass), times == 0 || times == 1
	case times == 0:
		return visit(p.Bar, 1), true
	}
	return visit(p.Bar, times), true
}

// placeOf returns the place of a visit by trying all printed bars, for 0 times, for 1, and for as many as it has.
func placeOf(e api.Edition, v api.Visit) (at, times int, ok bool) {
	for at, p := range e.Bars {
		for _, times := range []int{0, 1, v.Pass} {
			if got, ok := visitAt(p, times); ok && got == v {
				return at, times, true
			}
		}
	}
	return 0, 0, false
}

// checkLetter checks what is found for a name.
func checkLetter(t *testing.T, e api.Edition, name string, at int, want api.Errno) {
	t.Helper()
	if got, wrong := edition.Letter(e, name); got != at || wrong != want {
		t.Errorf("the letter %q is at %d, %v instead of %d, %v", name, got, wrong, at, want)
	}
}

// checkNumber checks what is found for a number.
func checkNumber(t *testing.T, e api.Edition, number, at int, want api.Errno) {
	t.Helper()
	if got, wrong := edition.Number(e, number); got != at || wrong != want {
		t.Errorf("the number %d is at %d, %v instead of %d, %v", number, got, wrong, at, want)
	}
}

// checkVisit checks which visit is printed at an index.
func checkVisit(t *testing.T, e api.Edition, at, times int, v api.Visit, want api.Errno) {
	t.Helper()
	if got, wrong := edition.Visit(e, at, times); got != v || wrong != want {
		t.Errorf("at %d, for %d times: %v, %v instead of %v, %v", at, times, got, wrong, v, want)
	}
}

// checkPlace checks the place of a visit.
func checkPlace(t *testing.T, e api.Edition, v api.Visit, at, times int, ok bool, want api.Errno) {
	t.Helper()
	if gotAt, gotTimes, gotOK, wrong := edition.Place(e, v); gotAt != at || gotTimes != times || gotOK != ok || wrong != want {
		t.Errorf("the place of %v: %d, %d, %v, %v instead of %d, %d, %v, %v", v, gotAt, gotTimes, gotOK, wrong, at, times, ok, want)
	}
}

// checkWellFormed checks that an edition is well-formed, which all functions see alike.
func checkWellFormed(t *testing.T, what string, e api.Edition) {
	t.Helper()
	if !edition.Valid(home(e), e) {
		t.Errorf("%s: not valid", what)
	}
	if _, wrong := edition.Letter(e, "NONE"); wrong != api.ErrNone {
		t.Errorf("%s: letter: %v", what, wrong)
	}
	if _, wrong := edition.Number(e, 77777); wrong != api.ErrNone {
		t.Errorf("%s: number: %v", what, wrong)
	}
	if _, wrong := edition.Visit(e, 0, 0); wrong != api.OK {
		t.Errorf("%s: visit: %v", what, wrong)
	}
	if _, _, ok, wrong := edition.Place(e, visit(777777, 1)); ok || wrong != api.OK {
		t.Errorf("%s: place: %v, %v", what, ok, wrong)
	}
}

// checkIllFormed checks that an edition is not well-formed, and that this is the first error of all functions, whatever else is wrong.
func checkIllFormed(t *testing.T, what string, e api.Edition) {
	t.Helper()
	for _, s := range []api.Score{home(e), scoreOf(e.Version, 11, 12, 13, 1000000, 1), home(example()), {}} {
		if edition.Valid(s, e) {
			t.Errorf("%s: valid", what)
		}
	}
	for _, name := range []string{"B", "A", "NONE", "", "b"} {
		checkLetter(t, e, name, 0, api.ErrArg)
	}
	for _, number := range []int{7, 5, 0, 4, -1, math.MaxInt} {
		checkNumber(t, e, number, 0, api.ErrArg)
	}
	for _, at := range []int{0, 1, 9, -1, math.MinInt, math.MaxInt} {
		for _, times := range []int{0, 1, 2, -1, 20001} {
			checkVisit(t, e, at, times, api.Visit{}, api.ErrArg)
		}
	}
	for _, v := range []api.Visit{visit(11, 1), visit(12, 2), visit(77, 1), {}, visit(0, 1), visit(11, math.MaxInt)} {
		checkPlace(t, e, v, 0, 0, false, api.ErrArg)
	}
}

// P11.1: the examples of the chapter.
func TestExamples(t *testing.T) {
	e := chapter()
	checkWellFormed(t, "chapter", e)
	checkNumber(t, e, 2, 0, api.ErrTwice)
	checkPlace(t, e, visit(12, 2), 2, 0, true, api.OK)
	checkPlace(t, e, visit(13, 2), 3, 2, true, api.OK)
	checkNumber(t, e, 1, 0, api.OK)
	checkNumber(t, e, 3, 3, api.OK)
	checkNumber(t, e, 4, 0, api.ErrNone)
	checkPlace(t, e, visit(12, 1), 1, 0, true, api.OK)
	checkPlace(t, e, visit(12, 3), 0, 0, false, api.OK)
	checkPlace(t, e, visit(14, 1), 0, 0, false, api.OK)
	checkVisit(t, e, 1, 1, visit(12, 1), api.OK)
	checkVisit(t, e, 2, 1, visit(12, 2), api.OK)
	checkVisit(t, e, 2, 2, api.Visit{}, api.ErrPass)
	checkVisit(t, e, 3, 2, visit(13, 2), api.OK)
	if !edition.Valid(scoreOf(4, 13, 12, 11), e) || edition.Valid(scoreOf(4, 11, 12), e) || edition.Valid(scoreOf(5, 11, 12, 13), e) {
		t.Error("valid for other scores than its own")
	}
}

// P11.1, K1: editions of all sizes.
func TestWellFormed(t *testing.T) {
	for _, e := range slices.Concat(few(), many()) {
		checkWellFormed(t, "few or many", e)
	}
	checkIllFormed(t, "nothing", api.Edition{})
}

// P11.1, K1: the limits of ID and Version.
func TestIDs(t *testing.T) {
	for _, n := range []int{1, 2, 4, 500000, 999999, 1000000} {
		checkWellFormed(t, "ID", changed(func(e *api.Edition) { e.ID = n }))
		checkWellFormed(t, "version", changed(func(e *api.Edition) { e.Version = n }))
	}
	for _, n := range []int{0, -1, -4, 1000001, 2000000, math.MinInt, math.MaxInt} {
		checkIllFormed(t, "ID", changed(func(e *api.Edition) { e.ID = n }))
		checkIllFormed(t, "version", changed(func(e *api.Edition) { e.Version = n }))
	}
}

// P11.1, K1: how many printed bars there are.
func TestNumberOfBars(t *testing.T) {
	long := anyEdition(5, 4001, 0)
	for _, n := range []int{1, 2, 3, 1000, 3999, 4000} {
		e := clone(long)
		e.Bars = e.Bars[:n]
		checkWellFormed(t, "printed bars", e)
		for range 4000 - n {
			e.Bars = append(e.Bars, printed(1, 1, 0))
		}
		checkWellFormed(t, "4000 printed bars", e)
	}
	checkIllFormed(t, "4001 printed bars", long)
	checkIllFormed(t, "4001 printed bars", changed(func(e *api.Edition) { e.Bars = slices.Repeat(e.Bars[:1], 4001) }))
	checkIllFormed(t, "many printed bars", changed(func(e *api.Edition) { e.Bars = slices.Repeat(e.Bars, 1000) }))
	checkIllFormed(t, "no printed bars", changed(func(e *api.Edition) { e.Bars, e.Letters = nil, nil }))
	checkIllFormed(t, "no printed bars", changed(func(e *api.Edition) { e.Bars, e.Letters = []api.Printed{}, nil }))
	checkIllFormed(t, "no printed bars, but letters", changed(func(e *api.Edition) { e.Bars = nil }))
}

// P11.1, K1: the limits of the fields of a printed bar, wherever it is.
func TestFieldsOfBars(t *testing.T) {
	for _, x := range []struct {
		what          string
		right, beyond []int
		set           func(p *api.Printed, n int)
	}{
		{"number", []int{0, 1, 2, 50000, 99999, 100000}, []int{-1, -5, 100001, 1000000}, func(p *api.Printed, n int) { p.Number = n }},
		{"bar", []int{1, 2, 11, 500000, 999999, 1000000}, []int{0, -1, -11, 1000001, 2000000}, func(p *api.Printed, n int) { p.Bar = n }},
		{"pass", []int{0, 1, 2, 3, 4, 5, 6, 7, 8, 9}, []int{-1, -2, 10, 11, 20000}, func(p *api.Printed, n int) { p.Pass = n }},
	} {
		for at := range example().Bars {
			for _, n := range x.right {
				checkWellFormed(t, x.what, changed(func(e *api.Edition) { x.set(&e.Bars[at], n) }))
			}
			for _, n := range append(x.beyond, math.MinInt, math.MaxInt) {
				checkIllFormed(t, x.what, changed(func(e *api.Edition) { x.set(&e.Bars[at], n) }))
			}
		}
		long := anyEdition(9, 4000, 1000)
		for _, at := range []int{0, 2000, 3999} {
			e := clone(long)
			x.set(&e.Bars[at], x.beyond[0])
			checkIllFormed(t, x.what, e)
		}
	}
}

// P11.1, K1: how many letters there are.
func TestNumberOfLetters(t *testing.T) {
	all := []api.Letter{}
	for i := range 1001 {
		all = append(all, letter(name(i), i%11))
	}
	for _, n := range []int{0, 1, 2, 26, 999, 1000} {
		checkWellFormed(t, "letters", changed(func(e *api.Edition) { e.Letters = all[:n] }))
		checkWellFormed(t, "letters", anyEdition(3, 1, n))
	}
	checkIllFormed(t, "1001 letters", changed(func(e *api.Edition) { e.Letters = all }))
	checkIllFormed(t, "1001 letters", anyEdition(3, 4000, 1001))
	checkIllFormed(t, "2000 letters", anyEdition(3, 4000, 2000))
}

// P11.1, K1: letters with the same name, at the same printed bar or at another one; others can be at the same one.
func TestSameNames(t *testing.T) {
	for i, l := range example().Letters {
		for at := range example().Bars {
			checkIllFormed(t, "a name again", changed(func(e *api.Edition) { e.Letters = append(e.Letters, letter(l.Name, at)) }))
		}
		for k := range example().Letters {
			if k != i {
				checkIllFormed(t, "the name of another one", changed(func(e *api.Edition) { e.Letters[k].Name = l.Name }))
				checkWellFormed(t, "the place of another one", changed(func(e *api.Edition) { e.Letters[k].At = l.At }))
			}
		}
	}
	e := anyEdition(6, 4000, 1000)
	e.Letters[999].Name = e.Letters[0].Name
	checkIllFormed(t, "the first name is the last one too", e)
}

// P11.1, K1: letters at the index of no printed bar.
func TestIndexesOfLetters(t *testing.T) {
	for i := range example().Letters {
		for at := range example().Bars {
			checkWellFormed(t, "index", changed(func(e *api.Edition) { e.Letters[i].At = at }))
		}
		for _, at := range []int{-1, -2, 11, 12, 4000, math.MinInt, math.MaxInt} {
			checkIllFormed(t, "index", changed(func(e *api.Edition) { e.Letters[i].At = at }))
		}
	}
	checkIllFormed(t, "the printed bar of a letter is gone", changed(func(e *api.Edition) { e.Bars = e.Bars[:10] }))
}

// names returns strings that are names.
func names() []string {
	l := []string{"A", "Z", "M", "A0", "Z9", "AB", "ZZZ", "A1B2C3", "ABCDEFGHIJKL", "Z01234567890", "Q99999999999", "CODA", "ABCDEFGHIJK"}
	for c := byte('A'); c <= 'Z'; c++ {
		l = append(l, string(c), "A"+string(c), string(c)+"7", "B5"+string(c)+"0")
	}
	for c := byte('0'); c <= '9'; c++ {
		l = append(l, "A"+string(c), "BB"+string(c)+"B")
	}
	return l
}

// noNames returns strings that are none: too short and too long ones, and those with each other byte at each place.
func noNames() []string {
	l := []string{
		"", "ABCDEFGHIJKLM", "A012345678901", "AAAAAAAAAAAAAAAAAAAAAAAA", strings.Repeat("A", 1000), strings.Repeat("A", 70000),
		"1", "0A", "9Z", "12", "a", "aB", "Ab", "coda", "Coda", "A B", " A", "A ", "A-B", "A_1", "A.", "A\x00", "A\n", "Ä", "AÄ", "А", "A１", "Ａ", "É", "\xff", "A\xc3", "ABCDEFGHIJK\u00c9",
	}
	for c := range 256 {
		sign := byte(c)
		isCapital, isDigit := sign >= 'A' && sign <= 'Z', sign >= '0' && sign <= '9'
		if !isCapital {
			l = append(l, string([]byte{sign}), string([]byte{sign, 'A'}))
		}
		if !isCapital && !isDigit {
			l = append(l, string([]byte{'A', sign}), string([]byte{'A', sign, 'B'}), string([]byte{'A', 'B', '7', sign}), "ABCDEFGHIJK"+string([]byte{sign}))
		}
	}
	return l
}

// P11.1, K1 and K2: what is a name, and what is none, as a letter and as what is looked for.
func TestNames(t *testing.T) {
	for _, name := range names() {
		e := chapter()
		checkLetter(t, e, name, 0, api.ErrNone)
		e.Letters = []api.Letter{letter("OTHER", 0), letter(name, 2)}
		checkWellFormed(t, name, e)
		checkLetter(t, e, name, 2, api.OK)
	}
	for _, name := range noNames() {
		for _, e := range []api.Edition{chapter(), example()} {
			checkLetter(t, e, name, 0, api.ErrArg)
		}
		checkIllFormed(t, name, changed(func(e *api.Edition) { e.Letters = []api.Letter{letter(name, 2)} }))
		checkIllFormed(t, name, changed(func(e *api.Edition) { e.Letters = append(e.Letters, letter(name, 0)) }))
	}
	for i := range example().Letters {
		checkIllFormed(t, "empty", changed(func(e *api.Edition) { e.Letters[i].Name = "" }))
		checkIllFormed(t, "small", changed(func(e *api.Edition) { e.Letters[i].Name = strings.ToLower(e.Letters[i].Name) }))
	}
}

// P11.2: each letter is found at its printed bar, and nothing else is.
func TestLetters(t *testing.T) {
	for _, e := range slices.Concat(few(), many()) {
		there := map[string]bool{}
		for _, l := range e.Letters {
			checkLetter(t, e, l.Name, l.At, api.OK)
			there[l.Name] = true
		}
		for _, x := range append(names(), "N", "N0", "NZZZZ", "B1", "CODA1234567", "CODA12345679", "A2", "Z", "Z99") {
			if !there[x] {
				checkLetter(t, e, x, 0, api.ErrNone)
			}
		}
		if len(e.Letters) > 0 {
			gone, last := clone(e), e.Letters[len(e.Letters)-1]
			gone.Letters = gone.Letters[:len(e.Letters)-1]
			checkLetter(t, gone, last.Name, 0, api.ErrNone)
		}
	}
}

// P11.3: a number is found exactly if one printed bar has it.
func TestNumbers(t *testing.T) {
	for _, e := range slices.Concat(few(), many()) {
		indexes := map[int][]int{}
		for at, p := range e.Bars {
			indexes[p.Number] = append(indexes[p.Number], at)
		}
		numbers := []int{0, 1, 2, 3, 4, 11, 77777, 99999, 100000}
		for k := range min(200, len(e.Bars)) {
			numbers = append(numbers, e.Bars[k].Number, e.Bars[k].Number+1, e.Bars[len(e.Bars)-1-k].Number)
		}
		for _, number := range numbers {
			if number > 100000 {
				continue
			}
			switch l := indexes[number]; len(l) {
			case 0:
				checkNumber(t, e, number, 0, api.ErrNone)
			case 1:
				checkNumber(t, e, number, l[0], api.OK)
			default:
				checkNumber(t, e, number, 0, api.ErrTwice)
			}
		}
	}
}

// P11.3: a number that each printed bar has, or that one has alone, wherever it is.
func TestNumberThereOnce(t *testing.T) {
	for _, size := range []int{1, 2, 3, 50, 4000} {
		e := api.Edition{ID: 1, Version: 1, Bars: slices.Repeat([]api.Printed{printed(8, 1, 0)}, size)}
		want := api.ErrTwice
		if size == 1 {
			want = api.OK
		}
		checkNumber(t, e, 8, 0, want)
		for _, at := range []int{0, 1, size / 2, size - 2, size - 1} {
			if at < 0 || at >= size {
				continue
			}
			one := clone(e)
			one.Bars[at].Number = 100000
			checkNumber(t, one, 100000, at, api.OK)
			checkNumber(t, one, 99999, 0, api.ErrNone)
			one.Bars[at].Number = 0
			checkNumber(t, one, 0, at, api.OK)
			checkNumber(t, one, 1, 0, api.ErrNone)
		}
	}
}

// P11.1, K3: numbers that can be none.
func TestWrongNumbers(t *testing.T) {
	for _, e := range few() {
		for _, number := range []int{-1, -2, -5, 100001, 100002, 1000000, math.MinInt, math.MaxInt} {
			checkNumber(t, e, number, 0, api.ErrArg)
		}
	}
}

// P11.1, K4: the visits of printed bars for one pass, and for all of them.
func TestVisits(t *testing.T) {
	for _, e := range few() {
		for at, p := range e.Bars {
			for _, times := range []int{0, 1, 2, 3, 8, 9, 10, 500, 19999, 20000} {
				if v, ok := visitAt(p, times); ok {
					checkVisit(t, e, at, times, v, api.OK)
				} else {
					checkVisit(t, e, at, times, api.Visit{}, api.ErrPass)
				}
			}
		}
	}
	for pass := range 10 {
		e := api.Edition{ID: 1, Version: 1, Bars: []api.Printed{printed(1, 6, pass)}}
		for _, times := range []int{0, 1, 2, 9, 20000} {
			switch {
			case pass == 0:
				checkVisit(t, e, 0, times, visit(6, max(times, 1)), api.OK)
			case times < 2:
				checkVisit(t, e, 0, times, visit(6, pass), api.OK)
			default:
				checkVisit(t, e, 0, times, api.Visit{}, api.ErrPass)
			}
		}
	}
}

// P11.1, K4: indexes of no printed bar, and numbers of times that can be none; they come before a pass that is not printed.
func TestWrongVisits(t *testing.T) {
	for _, e := range slices.Concat(few(), many()) {
		n := len(e.Bars)
		for _, times := range []int{0, 1, 2, 20000, 20001, -1, math.MinInt} {
			for _, at := range []int{-1, -2, n, n + 1, 4000, math.MinInt, math.MaxInt} {
				checkVisit(t, e, at, times, api.Visit{}, api.ErrArg)
			}
		}
		for _, times := range []int{-1, -2, -20000, 20001, 20002, math.MinInt, math.MaxInt} {
			for at := range min(n, 30) {
				checkVisit(t, e, at, times, api.Visit{}, api.ErrArg)
			}
			checkVisit(t, e, n-1, times, api.Visit{}, api.ErrArg)
		}
	}
}

// visitsOf returns visits of the bars that an edition prints, and of some that it does not.
func visitsOf(e api.Edition) []api.Visit {
	ids := []int{1, 2, 11, 12, 13, 500000, 999999, 1000000}
	for k := range min(30, len(e.Bars)) {
		ids = append(ids, e.Bars[k].Bar, e.Bars[len(e.Bars)-1-k].Bar)
	}
	l := []api.Visit{}
	for _, id := range ids {
		for _, pass := range []int{1, 2, 3, 8, 9, 10, 19999, 20000} {
			l = append(l, visit(id, pass))
		}
	}
	return l
}

// P11.1, K5: visits that are printed at no, one, or several places.
func TestPlaces(t *testing.T) {
	for _, e := range slices.Concat(few(), many()) {
		for _, v := range visitsOf(e) {
			at, times, ok := placeOf(e, v)
			checkPlace(t, e, v, at, times, ok, api.OK)
		}
	}
	e := example()
	for _, x := range []struct {
		v         api.Visit
		at, times int
	}{
		{visit(11, 1), 1, 0}, {visit(11, 2), 1, 2}, {visit(11, 3), 1, 3}, {visit(11, 20000), 1, 20000},
		{visit(12, 1), 4, 0}, {visit(12, 2), 0, 0}, {visit(12, 3), 4, 3}, {visit(13, 1), 6, 0}, {visit(13, 2), 8, 2}, {visit(1000000, 9), 3, 0},
	} {
		checkPlace(t, e, x.v, x.at, x.times, true, api.OK)
	}
	for _, v := range []api.Visit{visit(1000000, 1), visit(1000000, 8), visit(1000000, 10), visit(10, 1), visit(14, 2)} {
		checkPlace(t, e, v, 0, 0, false, api.OK)
	}
}

// P11.1, K5: the first of several places counts, whether it is for all passes or for one.
func TestFirstPlace(t *testing.T) {
	all, second, other, third := printed(1, 9, 0), printed(2, 9, 2), printed(3, 8, 2), printed(4, 9, 3)
	for _, x := range []struct {
		bars      []api.Printed
		at, times int
	}{
		{[]api.Printed{all, second}, 0, 2}, {[]api.Printed{second, all}, 0, 0}, {[]api.Printed{other, third, second, second, all}, 2, 0},
		{[]api.Printed{third, other, all, second, all}, 2, 2}, {[]api.Printed{third, third, other, second}, 3, 0}, {[]api.Printed{third, other, all}, 2, 2},
	} {
		e := api.Edition{ID: 1, Version: 1, Bars: x.bars}
		checkPlace(t, e, visit(9, 2), x.at, x.times, true, api.OK)
		slices.Reverse(x.bars)
		at, times, ok := placeOf(e, visit(9, 2))
		checkPlace(t, e, visit(9, 2), at, times, ok, api.OK)
	}
	e := api.Edition{ID: 1, Version: 1, Bars: []api.Printed{third, other, third}}
	checkPlace(t, e, visit(9, 2), 0, 0, false, api.OK)
}

// P11.1, K5: visits that can be none.
func TestWrongPlaces(t *testing.T) {
	for _, e := range slices.Concat(few(), many()) {
		bar := e.Bars[0].Bar
		for _, n := range []int{0, -1, -12, 1000001, 2000000, math.MinInt, math.MaxInt} {
			for _, pass := range []int{1, 2, 20000, 0, 20001} {
				checkPlace(t, e, visit(n, pass), 0, 0, false, api.ErrArg)
			}
		}
		for _, pass := range []int{0, -1, -2, 20001, 20002, math.MinInt, math.MaxInt} {
			checkPlace(t, e, visit(bar, pass), 0, 0, false, api.ErrArg)
			checkPlace(t, e, visit(777777, pass), 0, 0, false, api.ErrArg)
		}
	}
}

// P11.4: what is printed at the place of a visit is this visit.
func TestPlacesHaveVisits(t *testing.T) {
	for _, e := range slices.Concat(few(), many()) {
		for _, v := range visitsOf(e) {
			at, times, ok, wrong := edition.Place(e, v)
			if wrong != api.OK {
				t.Fatalf("the place of %v: %v", v, wrong)
			}
			if ok {
				checkVisit(t, e, at, times, v, api.OK)
			}
		}
	}
}

// P11.5: a visit that is printed somewhere has a place, not after there, at which the same visit is printed.
func TestVisitsHavePlaces(t *testing.T) {
	for _, e := range slices.Concat(few(), many()) {
		for k := range min(len(e.Bars), 100) {
			at := len(e.Bars) - 1 - k
			for _, times := range []int{0, 1, 2, 3, 9, 10, 20000} {
				v, wrong := edition.Visit(e, at, times)
				if wrong != api.OK {
					continue
				}
				first, again, ok, wrong := edition.Place(e, v)
				if !ok || wrong != api.OK || first > at {
					t.Errorf("%v is printed at %d, and has the place %d, %v, %v", v, at, first, ok, wrong)
				}
				checkVisit(t, e, first, again, v, api.OK)
			}
		}
	}
}

// P11.6: visits and places do not depend on numbers, letters, ID and Version.
func TestOtherNumbers(t *testing.T) {
	for i, e := range slices.Concat(few(), many()) {
		roll := dice(uint64(i))
		other := clone(e)
		other.ID, other.Version, other.Letters = 1+roll(1000000), 1+roll(1000000), nil
		for at := range other.Bars {
			other.Bars[at].Number = roll(100001)
		}
		for k := range roll(20) {
			other.Letters = append(other.Letters, letter(name(k), roll(len(e.Bars))))
		}
		for k := range min(len(e.Bars), 50) {
			at := k * len(e.Bars) / min(len(e.Bars), 50)
			for _, times := range []int{0, 1, 2, 20000, 20001} {
				v, wrong := edition.Visit(e, at, times)
				checkVisit(t, other, at, times, v, wrong)
			}
		}
		for _, v := range visitsOf(e) {
			at, times, ok, wrong := edition.Place(e, v)
			checkPlace(t, other, v, at, times, ok, wrong)
		}
	}
}

// P11.1, K1, and P11.7: editions of another version than that of the score.
func TestOtherVersions(t *testing.T) {
	for _, e := range slices.Concat(few(), many()) {
		s := home(e)
		for _, version := range []int{1, 2, 3, 4, 5, 500000, 999999, 1000000} {
			s.Version = version
			if got := edition.Valid(s, e); got != (version == e.Version) {
				t.Errorf("an edition of the version %d for %d: %v", e.Version, version, got)
			}
		}
	}
}

// P11.1, K1: scores with other bars than those that are printed, with fewer and with more.
func TestOtherBars(t *testing.T) {
	for _, e := range slices.Concat(few(), many()) {
		s := home(e)
		for _, at := range []int{0, len(s.Bars) / 2, len(s.Bars) - 1} {
			gone, other := s, s
			gone.Bars = slices.Delete(slices.Clone(s.Bars), at, at+1)
			other.Bars = slices.Clone(s.Bars)
			other.Bars[at].ID = 777777
			if edition.Valid(gone, e) || edition.Valid(other, e) {
				t.Errorf("valid without the bar %d", s.Bars[at].ID)
			}
		}
		if len(s.Bars) == 4000 {
			continue
		}
		more := s
		more.Bars = append(slices.Clone(s.Bars), api.Bar{ID: 777777, Length: rat(1, 2)})
		if !edition.Valid(more, e) {
			t.Error("not valid for a score with a bar that is not printed")
		}
	}
	for at := range example().Bars {
		if edition.Valid(home(example()), changed(func(e *api.Edition) { e.Bars[at].Bar = 777777 })) {
			t.Errorf("valid with a bar of no score at %d", at)
		}
	}
	if !edition.Valid(home(example()), changed(func(e *api.Edition) { e.Bars, e.Letters = e.Bars[:1], nil })) {
		t.Error("not valid with a single printed bar")
	}
	if !edition.Valid(home(example()), changed(func(e *api.Edition) { e.Bars = slices.Repeat(e.Bars, 363) })) {
		t.Error("not valid with bars that are printed 363 times and more")
	}
}

// music returns a score with parts and notes, for which the example is valid.
func music() api.Score {
	s := home(example())
	for i := range s.Bars {
		s.Bars[i].Length, s.Bars[i].Key = rat(2+i, 1), i-2
	}
	s.Parts = append(s.Parts, api.Part{ID: 9, Of: 1, Octave: -1, Desks: 4, Low: api.Pitch{Octave: 1}, High: api.Pitch{Octave: 8}})
	for i, b := range s.Bars {
		s.Notes = append(s.Notes, api.Note{ID: 100 - i, Part: 1, Bar: b.ID, Start: rat(1, 2), Length: rat(1, 1), Pitch: api.Pitch{Step: i, Octave: 4}})
	}
	return s
}

// P11.1, K1: scores that are not valid.
func TestWrongScores(t *testing.T) {
	if !score.Valid(music()) || !edition.Valid(music(), example()) {
		t.Fatal("not valid for a score with notes")
	}
	for i, change := range []func(s *api.Score){
		func(s *api.Score) { s.Parts = nil },
		func(s *api.Score) { s.Parts[1].ID = 1 },
		func(s *api.Score) { s.Parts[1].Of = 8 },
		func(s *api.Score) { s.Parts[0].Low.Octave = 9 },
		func(s *api.Score) { s.Parts[0].Desks = 41 },
		func(s *api.Score) { s.Bars[2].ID = s.Bars[0].ID },
		func(s *api.Score) { s.Bars = append(s.Bars, s.Bars[0]) },
		func(s *api.Score) { s.Bars = append(s.Bars, api.Bar{ID: 0, Length: rat(1, 1)}) },
		func(s *api.Score) { s.Bars[1].Length = rat(1, 11) },
		func(s *api.Score) { s.Bars[1].Length = rat(25, 1) },
		func(s *api.Score) { s.Bars[1].Key = 8 },
		func(s *api.Score) { s.Notes[0], s.Notes[1] = s.Notes[1], s.Notes[0] },
		func(s *api.Score) { s.Notes[0].Part = 9 },
		func(s *api.Score) { s.Notes[0].Bar = 777777 },
		func(s *api.Score) { s.Notes[0].ID = s.Notes[1].ID },
		func(s *api.Score) { s.Notes[3].Pitch.Octave = 0 },
		func(s *api.Score) { s.Notes[3].Length = rat(0, 1) },
		func(s *api.Score) { s.Version = 0 },
		func(s *api.Score) { *s = api.Score{Version: 4} },
	} {
		s := music()
		change(&s)
		if score.Valid(s) || edition.Valid(s, example()) {
			t.Errorf("score %d: valid", i)
		}
	}
	// Neither is valid, with the same version.
	for _, version := range []int{0, -1, 1000001} {
		s := music()
		s.Version = version
		if edition.Valid(s, changed(func(e *api.Edition) { e.Version = version })) {
			t.Errorf("valid with the version %d", version)
		}
	}
}

// P11.7: an edition is valid for any score with the same Version and bars, and for none with another Version.
func TestOtherScores(t *testing.T) {
	for i, change := range []func(s *api.Score){
		func(s *api.Score) {},
		func(s *api.Score) { s.Notes = nil },
		func(s *api.Score) { s.Notes = s.Notes[2:4] },
		func(s *api.Score) { s.Notes[0].Pitch.Octave = 8 },
		func(s *api.Score) { s.Parts, s.Notes = s.Parts[:1], nil },
		func(s *api.Score) { s.Parts[0].ID, s.Parts[1].Of, s.Notes = 77, 77, nil },
		func(s *api.Score) { s.Parts[0].Section, s.Parts[0].Shift = 4, api.Interval{Steps: -1, Semitones: -2} },
		// What the bars are like besides their IDs, and in which order they are, plays no part either.
		func(s *api.Score) { s.Bars[0].Length, s.Bars[1].Key = rat(24, 1), 7 },
		func(s *api.Score) { slices.Reverse(s.Bars); slices.Reverse(s.Notes) },
	} {
		s := music()
		change(&s)
		if !score.Valid(s) || !edition.Valid(s, example()) {
			t.Errorf("score %d: not valid", i)
		}
		for _, version := range []int{1, 3, 5, 1000000} {
			s.Version = version
			if !score.Valid(s) || edition.Valid(s, example()) {
				t.Errorf("score %d: valid for the version %d", i, version)
			}
		}
	}
}

// P1: arguments are left as they are.
func TestMemory(t *testing.T) {
	e, s := example(), music()
	bars, parts, notes := slices.Clone(s.Bars), slices.Clone(s.Parts), slices.Clone(s.Notes)
	edition.Valid(s, e)
	edition.Letter(e, "A")
	edition.Number(e, 5)
	edition.Visit(e, 3, 1)
	edition.Place(e, visit(13, 2))
	if !same(e, example()) || !slices.Equal(s.Bars, bars) || !slices.Equal(s.Parts, parts) || !slices.Equal(s.Notes, notes) {
		t.Error("the arguments were changed")
	}
}

// P1: what lies behind the lists plays no part, and what was asked before does not either.
func TestNoState(t *testing.T) {
	e := example()
	e.Bars, e.Letters = append(e.Bars, printed(4, 777, 0))[:11], append(e.Letters, letter("C", 0))[:6]
	checkWellFormed(t, "with more memory", e)
	checkLetter(t, e, "C", 0, api.ErrNone)
	checkNumber(t, e, 4, 0, api.ErrNone)
	checkVisit(t, e, 11, 0, api.Visit{}, api.ErrArg)
	checkPlace(t, e, visit(777, 1), 0, 0, false, api.OK)
	checkLetter(t, e, "B", 3, api.OK)
	e.Letters[0], e.Bars[3] = letter("D", 5), printed(11, 14, 0)
	checkLetter(t, e, "B", 0, api.ErrNone)
	checkLetter(t, e, "D", 5, api.OK)
	checkNumber(t, e, 7, 0, api.ErrNone)
	checkNumber(t, e, 11, 3, api.OK)
	checkVisit(t, e, 3, 5, visit(14, 5), api.OK)
	checkPlace(t, e, visit(1000000, 9), 7, 0, true, api.OK)
}
