package notes

import (
	"math"
	"math/big"
	"slices"
	"testing"

	"partbook/api"
	"partbook/meter"
	"partbook/ratio"
)

// rat returns a ratio as it is written.
func rat(n, d int) api.Rat { return api.Rat{N: n, D: d} }

// parts returns the duration that has so many 1680th parts of a quarter, by unlimited numbers.
func parts(n int) api.Rat {
	r := big.NewRat(int64(n), 1680)
	return rat(int(r.Num().Int64()), int(r.Denom().Int64()))
}

// count returns how many 1680th parts of a quarter a duration has.
func count(r api.Rat) int { return r.N * 1680 / r.D }

// dice returns a function that returns numbers from 0 to before a limit, of a fixed sequence.
func dice(seed uint64) func(limit int) int {
	return func(limit int) int {
		seed = seed*6364136223846793005 + 1442695040888963407
		return int((seed ^ seed>>31) >> 8 % uint64(limit))
	}
}

// simple returns a note of 1 quarter.
func simple(id, part, bar int) api.Note {
	return api.Note{ID: id, Part: part, Bar: bar, Start: rat(0, 1), Length: rat(1, 1), Pitch: api.Pitch{Octave: 4}}
}

// spanning returns a note that begins and ends after so many 1680th parts of a quarter.
func spanning(id, part, bar, from, until int) api.Note {
	n := simple(id, part, bar)
	n.Start, n.Length = parts(from), parts(until-from)
	return n
}

// exampleBars returns bars, of which the one with the ID 5 is that of the chapter.
func exampleBars() []api.Bar {
	return []api.Bar{{ID: 9, Length: rat(3, 1)}, {ID: 5, Length: rat(4, 1), Key: 2}, {ID: 1000000, Length: rat(24, 1), Key: -7}, {ID: 1, Length: rat(1, 1680)}}
}

// example returns the notes of the chapter.
func example() []api.Note {
	l := []api.Note{simple(30, 2, 5), simple(10, 2, 5), simple(20, 2, 5)}
	l[1].Start, l[1].Length = rat(1, 2), rat(3, 2)
	l[2].Start, l[2].Length = rat(3, 1), rat(1, 2)
	return l
}

// anyPitch returns any pitch that notes have.
func anyPitch(roll func(limit int) int) api.Pitch {
	return api.Pitch{Step: roll(7), Alter: roll(5) - 2, Octave: roll(10)}
}

// anyBars returns so many bars with any IDs and Lengths.
func anyBars(seed uint64, n int) []api.Bar {
	roll := dice(seed)
	l := []api.Bar{}
	for i := range n {
		l = append(l, api.Bar{ID: 1000000 - (i*7919+int(seed))%999983, Length: parts(1 + roll(24*1680)), Key: roll(15) - 7})
	}
	return l
}

// anyNotes returns so many notes with any IDs, of so many parts, with starts and lengths that are multiples of the bar's length divided by a number, or of a 1680th of a quarter.
func anyNotes(seed uint64, bars []api.Bar, n, players, grid int) []api.Note {
	roll := dice(seed)
	l := []api.Note{}
	for i := range n {
		b := bars[roll(len(bars))]
		step := max(count(b.Length)/grid, 1)
		from := roll((count(b.Length)+step-1)/step) * step
		until := from + min(step*(1+roll(3)), count(b.Length)-from)
		x := spanning(1+(i*7919+int(seed))%999983, 1+roll(players), b.ID, from, until)
		x.Voice, x.Ossia, x.Pitch = roll(10), roll(21), anyPitch(roll)
		l = append(l, x)
	}
	return l
}

// music is notes with their bars.
type music struct {
	bars []api.Bar
	l    []api.Note
}

// few returns short lists of notes.
func few() []music {
	all := []music{
		{exampleBars(), example()},
		{exampleBars(), nil},
		{exampleBars(), []api.Note{}},
		{exampleBars(), []api.Note{simple(1, 1, 9)}},
		{exampleBars(), []api.Note{spanning(1000000, 1000000, 1, 0, 1)}},
		{exampleBars(), []api.Note{spanning(1, 1, 1000000, 0, 24*1680), spanning(2, 1, 1, 0, 1), spanning(3, 1, 5, 0, 4*1680), spanning(4, 1, 5, 0, 4*1680)}},
		{exampleBars(), []api.Note{spanning(1, 1, 9, 1680, 3360), spanning(2, 1, 9, 0, 1680), spanning(3, 1, 9, 3360, 5040)}},
	}
	for seed := range uint64(24) {
		bars := anyBars(seed, 1+int(seed)%7)
		all = append(all, music{bars, anyNotes(seed, bars, 1+int(seed)*4, 1+int(seed)%4, 1+int(seed)*int(seed))})
	}
	return all
}

// many returns lists of very many notes.
func many() []music {
	short, long := anyBars(31, 2), anyBars(32, 4000)
	fixed := []api.Note{}
	for i := range 20000 {
		fixed = append(fixed, simple(1000000-i, 1+i%60, exampleBars()[i%3].ID))
	}
	return []music{{exampleBars(), fixed}, {short, anyNotes(33, short, 20000, 3, 1000)}, {long, anyNotes(34, long, 20000, 60, 8)}, {long, anyNotes(35, long, 19999, 1000000, 1)}}
}

// noNotes returns notes that are not well-formed in the bars of the example.
func noNotes() []api.Note {
	l := []api.Note{{}, {ID: 1, Part: 1, Bar: 5}}
	wrong := func(change func(n *api.Note)) {
		n := simple(77, 3, 5)
		change(&n)
		l = append(l, n)
	}
	for _, id := range []int{0, -1, -77, 1000001, 2000000, math.MaxInt, math.MinInt} {
		wrong(func(n *api.Note) { n.ID = id })
		wrong(func(n *api.Note) { n.Part = id })
		wrong(func(n *api.Note) { n.Bar = id })
	}
	for _, bar := range []int{2, 3, 4, 6, 999999} {
		wrong(func(n *api.Note) { n.Bar = bar })
	}
	for _, n := range []int{-1, 10, 11, -9, 100, math.MaxInt, math.MinInt} {
		wrong(func(x *api.Note) { x.Voice = n })
	}
	for _, n := range []int{-1, 21, 22, -20, 100, math.MaxInt, math.MinInt} {
		wrong(func(x *api.Note) { x.Ossia = n })
	}
	for _, r := range noDurations() {
		wrong(func(n *api.Note) { n.Start = r })
		wrong(func(n *api.Note) { n.Length = r })
		wrong(func(n *api.Note) { n.Start, n.Length = r, r })
	}
	for _, x := range [][2]api.Rat{
		{rat(0, 1), rat(0, 1)}, {rat(4, 1), rat(0, 1)}, {rat(1, 2), rat(0, 1)}, {rat(4, 1), rat(1, 1680)}, {rat(5, 1), rat(1, 1)}, {rat(0, 1), rat(5, 1)}, {rat(0, 1), rat(6721, 1680)},
		{rat(1, 1680), rat(4, 1)}, {rat(7, 2), rat(3, 4)}, {rat(3, 1), rat(1681, 1680)}, {rat(2, 1), rat(21, 10)}, {rat(1000000000, 1), rat(1000000000, 1)}, {rat(0, 1), rat(1000000000, 1)}, {rat(1000000000, 1), rat(1, 1)},
	} {
		wrong(func(n *api.Note) { n.Start, n.Length = x[0], x[1] })
	}
	for _, p := range []api.Pitch{
		{Step: -1, Octave: 4}, {Step: 7, Octave: 4}, {Alter: 3, Octave: 4}, {Alter: -3, Octave: 4}, {Alter: 4}, {Alter: -4}, {Alter: 5}, {Alter: -5}, {Octave: -1}, {Octave: 10}, {Octave: -8}, {Octave: 20}, {Octave: 21}, {Octave: -9},
		{Step: math.MinInt}, {Step: math.MaxInt}, {Alter: math.MinInt}, {Alter: math.MaxInt}, {Octave: math.MinInt}, {Octave: math.MaxInt},
	} {
		wrong(func(n *api.Note) { n.Pitch = p })
	}
	return l
}

// noDurations returns ratios that are no durations.
func noDurations() []api.Rat {
	return []api.Rat{
		{}, rat(1, 0), rat(0, 2), rat(2, 2), rat(2, 4), rat(1680, 1680), rat(0, -1), rat(-1, -1), rat(1, -2), rat(-1, 1), rat(-1, 2), rat(-1, 1680), rat(-4, 1),
		rat(1, 9), rat(1, 11), rat(1, 32), rat(3, 25), rat(1, 1679), rat(1, 3360), rat(1, 1000000), rat(1, 1000001), rat(1000000001, 1),
		rat(math.MaxInt, 1), rat(math.MinInt, 1), rat(1, math.MaxInt), rat(1, math.MinInt), rat(math.MinInt, math.MinInt), rat(math.MinInt, -1), rat(math.MinInt, 1680),
	}
}

// noBars returns lists that are no bars.
func noBars() [][]api.Bar {
	return [][]api.Bar{
		nil, {}, {{ID: 5}}, {{ID: 0, Length: rat(4, 1)}}, {{ID: 5, Length: rat(4, 1)}, {ID: 5, Length: rat(4, 1)}}, {{ID: 5, Length: rat(25, 1)}}, {{ID: 5, Length: rat(4, 1), Key: 8}},
		append(exampleBars(), api.Bar{ID: 7, Length: rat(1, 9)}), anyBars(0, 4001), append(exampleBars(), anyBars(0, 3997)...),
	}
}

// noMusic returns lists that are no notes in their bars.
func noMusic() []music {
	all := []music{}
	for _, bars := range noBars() {
		all = append(all, music{bars, nil}, music{bars, example()}, music{bars, []api.Note{{}}})
	}
	for _, n := range noNotes() {
		all = append(all, music{exampleBars(), []api.Note{n}})
		for place := range 4 {
			all = append(all, music{exampleBars(), slices.Insert(example(), place, n)})
		}
	}
	twice := simple(9, 1, 9)
	twice.ID = 10
	bars := exampleBars()
	full := anyNotes(1, bars, 20001, 4, 4)
	all = append(all, music{bars, append(example(), twice)}, music{bars, append([]api.Note{twice}, example()...)}, music{bars, append(example(), example()...)}, music{bars, append(example(), example()[2])},
		music{bars, full}, music{bars, slices.Concat(full, full)}, music{bars, append(full[:19999:19999], api.Note{})}, music{bars, append(full[:19999:19999], full[0])}, music{bars, append([]api.Note{{}}, full[:19999]...)})
	return all
}

// semitones returns the number of a pitch.
func semitones(p api.Pitch) int { return 12*p.Octave + 2*p.Step - p.Step/3 + p.Step/6 + p.Alter }

// sooner reports whether a note is before another one in the order of notes.
func sooner(bars []api.Bar, a, b api.Note) bool {
	find := func(id int) int { return slices.IndexFunc(bars, func(b api.Bar) bool { return b.ID == id }) }
	starts := big.NewRat(int64(a.Start.N), int64(a.Start.D)).Cmp(big.NewRat(int64(b.Start.N), int64(b.Start.D)))
	switch {
	case a.Bar != b.Bar:
		return find(a.Bar) < find(b.Bar)
	case a.Part != b.Part:
		return a.Part < b.Part
	case starts != 0:
		return starts < 0
	case a.Voice != b.Voice:
		return a.Voice < b.Voice
	case semitones(a.Pitch) != semitones(b.Pitch):
		return semitones(a.Pitch) < semitones(b.Pitch)
	}
	return a.ID < b.ID
}

// checkOrder checks that a list has the notes of another one, each of them once, in order.
func checkOrder(t *testing.T, bars []api.Bar, got, from []api.Note) {
	t.Helper()
	there := map[int]api.Note{}
	for _, n := range from {
		there[n.ID] = n
	}
	for i, n := range got {
		if there[n.ID] != n {
			t.Fatalf("%v is not there, or there twice", n)
		}
		delete(there, n.ID)
		if i > 0 && !sooner(bars, got[i-1], n) {
			t.Fatalf("%v is behind %v", n, got[i-1])
		}
	}
	if len(there) > 0 {
		t.Fatalf("%d of %d notes are gone", len(there), len(from))
	}
}

// own returns the notes of a part in a bar, in any order.
func own(l []api.Note, part, bar int) []api.Note {
	return slices.DeleteFunc(slices.Clone(l), func(n api.Note) bool { return n.Part != part || n.Bar != bar })
}

// heard says of each 1680th of a quarter of a bar whether a note of a part sounds.
func heard(m music, part int, b api.Bar) []bool {
	sounds := make([]bool, count(b.Length))
	for _, n := range own(m.l, part, b.ID) {
		for at := range count(n.Length) {
			sounds[count(n.Start)+at] = true
		}
	}
	return sounds
}

// runs returns from when until when it is so.
func runs(sounds []bool, so bool) [][2]api.Rat {
	l := [][2]api.Rat{}
	for at := range sounds {
		if sounds[at] == so && (at == 0 || sounds[at-1] != so) {
			l = append(l, [2]api.Rat{parts(at), parts(len(sounds))})
		}
		if sounds[at] != so && at > 0 && sounds[at-1] == so {
			l[len(l)-1][1] = parts(at)
		}
	}
	return l
}

// checkPlaying checks when a part plays in a bar, and when it rests.
func checkPlaying(t *testing.T, m music, part int, b api.Bar) {
	t.Helper()
	sounds := heard(m, part, b)
	if got, e := Busy(m.bars, m.l, part, b.ID); e != api.OK || !slices.Equal(got, runs(sounds, true)) {
		t.Fatalf("part %d plays in the bar %d from %v, %v instead of %v", part, b.ID, got, e, runs(sounds, true))
	}
	if got, e := Rests(m.bars, m.l, part, b.ID); e != api.OK || !slices.Equal(got, runs(sounds, false)) {
		t.Fatalf("part %d rests in the bar %d from %v, %v instead of %v", part, b.ID, got, e, runs(sounds, false))
	}
}

// partsOf returns the parts of notes, rising, and two that have none.
func partsOf(l []api.Note) []int {
	all := []int{999999, 1000000}
	for _, n := range l {
		all = append(all, n.Part)
	}
	slices.Sort(all)
	return slices.Compact(all)
}

// checkError checks that the functions return an error, and nothing else.
func checkError(t *testing.T, m music, part, bar int, want api.Errno) {
	t.Helper()
	if l, e := Of(m.bars, m.l, part, bar); len(l) != 0 || e != want {
		t.Errorf("%d notes, part %d, bar %d: %v, %v instead of %v", len(m.l), part, bar, l, e, want)
	}
	if l, e := Busy(m.bars, m.l, part, bar); len(l) != 0 || e != want {
		t.Errorf("%d notes, part %d, bar %d plays: %v, %v instead of %v", len(m.l), part, bar, l, e, want)
	}
	if l, e := Rests(m.bars, m.l, part, bar); len(l) != 0 || e != want {
		t.Errorf("%d notes, part %d, bar %d rests: %v, %v instead of %v", len(m.l), part, bar, l, e, want)
	}
}

// P7.1: the example of the chapter.
func TestExample(t *testing.T) {
	bars, l := exampleBars(), example()
	if got, e := Busy(bars, l, 2, 5); e != api.OK || !slices.Equal(got, [][2]api.Rat{{rat(0, 1), rat(2, 1)}, {rat(3, 1), rat(7, 2)}}) {
		t.Errorf("plays: %v, %v", got, e)
	}
	if got, e := Rests(bars, l, 2, 5); e != api.OK || !slices.Equal(got, [][2]api.Rat{{rat(2, 1), rat(3, 1)}, {rat(7, 2), rat(4, 1)}}) {
		t.Errorf("rests: %v, %v", got, e)
	}
	if got, e := Sort(bars, []api.Note{l[2], l[1], l[0]}); e != api.OK || !slices.Equal(got, l) {
		t.Errorf("sorted: %v, %v", got, e)
	}
	if got, e := Of(bars, []api.Note{l[1], l[2], l[0]}, 2, 5); e != api.OK || !slices.Equal(got, l) {
		t.Errorf("part 2 in the bar 5: %v, %v", got, e)
	}
}

// P7.1, G1: notes, at all limits.
func TestValid(t *testing.T) {
	for i, m := range append(few(), many()...) {
		if !Valid(m.bars, m.l) {
			t.Errorf("list %d of %d notes is invalid", i, len(m.l))
		}
	}
	right := func(change func(n *api.Note)) {
		t.Helper()
		n := simple(77, 3, 5)
		change(&n)
		if !Valid(exampleBars(), []api.Note{n}) || !Valid(exampleBars(), append(example(), n)) {
			t.Errorf("%v is invalid", n)
		}
	}
	for _, id := range []int{1, 2, 999999, 1000000} {
		right(func(n *api.Note) { n.ID = id })
		right(func(n *api.Note) { n.Part = id })
	}
	for n := range 21 {
		right(func(x *api.Note) { x.Voice = n % 10 })
		right(func(x *api.Note) { x.Ossia = n })
	}
	for i := range 7 * 5 * 10 {
		right(func(n *api.Note) { n.Pitch = api.Pitch{Step: i % 7, Alter: i/7%5 - 2, Octave: i / 35} })
	}
	for n := 1; n < 4*1680; n++ {
		right(func(x *api.Note) { x.Start, x.Length = parts(n), parts(4*1680-n) })
	}
	for _, x := range [][2]api.Rat{{rat(0, 1), rat(4, 1)}, {rat(0, 1), rat(1, 1680)}, {rat(6719, 1680), rat(1, 1680)}} {
		right(func(n *api.Note) { n.Start, n.Length = x[0], x[1] })
	}
}

// P7.1, G1: what is no note, IDs that are there twice, too many notes, and bars that are none.
func TestNoNotes(t *testing.T) {
	for i, m := range noMusic() {
		if Valid(m.bars, m.l) {
			t.Errorf("list %d of %d notes is valid: %v", i, len(m.l), m.l[:min(4, len(m.l))])
		}
		if l, e := Sort(m.bars, m.l); len(l) != 0 || e != api.ErrArg {
			t.Errorf("list %d, sorted: %v, %v", i, l, e)
		}
		for _, x := range [][2]int{{2, 5}, {1, 9}, {2, 6}, {0, 5}, {2, -1}} {
			checkError(t, m, x[0], x[1], api.ErrArg)
		}
	}
}

// P7.1, G1: what notes have twice but may have twice; a part and a note with the same number; a bar's own limit.
func TestAlikeNotes(t *testing.T) {
	bars := exampleBars()
	l := []api.Note{simple(1, 2, 5), simple(2, 2, 5), simple(3, 2, 5), simple(5, 5, 5)}
	if !Valid(bars, l) {
		t.Error("notes that are alike are invalid")
	}
	for i, b := range bars {
		fills := spanning(1, 1, b.ID, 0, count(b.Length))
		if !Valid(bars, []api.Note{fills}) {
			t.Errorf("a note that fills the bar %d is invalid", i)
		}
		fills.Length = parts(count(b.Length) + 1)
		if Valid(bars, []api.Note{fills}) {
			t.Errorf("a note that is longer than the bar %d is valid", i)
		}
	}
}

// P7.1, G3 to G5: the errors in their order.
func TestErrors(t *testing.T) {
	for _, m := range append(few(), many()...) {
		bar := m.bars[len(m.bars)-1].ID
		for _, wrong := range []int{0, -1, 1000001, math.MaxInt, math.MinInt} {
			checkError(t, m, wrong, bar, api.ErrArg)
			checkError(t, m, 2, wrong, api.ErrArg)
			checkError(t, m, wrong, wrong, api.ErrArg)
			checkError(t, m, wrong, 424242, api.ErrArg)
		}
	}
	for i, m := range append(few(), many()[0], many()[3]) {
		if i < 7 || len(m.bars) < 20 {
			for _, bar := range []int{2, 3, 8, 123456, 500000} {
				if !slices.ContainsFunc(m.bars, func(b api.Bar) bool { return b.ID == bar }) {
					checkError(t, m, 2, bar, api.ErrBar)
					checkError(t, m, 1000000, bar, api.ErrBar)
				}
			}
		}
	}
	for _, bar := range []int{2, 4, 6, 10, 999999} {
		checkError(t, music{exampleBars(), example()}, bar, bar, api.ErrBar)
		checkError(t, music{exampleBars(), nil}, 1, bar, api.ErrBar)
	}
}

// P7.1, G2, and P7.2: sorted notes have each note, once, in the order; they are left as they are.
func TestSort(t *testing.T) {
	for i, m := range append(few(), many()...) {
		got, e := Sort(m.bars, m.l)
		if e != api.OK {
			t.Fatalf("list %d: %v", i, e)
		}
		checkOrder(t, m.bars, got, m.l)
		if again, e := Sort(m.bars, got); e != api.OK || !slices.Equal(again, got) {
			t.Errorf("list %d: sorted notes are not left as they are: %v", i, e)
		}
	}
}

// P7.2: in whatever order notes were, they are sorted in the same way.
func TestSortAnyOrder(t *testing.T) {
	for i, m := range append(few(), many()...) {
		want, _ := Sort(m.bars, m.l)
		roll := dice(uint64(i))
		for turn := range 6 {
			l := slices.Clone(m.l)
			slices.Reverse(l)
			for k := range l {
				if turn > 0 {
					o := roll(k + 1)
					l[k], l[o] = l[o], l[k]
				}
			}
			if got, e := Sort(m.bars, l); e != api.OK || !slices.Equal(got, want) {
				t.Fatalf("list %d, turn %d: sorted in another way: %v", i, turn, e)
			}
		}
	}
}

// P7.1, G2: each key of the order alone, and against all that are asked later.
func TestKeys(t *testing.T) {
	bars := exampleBars()
	early := api.Note{ID: 50, Part: 3, Bar: 9, Voice: 4, Ossia: 7, Start: rat(1, 3), Length: rat(1, 1), Pitch: api.Pitch{Step: 6, Alter: 0, Octave: 4}}
	steps := []func(n *api.Note, later bool){
		func(n *api.Note, later bool) { n.Bar = map[bool]int{false: 9, true: 5}[later] },
		func(n *api.Note, later bool) { n.Part = map[bool]int{false: 2, true: 3}[later] },
		func(n *api.Note, later bool) { n.Start = map[bool]api.Rat{false: rat(1, 2), true: rat(2, 3)}[later] },
		func(n *api.Note, later bool) { n.Voice = map[bool]int{false: 0, true: 9}[later] },
		func(n *api.Note, later bool) {
			n.Pitch = map[bool]api.Pitch{false: {Step: 0, Alter: -1, Octave: 5}, true: {Step: 6, Alter: 1, Octave: 4}}[later]
		},
		func(n *api.Note, later bool) { n.ID = map[bool]int{false: 49, true: 51}[later] },
	}
	for k := range steps {
		alone, alone2 := early, early
		alone.ID, alone2.ID = 60, 61
		steps[k](&alone, false)
		steps[k](&alone2, true)
		against, against2 := alone, alone2
		for later := k + 1; later < len(steps); later++ {
			steps[later](&against, true)
			steps[later](&against2, false)
		}
		for _, x := range [][2]api.Note{{alone, alone2}, {against, against2}} {
			for _, l := range [][]api.Note{{x[0], x[1]}, {x[1], x[0]}} {
				if got, e := Sort(bars, l); e != api.OK || !slices.Equal(got, x[:]) {
					t.Errorf("key %d: %v, %v instead of %v", k, got, e, x)
				}
			}
		}
	}
}

// P7.1, G2: what is no key of the order: Ossia, Length, the spelling, and how a number or an ID is written.
func TestNoKeys(t *testing.T) {
	bars := exampleBars()
	for i, x := range []struct{ first, second func(n *api.Note) }{
		{func(n *api.Note) { n.Ossia = 20 }, func(n *api.Note) { n.Ossia = 0 }},
		{func(n *api.Note) { n.Length = rat(2, 1) }, func(n *api.Note) { n.Length = rat(1, 8) }},
		{func(n *api.Note) { n.Pitch = api.Pitch{Step: 1, Alter: -1, Octave: 4} }, func(n *api.Note) { n.Pitch = api.Pitch{Step: 0, Alter: 1, Octave: 4} }},
		{func(n *api.Note) { n.Pitch = api.Pitch{Step: 0, Octave: 5} }, func(n *api.Note) { n.Pitch = api.Pitch{Step: 6, Alter: 1, Octave: 4} }},
		{func(n *api.Note) { n.Pitch = api.Pitch{Step: 6, Alter: 2, Octave: 4} }, func(n *api.Note) { n.Pitch = api.Pitch{Step: 1, Alter: -1, Octave: 5} }},
	} {
		a, b := simple(9, 1, 9), simple(10, 1, 9)
		x.first(&a)
		x.second(&b)
		for _, l := range [][]api.Note{{a, b}, {b, a}} {
			if got, e := Sort(bars, l); e != api.OK || !slices.Equal(got, []api.Note{a, b}) {
				t.Errorf("%d: %v, %v", i, got, e)
			}
		}
	}
	starts := []api.Rat{rat(0, 1), rat(1, 1680), rat(1, 7), rat(1, 2), rat(2, 3), rat(3, 4), rat(1, 1), rat(5, 4), rat(2, 1)}
	want := []api.Note{}
	for i, start := range starts {
		n := simple(100-i, 1, 9)
		n.Start = start
		want = append(want, n)
	}
	l := slices.Clone(want)
	slices.Reverse(l)
	if got, e := Sort(bars, l); e != api.OK || !slices.Equal(got, want) {
		t.Errorf("starts: %v, %v", got, e)
	}
}

// P7.1, G3, and P7.3: the notes of a part in a bar; sorted notes are those of all bars and parts, one after the other.
func TestOf(t *testing.T) {
	for i, m := range few() {
		all := []api.Note{}
		for _, b := range m.bars {
			for _, part := range partsOf(m.l) {
				got, e := Of(m.bars, m.l, part, b.ID)
				if e != api.OK {
					t.Fatalf("list %d, part %d, bar %d: %v", i, part, b.ID, e)
				}
				checkOrder(t, m.bars, got, own(m.l, part, b.ID))
				all = append(all, got...)
			}
		}
		if sorted, e := Sort(m.bars, m.l); e != api.OK || !slices.Equal(all, sorted) {
			t.Errorf("list %d: sorted: %v, %v instead of %v", i, sorted, e, all)
		}
	}
	for i, m := range many()[:2] {
		all := []api.Note{}
		for _, b := range m.bars {
			for _, part := range partsOf(m.l) {
				got, _ := Of(m.bars, m.l, part, b.ID)
				all = append(all, got...)
			}
		}
		if sorted, e := Sort(m.bars, m.l); e != api.OK || !slices.Equal(all, sorted) {
			t.Errorf("list %d of many: sorted: %d notes, %v instead of %d", i, len(sorted), e, len(all))
		}
	}
}

// P7.1, G3: parts and bars without notes; bars that are there but have none.
func TestOfNothing(t *testing.T) {
	m := music{exampleBars(), example()}
	for _, x := range [][2]int{{1, 5}, {3, 5}, {2, 9}, {2, 1}, {2, 1000000}, {5, 5}, {1000000, 1000000}, {30, 5}} {
		if got, e := Of(m.bars, m.l, x[0], x[1]); len(got) != 0 || e != api.OK {
			t.Errorf("part %d, bar %d: %v, %v", x[0], x[1], got, e)
		}
	}
}

// P7.1, G4 and G5, and P7.4: when parts play, against each moment of the bar.
func TestPlaying(t *testing.T) {
	for _, m := range few() {
		for _, b := range m.bars {
			for _, part := range partsOf(m.l) {
				checkPlaying(t, m, part, b)
			}
		}
	}
	for _, m := range many() {
		for k := range 3 {
			checkPlaying(t, m, m.l[k].Part, m.bars[k%len(m.bars)])
			at := slices.IndexFunc(m.bars, func(b api.Bar) bool { return b.ID == m.l[k].Bar })
			checkPlaying(t, m, m.l[k].Part, m.bars[at])
		}
	}
}

// P7.1, G4 and G5: notes that fill their bar, end where another begins, are in each other, leave the beginning or the end.
func TestSpans(t *testing.T) {
	bar := exampleBars()[1]
	for i, x := range []struct{ notes, busy, rests [][2]int }{
		{nil, nil, [][2]int{{0, 6720}}},
		{[][2]int{{0, 6720}}, [][2]int{{0, 6720}}, nil},
		{[][2]int{{0, 6720}, {0, 1}, {6719, 6720}}, [][2]int{{0, 6720}}, nil},
		{[][2]int{{0, 3360}, {3360, 6720}}, [][2]int{{0, 6720}}, nil},
		{[][2]int{{0, 3360}, {3361, 6720}}, [][2]int{{0, 3360}, {3361, 6720}}, [][2]int{{3360, 3361}}},
		{[][2]int{{1, 6719}}, [][2]int{{1, 6719}}, [][2]int{{0, 1}, {6719, 6720}}},
		{[][2]int{{0, 1}}, [][2]int{{0, 1}}, [][2]int{{1, 6720}}},
		{[][2]int{{6719, 6720}}, [][2]int{{6719, 6720}}, [][2]int{{0, 6719}}},
		{[][2]int{{0, 5000}, {100, 200}, {300, 400}}, [][2]int{{0, 5000}}, [][2]int{{5000, 6720}}},
		{[][2]int{{100, 200}, {150, 300}, {300, 301}}, [][2]int{{100, 301}}, [][2]int{{0, 100}, {301, 6720}}},
		{[][2]int{{1680, 3360}, {1680, 3360}, {5040, 6720}}, [][2]int{{1680, 3360}, {5040, 6720}}, [][2]int{{0, 1680}, {3360, 5040}}},
		{[][2]int{{1000, 4000}, {1000, 2000}, {4001, 4002}, {3000, 3500}}, [][2]int{{1000, 4000}, {4001, 4002}}, [][2]int{{0, 1000}, {4000, 4001}, {4002, 6720}}},
	} {
		for turn := range max(1, len(x.notes)) {
			l := []api.Note{}
			for k, s := range x.notes {
				l = append(l, spanning(1+(k+turn)%len(x.notes), 2, bar.ID, s[0], s[1]))
			}
			slices.Reverse(l)
			if got, e := Busy(exampleBars(), l, 2, bar.ID); e != api.OK || !slices.Equal(got, pairsOf(x.busy)) {
				t.Errorf("%d: plays from %v, %v", i, got, e)
			}
			if got, e := Rests(exampleBars(), l, 2, bar.ID); e != api.OK || !slices.Equal(got, pairsOf(x.rests)) {
				t.Errorf("%d: rests from %v, %v", i, got, e)
			}
		}
	}
}

// pairsOf returns spans of 1680th parts of a quarter as durations.
func pairsOf(spans [][2]int) [][2]api.Rat {
	l := [][2]api.Rat{}
	for _, s := range spans {
		l = append(l, [2]api.Rat{parts(s[0]), parts(s[1])})
	}
	return l
}

// P7.4: both together make up the whole bar: each ends where the other one begins.
func TestWholeBar(t *testing.T) {
	for i, m := range append(few(), many()[:2]...) {
		for _, b := range m.bars {
			for _, part := range partsOf(m.l)[:min(3, len(partsOf(m.l)))] {
				busy, _ := Busy(m.bars, m.l, part, b.ID)
				rests, _ := Rests(m.bars, m.l, part, b.ID)
				both := slices.Concat(busy, rests)
				slices.SortFunc(both, func(x, y [2]api.Rat) int { return count(x[0]) - count(y[0]) })
				at := rat(0, 1)
				for _, s := range both {
					if s[0] != at || count(s[1]) <= count(s[0]) || !ratio.Valid(s[1]) {
						t.Fatalf("list %d: part %d in the bar %d: %v", i, part, b.ID, both)
					}
					at = s[1]
				}
				if at != b.Length || len(busy)-len(rests) > 1 || len(rests)-len(busy) > 1 {
					t.Fatalf("list %d: part %d in the bar %d of %v: %v", i, part, b.ID, b.Length, both)
				}
			}
		}
	}
}

// P7.5: without one of its notes a part plays only when it did before; a note within the time of others changes nothing.
func TestFewerNotes(t *testing.T) {
	for i, m := range few() {
		for k, n := range m.l {
			less := music{m.bars, slices.Delete(slices.Clone(m.l), k, k+1)}
			b := m.bars[slices.IndexFunc(m.bars, func(b api.Bar) bool { return b.ID == n.Bar })]
			busy, _ := Busy(m.bars, m.l, n.Part, n.Bar)
			fewer, e := Busy(m.bars, less.l, n.Part, n.Bar)
			for _, s := range fewer {
				if e != api.OK || !slices.ContainsFunc(busy, func(o [2]api.Rat) bool { return count(o[0]) <= count(s[0]) && count(s[1]) <= count(o[1]) }) {
					t.Errorf("list %d: without %v it plays from %v, %v instead of %v", i, n, fewer, e, busy)
				}
			}
			within := !slices.Contains(heard(less, n.Part, b)[count(n.Start):count(n.Start)+count(n.Length)], false)
			if within != slices.Equal(busy, fewer) {
				t.Errorf("list %d: without %v, which is within others: %v, it plays from %v instead of %v", i, n, within, fewer, busy)
			}
		}
	}
}

// P7.6: notes in other bars, of other parts, and pitches, voices, ossias and IDs play no part.
func TestOthers(t *testing.T) {
	for i, m := range few() {
		roll := dice(uint64(i) + 100)
		for _, n := range m.l {
			busy, _ := Busy(m.bars, m.l, n.Part, n.Bar)
			rests, _ := Rests(m.bars, m.l, n.Part, n.Bar)
			alone := own(m.l, n.Part, n.Bar)
			other := slices.Clone(m.l)
			for k := range other {
				if other[k].Part == n.Part && other[k].Bar == n.Bar {
					other[k].Voice, other[k].Ossia, other[k].Pitch = roll(10), roll(21), anyPitch(roll)
				} else {
					other[k].Length = rat(1, 1680)
				}
				other[k].ID = 1000000 - k
			}
			for _, l := range [][]api.Note{alone, other} {
				got, e := Busy(m.bars, l, n.Part, n.Bar)
				left, f := Rests(m.bars, l, n.Part, n.Bar)
				if e != api.OK || f != api.OK || !slices.Equal(got, busy) || !slices.Equal(left, rests) {
					t.Errorf("list %d: part %d in the bar %d plays from %v, %v and rests from %v, %v instead of %v and %v", i, n.Part, n.Bar, got, e, left, f, busy, rests)
				}
			}
		}
	}
}

// P7.1: which bars there are beside plays no part, but the order of bars is that of the notes.
func TestOrderOfBars(t *testing.T) {
	bars := exampleBars()
	l := []api.Note{simple(1, 1, 5), simple(2, 1, 9), simple(3, 1, 1000000)}
	for _, x := range [][]int{{0, 1, 2}, {2, 1, 0}, {1, 0, 2}, {1, 2, 0}} {
		ordered, want := []api.Bar{}, []api.Note{}
		for _, i := range x {
			ordered = append(ordered, bars[i])
			want = append(want, l[slices.IndexFunc(l, func(n api.Note) bool { return n.Bar == bars[i].ID })])
		}
		if !meter.Valid(ordered) {
			t.Fatal("no bars")
		}
		if got, e := Sort(ordered, l); e != api.OK || !slices.Equal(got, want) {
			t.Errorf("%v: %v, %v instead of %v", x, got, e, want)
		}
	}
}

// P1: arguments are left as they are, results share no memory with them, and what was asked before plays no part.
func TestMemory(t *testing.T) {
	bars := anyBars(40, 5)
	l := anyNotes(41, bars, 60, 3, 4)
	keptBars, kept := slices.Clone(bars), slices.Clone(l)
	sorted, _ := Sort(bars, l)
	want := slices.Clone(sorted)
	of, _ := Of(bars, l, l[0].Part, l[0].Bar)
	Busy(bars, l, l[0].Part, l[0].Bar)
	Rests(bars, l, l[0].Part, l[0].Bar)
	if !slices.Equal(bars, keptBars) || !slices.Equal(l, kept) {
		t.Fatal("the arguments were changed")
	}
	clear(of)
	clear(sorted)
	if !slices.Equal(l, kept) {
		t.Fatal("the results share memory with the notes")
	}
	again, _ := Sort(bars, l)
	l[0].ID = 0
	if !slices.Equal(again, want) {
		t.Error("sorted again, or changed with the notes, they are others")
	}
	if Valid(bars, l) {
		t.Error("an ID that was changed is not seen")
	}
	sorted, _ = Sort(bars, want)
	want[0].ID = 999999
	if sorted[0].ID == 999999 {
		t.Error("sorted notes that were in order share memory with them")
	}
	if got, e := Sort(bars, kept[:5]); e != api.OK || len(got) != 5 || kept[5] != l[5] {
		t.Errorf("notes behind those that count play a part: %v, %v", got, e)
	}
}
