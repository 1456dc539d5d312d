package score_test

import (
	"math"
	"slices"
	"testing"

	"partbook/api"
	"partbook/score"
)

// rat returns a ratio as it is written.
func rat(n, d int) api.Rat { return api.Rat{N: n, D: d} }

// spelled returns a pitch, valid or not.
func spelled(step, alter, octave int) api.Pitch {
	return api.Pitch{Step: step, Alter: alter, Octave: octave}
}

// dice returns a function that returns numbers from 0 to before a limit, of a fixed sequence.
func dice(seed uint64) func(limit int) int {
	return func(limit int) int {
		seed = seed*6364136223846793005 + 1442695040888963407
		return int((seed ^ seed>>31) >> 8 % uint64(limit))
	}
}

// semitones returns the number of a pitch, by the words of layer 2.
func semitones(p api.Pitch) int {
	return 12*p.Octave + map[int]int{0: 0, 1: 2, 2: 4, 3: 5, 4: 7, 5: 9, 6: 11}[p.Step] + p.Alter
}

// note returns a note of 1 quarter.
func note(id, part, bar int, p api.Pitch) api.Note {
	return api.Note{ID: id, Part: part, Bar: bar, Start: rat(0, 1), Length: rat(1, 1), Pitch: p}
}

// own returns a part with its own notes.
func own(id int, low, high api.Pitch) api.Part {
	return api.Part{ID: id, Desks: 1, Low: low, High: high}
}

// doubling returns a part that doubles another one; its own range is that of one pitch, which no note has.
func doubling(id, of, octave int) api.Part {
	return api.Part{ID: id, Of: of, Octave: octave, Desks: 2, Low: spelled(0, 4, 12), High: spelled(0, 4, 12)}
}

// chapter returns the score of the chapter's example: a part 1 from C3 on with C4 and E4, and a part 2 that doubles it.
func chapter() api.Score {
	return api.Score{
		Version: 1,
		Bars:    []api.Bar{{ID: 1, Length: rat(4, 1)}},
		Parts:   []api.Part{own(1, spelled(0, 0, 3), spelled(0, 0, 6)), doubling(2, 1, -1)},
		Notes:   []api.Note{note(1, 1, 1, spelled(0, 0, 4)), note(2, 1, 1, spelled(2, 0, 4))},
	}
}

// example returns a score of which no list is in the order of its IDs.
func example() api.Score {
	late := note(9, 1, 5, spelled(0, 1, 4))
	late.Start, late.Length, late.Voice, late.Ossia = rat(1, 3), rat(11, 3), 9, 20
	voiced := note(2, 40, 5, spelled(6, 2, 9))
	voiced.Voice = 3
	return api.Score{
		Version: 12,
		Bars:    []api.Bar{{ID: 7, Length: rat(3, 1)}, {ID: 5, Length: rat(4, 1), Key: -2}, {ID: 1000000, Length: rat(24, 1), Key: 7}, {ID: 1, Length: rat(1, 1680), Key: -7}},
		Parts: []api.Part{
			doubling(2, 1, -1),
			{ID: 1, Section: 3, Desks: 5, Shift: api.Interval{Steps: -1, Semitones: -2}, Low: spelled(0, 0, 3), High: spelled(0, 0, 6)},
			doubling(30, 40, 2),
			own(40, spelled(0, -2, 0), spelled(6, 2, 9)),
			own(1000000, spelled(0, -4, -8), spelled(6, 4, 20)),
			doubling(3, 1, 0),
			doubling(41, 40, -2),
		},
		Notes: []api.Note{
			note(10, 1, 7, spelled(0, 0, 4)), note(4, 1, 7, spelled(2, 0, 4)), note(7, 40, 7, spelled(0, -2, 0)), note(6, 40, 7, spelled(5, 0, 8)),
			late, note(1, 40, 5, spelled(3, 0, 4)), voiced, note(1000000, 40, 1000000, spelled(1, 0, 1)),
		},
	}
}

// changed returns the example with a change.
func changed(change func(s *api.Score)) api.Score {
	s := example()
	change(&s)
	return s
}

// clone returns a score with memory of its own.
func clone(s api.Score) api.Score {
	s.Bars, s.Parts, s.Notes = slices.Clone(s.Bars), slices.Clone(s.Parts), slices.Clone(s.Notes)
	return s
}

// same reports whether two scores are equal.
func same(a, b api.Score) bool {
	return a.Version == b.Version && slices.Equal(a.Bars, b.Bars) && slices.Equal(a.Parts, b.Parts) && slices.Equal(a.Notes, b.Notes)
}

// compare compares notes of a score by the order of notes.
func compare(bars []api.Bar) func(a, b api.Note) int {
	at := map[int]int{}
	for i, b := range bars {
		at[b.ID] = i
	}
	return func(a, b api.Note) int {
		return slices.Compare(
			[]int{at[a.Bar], a.Part, a.Start.N * b.Start.D, a.Voice, semitones(a.Pitch), a.ID},
			[]int{at[b.Bar], b.Part, b.Start.N * a.Start.D, b.Voice, semitones(b.Pitch), b.ID})
	}
}

// ordered returns notes in their order.
func ordered(bars []api.Bar, l []api.Note) []api.Note {
	return slices.SortedFunc(slices.Values(l), compare(bars))
}

// shuffled returns notes in any order.
func shuffled(seed uint64, l []api.Note) []api.Note {
	roll, l := dice(seed), slices.Clone(l)
	for k := range l {
		o := roll(k + 1)
		l[k], l[o] = l[o], l[k]
	}
	return l
}

// anyPitch returns any pitch that notes have.
func anyPitch(roll func(limit int) int) api.Pitch {
	return spelled(roll(7), roll(5)-2, roll(10))
}

// anyParts returns so many parts, of which about every other one doubles one with its own notes.
func anyParts(seed uint64, n int) []api.Part {
	roll := dice(seed)
	l, owners := []api.Part{}, []int{}
	for i := range n {
		p := own(1000000-(i*7919+int(seed))%999983, anyPitch(roll), anyPitch(roll))
		if semitones(p.Low) > semitones(p.High) {
			p.Low, p.High = p.High, p.Low
		}
		if roll(2) == 1 && i > 0 {
			p.Of, p.Octave = owners[roll(len(owners))], roll(5)-2
		} else {
			owners = append(owners, p.ID)
		}
		p.Section, p.Desks = roll(100), 1+roll(40)
		// Some of those that double another part are before it.
		l = slices.Insert(l, roll(i+1), p)
	}
	return l
}

// anyNote returns a note of any part with its own notes, in its range, in any bar that is long enough.
func anyNote(roll func(limit int) int, id int, s api.Score) api.Note {
	p, b := s.Parts[roll(len(s.Parts))], s.Bars[roll(len(s.Bars))]
	for p.Of != 0 {
		p = s.Parts[roll(len(s.Parts))]
	}
	for b.Length.N < 2*b.Length.D {
		b = s.Bars[roll(len(s.Bars))]
	}
	n := note(id, p.ID, b.ID, p.Low)
	n.Start, n.Length = rat(roll(2), 1), rat(1, 1+roll(8))
	n.Voice, n.Ossia = roll(3), roll(21)
	for range 20 {
		q := anyPitch(roll)
		if semitones(p.Low) <= semitones(q) && semitones(q) <= semitones(p.High) {
			n.Pitch = q
		}
	}
	return n
}

// anyScore returns a score with so many bars, parts and notes, in their order.
func anyScore(seed uint64, bars, parts, notes int) api.Score {
	roll := dice(seed + 1000)
	s := api.Score{Version: 1 + roll(1000000), Parts: anyParts(seed, parts)}
	for i := range bars {
		s.Bars = append(s.Bars, api.Bar{ID: 1000000 - (i*104729+int(seed))%999979, Length: rat(2+roll(3), 1), Key: roll(15) - 7})
	}
	for i := range notes {
		s.Notes = append(s.Notes, anyNote(roll, 1+(i*7919+int(seed))%999983, s))
	}
	s.Notes = ordered(s.Bars, s.Notes)
	return s
}

// few returns short scores.
func few() []api.Score {
	all := []api.Score{chapter(), example(), changed(func(s *api.Score) { s.Notes = nil })}
	for seed := range uint64(20) {
		all = append(all, anyScore(seed, 1+int(seed)%5, 1+int(seed)*3, int(seed)*4))
	}
	return all
}

// many returns scores at the limits of bars, parts and notes.
func many() []api.Score {
	return []api.Score{anyScore(50, 4000, 60, 20000), anyScore(51, 1, 1, 20000), anyScore(52, 4000, 60, 0)}
}

// finders returns H2 to H4.
func finders() []func(s api.Score, id int) (int, bool, api.Errno) {
	return []func(s api.Score, id int) (int, bool, api.Errno){score.Bar, score.Part, score.Note}
}

// idsOf returns the IDs of bars, of parts and of notes, each as they are in their lists.
func idsOf(s api.Score) [3][]int {
	l := [3][]int{}
	for _, b := range s.Bars {
		l[0] = append(l[0], b.ID)
	}
	for _, p := range s.Parts {
		l[1] = append(l[1], p.ID)
	}
	for _, n := range s.Notes {
		l[2] = append(l[2], n.ID)
	}
	return l
}

// played returns what a part plays, by the words of the chapter.
func played(s api.Score, p api.Part) []api.Note {
	l := []api.Note{}
	for _, n := range s.Notes {
		if p.Of == 0 && n.Part == p.ID || p.Of != 0 && n.Part == p.Of {
			n.Part, n.Pitch = p.ID, spelled(n.Pitch.Step, n.Pitch.Alter, n.Pitch.Octave+p.Octave)
			l = append(l, n)
		}
	}
	return l
}

// checkPlays checks what the part with an ID plays, and that there is no error.
func checkPlays(t *testing.T, s api.Score, id int, want []api.Note) {
	t.Helper()
	if got, e := score.Plays(s, id); e != api.OK || !slices.Equal(got, want) {
		t.Errorf("the part %d plays %v, %v instead of %v", id, got, e, want)
	}
}

// checkWith checks that other notes are refused with an error, and nothing else.
func checkWith(t *testing.T, s api.Score, version int, l []api.Note, want api.Errno) {
	t.Helper()
	if got, e := score.With(s, version, l); !same(got, api.Score{}) || e != want {
		t.Errorf("version %d with %d notes %v: %v, %v instead of %v", version, len(l), l[:min(len(l), 5)], got, e, want)
	}
}

// checkInvalid checks that a score is not valid, and that this is the first error of all functions, whatever else is wrong.
func checkInvalid(t *testing.T, name string, s api.Score) {
	t.Helper()
	if score.Valid(s) {
		t.Errorf("%s: valid", name)
	}
	for i, find := range finders() {
		for _, id := range []int{1, 7, 0, math.MinInt} {
			if at, ok, e := find(s, id); at != 0 || ok || e != api.ErrArg {
				t.Errorf("%s: finder %d: %d, %v, %v", name, i, at, ok, e)
			}
		}
	}
	for _, part := range []int{1, 2, 77, 0, math.MaxInt} {
		if l, e := score.Plays(s, part); len(l) != 0 || e != api.ErrArg {
			t.Errorf("%s: the part %d plays %v, %v", name, part, l, e)
		}
	}
	checkWith(t, s, 1, nil, api.ErrArg)
	checkWith(t, s, 1, example().Notes, api.ErrArg)
	checkWith(t, s, 2, []api.Note{note(1, 77, 7, spelled(0, 0, 0))}, api.ErrArg)
	checkWith(t, s, 0, []api.Note{{}}, api.ErrArg)
}

// checkValid checks that a score is valid, which all functions see alike.
func checkValid(t *testing.T, name string, s api.Score) {
	t.Helper()
	if !score.Valid(s) {
		t.Errorf("%s: invalid", name)
	}
	for i, find := range finders() {
		if _, _, e := find(s, 1); e != api.OK {
			t.Errorf("%s: finder %d: %v", name, i, e)
		}
	}
	if l, e := score.Plays(s, s.Parts[0].ID); e != api.OK {
		t.Errorf("%s: plays: %v, %v", name, l, e)
	}
	if got, e := score.With(s, s.Version, s.Notes); e != api.OK || !same(got, s) {
		t.Errorf("%s: with its own notes: %v, %v", name, got, e)
	}
}

// P8.1: the examples of the chapter.
func TestExamples(t *testing.T) {
	s := chapter()
	checkValid(t, "chapter", s)
	checkPlays(t, s, 1, s.Notes)
	checkPlays(t, s, 2, []api.Note{note(1, 2, 1, spelled(0, 0, 3)), note(2, 2, 1, spelled(2, 0, 3))})
	low := spelled(6, 0, 2)
	checkWith(t, s, 2, append(slices.Clone(s.Notes), note(3, 2, 1, low)), api.ErrPart)
	checkWith(t, s, 2, append(slices.Clone(s.Notes), note(3, 1, 1, low)), api.ErrPitch)
}

// P8.1, H1: scores of all sizes.
func TestValid(t *testing.T) {
	for _, s := range few() {
		checkValid(t, "few", s)
	}
	for _, s := range many() {
		checkValid(t, "many", s)
	}
}

// P8.1, H1: the limits of versions.
func TestVersions(t *testing.T) {
	for _, n := range []int{1, 2, 500000, 999999, 1000000} {
		checkValid(t, "version", changed(func(s *api.Score) { s.Version = n }))
	}
	for _, n := range []int{0, -1, -12, 1000001, 2000000, math.MinInt, math.MaxInt} {
		checkInvalid(t, "version", changed(func(s *api.Score) { s.Version = n }))
	}
	checkInvalid(t, "nothing", api.Score{})
}

// P8.1, H1: the limits of the fields of a part, with its own notes and without.
func TestFieldsOfParts(t *testing.T) {
	for _, x := range []struct {
		name                     string
		least, greatest, at      int
		set                      func(p *api.Part, n int)
		beyondLeast, beyondGreat []int
	}{
		{"section", 0, 99, 1, func(p *api.Part, n int) { p.Section = n }, []int{-1, -99}, []int{100, 101}},
		{"section of one that doubles", 0, 99, 0, func(p *api.Part, n int) { p.Section = n }, []int{-1, -99}, []int{100, 101}},
		{"desks", 1, 40, 1, func(p *api.Part, n int) { p.Desks = n }, []int{0, -1}, []int{41, 100}},
		{"desks of one that doubles", 1, 40, 0, func(p *api.Part, n int) { p.Desks = n }, []int{0, -1}, []int{41, 100}},
		{"octave", 0, 0, 1, func(p *api.Part, n int) { p.Octave = n }, []int{-1, -2, -3}, []int{1, 2, 3}},
		{"octave of one that doubles", -2, 2, 0, func(p *api.Part, n int) { p.Octave = n }, []int{-3, -4}, []int{3, 4}},
	} {
		for n := x.least; n <= x.greatest; n++ {
			checkValid(t, x.name, changed(func(s *api.Score) { x.set(&s.Parts[x.at], n) }))
		}
		for _, n := range slices.Concat(x.beyondLeast, x.beyondGreat, []int{math.MinInt, math.MaxInt}) {
			checkInvalid(t, x.name, changed(func(s *api.Score) { x.set(&s.Parts[x.at], n) }))
		}
	}
}

// P8.1, H1: the IDs of parts, and of those that are doubled.
func TestIDsOfParts(t *testing.T) {
	for _, id := range []int{4, 5, 7, 39, 42, 999999} {
		checkValid(t, "ID", changed(func(s *api.Score) { s.Parts[0].ID = id }))
		checkValid(t, "ID of one without notes", changed(func(s *api.Score) { s.Parts[4].ID = id }))
	}
	for _, id := range []int{0, -1, 1000001, 2000000, math.MinInt, math.MaxInt} {
		checkInvalid(t, "ID", changed(func(s *api.Score) { s.Parts[0].ID = id }))
		checkInvalid(t, "ID of one without notes", changed(func(s *api.Score) { s.Parts[4].ID = id }))
		checkInvalid(t, "Of", changed(func(s *api.Score) { s.Parts[0].Of = id; s.Parts[0].Octave = 2 }))
		checkInvalid(t, "ID and Of", changed(func(s *api.Score) { s.Parts[4].ID, s.Parts[0].Of = id, id }))
	}
	for _, of := range []int{1, 40, 1000000} {
		checkValid(t, "Of", changed(func(s *api.Score) { s.Parts[0].Of = of }))
	}
	for _, x := range []struct{ what, of int }{
		// No such part, itself, and parts that double another one, before and behind it; so does one with an Octave of 0.
		{0, 4}, {0, 7}, {0, 999999}, {0, 2}, {5, 3}, {0, 3}, {0, 30}, {5, 2}, {5, 41}, {2, 3}, {6, 30}, {6, 41},
	} {
		checkInvalid(t, "Of", changed(func(s *api.Score) { s.Parts[x.what].Of = x.of }))
		checkInvalid(t, "Of without an Octave", changed(func(s *api.Score) { s.Parts[x.what].Of, s.Parts[x.what].Octave = x.of, 0 }))
	}
	checkInvalid(t, "two that double one another", changed(func(s *api.Score) { s.Parts[0].Of, s.Parts[5].Of = 3, 2 }))
	checkInvalid(t, "the one that is doubled is gone", changed(func(s *api.Score) { s.Parts, s.Notes = slices.Delete(s.Parts, 1, 2), nil }))
}

// P8.1, H1: parts with IDs that are there twice.
func TestPartsTwice(t *testing.T) {
	for i := range example().Parts {
		for k := range example().Parts {
			if i != k {
				checkInvalid(t, "ID", changed(func(s *api.Score) { s.Parts[i].ID, s.Notes = s.Parts[k].ID, nil }))
			}
		}
		checkInvalid(t, "part", changed(func(s *api.Score) { s.Parts = append(s.Parts, s.Parts[i]) }))
		checkInvalid(t, "part", changed(func(s *api.Score) { s.Parts = append([]api.Part{s.Parts[i]}, s.Parts...) }))
	}
	// A part and one that doubles it have the same ID.
	s := api.Score{Version: 1, Bars: example().Bars, Parts: []api.Part{own(1, spelled(0, 0, 3), spelled(0, 0, 6)), doubling(1, 1, 0)}}
	checkInvalid(t, "itself", s)
	s.Parts[1].ID = 2
	checkValid(t, "another one", s)
}

// P8.1, H1: how many parts there are, in whatever order.
func TestNumberOfParts(t *testing.T) {
	s := changed(func(s *api.Score) { s.Notes = nil })
	s.Parts = nil
	checkInvalid(t, "no parts", s)
	s.Parts = []api.Part{}
	checkInvalid(t, "no parts", s)
	for i := range 60 {
		s.Parts = append(s.Parts, own(100+i, spelled(0, 0, 4), spelled(0, 0, 4)))
		checkValid(t, "own notes", s)
	}
	checkInvalid(t, "61 parts", changed(func(x *api.Score) {
		x.Parts = append(s.Parts, own(99, spelled(0, 0, 4), spelled(0, 0, 4)))
		x.Notes = nil
	}))
	checkInvalid(t, "61 parts", changed(func(x *api.Score) { x.Parts = append(s.Parts, doubling(99, 100, 1)); x.Notes = nil }))
	checkInvalid(t, "120 parts", changed(func(x *api.Score) { x.Parts = append(s.Parts, anyParts(1, 60)...); x.Notes = nil }))
	for i := range s.Parts[:59] {
		s.Parts[i] = doubling(100+i, 159, i%5-2)
		checkValid(t, "doubling", s)
	}
	for turn := range example().Parts {
		checkValid(t, "turned", changed(func(x *api.Score) { x.Parts = append(x.Parts[turn:], x.Parts[:turn]...) }))
	}
	checkValid(t, "backwards", changed(func(x *api.Score) { slices.Reverse(x.Parts) }))
}

// P8.1, H1: all shifts, within the limits of steps, semitones and fifths and beyond each of them.
func TestShifts(t *testing.T) {
	s := chapter()
	for steps := -24; steps <= 24; steps++ {
		for semitones := -40; semitones <= 40; semitones++ {
			fifths := 7*semitones - 12*steps
			want := steps >= -21 && steps <= 21 && semitones >= -36 && semitones <= 36 && fifths >= -12 && fifths <= 12
			for i := range s.Parts {
				s.Parts[i].Shift = api.Interval{Steps: steps, Semitones: semitones}
				if score.Valid(s) != want {
					t.Errorf("a shift of %v in the part %d: %v", s.Parts[i].Shift, i, !want)
				}
				s.Parts[i].Shift = api.Interval{}
			}
		}
	}
	for _, n := range []int{70, 71, -70, -71, 120, 121, 1 << 40, math.MinInt, math.MaxInt, math.MinInt / 12, math.MaxInt / 7} {
		for _, shift := range []api.Interval{{Steps: n}, {Semitones: n}, {Steps: n, Semitones: n}, {Steps: 7 * n, Semitones: 12 * n}, {Steps: 7, Semitones: n}, {Steps: n, Semitones: 12}} {
			checkInvalid(t, "shift", changed(func(s *api.Score) { s.Parts[1].Shift = shift }))
		}
	}
	for _, shift := range []api.Interval{{}, {Steps: -1, Semitones: -2}, {Steps: 21, Semitones: 36}, {Steps: -21, Semitones: -36}, {Steps: 0, Semitones: 1}, {Steps: 1, Semitones: 0}, {Steps: -21, Semitones: -35}} {
		checkValid(t, "shift", changed(func(s *api.Score) { s.Parts[1].Shift = shift }))
	}
}

// P8.1, H1: both ends of ranges are valid pitches, of which the numbers count alone.
func TestRanges(t *testing.T) {
	ends := []api.Pitch{spelled(math.MinInt, 0, 4), spelled(math.MaxInt, 0, 4), spelled(0, math.MinInt, 4), spelled(0, math.MaxInt, 4), spelled(0, 0, math.MinInt), spelled(0, 0, math.MaxInt)}
	for _, step := range []int{-1, 0, 1, 6, 7} {
		for alter := -5; alter <= 5; alter++ {
			for _, octave := range []int{-9, -8, 3, 4, 20, 21} {
				ends = append(ends, spelled(step, alter, octave))
			}
		}
	}
	right := func(p api.Pitch) bool {
		return p.Step >= 0 && p.Step <= 6 && p.Alter >= -4 && p.Alter <= 4 && p.Octave >= -8 && p.Octave <= 20
	}
	s := chapter()
	s.Notes = nil
	for _, low := range ends {
		for _, high := range ends {
			want := right(low) && right(high) && semitones(low) <= semitones(high)
			for i := range s.Parts {
				kept := s.Parts[i]
				s.Parts[i].Low, s.Parts[i].High = low, high
				if score.Valid(s) != want {
					t.Errorf("a range from %v to %v in the part %d: %v", low, high, i, !want)
				}
				s.Parts[i] = kept
			}
		}
	}
}

// P8.1, H1 and H6: notes with all pitches, in ranges of which the ends are spelled in many ways.
func TestPitchesInRanges(t *testing.T) {
	for _, x := range [][2]api.Pitch{
		{spelled(0, 0, 3), spelled(0, 0, 6)}, {spelled(6, 1, 2), spelled(6, 1, 5)}, {spelled(0, -1, 3), spelled(0, -1, 6)}, {spelled(1, 0, 4), spelled(1, 0, 4)}, {spelled(3, -1, 4), spelled(2, 0, 4)},
		{spelled(2, 1, 4), spelled(3, 0, 4)}, {spelled(0, -2, 0), spelled(0, -2, 0)}, {spelled(6, 2, 9), spelled(6, 2, 9)}, {spelled(6, 3, 3), spelled(1, -4, 6)}, {spelled(0, -4, -8), spelled(6, 4, 20)},
		{spelled(0, 0, -8), spelled(0, 0, 0)}, {spelled(6, 0, 9), spelled(0, 0, 20)}, {spelled(0, 0, 12), spelled(0, 0, 14)}, {spelled(0, 0, -5), spelled(0, 0, -3)},
	} {
		s := chapter()
		s.Parts[0].Low, s.Parts[0].High, s.Notes = x[0], x[1], nil
		for i := range 7 * 5 * 10 {
			n := note(3, 1, 1, spelled(i%7, i/7%5-2, i/35))
			with := clone(s)
			with.Notes = []api.Note{n}
			want := api.OK
			if semitones(n.Pitch) < semitones(x[0]) || semitones(n.Pitch) > semitones(x[1]) {
				want, with = api.ErrPitch, api.Score{}
			}
			if got, e := score.With(s, 1, []api.Note{n}); e != want || !same(got, with) {
				t.Errorf("%v in the range %v: %v, %v instead of %v", n.Pitch, x, got, e, want)
			}
			s.Notes = []api.Note{n}
			if score.Valid(s) != (want == api.OK) {
				t.Errorf("%v in the range %v: %v", n.Pitch, x, want != api.OK)
			}
			s.Notes = nil
		}
	}
}

// P8.1, H1 and H6: notes of parts that there are not, and of parts that double another one.
func TestPartsOfNotes(t *testing.T) {
	for _, part := range []int{2, 3, 30, 41, 4, 5, 7, 29, 42, 999999} {
		for k, n := range example().Notes {
			n.Part = part
			checkInvalid(t, "part of a note", changed(func(s *api.Score) { s.Notes = []api.Note{n} }))
			checkWith(t, example(), 1, []api.Note{n}, api.ErrPart)
			l := example().Notes
			l[k] = n
			checkWith(t, example(), 1, l, api.ErrPart)
			checkInvalid(t, "part of a note", changed(func(s *api.Score) { s.Notes = ordered(s.Bars, l) }))
		}
	}
	for _, part := range []int{1, 40, 1000000} {
		checkValid(t, "part of a note", changed(func(s *api.Score) { s.Notes = []api.Note{note(1, part, 1000000, spelled(0, 0, 4))} }))
	}
	// A part that comes to double another one has its own notes no more.
	checkInvalid(t, "doubling", changed(func(s *api.Score) {
		s.Parts = []api.Part{own(9, spelled(0, 0, 0), spelled(0, 0, 9)), doubling(1, 9, 0), s.Parts[3]}
	}))
}

// P8.1, H1: bars that are none.
func TestBars(t *testing.T) {
	for _, bars := range [][]api.Bar{
		nil, {}, {{ID: 7}}, {{ID: 0, Length: rat(4, 1)}}, {{ID: 1000001, Length: rat(4, 1)}}, {{ID: 7, Length: rat(25, 1)}}, {{ID: 7, Length: rat(4, 1), Key: 8}}, {{ID: 7, Length: rat(4, 1), Key: -8}},
		append(example().Bars, example().Bars[0]), append(example().Bars, api.Bar{ID: 8, Length: rat(1, 9)}), append(anyScore(1, 3996, 1, 0).Bars, append(example().Bars, api.Bar{ID: 2, Length: rat(1, 1)})...),
	} {
		checkInvalid(t, "bars without notes", changed(func(s *api.Score) { s.Bars, s.Notes = bars, nil }))
		checkInvalid(t, "bars", changed(func(s *api.Score) { s.Bars = bars }))
	}
	checkInvalid(t, "the bar of a note is gone", changed(func(s *api.Score) { s.Bars = s.Bars[1:] }))
	// As many bars as there may be.
	checkValid(t, "4000 bars", changed(func(s *api.Score) { s.Bars = append(s.Bars, anyScore(1, 3996, 1, 0).Bars...) }))
}

// wrongNotes returns notes that are none in the bars of the example.
func wrongNotes() []api.Note {
	l := []api.Note{{}}
	wrong := func(change func(n *api.Note)) {
		n := note(77, 1, 7, spelled(0, 0, 4))
		change(&n)
		l = append(l, n)
	}
	for _, id := range []int{0, -1, 1000001, math.MinInt, math.MaxInt} {
		wrong(func(n *api.Note) { n.ID = id })
		wrong(func(n *api.Note) { n.Part = id })
		wrong(func(n *api.Note) { n.Bar = id })
	}
	wrong(func(n *api.Note) { n.ID = 4 })
	wrong(func(n *api.Note) { n.Bar = 6 })
	wrong(func(n *api.Note) { n.Voice = 10 })
	wrong(func(n *api.Note) { n.Voice = -1 })
	wrong(func(n *api.Note) { n.Ossia = 21 })
	wrong(func(n *api.Note) { n.Ossia = -1 })
	wrong(func(n *api.Note) { n.Start = rat(1, 11) })
	wrong(func(n *api.Note) { n.Start = api.Rat{} })
	wrong(func(n *api.Note) { n.Start = rat(-1, 2) })
	wrong(func(n *api.Note) { n.Length = rat(0, 1) })
	wrong(func(n *api.Note) { n.Start = rat(3361, 1680) })
	wrong(func(n *api.Note) { n.Length = rat(5041, 1680) })
	for _, p := range []api.Pitch{spelled(7, 0, 4), spelled(-1, 0, 4), spelled(0, 3, 4), spelled(0, -3, 4), spelled(0, 0, 10), spelled(0, 0, -1), spelled(0, 0, 21)} {
		wrong(func(n *api.Note) { n.Pitch = p })
		wrong(func(n *api.Note) { n.Part, n.Pitch = 1000000, p })
	}
	return l
}

// P8.1, H1 and H6: notes that are none.
func TestWrongNotes(t *testing.T) {
	for _, n := range wrongNotes() {
		for at := range len(example().Notes) + 1 {
			l := slices.Insert(example().Notes, at, n)
			checkInvalid(t, "a wrong note", changed(func(s *api.Score) { s.Notes = l }))
			checkWith(t, example(), 12, l, api.ErrArg)
		}
	}
	s := anyScore(51, 3, 4, 20001)
	l := s.Notes
	checkInvalid(t, "20001 notes", s)
	s.Notes = l[:20000:20000]
	checkValid(t, "20000 notes", s)
	checkWith(t, s, 1, l, api.ErrArg)
	checkWith(t, s, 1, append(s.Notes, note(1000000, 1, s.Bars[0].ID, spelled(0, 0, 4))), api.ErrArg)
}

// P8.1, H1: notes that are not in their order: any two neighbours that are exchanged, and any order of a few notes but one.
func TestOrder(t *testing.T) {
	for _, s := range few() {
		for k := 1; k < len(s.Notes); k++ {
			x := clone(s)
			x.Notes[k-1], x.Notes[k] = x.Notes[k], x.Notes[k-1]
			checkInvalid(t, "exchanged", x)
		}
	}
	s := example()
	for seed := range uint64(500) {
		x := clone(s)
		x.Notes = shuffled(seed, x.Notes)
		if score.Valid(x) != slices.Equal(s.Notes, x.Notes) {
			t.Errorf("valid in the order %v: %v", x.Notes, score.Valid(x))
		}
	}
	s.Notes = s.Notes[1:]
	checkValid(t, "without the first note", s)
}

// P8.1, H1: each key of the order of notes, against those that are asked later.
func TestKeysOfOrder(t *testing.T) {
	first, second := note(50, 40, 7, spelled(6, 0, 4)), note(40, 1, 7, spelled(0, 0, 4))
	first.Start, first.Voice, second.Voice = rat(1, 2), 5, 4
	for i, change := range []func(){
		func() { second.Bar = 5 },
		func() { first.Bar, first.Part, second.Part = 5, 1, 40 },
		func() { second.Part, second.Start = 1, rat(2, 3) },
		func() { second.Start, second.Voice = rat(1, 2), 6 },
		func() { second.Voice, second.Pitch = 5, spelled(0, 0, 5) },
		func() { second.Pitch, second.ID = spelled(0, -1, 5), 51 },
	} {
		change()
		checkValid(t, "in order", changed(func(s *api.Score) { s.Notes = []api.Note{first, second} }))
		checkInvalid(t, "not in order", changed(func(s *api.Score) { s.Notes = []api.Note{second, first} }))
		if got, e := score.With(example(), 3, []api.Note{second, first}); e != api.OK || !slices.Equal(got.Notes, []api.Note{first, second}) {
			t.Errorf("key %d: %v, %v", i, got.Notes, e)
		}
	}
}

// P8.1, H2 to H4, and P8.2: each bar, part and note is found where it is, and no others are.
func TestFind(t *testing.T) {
	for _, s := range few() {
		ids := idsOf(s)
		for i, find := range finders() {
			for at, id := range ids[i] {
				if got, ok, e := find(s, id); got != at || !ok || e != api.OK {
					t.Errorf("finder %d: the ID %d: %d, %v, %v instead of %d", i, id, got, ok, e, at)
				}
			}
			for _, id := range append(slices.Concat(ids[0], ids[1], ids[2]), 1, 2, 6, 8, 77, 500000, 999999, 1000000) {
				at := slices.Index(ids[i], id)
				if got, ok, e := find(s, id); got != max(at, 0) || ok != (at >= 0) || e != api.OK {
					t.Errorf("finder %d: the ID %d: %d, %v, %v instead of %d", i, id, got, ok, e, at)
				}
			}
			for _, id := range []int{0, -1, -7, 1000001, 2000000, math.MinInt, math.MaxInt} {
				if got, ok, e := find(s, id); got != 0 || ok || e != api.ErrArg {
					t.Errorf("finder %d: the ID %d: %d, %v, %v", i, id, got, ok, e)
				}
			}
		}
	}
	for _, s := range many() {
		ids := idsOf(s)
		for i, find := range finders() {
			for k := range min(5, len(ids[i])) {
				at := k * (len(ids[i]) - 1) / 4
				if got, ok, e := find(s, ids[i][at]); got != at || !ok || e != api.OK {
					t.Errorf("finder %d: the ID %d: %d, %v, %v instead of %d", i, ids[i][at], got, ok, e, at)
				}
			}
		}
	}
}

// P8.1, H5: what parts play, with further notes' fields as they are, and with pitches beyond those of notes.
func TestPlays(t *testing.T) {
	for _, s := range few() {
		for _, p := range s.Parts {
			checkPlays(t, s, p.ID, played(s, p))
		}
	}
	for _, s := range many()[:2] {
		for _, p := range s.Parts {
			checkPlays(t, s, p.ID, played(s, p))
		}
	}
	s := example()
	for _, x := range []struct {
		part    int
		pitches []api.Pitch
	}{
		{1000000, nil},
		{1, []api.Pitch{spelled(0, 0, 4), spelled(2, 0, 4), spelled(0, 1, 4)}},
		{3, []api.Pitch{spelled(0, 0, 4), spelled(2, 0, 4), spelled(0, 1, 4)}},
		{2, []api.Pitch{spelled(0, 0, 3), spelled(2, 0, 3), spelled(0, 1, 3)}},
		{30, []api.Pitch{spelled(0, -2, 2), spelled(5, 0, 10), spelled(3, 0, 6), spelled(6, 2, 11), spelled(1, 0, 3)}},
		{41, []api.Pitch{spelled(0, -2, -2), spelled(5, 0, 6), spelled(3, 0, 2), spelled(6, 2, 7), spelled(1, 0, -1)}},
	} {
		l, e := score.Plays(s, x.part)
		if e != api.OK || len(l) != len(x.pitches) {
			t.Fatalf("the part %d plays %v, %v", x.part, l, e)
		}
		for i, n := range l {
			if n.Part != x.part || n.Pitch != x.pitches[i] {
				t.Errorf("the part %d plays %v instead of %v", x.part, n, x.pitches[i])
			}
		}
	}
}

// P8.1, H5: parts that there are not, among them those that can be none.
func TestPlaysNothing(t *testing.T) {
	for _, s := range []api.Score{example(), chapter(), many()[0]} {
		for _, part := range []int{4, 7, 10, 42, 999999, 0, -1, -40, 1000001, math.MinInt, math.MaxInt} {
			if l, e := score.Plays(s, part); len(l) != 0 || e != api.ErrPart {
				t.Errorf("the part %d plays %v, %v", part, l, e)
			}
		}
	}
}

// P8.3: each note is played by its part, and by those that double it, and by no others; those with their own notes play all notes, once.
func TestOwnNotes(t *testing.T) {
	for _, s := range few() {
		all := []api.Note{}
		for _, p := range s.Parts {
			l, e := score.Plays(s, p.ID)
			if e != api.OK {
				t.Fatal(e)
			}
			for _, n := range s.Notes {
				plays := slices.ContainsFunc(l, func(x api.Note) bool { return x.ID == n.ID })
				if plays != (p.ID == n.Part || p.Of == n.Part) {
					t.Errorf("the part %v plays %v: %v", p, n, plays)
				}
			}
			if p.Of == 0 {
				all = append(all, l...)
			}
		}
		if !slices.Equal(ordered(s.Bars, all), s.Notes) {
			t.Errorf("all parts play %v instead of %v", all, s.Notes)
		}
	}
}

// P8.4: a part that doubles another one plays at the same times, with the same steps, and so many octaves higher.
func TestDoubling(t *testing.T) {
	for octave := -2; octave <= 2; octave++ {
		for _, s := range few() {
			for i, p := range s.Parts {
				if p.Of == 0 {
					continue
				}
				s.Parts[i].Octave = octave
				l, e := score.Plays(s, p.ID)
				of, f := score.Plays(s, p.Of)
				if e != api.OK || f != api.OK || len(l) != len(of) {
					t.Fatalf("the part %d plays %v, %v instead of %v, %v", p.ID, l, e, of, f)
				}
				for k, n := range l {
					if n.Pitch.Step != of[k].Pitch.Step || semitones(n.Pitch)-semitones(of[k].Pitch) != 12*octave || n.Part != p.ID {
						t.Errorf("%d octaves higher than %v is %v", octave, of[k], n)
					}
					n.Part, n.Pitch = of[k].Part, of[k].Pitch
					if n != of[k] {
						t.Errorf("%v is %v", of[k], n)
					}
				}
			}
		}
	}
}

// P8.1, H6, and P8.5: a score with its own notes in whatever order is the same, with the other version.
func TestWithOwnNotes(t *testing.T) {
	for i, s := range append(few(), many()...) {
		for turn, version := range []int{1, 2, 999999, 1000000, s.Version} {
			want := clone(s)
			want.Version = version
			if got, e := score.With(s, version, shuffled(uint64(i+turn), s.Notes)); e != api.OK || !same(got, want) {
				t.Errorf("score %d with its own notes: %v", i, e)
			}
		}
	}
}

// P8.1, H6, and P8.5: with other notes, fewer or more, the score is valid, and its bars and parts stay.
func TestWithOtherNotes(t *testing.T) {
	for i, s := range few() {
		roll := dice(uint64(i))
		for _, size := range []int{0, 1, 2, 30} {
			l := []api.Note{}
			for k := range size {
				l = append(l, anyNote(roll, 1000000-k*7, s))
			}
			want := api.Score{Version: 5, Bars: s.Bars, Parts: s.Parts, Notes: ordered(s.Bars, l)}
			got, e := score.With(s, 5, l)
			if e != api.OK || !same(got, want) || !score.Valid(got) {
				t.Errorf("score %d with %v: %v, %v", i, l, got, e)
			}
			if back, e := score.With(got, s.Version, s.Notes); e != api.OK || !same(back, s) {
				t.Errorf("score %d, and back: %v, %v", i, back, e)
			}
		}
	}
	s := many()[0]
	want := clone(s)
	want.Notes = nil
	if got, e := score.With(s, s.Version, nil); e != api.OK || !same(got, want) || !score.Valid(got) {
		t.Errorf("without its notes: %v", e)
	}
	if got, e := score.With(want, s.Version, s.Notes); e != api.OK || !same(got, s) {
		t.Errorf("with all notes: %v", e)
	}
}

// P8.6: a further note is played by its part, and by those that double it; what all others play stays.
func TestFurtherNote(t *testing.T) {
	for i, s := range few() {
		roll := dice(uint64(i))
		for turn := range 3 {
			n := anyNote(roll, 1000000-turn, s)
			if _, ok, _ := score.Note(s, n.ID); ok {
				continue
			}
			more, e := score.With(s, s.Version, append(slices.Clone(s.Notes), n))
			if e != api.OK {
				t.Fatalf("score %d with %v: %v", i, n, e)
			}
			for _, p := range s.Parts {
				want, _ := score.Plays(s, p.ID)
				if p.ID == n.Part || p.Of == n.Part {
					x := n
					x.Part, x.Pitch.Octave = p.ID, n.Pitch.Octave+p.Octave
					want = ordered(s.Bars, append(want, x))
				}
				checkPlays(t, more, p.ID, want)
			}
		}
	}
}

// P8.1, H6: versions that are none, whatever the notes are.
func TestWithVersion(t *testing.T) {
	outside := note(3, 1, 7, spelled(0, 0, 2))
	for _, version := range []int{0, -1, -12, 1000001, math.MinInt, math.MaxInt} {
		for _, l := range [][]api.Note{nil, example().Notes, {{}}, {note(3, 77, 7, spelled(0, 0, 4))}, {note(3, 2, 7, spelled(0, 0, 4))}, {outside}} {
			checkWith(t, example(), version, l, api.ErrArg)
		}
	}
}

// P8.1, H6: the errors in their order, wherever the notes are that have them.
func TestErrorsOfNotes(t *testing.T) {
	s := example()
	right := note(20, 1, 5, spelled(0, 0, 6))
	low, high := note(21, 1, 7, spelled(6, 0, 2)), note(22, 1, 7, spelled(0, 1, 6))
	none, doubled := note(23, 77, 7, spelled(0, 0, 4)), note(24, 2, 7, spelled(0, 0, 4))
	beside := note(25, 30, 7, spelled(0, 0, 0))
	wrong, twice := note(26, 1, 6, spelled(0, 0, 4)), note(20, 1, 7, spelled(0, 0, 4))
	for _, x := range []struct {
		l []api.Note
		e api.Errno
	}{
		{[]api.Note{low}, api.ErrPitch}, {[]api.Note{high}, api.ErrPitch}, {[]api.Note{none}, api.ErrPart}, {[]api.Note{doubled}, api.ErrPart}, {[]api.Note{beside}, api.ErrPart}, {[]api.Note{wrong}, api.ErrArg},
		{[]api.Note{low, none}, api.ErrPart}, {[]api.Note{high, doubled}, api.ErrPart}, {[]api.Note{low, high}, api.ErrPitch}, {[]api.Note{low, wrong}, api.ErrArg}, {[]api.Note{none, wrong}, api.ErrArg},
		{[]api.Note{twice}, api.ErrArg}, {[]api.Note{low, doubled, twice}, api.ErrArg}, {[]api.Note{low, none, wrong, beside}, api.ErrArg}, {[]api.Note{high, low, none, doubled}, api.ErrPart},
	} {
		for seed := range uint64(8) {
			checkWith(t, s, 12, shuffled(seed, append(slices.Clone(x.l), right)), x.e)
			if slices.Contains(x.l, twice) {
				continue
			}
			checkWith(t, s, 1000000, shuffled(seed, append(slices.Clone(s.Notes), x.l...)), x.e)
			checkWith(t, s, 1, shuffled(seed, x.l), x.e)
		}
	}
}

// P1: arguments are left as they are, and results share no memory with them, nor with others.
func TestMemory(t *testing.T) {
	s, kept := example(), example()
	l := shuffled(3, s.Notes)
	given := slices.Clone(l)
	got, e := score.With(s, 5, l)
	again, f := score.With(s, 5, l)
	if e != api.OK || f != api.OK || !slices.Equal(l, given) || !same(s, kept) {
		t.Fatalf("the arguments were changed: %v, %v", e, f)
	}
	clear(got.Bars)
	clear(got.Parts)
	clear(got.Notes)
	if !same(s, kept) || !slices.Equal(l, given) || !slices.Equal(again.Notes, kept.Notes) || !slices.Equal(again.Bars, kept.Bars) || !slices.Equal(again.Parts, kept.Parts) {
		t.Error("a score with other notes shares memory")
	}
	got, _ = score.With(s, 5, s.Notes)
	clear(got.Notes)
	if !same(s, kept) {
		t.Error("a score with notes in order shares memory with them")
	}
	for _, p := range s.Parts {
		l, e := score.Plays(s, p.ID)
		clear(l)
		if e != api.OK || !same(s, kept) {
			t.Errorf("what the part %d plays shares memory with the score", p.ID)
		}
	}
	for i, find := range finders() {
		find(s, 1)
		find(s, 77)
		if !same(s, kept) {
			t.Errorf("finder %d changes the score", i)
		}
	}
}

// P1: what lies behind the lists plays no part, and what was asked before does not either.
func TestNoState(t *testing.T) {
	s := example()
	s.Bars, s.Parts, s.Notes = append(s.Bars, api.Bar{})[:4], append(s.Parts, api.Part{})[:7], append(s.Notes, api.Note{})[:8]
	checkValid(t, "with more memory", s)
	s.Parts[0].Octave = 1
	checkPlays(t, s, 2, played(s, s.Parts[0]))
	s.Notes[0].ID = 11
	if at, ok, e := score.Note(s, 11); at != 0 || !ok || e != api.OK {
		t.Errorf("a note that was changed: %d, %v, %v", at, ok, e)
	}
	if at, ok, e := score.Note(s, 10); at != 0 || ok || e != api.OK {
		t.Errorf("a note that is gone: %d, %v, %v", at, ok, e)
	}
}
