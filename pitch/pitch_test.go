package pitch

import (
	"math"
	"strconv"
	"strings"
	"testing"

	"partbook/api"
)

// spelled returns a pitch, valid or not.
func spelled(step, alter, octave int) api.Pitch {
	return api.Pitch{Step: step, Alter: alter, Octave: octave}
}

// apart returns an interval, well-formed or not.
func apart(steps, semitones int) api.Interval {
	return api.Interval{Steps: steps, Semitones: semitones}
}

// pitches returns all valid pitches.
func pitches() []api.Pitch {
	l := []api.Pitch{}
	for octave := -8; octave <= 20; octave++ {
		for step := 0; step <= 6; step++ {
			for alter := -4; alter <= 4; alter++ {
				l = append(l, spelled(step, alter, octave))
			}
		}
	}
	return l
}

// somePitches returns valid pitches: those at the limits, and some in between.
func somePitches() []api.Pitch {
	l := []api.Pitch{}
	for _, octave := range []int{-8, -7, -1, 0, 4, 5, 19, 20} {
		for step := 0; step <= 6; step++ {
			for _, alter := range []int{-4, -1, 0, 2, 4} {
				l = append(l, spelled(step, alter, octave))
			}
		}
	}
	return l
}

// intervals returns well-formed intervals: those at the limits, small ones, and those that pitches are commonly moved by.
func intervals() []api.Interval {
	l := []api.Interval{
		apart(70, 120), apart(-70, -120), apart(70, -120), apart(-70, 120), apart(70, 0), apart(0, 120), apart(-70, 0), apart(0, -120),
		apart(69, 119), apart(-69, -118), apart(35, 60), apart(-35, -60), apart(7, 12), apart(-7, -12), apart(14, 24), apart(-14, -24),
		apart(0, 4), apart(0, -4), apart(0, 8), apart(0, -9), apart(4, 7), apart(-4, -7), apart(5, 8), apart(-5, -9), apart(6, 11), apart(-6, -10),
	}
	for steps := -2; steps <= 2; steps++ {
		for semitones := -3; semitones <= 3; semitones++ {
			l = append(l, apart(steps, semitones))
		}
	}
	return l
}

// invalidPitches returns pitches that are not valid, each field beyond either limit among them.
func invalidPitches() []api.Pitch {
	l := []api.Pitch{spelled(-1, -5, -9), spelled(7, 5, 21), spelled(7, 0, 3), spelled(-1, 0, 5)}
	for _, n := range []int{-1, 7, 8, math.MinInt, math.MaxInt} {
		l = append(l, spelled(n, 0, 4))
	}
	for _, n := range []int{-5, 5, 12, math.MinInt, math.MaxInt} {
		l = append(l, spelled(0, n, 4))
	}
	for _, n := range []int{-9, 21, math.MinInt, math.MaxInt} {
		l = append(l, spelled(0, 0, n), spelled(6, 4, n))
	}
	return append(l, spelled(math.MinInt, math.MinInt, math.MinInt), spelled(math.MaxInt, math.MaxInt, math.MaxInt))
}

// invalidIntervals returns intervals that are not well-formed.
func invalidIntervals() []api.Interval {
	l := []api.Interval{}
	for _, n := range []int{-71, 71, math.MinInt, math.MaxInt} {
		l = append(l, apart(n, 0), apart(n, 120), apart(n, n))
	}
	for _, n := range []int{-121, 121, math.MinInt, math.MaxInt} {
		l = append(l, apart(0, n), apart(70, n), apart(-70, n))
	}
	return l
}

// placeOf returns the place of a pitch, by the words of the chapter.
func placeOf(p api.Pitch) int { return 7*p.Octave + p.Step }

// numberOf returns the number of a pitch, by the words of the chapter.
func numberOf(p api.Pitch) int {
	return 12*p.Octave + map[int]int{0: 0, 1: 2, 2: 4, 3: 5, 4: 7, 5: 9, 6: 11}[p.Step] + p.Alter
}

// spelling is a place and a number.
type spelling struct{ place, number int }

// spellings returns all valid pitches by their places and numbers.
func spellings() map[spelling]api.Pitch {
	m := map[spelling]api.Pitch{}
	for _, p := range pitches() {
		m[spelling{placeOf(p), numberOf(p)}] = p
	}
	return m
}

// moved returns what the chapter promises for a pitch that is moved, looked up among all valid pitches.
func moved(m map[spelling]api.Pitch, p api.Pitch, i api.Interval) (api.Pitch, api.Errno) {
	q, ok := m[spelling{placeOf(p) + i.Steps, numberOf(p) + i.Semitones}]
	if !ok {
		return api.Pitch{}, api.ErrRange
	}
	return q, api.OK
}

// P2.1, B1.
func TestValid(t *testing.T) {
	for step := -2; step <= 9; step++ {
		for alter := -7; alter <= 7; alter++ {
			for octave := -11; octave <= 23; octave++ {
				want := step >= 0 && step <= 6 && alter >= -4 && alter <= 4 && octave >= -8 && octave <= 20
				if got := Valid(spelled(step, alter, octave)); got != want {
					t.Errorf("%d, %d, %d: %v", step, alter, octave, got)
				}
			}
		}
	}
	for _, p := range invalidPitches() {
		if Valid(p) {
			t.Errorf("%v is valid", p)
		}
	}
}

// P2.1, B2.
func TestNumber(t *testing.T) {
	for _, x := range []struct {
		p    api.Pitch
		want int
	}{
		{spelled(0, 0, 4), 48}, {spelled(6, 1, 3), 48}, {spelled(0, -1, 4), 47}, {spelled(0, 0, 0), 0}, {spelled(6, 0, -1), -1},
		{spelled(0, -4, -8), -100}, {spelled(6, 4, 20), 255}, {spelled(5, 0, 4), 57}, {spelled(3, 1, 4), 54},
	} {
		if n, e := Number(x.p); n != x.want || e != api.OK {
			t.Errorf("%v: %d, %v", x.p, n, e)
		}
	}
	for _, p := range pitches() {
		if n, e := Number(p); n != numberOf(p) || e != api.OK {
			t.Errorf("%v: %d, %v", p, n, e)
		}
	}
}

// P2.1, B3: the examples, and results at the limits and just beyond them.
func TestAddExamples(t *testing.T) {
	for _, x := range []struct {
		p    api.Pitch
		i    api.Interval
		want api.Pitch
		e    api.Errno
	}{
		{spelled(3, 1, 4), apart(2, 3), spelled(5, 0, 4), api.OK},
		{spelled(0, 0, 4), apart(0, 5), api.Pitch{}, api.ErrRange},
		{spelled(0, 0, 4), apart(0, 4), spelled(0, 4, 4), api.OK},
		{spelled(0, 0, 4), apart(0, -4), spelled(0, -4, 4), api.OK},
		{spelled(0, 0, 4), apart(0, -5), api.Pitch{}, api.ErrRange},
		{spelled(6, 0, 3), apart(1, 1), spelled(0, 0, 4), api.OK},
		{spelled(0, 0, 0), apart(-1, -1), spelled(6, 0, -1), api.OK},
		{spelled(0, 0, -7), apart(-7, -12), spelled(0, 0, -8), api.OK},
		{spelled(0, 0, -8), apart(-1, -1), api.Pitch{}, api.ErrRange},
		{spelled(6, 0, 20), apart(1, 1), api.Pitch{}, api.ErrRange},
		{spelled(6, 0, 20), apart(0, 4), spelled(6, 4, 20), api.OK},
		{spelled(2, -1, 3), apart(70, 120), spelled(2, -1, 13), api.OK},
		{spelled(2, -1, 3), apart(-70, -120), spelled(2, -1, -7), api.OK},
		{spelled(0, 0, 11), apart(70, 120), api.Pitch{}, api.ErrRange},
		{spelled(0, 0, 4), apart(70, -120), api.Pitch{}, api.ErrRange},
		{spelled(0, 0, 4), apart(-70, 120), api.Pitch{}, api.ErrRange},
		// The interval is not well-formed, though the result would be valid; or neither is.
		{spelled(0, 0, 0), apart(71, 122), api.Pitch{}, api.ErrArg},
		{spelled(0, 0, 0), apart(70, 121), api.Pitch{}, api.ErrArg},
		{spelled(0, 0, 20), apart(71, 122), api.Pitch{}, api.ErrArg},
		{spelled(0, 5, 4), apart(0, -5), api.Pitch{}, api.ErrArg},
		{spelled(0, 0, 21), apart(1, 2), api.Pitch{}, api.ErrArg},
	} {
		if p, e := Add(x.p, x.i); p != x.want || e != x.e {
			t.Errorf("%v and %v: %v, %v", x.p, x.i, p, e)
		}
	}
}

// P2.1, B3, P2.2, P2.3 and P2.4: against a search among all valid pitches.
func TestAdd(t *testing.T) {
	all := spellings()
	for _, p := range pitches() {
		for _, i := range intervals() {
			want, wantE := moved(all, p, i)
			q, e := Add(p, i)
			if q != want || e != wantE {
				t.Fatalf("%v and %v: %v, %v", p, i, q, e)
			}
			if e == api.OK {
				checkMoved(t, p, i, q)
			}
		}
	}
	for _, p := range somePitches() {
		for steps := -70; steps <= 70; steps++ {
			for semitones := -120; semitones <= 120; semitones++ {
				i := apart(steps, semitones)
				want, wantE := moved(all, p, i)
				if q, e := Add(p, i); q != want || e != wantE {
					t.Fatalf("%v and %v: %v, %v", p, i, q, e)
				}
			}
		}
	}
}

// checkMoved checks that p, moved by i, is q, also backwards.
func checkMoved(t *testing.T, p api.Pitch, i api.Interval, q api.Pitch) {
	t.Helper()
	if placeOf(q)-placeOf(p) != i.Steps {
		t.Errorf("%v and %v: %v is at the wrong place", p, i, q)
	}
	m, _ := Number(p)
	n, e := Number(q)
	if n-m != i.Semitones || e != api.OK {
		t.Errorf("%v and %v: %v has the wrong number", p, i, q)
	}
	back, e := Back(i)
	if r, f := Add(q, back); e != api.OK || f != api.OK || r != p {
		t.Errorf("%v and %v, and back: %v, %v, %v", p, i, r, e, f)
	}
	if between, e := Between(p, q); between != i || e != api.OK {
		t.Errorf("%v and %v: between are %v, %v", p, i, between, e)
	}
}

// P2.1, B4.
func TestBetweenExamples(t *testing.T) {
	for _, x := range []struct {
		a, b api.Pitch
		want api.Interval
		e    api.Errno
	}{
		{spelled(4, 0, 4), spelled(2, -1, 5), apart(5, 8), api.OK},
		{spelled(2, -1, 5), spelled(4, 0, 4), apart(-5, -8), api.OK},
		{spelled(6, 1, 3), spelled(0, 0, 4), apart(1, 0), api.OK},
		{spelled(0, 0, 4), spelled(0, 0, 4), apart(0, 0), api.OK},
		{spelled(0, 0, 4), spelled(0, 0, 14), apart(70, 120), api.OK},
		{spelled(0, 0, 14), spelled(0, 0, 4), apart(-70, -120), api.OK},
		// Too many semitones alone, too many steps alone, and both.
		{spelled(0, 0, 4), spelled(0, 1, 14), api.Interval{}, api.ErrRange},
		{spelled(0, 0, 14), spelled(0, -1, 4), api.Interval{}, api.ErrRange},
		{spelled(0, 0, 4), spelled(1, -4, 14), api.Interval{}, api.ErrRange},
		{spelled(1, -4, 14), spelled(0, 0, 4), api.Interval{}, api.ErrRange},
		{spelled(0, -4, -8), spelled(6, 4, 20), api.Interval{}, api.ErrRange},
		{spelled(0, 0, 4), spelled(0, 5, 14), api.Interval{}, api.ErrArg},
		{spelled(0, 0, -9), spelled(0, 0, 20), api.Interval{}, api.ErrArg},
	} {
		if i, e := Between(x.a, x.b); i != x.want || e != x.e {
			t.Errorf("%v and %v: %v, %v", x.a, x.b, i, e)
		}
	}
}

// P2.1, B4, P2.3 and P2.7: no other pitch is 0 steps and 0 semitones away, and there is just one at any interval.
func TestBetween(t *testing.T) {
	for _, a := range pitches() {
		for _, b := range somePitches() {
			want, wantE := apart(placeOf(b)-placeOf(a), numberOf(b)-numberOf(a)), api.OK
			if want.Steps < -70 || want.Steps > 70 || want.Semitones < -120 || want.Semitones > 120 {
				want, wantE = api.Interval{}, api.ErrRange
			}
			i, e := Between(a, b)
			if i != want || e != wantE {
				t.Fatalf("%v and %v: %v, %v", a, b, i, e)
			}
			if e != api.OK {
				continue
			}
			if q, e := Add(a, i); q != b || e != api.OK {
				t.Errorf("%v is moved by %v to %v, %v, not to %v", a, i, q, e, b)
			}
			if (i == apart(0, 0)) != (a == b) {
				t.Errorf("%v and %v are %v apart", a, b, i)
			}
		}
	}
}

// P2.7.
func TestSpellings(t *testing.T) {
	seen := map[spelling]api.Pitch{}
	for _, p := range pitches() {
		n, e := Number(p)
		k := spelling{placeOf(p), n}
		if q, ok := seen[k]; ok || e != api.OK {
			t.Errorf("%v and %v: %d, %v", p, q, n, e)
		}
		seen[k] = p
	}
	for _, p := range pitches() {
		if q, e := Add(p, apart(0, 0)); q != p || e != api.OK {
			t.Errorf("%v, not moved, is %v, %v", p, q, e)
		}
	}
}

// P2.1, B5 and B6.
func TestJoinAndBack(t *testing.T) {
	for _, x := range []struct {
		a, b, want api.Interval
		e          api.Errno
	}{
		{apart(2, 3), apart(2, 4), apart(4, 7), api.OK},
		{apart(-2, -3), apart(7, 12), apart(5, 9), api.OK},
		{apart(70, 120), apart(-70, -120), apart(0, 0), api.OK},
		{apart(69, 119), apart(1, 1), apart(70, 120), api.OK},
		{apart(-69, -119), apart(-1, -1), apart(-70, -120), api.OK},
		{apart(70, 0), apart(1, 0), api.Interval{}, api.ErrRange},
		{apart(-70, 0), apart(-1, 0), api.Interval{}, api.ErrRange},
		{apart(0, 120), apart(0, 1), api.Interval{}, api.ErrRange},
		{apart(0, -120), apart(0, -1), api.Interval{}, api.ErrRange},
		{apart(70, 120), apart(70, 120), api.Interval{}, api.ErrRange},
		{apart(71, 0), apart(-1, 0), api.Interval{}, api.ErrArg},
		{apart(0, -1), apart(0, 121), api.Interval{}, api.ErrArg},
	} {
		for _, l := range [][2]api.Interval{{x.a, x.b}, {x.b, x.a}} {
			if i, e := Join(l[0], l[1]); i != x.want || e != x.e {
				t.Errorf("%v: %v, %v", l, i, e)
			}
		}
	}
	for steps := -70; steps <= 70; steps++ {
		for semitones := -120; semitones <= 120; semitones++ {
			back, e := Back(apart(steps, semitones))
			if back != apart(-steps, -semitones) || e != api.OK {
				t.Errorf("%d, %d: %v, %v", steps, semitones, back, e)
			}
			if none, e := Join(apart(steps, semitones), back); none != apart(0, 0) || e != api.OK {
				t.Errorf("%d, %d, and back: %v, %v", steps, semitones, none, e)
			}
		}
	}
}

// P2.5.
func TestJoined(t *testing.T) {
	checked := 0
	for _, i := range intervals() {
		for _, j := range intervals() {
			both, e := Join(i, j)
			if other, f := Join(j, i); other != both || f != e {
				t.Errorf("%v and %v: %v, %v; %v, %v", i, j, both, e, other, f)
			}
			for _, p := range somePitches() {
				whole, e1 := Add(p, both)
				after, e2 := twice(p, i, j)
				before, e3 := twice(p, j, i)
				if e == api.OK && e1 == api.OK && e2 == api.OK && whole != after {
					t.Errorf("%v and %v, %v: %v, %v", p, i, j, whole, after)
				}
				if e2 == api.OK && e3 == api.OK && after != before {
					t.Errorf("%v and %v, %v: %v, %v", p, i, j, after, before)
				}
				if e == api.OK && e1 == api.OK && e2 == api.OK && e3 == api.OK {
					checked++
				}
			}
		}
	}
	if checked < 10000 {
		t.Errorf("only %d were checked", checked)
	}
}

// twice returns a pitch moved by an interval, and then by another one.
func twice(p api.Pitch, i, j api.Interval) (api.Pitch, api.Errno) {
	q, e := Add(p, i)
	if e != api.OK {
		return q, e
	}
	return Add(q, j)
}

// textOf returns the text of a pitch, by the words of the chapter.
func textOf(p api.Pitch) string {
	s := []string{"C", "D", "E", "F", "G", "A", "B"}[p.Step]
	for range p.Alter {
		s += "#"
	}
	for range -p.Alter {
		s += "b"
	}
	return s + strconv.Itoa(p.Octave)
}

// texts returns all pitches by their texts.
func texts() map[string]api.Pitch {
	m := map[string]api.Pitch{}
	for _, p := range pitches() {
		m[textOf(p)] = p
	}
	return m
}

// P2.1, B7 and B8, and P2.6.
func TestText(t *testing.T) {
	for _, x := range []struct {
		p    api.Pitch
		want string
	}{
		{spelled(3, 1, 4), "F#4"}, {spelled(6, -2, -1), "Bbb-1"}, {spelled(0, 0, 0), "C0"}, {spelled(6, -4, -8), "Bbbbb-8"}, {spelled(4, 4, 20), "G####20"},
		{spelled(6, 0, 10), "B10"}, {spelled(5, -1, 9), "Ab9"},
	} {
		if s, e := Text(x.p); s != x.want || e != api.OK {
			t.Errorf("%v: %q, %v", x.p, s, e)
		}
		if p, e := Parse(x.want); p != x.p || e != api.OK {
			t.Errorf("%q: %v, %v", x.want, p, e)
		}
	}
	seen := map[string]bool{}
	for _, p := range pitches() {
		s, e := Text(p)
		if s != textOf(p) || e != api.OK || seen[s] {
			t.Errorf("%v: %q, %v", p, s, e)
		}
		seen[s] = true
		if q, e := Parse(s); q != p || e != api.OK {
			t.Errorf("%v: %q is %v, %v", p, s, q, e)
		}
	}
}

// checkParse checks that a string is read as the pitch of which it is the text, or refused if there is none.
func checkParse(t *testing.T, all map[string]api.Pitch, s string) {
	t.Helper()
	want, ok := all[s]
	wantE := api.ErrForm
	if ok {
		wantE = api.OK
	}
	if p, e := Parse(s); p != want || e != wantE {
		t.Errorf("%q: %v, %v", s, p, e)
	}
}

// P2.1, B8, and P2.6: strings that are nearly texts.
func TestParseRefuses(t *testing.T) {
	for _, s := range []string{
		"", "C", "4", "#", "b4", "c4", "H4", "#4", "-1", "C#", "Cb", "C-", "C#-", "C+4", "C4 ", " C4", "C 4", "C4\n", "C4\x00", "\x00C4",
		"C04", "C00", "C-0", "C-01", "C--1", "C4-", "C4#", "C4b", "C#b4", "Cb#4", "C#b#4", "CC4", "C4C", "4C", "C1-", "C-1-", "C1-2", "C#1#", "Cx4", "C##x4",
		"C#####4", "Cbbbbb4", "C######b4", "C21", "C-9", "C100", "C-10", "C-80", "C4.0", "C0x4", "C1e1", "C1_0",
		// The octave 4 modulo powers of 2.
		"C4294967300", "C18446744073709551620", "C-18446744073709551612", "C340282366920938463463374607431768211460",
		// Other signs and digits, and bytes that are no text at all.
		"C♯4", "C♭4", "C−1", "C\u0664", "C\uff14", "Ｃ4", "\xff4", "C\xff4", "C4\xff", "\xc3", "C\x80", "\ufffd4", "C\ufffd4",
		strings.Repeat("#", 1000), "C" + strings.Repeat("#b", 500) + "4", "C" + strings.Repeat("0", 1000) + "4", "C" + strings.Repeat("-", 1000) + "4", strings.Repeat("C", 100000), "C" + strings.Repeat("9", 100000),
	} {
		if p, e := Parse(s); p != (api.Pitch{}) || e != api.ErrForm {
			t.Errorf("%.50q: %v, %v", s, p, e)
		}
	}
}

// P2.6: all strings of up to 4 of some runes, and all texts in which one place is changed, left out or added.
func TestParseOnlyTexts(t *testing.T) {
	runes := []string{"C", "B", "G", "b", "#", "-", "0", "1", "2", "8", "9", "+", " ", "H", "\xff", "♯"}
	all := texts()
	last := []string{""}
	for range 4 {
		next := []string{}
		for _, s := range last {
			for _, r := range runes {
				next = append(next, s+r)
				checkParse(t, all, s+r)
			}
		}
		last = next
	}
	for s := range all {
		for at := range len(s) + 1 {
			for _, r := range runes {
				checkParse(t, all, s[:at]+r+s[at:])
				if at < len(s) {
					checkParse(t, all, s[:at]+r+s[at+1:])
				}
			}
			if at < len(s) {
				checkParse(t, all, s[:at]+s[at+1:])
			}
		}
	}
}

// P1 and P2.1: what is not valid is ErrArg wherever it stands, without another result.
func TestInvalidPitches(t *testing.T) {
	good := spelled(0, 0, 4)
	far := spelled(0, 0, 20)
	for _, p := range invalidPitches() {
		if n, e := Number(p); n != 0 || e != api.ErrArg {
			t.Errorf("Number of %v: %d, %v", p, n, e)
		}
		if s, e := Text(p); s != "" || e != api.ErrArg {
			t.Errorf("Text of %v: %q, %v", p, s, e)
		}
		for _, i := range append(invalidIntervals(), intervals()...) {
			if q, e := Add(p, i); q != (api.Pitch{}) || e != api.ErrArg {
				t.Errorf("Add of %v and %v: %v, %v", p, i, q, e)
			}
		}
		for _, q := range append(invalidPitches(), good, far) {
			for _, l := range [][2]api.Pitch{{p, q}, {q, p}} {
				if i, e := Between(l[0], l[1]); i != (api.Interval{}) || e != api.ErrArg {
					t.Errorf("Between %v: %v, %v", l, i, e)
				}
			}
		}
	}
}

// P1 and P2.1: intervals that are not well-formed.
func TestInvalidIntervals(t *testing.T) {
	for _, i := range invalidIntervals() {
		if back, e := Back(i); back != (api.Interval{}) || e != api.ErrArg {
			t.Errorf("Back of %v: %v, %v", i, back, e)
		}
		for _, p := range somePitches() {
			if q, e := Add(p, i); q != (api.Pitch{}) || e != api.ErrArg {
				t.Errorf("Add of %v and %v: %v, %v", p, i, q, e)
			}
		}
		for _, j := range append(invalidIntervals(), intervals()...) {
			for _, l := range [][2]api.Interval{{i, j}, {j, i}} {
				if both, e := Join(l[0], l[1]); both != (api.Interval{}) || e != api.ErrArg {
					t.Errorf("Join of %v: %v, %v", l, both, e)
				}
			}
		}
	}
}
