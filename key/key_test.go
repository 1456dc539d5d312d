package key

import (
	"math"
	"math/rand"
	"slices"
	"testing"

	"partbook/api"
	"partbook/pitch"
)

// spelled returns a pitch, valid or not.
func spelled(step, alter, octave int) api.Pitch {
	return api.Pitch{Step: step, Alter: alter, Octave: octave}
}

// apart returns an interval, well-formed or not.
func apart(steps, semitones int) api.Interval {
	return api.Interval{Steps: steps, Semitones: semitones}
}

// keys returns all keys.
func keys() []int {
	l := []int{}
	for key := -7; key <= 7; key++ {
		l = append(l, key)
	}
	return l
}

// intervals returns all well-formed intervals.
func intervals() []api.Interval {
	l := []api.Interval{}
	for steps := -70; steps <= 70; steps++ {
		for semitones := -120; semitones <= 120; semitones++ {
			l = append(l, apart(steps, semitones))
		}
	}
	return l
}

// noKeys returns integers that are no keys.
func noKeys() []int { return []int{-8, 8, -12, 12, 100, math.MinInt, math.MaxInt} }

// noIntervals returns intervals that are not well-formed.
func noIntervals() []api.Interval {
	l := []api.Interval{}
	for _, n := range []int{-71, 71, math.MinInt, math.MaxInt} {
		l = append(l, apart(n, 0), apart(n, 120), apart(n, n))
	}
	for _, n := range []int{-121, 121, math.MinInt, math.MaxInt} {
		l = append(l, apart(0, n), apart(70, n), apart(-70, n))
	}
	return l
}

// noPlaces returns pitches with a Step or an Octave that is that of no valid pitch.
func noPlaces() []api.Pitch {
	l := []api.Pitch{}
	for _, n := range []int{-1, 7, math.MinInt, math.MaxInt} {
		l = append(l, spelled(n, 0, 4))
	}
	for _, n := range []int{-9, 21, math.MinInt, math.MaxInt} {
		l = append(l, spelled(0, 0, n), spelled(6, 4, n))
	}
	return l
}

// noAlters returns integers that are the Alter of no valid pitch.
func noAlters() []int { return []int{-5, 5, 10, 14, math.MinInt, math.MaxInt} }

// written is how all keys alter the steps from C to B, one line for each key from -7 to 7.
func written() [15][7]int {
	return [15][7]int{
		{-1, -1, -1, -1, -1, -1, -1},
		{-1, -1, -1, 0, -1, -1, -1},
		{0, -1, -1, 0, -1, -1, -1},
		{0, -1, -1, 0, 0, -1, -1},
		{0, 0, -1, 0, 0, -1, -1},
		{0, 0, -1, 0, 0, 0, -1},
		{0, 0, 0, 0, 0, 0, -1},
		{0, 0, 0, 0, 0, 0, 0},
		{0, 0, 0, 1, 0, 0, 0},
		{1, 0, 0, 1, 0, 0, 0},
		{1, 0, 0, 1, 1, 0, 0},
		{1, 1, 0, 1, 1, 0, 0},
		{1, 1, 0, 1, 1, 1, 0},
		{1, 1, 1, 1, 1, 1, 0},
		{1, 1, 1, 1, 1, 1, 1},
	}
}

// P3.1, C1: all keys and steps.
func TestAlter(t *testing.T) {
	for at, key := range keys() {
		for step := range 7 {
			if alter, e := Alter(key, step); alter != written()[at][step] || e != api.OK {
				t.Errorf("key %d, step %d: %d, %v", key, step, alter, e)
			}
		}
	}
}

// P3.1, C1, and P1: what is no key or no step.
func TestAlterRefuses(t *testing.T) {
	steps := []int{-1, 7, 8, math.MinInt, math.MaxInt}
	for _, key := range noKeys() {
		for _, step := range append(steps, 0, 3, 6) {
			if alter, e := Alter(key, step); alter != 0 || e != api.ErrArg {
				t.Errorf("key %d, step %d: %d, %v", key, step, alter, e)
			}
		}
	}
	for _, key := range keys() {
		for _, step := range steps {
			if alter, e := Alter(key, step); alter != 0 || e != api.ErrArg {
				t.Errorf("key %d, step %d: %d, %v", key, step, alter, e)
			}
		}
	}
}

// P3.2.
func TestNextKeys(t *testing.T) {
	for key := -7; key < 7; key++ {
		raised := 0
		for step := range 7 {
			low, e := Alter(key, step)
			high, f := Alter(key+1, step)
			if e != api.OK || f != api.OK || high != low && high != low+1 {
				t.Errorf("keys %d and %d, step %d: %d, %v; %d, %v", key, key+1, step, low, e, high, f)
			}
			raised += high - low
		}
		if raised != 1 {
			t.Errorf("keys %d and %d: %d steps are raised", key, key+1, raised)
		}
	}
}

// P3.1, C2.
func TestFifths(t *testing.T) {
	for _, x := range []struct {
		i    api.Interval
		want int
	}{
		{apart(0, 0), 0}, {apart(4, 7), 1}, {apart(-4, -7), -1}, {apart(3, 5), -1}, {apart(1, 2), 2}, {apart(2, 3), -3}, {apart(2, 4), 4}, {apart(7, 12), 0},
		{apart(0, 1), 7}, {apart(0, -1), -7}, {apart(1, 0), -12}, {apart(70, 120), 0}, {apart(-70, 120), 1680}, {apart(70, -120), -1680},
	} {
		if n, e := Fifths(x.i); n != x.want || e != api.OK {
			t.Errorf("%v: %d, %v", x.i, n, e)
		}
	}
	for _, i := range intervals() {
		if n, e := Fifths(i); n != 7*i.Semitones-12*i.Steps || e != api.OK {
			t.Errorf("%v: %d, %v", i, n, e)
		}
	}
	for _, i := range noIntervals() {
		if n, e := Fifths(i); n != 0 || e != api.ErrArg {
			t.Errorf("%v: %d, %v", i, n, e)
		}
	}
}

// P3.7: each interval with each of some, at the limits and in between.
func TestFifthsAdd(t *testing.T) {
	some := []api.Interval{apart(0, 0), apart(70, 120), apart(-70, 120), apart(70, -120), apart(-70, -120), apart(4, 7), apart(-3, -5), apart(2, 3), apart(0, 1), apart(1, 0), apart(-35, 61)}
	checked := 0
	for _, i := range intervals() {
		for _, j := range some {
			both, e := pitch.Join(i, j)
			if e != api.OK {
				continue
			}
			m, e := Fifths(i)
			n, f := Fifths(j)
			sum, g := Fifths(both)
			if sum != m+n || e != api.OK || f != api.OK || g != api.OK {
				t.Errorf("%v and %v: %d and %d, and %d", i, j, m, n, sum)
			}
			checked++
		}
	}
	if checked < 100000 {
		t.Errorf("only %d were checked", checked)
	}
}

// P3.1, C3: the example, and keys at the limits and just beyond them.
func TestMoveExamples(t *testing.T) {
	for _, x := range []struct {
		key   int
		i     api.Interval
		want  int
		exact api.Interval
	}{
		{6, apart(1, 2), -4, apart(2, 2)},
		{5, apart(1, 2), 7, apart(1, 2)},
		{0, apart(1, 2), 2, apart(1, 2)},
		{0, apart(-1, -2), -2, apart(-1, -2)},
		{-6, apart(-1, -2), 4, apart(-2, -2)},
		{-5, apart(-1, -2), -7, apart(-1, -2)},
		{7, apart(0, 0), 7, apart(0, 0)},
		{-7, apart(0, 0), -7, apart(0, 0)},
		{7, apart(4, 7), -4, apart(5, 7)},
		{-7, apart(3, 5), 4, apart(2, 5)},
		// An octave is no fifth.
		{-7, apart(7, 12), -7, apart(7, 12)},
		// What is in range stays, though 12 fifths fewer or more would be in range too; beyond it, it is moved.
		{0, apart(0, 1), 7, apart(0, 1)},
		{0, apart(0, -1), -7, apart(0, -1)},
		{1, apart(0, 1), -4, apart(1, 1)},
		{-1, apart(0, -1), 4, apart(-1, -1)},
		// 12 fifths, once and as often as can be.
		{-5, apart(69, 120), 7, apart(69, 120)},
		{-4, apart(69, 120), -4, apart(70, 120)},
		{0, apart(-70, 120), 0, apart(70, 120)},
		{7, apart(-70, 120), 7, apart(70, 120)},
		{-7, apart(-70, 120), 5, apart(69, 120)},
		{0, apart(70, -120), 0, apart(-70, -120)},
		{-7, apart(70, -120), -7, apart(-70, -120)},
		{7, apart(70, -120), -5, apart(-69, -120)},
	} {
		if key, exact, e := Move(x.key, x.i); key != x.want || exact != x.exact || e != api.OK {
			t.Errorf("%d and %v: %d, %v, %v", x.key, x.i, key, exact, e)
		}
	}
}

// moved returns a moved key, and the exact interval, step by step by the words of the chapter.
func moved(key int, i api.Interval) (int, api.Interval) {
	n := key + 7*i.Semitones - 12*i.Steps
	for n > 7 {
		n, i.Steps = n-12, i.Steps+1
	}
	for n < -7 {
		n, i.Steps = n+12, i.Steps-1
	}
	return n, i
}

// P3.1, C3, and P3.3: all keys and intervals.
func TestMove(t *testing.T) {
	for _, key := range keys() {
		for _, i := range intervals() {
			want, wantExact := moved(key, i)
			to, exact, e := Move(key, i)
			if to != want || exact != wantExact || e != api.OK {
				t.Fatalf("%d and %v: %d, %v, %v", key, i, to, exact, e)
			}
			checkMoved(t, key, to, exact)
		}
	}
}

// checkMoved checks that a key is moved to another one by an exact interval, also backwards.
func checkMoved(t *testing.T, key, to int, exact api.Interval) {
	t.Helper()
	if to < -7 || to > 7 {
		t.Errorf("%d, moved by %v, is %d", key, exact, to)
	}
	if n, e := Fifths(exact); n != to-key || e != api.OK {
		t.Errorf("from %d to %d by %v: %d, %v", key, to, exact, n, e)
	}
	opposite, e := pitch.Back(exact)
	from, same, f := Move(to, opposite)
	if from != key || same != opposite || e != api.OK || f != api.OK {
		t.Errorf("from %d to %d by %v, and back: %d, %v, %v", key, to, exact, from, same, f)
	}
}

// P3.1, C3, and P1.
func TestMoveRefuses(t *testing.T) {
	for _, key := range append(noKeys(), keys()...) {
		for _, i := range noIntervals() {
			if to, exact, e := Move(key, i); to != 0 || exact != apart(0, 0) || e != api.ErrArg {
				t.Errorf("%d and %v: %d, %v, %v", key, i, to, exact, e)
			}
		}
	}
	for _, key := range noKeys() {
		// By some of these intervals it would be moved to a key; it is refused all the same.
		for _, i := range []api.Interval{apart(0, 0), apart(4, 7), apart(-4, -7), apart(1, 0), apart(-1, 0), apart(70, 120)} {
			if to, exact, e := Move(key, i); to != 0 || exact != apart(0, 0) || e != api.ErrArg {
				t.Errorf("%d and %v: %d, %v, %v", key, i, to, exact, e)
			}
		}
	}
}

// P3.4: all steps in an octave from which no interval leads out of the valid ones.
func TestScales(t *testing.T) {
	for _, key := range keys() {
		for _, i := range intervals() {
			to, exact, e := Move(key, i)
			if e != api.OK {
				t.Fatalf("%d and %v: %v", key, i, e)
			}
			for step := range 7 {
				alter, _ := Alter(key, step)
				p, e := pitch.Add(spelled(step, alter, 6), exact)
				want, f := Alter(to, p.Step)
				if p.Alter != want || e != api.OK || f != api.OK {
					t.Fatalf("key %d, step %d, moved by %v to the key %d: %v, %v; %d, %v", key, step, exact, to, p, e, want, f)
				}
			}
		}
	}
}

// bar is a bar with the signs that are written in it.
type bar struct {
	key   int
	l     []api.Pitch
	signs []int
}

// bars returns bars by hand.
func bars() []bar {
	return []bar{
		{0, nil, nil},
		{-7, []api.Pitch{}, []int{}},
		// The example.
		{1, []api.Pitch{spelled(3, 1, 4), spelled(3, 0, 4), spelled(3, 0, 4), spelled(3, 0, 5), spelled(3, 1, 4)}, []int{0, 10, 0, 10, 11}},
		// What is written holds for its Step and its Octave alone, and back to the key it is written too.
		{0, []api.Pitch{spelled(3, 1, 4), spelled(3, 1, 5), spelled(4, 0, 4), spelled(3, 1, 4), spelled(3, 0, 4), spelled(3, 1, 5)}, []int{11, 11, 0, 0, 10, 0}},
		{-2, []api.Pitch{spelled(6, -1, 4), spelled(2, -1, 4), spelled(6, 0, 4), spelled(6, -1, 3), spelled(6, 0, 4), spelled(6, -1, 4)}, []int{0, 0, 10, 0, 0, 9}},
		// The key alters by 1 alone; all other Alters are written, the greatest and least among them.
		{7, []api.Pitch{spelled(0, 1, 0), spelled(0, 4, 0), spelled(0, -4, 0), spelled(0, 0, 0), spelled(0, 2, 0), spelled(0, -1, 0)}, []int{0, 14, 6, 10, 12, 9}},
		{-7, []api.Pitch{spelled(3, -1, -8), spelled(3, -2, -8), spelled(3, -2, -8), spelled(3, -1, -8), spelled(3, -1, 20), spelled(3, 1, 20)}, []int{0, 8, 0, 9, 0, 11}},
		// Pitches that sound the same, and places that a number could mix up.
		{0, []api.Pitch{spelled(6, 1, 3), spelled(0, 0, 4), spelled(6, 0, 3), spelled(0, -1, 4)}, []int{11, 0, 10, 9}},
		{0, []api.Pitch{spelled(0, 1, -8), spelled(0, 0, 20), spelled(6, 0, -8), spelled(6, 1, 20), spelled(4, 0, 0), spelled(0, 2, 4), spelled(4, 0, 0)}, []int{11, 0, 0, 11, 0, 12, 0}},
	}
}

// P3.1, C4 and C5.
func TestBars(t *testing.T) {
	for _, b := range bars() {
		if signs, e := Signs(b.key, b.l); !slices.Equal(signs, b.signs) || e != api.OK {
			t.Errorf("%v: %v, %v", b, signs, e)
		}
		if l, e := Read(b.key, b.l, b.signs); !slices.Equal(l, b.l) || e != api.OK {
			t.Errorf("%v: %v, %v", b, l, e)
		}
	}
}

// lastWritten returns what is in force for a pitch after those before it, by a look backwards for the last sign of its place.
func lastWritten(key int, l []api.Pitch, signs []int, at int) int {
	for before := at - 1; before >= 0; before-- {
		if signs[before] != 0 && l[before].Step == l[at].Step && l[before].Octave == l[at].Octave {
			return signs[before] - 10
		}
	}
	return written()[key+7][l[at].Step]
}

// checkBar checks the signs of a bar, that they are read as it was, and that none of them can be left out.
func checkBar(t *testing.T, key int, l []api.Pitch) {
	t.Helper()
	signs, e := Signs(key, l)
	if e != api.OK || len(signs) != len(l) {
		t.Fatalf("key %d, %v: %v, %v", key, l, signs, e)
	}
	for at, p := range l {
		want := 10 + p.Alter
		if lastWritten(key, l, signs, at) == p.Alter {
			want = 0
		}
		if signs[at] != want {
			t.Fatalf("key %d, %v: %v, at %d", key, l, signs, at)
		}
	}
	// The Alters of what is read play no part, so that there are wrong ones.
	plain := slices.Clone(l)
	for at := range plain {
		plain[at].Alter = -7 * at
	}
	if read, e := Read(key, plain, signs); !slices.Equal(read, l) || e != api.OK {
		t.Fatalf("key %d, %v with %v is read as %v, %v", key, l, signs, read, e)
	}
	for at, sign := range signs {
		if sign == 0 {
			continue
		}
		signs[at] = 0
		if read, e := Read(key, plain, signs); e != api.OK || read[at] == l[at] {
			t.Fatalf("key %d, %v without the sign %d at %d: %v, %v", key, l, sign, at, read, e)
		}
		signs[at] = sign
	}
}

// P3.1, C4 and C5, P3.5 and P3.6: all bars of up to 4 of some pitches, in all keys.
func TestShortBars(t *testing.T) {
	some := []api.Pitch{spelled(3, 1, 4), spelled(3, 0, 4), spelled(3, -1, 4), spelled(3, 1, 5), spelled(3, 0, 5), spelled(6, -1, 4), spelled(6, 0, 4)}
	last := [][]api.Pitch{{}}
	for range 4 {
		next := [][]api.Pitch{}
		for _, l := range last {
			for _, p := range some {
				next = append(next, append(slices.Clone(l), p))
			}
		}
		for _, l := range next {
			for _, key := range keys() {
				checkBar(t, key, l)
			}
		}
		last = next
	}
}

// P3.1, C4 and C5, P3.5 and P3.6: each valid pitch alone, and longer bars of pitches that come again and again, and that do not.
func TestLongBars(t *testing.T) {
	r := rand.New(rand.NewSource(3))
	for _, key := range keys() {
		for octave := -8; octave <= 20; octave++ {
			for step := range 7 {
				for alter := -4; alter <= 4; alter++ {
					checkBar(t, key, []api.Pitch{spelled(step, alter, octave)})
				}
			}
		}
		for _, octaves := range []int{1, 2, 29} {
			for length := 5; length <= 80; length++ {
				l := []api.Pitch{}
				for range length {
					l = append(l, spelled(r.Intn(7), r.Intn(9)-4, r.Intn(octaves)-8))
				}
				checkBar(t, key, l)
			}
		}
	}
}

// P3.1, C5: signs that nobody has to write are read too, and hold on.
func TestReadSuperfluous(t *testing.T) {
	l := []api.Pitch{spelled(3, 9, 4), spelled(3, 0, 4), spelled(3, 0, 4), spelled(3, 0, 4), spelled(3, 0, 5), spelled(3, 0, 4)}
	want := []api.Pitch{spelled(3, 1, 4), spelled(3, 1, 4), spelled(3, 0, 4), spelled(3, 0, 4), spelled(3, 1, 5), spelled(3, 0, 4)}
	if read, e := Read(1, l, []int{11, 0, 10, 10, 0, 0}); !slices.Equal(read, want) || e != api.OK {
		t.Errorf("%v, %v", read, e)
	}
	for alter := -4; alter <= 4; alter++ {
		want := []api.Pitch{spelled(2, alter, 0), spelled(2, alter, 0), spelled(2, 0, 1)}
		if read, e := Read(0, []api.Pitch{spelled(2, 0, 0), spelled(2, 0, 0), spelled(2, 0, 1)}, []int{10 + alter, 0, 0}); !slices.Equal(read, want) || e != api.OK {
			t.Errorf("%v, %v", read, e)
		}
	}
}

// P3.1, C4 and C5: the limit.
func TestLimit(t *testing.T) {
	l, signs := make([]api.Pitch, 1000), make([]int, 1000)
	l[0].Alter, signs[0] = -4, 6
	l[999].Alter, signs[1], signs[999] = 4, 10, 14
	if got, e := Signs(0, l); !slices.Equal(got, signs) || e != api.OK {
		t.Errorf("1000: %v, %v", got, e)
	}
	if got, e := Read(0, make([]api.Pitch, 1000), signs); !slices.Equal(got, l) || e != api.OK {
		t.Errorf("1000: %v, %v", got, e)
	}
	// One more, alone and with everything else that is wrong: it comes first.
	wrong := append(make([]api.Pitch, 1000), spelled(7, 5, 21))
	for _, key := range []int{0, 8, math.MinInt} {
		for _, l := range [][]api.Pitch{make([]api.Pitch, 1001), wrong, make([]api.Pitch, 5000)} {
			if got, e := Signs(key, l); got != nil || e != api.ErrLimit {
				t.Errorf("Signs of %d: %v", len(l), e)
			}
			for _, signs := range [][]int{nil, make([]int, 1000), make([]int, len(l)), {5}} {
				if got, e := Read(key, l, signs); got != nil || e != api.ErrLimit {
					t.Errorf("Read of %d: %v", len(l), e)
				}
			}
		}
	}
}

// P3.1, C4, and P1: what is no key, or not valid, wherever it stands.
func TestSignsRefuse(t *testing.T) {
	good := []api.Pitch{spelled(0, 0, 4), spelled(3, 1, 4), spelled(0, -4, 20)}
	for _, key := range noKeys() {
		for _, l := range [][]api.Pitch{nil, good} {
			if signs, e := Signs(key, l); len(signs) != 0 || e != api.ErrArg {
				t.Errorf("key %d, %v: %v, %v", key, l, signs, e)
			}
		}
	}
	bad := noPlaces()
	for _, alter := range noAlters() {
		bad = append(bad, spelled(0, alter, 4))
	}
	for _, p := range bad {
		for at := range good {
			l := slices.Clone(good)
			l[at] = p
			for _, key := range []int{0, -7, 7, 8} {
				if signs, e := Signs(key, l); len(signs) != 0 || e != api.ErrArg {
					t.Errorf("key %d, %v: %v, %v", key, l, signs, e)
				}
			}
		}
	}
}

// P3.1, C5, and P1: what is no key, no sign or no place, wherever it stands, and too few or too many signs.
func TestReadRefuses(t *testing.T) {
	good := []api.Pitch{spelled(0, 0, 4), spelled(3, 1, 4), spelled(0, -4, 20)}
	refuse := func(key int, l []api.Pitch, signs []int) {
		t.Helper()
		if read, e := Read(key, l, signs); len(read) != 0 || e != api.ErrArg {
			t.Errorf("key %d, %v with %v: %v, %v", key, l, signs, read, e)
		}
	}
	for _, key := range noKeys() {
		refuse(key, nil, nil)
		refuse(key, good, []int{0, 10, 14})
	}
	for _, signs := range [][]int{nil, {0}, {0, 0}, {0, 0, 0, 0}, make([]int, 1001)} {
		refuse(0, good, signs)
	}
	refuse(0, nil, []int{0})
	for _, sign := range []int{-14, -10, -1, 1, 2, 4, 5, 15, 16, math.MinInt, math.MinInt + 10, math.MaxInt} {
		for at := range good {
			signs := []int{0, 6, 14}
			signs[at] = sign
			refuse(0, good, signs)
		}
	}
	for _, p := range noPlaces() {
		for at := range good {
			l := slices.Clone(good)
			l[at] = p
			refuse(0, l, []int{0, 0, 0})
			refuse(0, l, []int{11, 12, 13})
		}
	}
}

// P3.1, C5: Alters that no valid pitch has are not looked at.
func TestReadAlters(t *testing.T) {
	for _, alter := range append(noAlters(), -4, 0, 4) {
		l := []api.Pitch{spelled(3, alter, 4), spelled(3, alter, 4), spelled(3, alter, 4), spelled(0, alter, -8)}
		want := []api.Pitch{spelled(3, 1, 4), spelled(3, -2, 4), spelled(3, -2, 4), spelled(0, 0, -8)}
		if read, e := Read(1, l, []int{0, 8, 0, 0}); !slices.Equal(read, want) || e != api.OK {
			t.Errorf("%d: %v, %v", alter, read, e)
		}
	}
}

// P1 and the rules: arguments stay as they were, and a result shares no memory with them or with another one.
func TestMemory(t *testing.T) {
	b := bars()[2]
	l, signs := slices.Clone(b.l), slices.Clone(b.signs)
	firstSigns, _ := Signs(b.key, l)
	firstRead, _ := Read(b.key, l, signs)
	if !slices.Equal(l, b.l) || !slices.Equal(signs, b.signs) {
		t.Errorf("%v and %v", l, signs)
	}
	for at := range l {
		firstSigns[at], firstRead[at] = 99, spelled(99, 99, 99)
	}
	if !slices.Equal(l, b.l) || !slices.Equal(signs, b.signs) {
		t.Errorf("%v and %v are shared", l, signs)
	}
	if again, e := Signs(b.key, l); !slices.Equal(again, b.signs) || e != api.OK {
		t.Errorf("%v, %v", again, e)
	}
	if again, e := Read(b.key, l, signs); !slices.Equal(again, b.l) || e != api.OK {
		t.Errorf("%v, %v", again, e)
	}
}
