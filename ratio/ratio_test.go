package ratio

import (
	"math"
	"math/big"
	"slices"
	"testing"

	"partbook/api"
)

type operator func(a, b api.Rat) (api.Rat, api.Errno)

// rat returns a ratio as it is written, valid or not.
func rat(n, d int) api.Rat { return api.Rat{N: n, D: d} }

// exact returns a ratio as a number without limits.
func exact(r api.Rat) *big.Rat { return big.NewRat(int64(r.N), int64(r.D)) }

// limited returns what the chapter promises for a number: its ratio, or ErrRange.
func limited(x *big.Rat) (api.Rat, api.Errno) {
	if x.Denom().Cmp(big.NewInt(1000000)) > 0 || new(big.Int).Abs(x.Num()).Cmp(big.NewInt(1000000000)) > 0 {
		return api.Rat{}, api.ErrRange
	}
	return rat(int(x.Num().Int64()), int(x.Denom().Int64())), api.OK
}

// samples returns valid ratios: small ones, those at the limits, and some that follow a fixed rule.
func samples() []api.Rat {
	l := []api.Rat{
		rat(0, 1), rat(1, 1), rat(-1, 1), rat(1, 2), rat(-1, 2), rat(1, 3), rat(-2, 3), rat(5, 7), rat(-3, 4), rat(7, 6), rat(24, 1), rat(-24, 5),
		rat(1, 1680), rat(-13, 1680), rat(480000, 1), rat(806399999, 1680),
		rat(1000000000, 1), rat(-1000000000, 1), rat(999999999, 1), rat(500000000, 1), rat(-500000000, 1),
		rat(1, 1000000), rat(-1, 1000000), rat(1, 999999), rat(1, 500000), rat(999999999, 1000000), rat(-999999999, 1000000),
		rat(1000000000, 999999), rat(-1000000000, 999999), rat(1000000, 999999), rat(999983, 1000000), rat(1, 1000), rat(1001, 1000),
	}
	x := uint64(1)
	for len(l) < 70 {
		x = x*6364136223846793005 + 1442695040888963407
		n, d := int(x>>33%2001)-1000, int(x>>17%60)+1
		if r, _ := limited(big.NewRat(int64(n), int64(d))); !slices.Contains(l, r) {
			l = append(l, r)
		}
	}
	return l
}

// invalid returns ratios that are not valid.
func invalid() []api.Rat {
	return []api.Rat{
		{}, rat(1, 0), rat(0, 2), rat(0, -1), rat(2, 4), rat(-3, 6), rat(1, -2), rat(-1, -1), rat(1000000, 1000000),
		rat(1000000001, 1), rat(-1000000001, 1), rat(1, 1000001), rat(2, 1000001), rat(1000000000, 1000000),
		rat(math.MaxInt, 1), rat(math.MinInt, 1), rat(1, math.MaxInt), rat(1, math.MinInt), rat(math.MinInt, math.MinInt), rat(math.MinInt, -1), rat(math.MaxInt, math.MinInt),
	}
}

// P1.1, A1.
func TestValid(t *testing.T) {
	for _, r := range samples() {
		if !Valid(r) {
			t.Errorf("%v is not valid", r)
		}
	}
	for _, r := range invalid() {
		if Valid(r) {
			t.Errorf("%v is valid", r)
		}
	}
	for n := -12; n <= 12; n++ {
		for d := -12; d <= 12; d++ {
			want := d > 0 && new(big.Int).GCD(nil, nil, big.NewInt(int64(max(n, -n))), big.NewInt(int64(d))).Int64() == 1
			if got := Valid(rat(n, d)); got != want {
				t.Errorf("%d / %d: %v", n, d, got)
			}
		}
	}
}

// P1.1, A2.
func TestMake(t *testing.T) {
	const most = 1000000000000000
	for _, x := range []struct {
		n, d int
		want api.Rat
		e    api.Errno
	}{
		{6, -4, rat(-3, 2), api.OK},
		{-6, -4, rat(3, 2), api.OK},
		{-6, 4, rat(-3, 2), api.OK},
		{0, -7, rat(0, 1), api.OK},
		{0, most, rat(0, 1), api.OK},
		{0, -most, rat(0, 1), api.OK},
		{most, most, rat(1, 1), api.OK},
		{most, -most, rat(-1, 1), api.OK},
		{most, 1000000, rat(1000000000, 1), api.OK},
		{-most, 1000000, rat(-1000000000, 1), api.OK},
		{1000000000, most, rat(1, 1000000), api.OK},
		{1000000000, 1000000, rat(1000, 1), api.OK},
		{1, 0, api.Rat{}, api.ErrArg},
		{0, 0, api.Rat{}, api.ErrArg},
		{most + 1, 1, api.Rat{}, api.ErrArg},
		{-most - 1, 1, api.Rat{}, api.ErrArg},
		{1, most + 1, api.Rat{}, api.ErrArg},
		{1, -most - 1, api.Rat{}, api.ErrArg},
		{most + 1, most + 1, api.Rat{}, api.ErrArg},
		{most + 1, 0, api.Rat{}, api.ErrArg},
		{math.MinInt, math.MinInt, api.Rat{}, api.ErrArg},
		{math.MinInt, -1, api.Rat{}, api.ErrArg},
		{math.MaxInt, math.MaxInt, api.Rat{}, api.ErrArg},
		{most, 1, api.Rat{}, api.ErrRange},
		{1, most, api.Rat{}, api.ErrRange},
		{1000000000, 1, rat(1000000000, 1), api.OK},
		{1000000001, 1, api.Rat{}, api.ErrRange},
		{-1000000001, 1, api.Rat{}, api.ErrRange},
		{1, -1000000, rat(-1, 1000000), api.OK},
		{1, 1000001, api.Rat{}, api.ErrRange},
		{-1, -1000001, api.Rat{}, api.ErrRange},
	} {
		if r, e := Make(x.n, x.d); r != x.want || e != x.e {
			t.Errorf("%d / %d: %v, %v", x.n, x.d, r, e)
		}
	}
}

// P1.1, A3 to A7: against numbers without limits.
func TestOperators(t *testing.T) {
	operators := []struct {
		name string
		f    operator
		want func(z, a, b *big.Rat) *big.Rat
	}{
		{"Add", Add, (*big.Rat).Add},
		{"Sub", Sub, (*big.Rat).Sub},
		{"Mul", Mul, (*big.Rat).Mul},
		{"Div", Div, (*big.Rat).Quo},
	}
	for _, a := range samples() {
		for _, b := range samples() {
			for _, o := range operators {
				want, wantE := api.Rat{}, api.ErrArg
				if o.name != "Div" || b.N != 0 {
					want, wantE = limited(o.want(new(big.Rat), exact(a), exact(b)))
				}
				if r, e := o.f(a, b); r != want || e != wantE {
					t.Errorf("%s of %v and %v: %v, %v", o.name, a, b, r, e)
				}
			}
			if n, e := Compare(a, b); n != exact(a).Cmp(exact(b)) || e != api.OK {
				t.Errorf("Compare of %v and %v: %d, %v", a, b, n, e)
			}
		}
	}
}

// P1.1, A3 to A7: the examples, and results at the limits and just beyond them.
func TestOperatorExamples(t *testing.T) {
	for _, x := range []struct {
		name string
		f    operator
		a, b api.Rat
		want api.Rat
		e    api.Errno
	}{
		{"Add", Add, rat(1, 2), rat(1, 3), rat(5, 6), api.OK},
		{"Add", Add, rat(999999999, 1), rat(1, 1), rat(1000000000, 1), api.OK},
		{"Add", Add, rat(1000000000, 1), rat(1, 1), api.Rat{}, api.ErrRange},
		{"Add", Add, rat(1, 1000), rat(1, 1000), rat(1, 500), api.OK},
		{"Add", Add, rat(1, 999999), rat(1, 1000000), api.Rat{}, api.ErrRange},
		{"Add", Add, rat(1000000000, 999999), rat(1000000000, 999999), api.Rat{}, api.ErrRange},
		{"Sub", Sub, rat(-999999999, 1), rat(1, 1), rat(-1000000000, 1), api.OK},
		{"Sub", Sub, rat(-1000000000, 1), rat(1, 1), api.Rat{}, api.ErrRange},
		{"Sub", Sub, rat(1, 2), rat(1, 2), rat(0, 1), api.OK},
		{"Mul", Mul, rat(1, 1000000), rat(1, 2), api.Rat{}, api.ErrRange},
		{"Mul", Mul, rat(1, 1000), rat(-1, 1000), rat(-1, 1000000), api.OK},
		{"Mul", Mul, rat(1000000000, 1), rat(1, 1000000), rat(1000, 1), api.OK},
		{"Mul", Mul, rat(1000000000, 1), rat(-1000000000, 1), api.Rat{}, api.ErrRange},
		{"Mul", Mul, rat(0, 1), rat(-1, 1000000), rat(0, 1), api.OK},
		{"Div", Div, rat(1, 2), rat(-3, 4), rat(-2, 3), api.OK},
		{"Div", Div, rat(1, 1), rat(1000000, 1), rat(1, 1000000), api.OK},
		{"Div", Div, rat(1, 1), rat(1000001, 1), api.Rat{}, api.ErrRange},
		{"Div", Div, rat(1000, 1), rat(1, 1000000), rat(1000000000, 1), api.OK},
		{"Div", Div, rat(1000000000, 1), rat(1, 1000000), api.Rat{}, api.ErrRange},
		{"Div", Div, rat(0, 1), rat(-1000000000, 1), rat(0, 1), api.OK},
		{"Div", Div, rat(1, 2), rat(0, 1), api.Rat{}, api.ErrArg},
		{"Div", Div, rat(0, 1), rat(0, 1), api.Rat{}, api.ErrArg},
		{"Div", Div, rat(0, 2), rat(0, 1), api.Rat{}, api.ErrArg},
	} {
		if r, e := x.f(x.a, x.b); r != x.want || e != x.e {
			t.Errorf("%s of %v and %v: %v, %v", x.name, x.a, x.b, r, e)
		}
	}
}

// P1 and P1.1: what is not valid is ErrArg on either side, without another result.
func TestInvalid(t *testing.T) {
	pairs := [][2]api.Rat{}
	for _, x := range invalid() {
		pairs = append(pairs, [2]api.Rat{x, rat(1, 2)}, [2]api.Rat{rat(1, 2), x}, [2]api.Rat{rat(0, 1), x})
		for _, y := range invalid() {
			pairs = append(pairs, [2]api.Rat{x, y})
		}
		if n, e := Floor(x); n != 0 || e != api.ErrArg {
			t.Errorf("Floor of %v: %d, %v", x, n, e)
		}
		if r, e := Sum([]api.Rat{rat(1, 2), x, rat(1, 2)}); r != (api.Rat{}) || e != api.ErrArg {
			t.Errorf("Sum with %v: %v, %v", x, r, e)
		}
	}
	for _, p := range pairs {
		for i, f := range []operator{Add, Sub, Mul, Div} {
			if r, e := f(p[0], p[1]); r != (api.Rat{}) || e != api.ErrArg {
				t.Errorf("operator %d of %v: %v, %v", i, p, r, e)
			}
		}
		if n, e := Compare(p[0], p[1]); n != 0 || e != api.ErrArg {
			t.Errorf("Compare of %v: %d, %v", p, n, e)
		}
	}
}

// P1.1, A8.
func TestSum(t *testing.T) {
	for i, x := range []struct {
		l    []api.Rat
		want api.Rat
		e    api.Errno
	}{
		{nil, rat(0, 1), api.OK},
		{[]api.Rat{}, rat(0, 1), api.OK},
		{[]api.Rat{rat(-5, 7)}, rat(-5, 7), api.OK},
		{[]api.Rat{rat(1, 2), rat(1, 3), rat(1, 6)}, rat(1, 1), api.OK},
		{[]api.Rat{rat(1, 2), rat(-1, 2)}, rat(0, 1), api.OK},
		// The order matters where the sum of the first ones is too much.
		{[]api.Rat{rat(1000000000, 1), rat(1, 1), rat(-1, 1)}, api.Rat{}, api.ErrRange},
		{[]api.Rat{rat(1000000000, 1), rat(-1, 1), rat(1, 1)}, rat(1000000000, 1), api.OK},
		{[]api.Rat{rat(1, 999999), rat(1, 1000000), rat(-1, 1000000)}, api.Rat{}, api.ErrRange},
		{[]api.Rat{rat(-1000000000, 1), rat(-1, 1000000)}, api.Rat{}, api.ErrRange},
		// The errors in their order.
		{[]api.Rat{rat(1000000000, 1), rat(1, 1), rat(0, 2)}, api.Rat{}, api.ErrArg},
		{slices.Repeat([]api.Rat{rat(1, 1680)}, 20000), rat(250, 21), api.OK},
		{slices.Repeat([]api.Rat{rat(0, 1)}, 20001), api.Rat{}, api.ErrLimit},
		{slices.Repeat([]api.Rat{rat(0, 2)}, 20001), api.Rat{}, api.ErrLimit},
		{slices.Repeat([]api.Rat{rat(1000000000, 1)}, 20001), api.Rat{}, api.ErrLimit},
		{slices.Repeat([]api.Rat{rat(1000000000, 1)}, 20000), api.Rat{}, api.ErrRange},
		{append(slices.Repeat([]api.Rat{rat(1000000000, 1)}, 19999), rat(0, 0)), api.Rat{}, api.ErrArg},
	} {
		before := slices.Clone(x.l)
		if r, e := Sum(x.l); r != x.want || e != x.e {
			t.Errorf("case %d: %v, %v", i, r, e)
		}
		if !slices.Equal(before, x.l) {
			t.Errorf("case %d: the argument was changed", i)
		}
	}
}

// P1.1, A9, and P1.6.
func TestFloor(t *testing.T) {
	for _, x := range []struct {
		a    api.Rat
		want int
	}{
		{rat(-5, 2), -3}, {rat(5, 2), 2}, {rat(0, 1), 0}, {rat(4, 1), 4}, {rat(-4, 1), -4}, {rat(1, 1000000), 0}, {rat(-1, 1000000), -1}, {rat(999999, 1000000), 0}, {rat(-999999, 1000000), -1},
		{rat(1000000000, 1), 1000000000}, {rat(-1000000000, 1), -1000000000}, {rat(1000000000, 999999), 1000}, {rat(-1000000000, 999999), -1001},
	} {
		if n, e := Floor(x.a); n != x.want || e != api.OK {
			t.Errorf("Floor of %v: %d, %v", x.a, n, e)
		}
	}
	for _, a := range samples() {
		n, e := Floor(a)
		floor := big.NewRat(int64(n), 1)
		less := new(big.Rat).Sub(exact(a), big.NewRat(1, 1))
		if e != api.OK || floor.Cmp(exact(a)) > 0 || floor.Cmp(less) <= 0 {
			t.Errorf("Floor of %v: %d, %v", a, n, e)
		}
	}
}

// P1.2.
func TestSums(t *testing.T) {
	for _, a := range samples() {
		for _, b := range samples() {
			sum, e := Add(a, b)
			if other, f := Add(b, a); other != sum || f != e {
				t.Errorf("%v + %v: %v, %v; %v, %v", a, b, sum, e, other, f)
			}
			if e != api.OK {
				continue
			}
			if back, e := Sub(sum, b); back != a || e != api.OK {
				t.Errorf("%v + %v - %v: %v, %v", a, b, b, back, e)
			}
			for _, c := range samples() {
				left, e := Add(sum, c)
				right, f := either(Add, a, b, c)
				if e == api.OK && f == api.OK && left != right {
					t.Errorf("%v + %v + %v: %v, %v", a, b, c, left, right)
				}
			}
		}
	}
}

// either returns a combined with what an operator makes of b and c.
func either(f operator, a, b, c api.Rat) (api.Rat, api.Errno) {
	r, e := f(b, c)
	if e != api.OK {
		return r, e
	}
	return f(a, r)
}

// P1.3.
func TestProducts(t *testing.T) {
	for _, a := range samples() {
		if r, e := Mul(a, rat(1, 1)); r != a || e != api.OK {
			t.Errorf("%v times 1: %v, %v", a, r, e)
		}
		if r, e := Mul(a, rat(0, 1)); r != rat(0, 1) || e != api.OK {
			t.Errorf("%v times 0: %v, %v", a, r, e)
		}
		for _, b := range samples() {
			product, e := Mul(a, b)
			if other, f := Mul(b, a); other != product || f != e {
				t.Errorf("%v times %v: %v, %v; %v, %v", a, b, product, e, other, f)
			}
			if e != api.OK {
				continue
			}
			if b.N != 0 {
				if back, e := Div(product, b); back != a || e != api.OK {
					t.Errorf("%v times %v divided again: %v, %v", a, b, back, e)
				}
			}
			for _, c := range samples() {
				checkDistributed(t, a, b, c)
			}
		}
	}
}

// checkDistributed checks that a times b + c is the sum of the products.
func checkDistributed(t *testing.T, a, b, c api.Rat) {
	t.Helper()
	sum, e1 := Add(b, c)
	whole, e2 := Mul(a, sum)
	first, e3 := Mul(a, b)
	second, e4 := Mul(a, c)
	parts, e5 := Add(first, second)
	for _, e := range []api.Errno{e1, e2, e3, e4, e5} {
		if e != api.OK {
			return
		}
	}
	if whole != parts {
		t.Errorf("%v times %v + %v: %v, %v", a, b, c, whole, parts)
	}
}

// P1.4.
func TestOrder(t *testing.T) {
	for _, a := range samples() {
		for _, b := range samples() {
			order, e := Compare(a, b)
			back, f := Compare(b, a)
			if e != api.OK || f != api.OK || order != -back || order < -1 || order > 1 {
				t.Errorf("%v and %v: %d, %d", a, b, order, back)
			}
			if (order == 0) != (a == b) {
				t.Errorf("%v and %v compare as %d", a, b, order)
			}
			if r, e := Sub(b, a); e == api.OK && (r.N > 0) != (order < 0) {
				t.Errorf("%v - %v is %v, but they compare as %d", b, a, r, order)
			}
			for _, c := range samples() {
				next, _ := Compare(b, c)
				if whole, _ := Compare(a, c); order <= 0 && next <= 0 && (whole > 0 || whole == 0 && order+next < 0) {
					t.Errorf("%v, %v, %v: %d, %d, %d", a, b, c, order, next, whole)
				}
			}
		}
	}
}

// P1.5.
func TestOneForm(t *testing.T) {
	for _, r := range samples() {
		for _, by := range []int{1, -1, 2, -3, 1680, -7919, 999999, 1000000, -1000000} {
			if s, e := Make(r.N*by, r.D*by); s != r || e != api.OK {
				t.Errorf("%v expanded by %d: %v, %v", r, by, s, e)
			}
		}
	}
	made := map[string]api.Rat{}
	for n := -40; n <= 40; n++ {
		for d := -40; d <= 40; d++ {
			if d == 0 {
				continue
			}
			r, e := Make(n, d)
			name := big.NewRat(int64(n), int64(d)).String()
			if before, ok := made[name]; e != api.OK || !Valid(r) || ok && before != r {
				t.Errorf("%d / %d: %v, %v", n, d, r, e)
			}
			made[name] = r
		}
	}
}

// durations returns durations of every denominator that there is, which sum up to less than 480000.
func durations() []api.Rat {
	l := []api.Rat{}
	for d := 1; d <= api.Division; d++ {
		if api.Division%d != 0 {
			continue
		}
		for _, n := range []int{0, 1, d - 1, d + 1, 24*d - 1, 24 * d} {
			r, _ := limited(big.NewRat(int64(n), int64(d)))
			l = append(l, r)
		}
	}
	return l
}

// isDuration reports whether a ratio is a duration.
func isDuration(r api.Rat) bool { return Valid(r) && r.N >= 0 && api.Division%r.D == 0 }

// P1.7.
func TestDurations(t *testing.T) {
	l := durations()
	most := rat(480000, 1)
	// What is left up to 480000 is a duration too.
	sum, e := Sum(l)
	rest, f := Sub(most, sum)
	if e != api.OK || f != api.OK || !isDuration(sum) || !isDuration(rest) {
		t.Fatalf("%v, %v; %v, %v", sum, e, rest, f)
	}
	l = append(l, rest)
	for range len(l) {
		l = append(l[1:], l[0])
		for _, order := range [][]api.Rat{l, reversed(l), sorted(l)} {
			checkDurations(t, order, most)
		}
	}
	small := slices.Repeat([]api.Rat{rat(24, 1), rat(40319, 1680), rat(1, 1680), rat(24, 1)}, 5000)
	checkDurations(t, small, rat(360000, 1))
	checkDurations(t, reversed(small), rat(360000, 1))
	checkDurations(t, slices.Repeat([]api.Rat{rat(24, 1)}, 20000), most)
	checkDurations(t, []api.Rat{rat(806399999, 1680), rat(1, 1680)}, most)
}

// checkDurations checks that durations can be added in this order, and that each sum of the first ones is a duration.
func checkDurations(t *testing.T, l []api.Rat, want api.Rat) {
	t.Helper()
	sum := rat(0, 1)
	for _, r := range l {
		next, e := Add(sum, r)
		if e != api.OK || !isDuration(next) {
			t.Fatalf("%v + %v: %v, %v", sum, r, next, e)
		}
		sum = next
	}
	if all, e := Sum(l); sum != want || all != want || e != api.OK {
		t.Errorf("%v, %v, %v", sum, all, e)
	}
}

// reversed returns ratios from the last one to the first one.
func reversed(l []api.Rat) []api.Rat {
	c := slices.Clone(l)
	slices.Reverse(c)
	return c
}

// sorted returns ratios from the least one to the greatest one.
func sorted(l []api.Rat) []api.Rat {
	c := slices.Clone(l)
	slices.SortFunc(c, func(a, b api.Rat) int { return exact(a).Cmp(exact(b)) })
	return c
}
