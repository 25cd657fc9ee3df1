package smooth

import (
	"math"
	"math/big"
	"slices"
	"testing"
)

var (
	nan  = math.NaN()
	inf  = math.Inf(1)
	zero = math.Copysign(0, -1)
)

const (
	most  = math.MaxFloat64
	least = math.SmallestNonzeroFloat64
)

// rising are the floats about which the chapter speaks, and those about which floats turn, from the least on.
var rising = []float64{
	-inf, -most, -1e308, -5e307, -4.4e307, -1e150, -1e17, -60.5, -15, -14.5, -2, -1, -0.5, -1e-300, -least,
	zero, 0, least, 1e-300, 0.1, 0.25, 0.5, 0.75, 1, math.Nextafter(1, 2), 1.5,
	math.Nextafter(2, 0), 2, math.Nextafter(2, 3), 2.5, 3, 10, 14, 14.5, 14.75, 15, 20, 59,
	math.Nextafter(59, 60), 59.5, math.Nextafter(60, 0), 60, math.Nextafter(60, 61), 60.5, 61, 100, 1 << 53,
	1e17, 1e18, 1e19, 1e150, 4.4e307, 5e307, 1e308, most, inf,
}

// edges are those, and NaN, also one with its sign and a load.
var edges = slices.Concat(rising, []float64{nan, math.Float64frombits(0xfff8000000000123)})

// exact are two floats that are the same to the bit, so that 0 is not -0.
func exact(a, b float64) bool { return math.Float64bits(a) == math.Float64bits(b) }

// same are two floats that are equal, or both NaN.
func same(a, b float64) bool { return a == b || a != a && b != b }

// finite are floats that are neither NaN nor infinite.
func finite(l ...float64) bool {
	return !slices.ContainsFunc(l, func(x float64) bool { return x-x != 0 })
}

// large tells a finite float as a number of which nothing is ever cut off.
func large(x float64) *big.Float { return new(big.Float).SetPrec(6000).SetFloat64(x) }

// rounded tells a large number as the nearest float.
func rounded(x *big.Float) float64 {
	f, _ := x.Float64()
	return f
}

// sum, less and product are each rounded by themselves.
func sum(a, b float64) float64     { return rounded(new(big.Float).Add(large(a), large(b))) }
func less(a, b float64) float64    { return rounded(new(big.Float).Sub(large(a), large(b))) }
func product(a, b float64) float64 { return rounded(new(big.Float).Mul(large(a), large(b))) }

// source tells floats, the same ones in each run.
type source uint64

// word tells the next 64 bits.
func (s *source) word() uint64 {
	*s ^= *s << 13
	*s ^= *s >> 7
	*s ^= *s << 17
	return uint64(*s)
}

// part tells a float from 0 on to below 1.
func (s *source) part() float64 { return float64(s.word()>>11) / (1 << 53) }

// number tells a float whose size is at most 10 to the power.
func (s *source) number(power float64) float64 {
	x := s.part() * math.Pow(10, s.part()*2*power-power)
	if s.word()%2 == 0 {
		return -x
	}
	return x
}

// P2.1: ordinary times, each kind of NaN, infinities, noughts, and parts that are none.
func TestMean(t *testing.T) {
	for _, x := range []struct{ old, now, part, want float64 }{
		{10, 20, 0.25, 12.5}, {20, 10, 0.25, 17.5}, {4, 8, 0, 4}, {4, 8, 1, 8}, {0, 7, 1, 7}, {-3, 5, 0.5, 1},
		{10, 20, -1, 0}, {10, 20, 2, 30}, {10, 20, inf, inf}, {10, 20, -inf, -inf}, {20, 10, inf, -inf},
		{nan, 7, 0.5, 7}, {7, nan, 0.5, 7}, {nan, nan, 0.5, nan}, {7, 9, nan, 9}, {9, 7, nan, 7},
		{nan, inf, 0.5, inf}, {nan, -inf, 0, -inf}, {inf, nan, 0.5, inf}, {-inf, nan, 0, -inf},
		{nan, 7, nan, 7}, {7, nan, nan, 7}, {nan, nan, nan, nan}, {nan, zero, 1, zero}, {zero, nan, 1, zero},
		{inf, inf, 0.5, inf}, {-inf, -inf, 0.5, -inf}, {inf, -inf, 0.5, -inf}, {-inf, inf, 0.5, inf},
		{inf, -inf, -0.5, inf}, {-inf, inf, -0.5, -inf}, {inf, 5, 0.5, 5}, {-inf, 5, 0.5, 5},
		{inf, 5, 0, 5}, {5, inf, 0.5, inf}, {5, -inf, 0.5, -inf}, {5, inf, 0, inf}, {5, -inf, 0, -inf},
		{5, 5, inf, 5}, {5, inf, -1, -inf}, {inf, 5, -1, inf},
		{1e308, -1e308, 0.5, -inf}, {1e308, -1e308, 0, -1e308}, {-1e308, 1e308, 0.5, inf}, {most, most, 0.5, most},
		{zero, zero, 0.5, 0}, {zero, 0, 0, 0}, {zero, -1, 0, zero}, {0, least, 1, least},
	} {
		if got := Mean(x.old, x.now, x.part); !same(got, x.want) || x.want == 0 && !exact(got, x.want) {
			t.Errorf("Mean(%v, %v, %v) = %v, not %v", x.old, x.now, x.part, got, x.want)
		}
	}
}

// P2.1: whatever one is, where the other one is NaN it comes back to the bit.
func TestMeanOfOne(t *testing.T) {
	for _, x := range edges {
		for _, part := range edges {
			if got := Mean(nan, x, part); !exact(got, x) {
				t.Fatalf("Mean(NaN, %v, %v) = %v", x, part, got)
			}
			if got := Mean(x, nan, part); x == x && !exact(got, x) {
				t.Fatalf("Mean(%v, NaN, %v) = %v", x, part, got)
			}
		}
	}
}

// steps tells a mean of finite floats, where it is one, each step rounded by itself.
func steps(old, now, part float64) (mean float64, whole bool) {
	way := less(now, old)
	if !finite(way) {
		return 0, false
	}
	way = product(part, way)
	if !finite(way) {
		return 0, false
	}
	return sum(old, way), true
}

// P2.1: at all finite edges each step is rounded by itself.
func TestMeanAtEdges(t *testing.T) {
	whole := 0
	for _, old := range edges {
		for _, now := range edges {
			for _, part := range edges {
				if !finite(old, now, part) {
					continue
				}
				want, ok := steps(old, now, part)
				if !ok {
					continue
				}
				whole++
				if got := Mean(old, now, part); got != want {
					t.Fatalf("Mean(%v, %v, %v) = %v, not %v", old, now, part, got, want)
				}
			}
		}
	}
	if whole < 10000 {
		t.Errorf("only %d were finite", whole)
	}
}

// P2.1: a product is rounded ahead of being added: fused with the sum it would tell another mean.
func TestMeanIsNotFused(t *testing.T) {
	s, fused := source(88172645463325252), 0
	for range 20000 {
		old, now, part := s.number(2), s.number(2), s.part()
		want, _ := steps(old, now, part)
		if got := Mean(old, now, part); got != want {
			t.Fatalf("Mean(%v, %v, %v) = %v, not %v", old, now, part, got, want)
		}
		if math.FMA(part, less(now, old), old) != want {
			fused++
		}
	}
	if fused < 1000 {
		t.Errorf("only %d means would be others if they were fused", fused)
	}
}

// P2.1: how far a time lies from the mean, on both sides of it, and what is not known.
func TestSpread(t *testing.T) {
	for _, x := range []struct{ old, mean, now, part, want float64 }{
		{1, 10, 4, 0.5, 3.5}, {1, 4, 10, 0.5, 3.5}, {nan, 10, 14, 0.5, 4}, {nan, 14, 10, 0.5, 4}, {2, 10, 10, 0.25, 1.5},
		{2, 10, 30, 0, 2}, {2, 10, 30, 1, 20}, {2, -10, 10, 1, 20}, {2, nan, 10, 0.5, 2}, {2, 10, nan, 0.5, 2},
		{nan, nan, 10, 0.5, nan}, {nan, 10, nan, 0.5, nan}, {nan, nan, nan, nan, nan}, {2, 10, 13, nan, 3}, {2, 13, 10, nan, 3},
		{2, inf, inf, 0.5, 2}, {2, -inf, inf, 0.5, inf}, {2, inf, 5, 0.5, inf}, {2, 5, -inf, 0.5, inf}, {inf, 10, 13, 0.5, 3},
		{-inf, 10, 13, 0.5, 3}, {nan, inf, 5, 0.5, inf}, {-4, 10, 14, 0.5, 0}, {nan, zero, zero, 0.5, 0}, {nan, 0, zero, 0.5, 0},
		{0, 1e308, -1e308, 0.5, inf}, {nan, 0, 1e200, 0.5, 1e200}, {nan, 0, -1e-200, 0.5, 1e-200}, {nan, 1, -most, 0.5, most},
	} {
		if got := Spread(x.old, x.mean, x.now, x.part); !same(got, x.want) || x.want == 0 && !exact(got, x.want) {
			t.Errorf("Spread(%v, %v, %v, %v) = %v, not %v", x.old, x.mean, x.now, x.part, got, x.want)
		}
	}
}

// P2.1: a spread is the mean of the old one and the size of what lies between.
func TestSpreadIsMean(t *testing.T) {
	s := source(362436069)
	for range 5000 {
		old, mean, now, part := s.number(2), s.number(2), s.number(2), s.part()
		size := math.Float64frombits(math.Float64bits(less(now, mean)) &^ (1 << 63))
		want, _ := steps(old, size, part)
		if got := Spread(old, mean, now, part); got != want {
			t.Fatalf("Spread(%v, %v, %v, %v) = %v, not %v", old, mean, now, part, got, want)
		}
	}
}

// P2.2: numbers by their size, both noughts as one, NaN behind all others.
func TestBefore(t *testing.T) {
	for _, x := range []struct {
		a, b float64
		want bool
	}{
		{1, 2, true}, {2, 1, false}, {2, 2, false}, {-2, -1, true}, {-1, -2, false}, {-1, 1, true},
		{zero, 0, false}, {0, zero, false}, {zero, least, true}, {-least, zero, true}, {-least, 0, true},
		{1, nan, true}, {nan, 1, false}, {nan, nan, false}, {inf, nan, true}, {nan, inf, false}, {-inf, nan, true}, {nan, -inf, false},
		{zero, nan, true}, {nan, zero, false}, {-inf, 0, true}, {0, -inf, false}, {-inf, inf, true}, {inf, inf, false}, {-inf, -inf, false},
		{most, inf, true}, {inf, most, false}, {-inf, -most, true}, {1, math.Nextafter(1, 2), true},
	} {
		if got := Before(x.a, x.b); got != x.want {
			t.Errorf("Before(%v, %v) = %v", x.a, x.b, got)
		}
	}
}

// P2.2: at all edges a place further on in what rises is behind, but of both noughts.
func TestBeforeAtEdges(t *testing.T) {
	for i, a := range edges {
		for j, b := range edges {
			want := i < j && i < len(rising) && !(a == 0 && b == 0)
			if got := Before(a, b); got != want {
				t.Fatalf("Before(%v, %v) = %v", a, b, got)
			}
		}
	}
}

// P2.2: the first of the best, wherever it stands, and none of none.
func TestBest(t *testing.T) {
	for _, x := range []struct {
		l    []float64
		want int
	}{
		{nil, -1}, {[]float64{}, -1}, {[]float64{7}, 0}, {[]float64{nan}, 0}, {[]float64{inf}, 0}, {[]float64{zero}, 0},
		{[]float64{nan, 3, zero, 0}, 2}, {[]float64{nan, 3, 0, zero}, 2}, {[]float64{nan, nan}, 0}, {[]float64{3, 3}, 0},
		{[]float64{3, 2, 1}, 2}, {[]float64{1, 2, 3}, 0}, {[]float64{2, 1, 3, 1}, 1}, {[]float64{nan, inf}, 1}, {[]float64{inf, nan}, 0},
		{[]float64{nan, nan, inf, inf}, 2}, {[]float64{0, -1, nan, -inf, -inf}, 3}, {[]float64{-inf, -most, nan}, 0}, {[]float64{5, nan, 4}, 2},
	} {
		if got := Best(x.l); got != x.want {
			t.Errorf("Best(%v) = %d, not %d", x.l, got, x.want)
		}
	}
}

// firstBest tells the first place that no other one is before, one place held against all others.
func firstBest(l []float64) int {
	return slices.IndexFunc(l, func(x float64) bool {
		return !slices.ContainsFunc(l, func(y float64) bool { return Before(y, x) })
	})
}

// P2.2: all lists of up to five of seven floats; none is changed.
func TestBestOfAll(t *testing.T) {
	kinds := []float64{nan, -inf, -1, zero, 0, 1, inf}
	var try func(l []float64)
	try = func(l []float64) {
		was := slices.Clone(l)
		if got, want := Best(l), firstBest(l); got != want {
			t.Fatalf("Best(%v) = %d, not %d", l, got, want)
		}
		if !slices.EqualFunc(l, was, exact) {
			t.Fatalf("%v became %v", was, l)
		}
		for i := 0; len(l) < 5 && i < len(kinds); i++ {
			try(append(slices.Clone(l), kinds[i]))
		}
	}
	try(nil)
}

// P2.3: ordinary times, those about both ends, and what is no time.
func TestWait(t *testing.T) {
	for _, x := range []struct {
		mean, spread float64
		want         int
	}{
		{5, 1.1, 10}, {5, 1, 9}, {5, 1.25, 10}, {3, 0, 3}, {3.5, 0, 4}, {0, 3, 12}, {20, -2, 12}, {20, 2, 28},
		{0, 0, 2}, {zero, zero, 2}, {1, 0, 2}, {1.5, 0, 2}, {2, 0, 2}, {math.Nextafter(2, 3), 0, 3}, {-5, 0, 2}, {-1, 0.9, 3}, {0, 0.5, 2},
		{59, 0, 59}, {59.5, 0, 60}, {60, 0, 60}, {math.Nextafter(60, 61), 0, 60}, {60.5, 0, 60}, {61, 0, 60}, {0, 15, 60}, {0, 14.75, 59}, {0, 14.8, 60}, {62, -1, 58},
		{most, 0, 60}, {0, most, 60}, {-most, 0, 2}, {0, -most, 2}, {1e19, 0, 60}, {-1e19, 0, 2}, {1 << 32, 0, 60}, {1<<32 + 5, 0, 60}, {-1 << 32, 0, 2},
		{-inf, 0, 2}, {inf, 0, 60}, {0, inf, 60}, {0, -inf, 2}, {inf, inf, 60}, {-inf, -inf, 2}, {inf, -inf, 60}, {-inf, inf, 60},
		{nan, 0, 60}, {0, nan, 60}, {nan, nan, 60}, {nan, -inf, 60}, {nan, inf, 60}, {-inf, nan, 60}, {inf, nan, 60},
		// Rounded by itself, four times 10^308 is infinite, and nothing is known.
		{-inf, 1e308, 60}, {inf, -1e308, 60}, {-inf, 4e307, 2}, {most, -1e308, 2}, {-most, 1e308, 60},
	} {
		if got := Wait(x.mean, x.spread); got != x.want {
			t.Errorf("Wait(%v, %v) = %d, not %d", x.mean, x.spread, got, x.want)
		}
	}
}

// firstAbove tells the first whole number from 2 to 60 that a time does not pass, 60 if it passes all.
func firstAbove(time float64) int {
	for n := 2; n < 60; n++ {
		if time <= float64(n) {
			return n
		}
	}
	return 60
}

// P2.3: at all edges, and between them.
func TestWaitAtEdges(t *testing.T) {
	s := source(521288629)
	try := func(mean, spread float64) {
		four := spread * 4
		if finite(spread) {
			four = product(4, spread)
		}
		time := mean + four
		if finite(mean, four) {
			time = sum(mean, four)
		}
		if got, want := Wait(mean, spread), firstAbove(time); got != want {
			t.Fatalf("Wait(%v, %v) = %d, not %d", mean, spread, got, want)
		}
	}
	for _, mean := range edges {
		for _, spread := range edges {
			try(mean, spread)
		}
	}
	for range 5000 {
		try(60*s.part(), s.number(1))
	}
}

// P2.4: no float is before itself, and those beside one another are both NaN, or equal.
func TestBeside(t *testing.T) {
	for _, a := range edges {
		if Before(a, a) {
			t.Errorf("%v is before itself", a)
		}
		for _, b := range edges {
			if Before(a, b) && Before(b, a) {
				t.Errorf("%v and %v are before one another", a, b)
			}
			if beside := !Before(a, b) && !Before(b, a); beside != same(a, b) {
				t.Errorf("%v and %v: beside one another is %v", a, b, beside)
			}
		}
	}
}

// P2.4: who is before one that is before a third is before that.
func TestThree(t *testing.T) {
	for _, a := range edges {
		for _, b := range edges {
			if !Before(a, b) {
				continue
			}
			for _, c := range edges {
				if Before(b, c) && !Before(a, c) {
					t.Fatalf("%v is before %v, that before %v, but the first not before the third", a, b, c)
				}
			}
		}
	}
}

// between tells whether a mean lies between both, but for a billionth of their sizes.
func between(mean, old, now float64) bool {
	room := (math.Abs(old) + math.Abs(now)) / 1e9
	return min(old, now)-room <= mean && mean <= max(old, now)+room
}

// P2.5: a mean lies between old and now, up to the greatest sizes of which it is promised.
func TestMeanLiesBetween(t *testing.T) {
	parts := []float64{zero, 0, least, 1e-300, 0.1, 0.25, 0.5, 0.75, math.Nextafter(1, 0), 1}
	s := source(123456789)
	try := func(old, now, part float64) {
		if got := Mean(old, now, part); !between(got, old, now) {
			t.Fatalf("Mean(%v, %v, %v) = %v", old, now, part, got)
		}
	}
	small := slices.DeleteFunc(slices.Clone(edges), func(x float64) bool { return !(math.Abs(x) <= 1e150) })
	for _, old := range small {
		for _, now := range small {
			for _, part := range parts {
				try(old, now, part)
			}
		}
	}
	for range 20000 {
		power := 150 * s.part()
		try(s.number(power), s.number(power), s.part())
	}
}

// P2.5: with the part 0 a mean is old, with the part 1 and old 0 it is now.
func TestMeanAtBothEnds(t *testing.T) {
	s := source(987654321)
	l := slices.Clone(edges)
	for range 200 {
		l = append(l, s.number(150))
	}
	l = slices.DeleteFunc(l, func(x float64) bool { return !(math.Abs(x) <= 1e150) })
	for _, a := range l {
		for _, b := range l {
			if got := Mean(a, b, 0); got != a {
				t.Fatalf("Mean(%v, %v, 0) = %v", a, b, got)
			}
		}
		if got := Mean(0, a, 1); got != a {
			t.Fatalf("Mean(0, %v, 1) = %v", a, got)
		}
	}
}

// P2.5: a wait never falls when the mean rises, or the spread.
func TestWaitNeverFalls(t *testing.T) {
	for i := 1; i < len(rising); i++ {
		low, high := rising[i-1], rising[i]
		if low > high {
			t.Fatalf("%v stands ahead of %v", low, high)
		}
		for _, x := range edges {
			if Wait(low, x) > Wait(high, x) {
				t.Errorf("with the spread %v the wait falls from the mean %v to %v", x, low, high)
			}
			if Wait(x, low) > Wait(x, high) {
				t.Errorf("with the mean %v the wait falls from the spread %v to %v", x, low, high)
			}
		}
	}
}

// P2.3, P2.5: whatever the times are, a wait is from 2 to 60.
func TestWaitIsCut(t *testing.T) {
	for _, mean := range edges {
		for _, spread := range edges {
			if got := Wait(mean, spread); got < 2 || got > 60 {
				t.Errorf("Wait(%v, %v) = %d", mean, spread, got)
			}
		}
	}
}
