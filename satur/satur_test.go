package satur

import (
	"math"
	"math/big"
	"slices"
	"testing"

	"ostiary/api"
)

const most = api.MaxCount

// edges are the numbers about which the chapter speaks, and those about which words and ints turn.
var edges = []int{
	math.MinInt, math.MinInt + 1, -1 << 62, -most - 1, -most, -1 << 32, -2, -1,
	0, 1, 2, 3, 4, 7, 10, 1000, 1<<26 - 1, 1 << 26, 1<<26 + 1, 1 << 27, 94906265, 94906266,
	1<<31 - 1, 1 << 31, 1 << 32, 1<<32 + 1, 1 << 42, 1<<43 + 5,
	most/3 - 1, most / 3, most/2 - 1, most / 2, most/2 + 1, most - 2, most - 1, most,
	most + 1, most + 2, 2 * most, 1 << 62, math.MaxInt - 1, math.MaxInt,
}

// bigCut tells a number of any size, cut, without what is being tested.
func bigCut(n *big.Int) *big.Int {
	if n.Sign() < 0 {
		return big.NewInt(0)
	}
	if top := big.NewInt(most); n.Cmp(top) > 0 {
		return top
	}
	return n
}

// count tells a number as the chapter's calls take it.
func count(n int) *big.Int { return bigCut(big.NewInt(int64(n))) }

// goes tells how often den goes into a product, cut.
func goes(product, den *big.Int) int {
	if product.Sign() == 0 {
		return 0
	}
	if den.Sign() == 0 {
		return most
	}
	return int(bigCut(new(big.Int).Quo(product, den)).Int64())
}

// some tells numbers of all sizes, the same ones in each run.
func some(n int) []int {
	l := make([]int, n)
	x := uint64(88172645463325252)
	for i := range l {
		x ^= x << 13
		x ^= x >> 7
		x ^= x << 17
		l[i] = int(x >> (x % 61))
	}
	return l
}

// P1.1: a number is cut below 0 and above 2^53, and nowhere else.
func TestCut(t *testing.T) {
	for _, x := range []struct{ n, want int }{
		{-5, 0}, {-1, 0}, {math.MinInt, 0}, {0, 0}, {1, 1}, {7, 7},
		{most - 1, most - 1}, {most, most}, {most + 1, most}, {math.MaxInt, most},
	} {
		if got := Cut(x.n); got != x.want {
			t.Errorf("Cut(%d) = %d, not %d", x.n, got, x.want)
		}
	}
	if most != 1<<53 {
		t.Errorf("the most is %d, not 2^53", most)
	}
}

// P1.1: ordinary numbers, the edges, and numbers that are no counts.
func TestCallsOfTwo(t *testing.T) {
	for _, x := range []struct {
		name string
		call func(a, b int) int
		a, b int
		want int
	}{
		{"Add", Add, 2, 3, 5}, {"Add", Add, 0, 0, 0}, {"Add", Add, 3, -9, 3}, {"Add", Add, -9, 3, 3},
		{"Add", Add, -9, -9, 0}, {"Add", Add, most, 1, most}, {"Add", Add, most - 1, 1, most},
		{"Add", Add, most - 2, 1, most - 1}, {"Add", Add, math.MaxInt, math.MaxInt, most},
		{"Add", Add, math.MinInt, math.MinInt, 0}, {"Add", Add, math.MaxInt, math.MinInt, most},
		{"Sub", Sub, 5, 3, 2}, {"Sub", Sub, 3, 5, 0}, {"Sub", Sub, 3, 3, 0}, {"Sub", Sub, 3, -5, 3},
		{"Sub", Sub, -3, -5, 0}, {"Sub", Sub, -3, 5, 0}, {"Sub", Sub, math.MinInt, 1, 0},
		{"Sub", Sub, math.MinInt, math.MaxInt, 0}, {"Sub", Sub, math.MaxInt, 1, most - 1},
		{"Sub", Sub, math.MaxInt, math.MinInt, most}, {"Sub", Sub, most + 9, most + 1, 0},
		{"Mul", Mul, 3, 4, 12}, {"Mul", Mul, 0, most, 0}, {"Mul", Mul, most, 0, 0}, {"Mul", Mul, 1, most, most},
		{"Mul", Mul, -3, 4, 0}, {"Mul", Mul, 4, -3, 0}, {"Mul", Mul, -3, -4, 0},
		{"Mul", Mul, 1 << 30, 1 << 30, most}, {"Mul", Mul, 1 << 26, 1 << 27, most}, {"Mul", Mul, 1 << 26, 1 << 26, 1 << 52},
		{"Mul", Mul, 1<<26 + 1, 1<<27 - 2, most - 2}, {"Mul", Mul, 1<<26 + 1, 1<<27 - 1, most},
		{"Mul", Mul, 1 << 32, 1 << 31, most}, {"Mul", Mul, 1 << 32, 1 << 32, most},
		{"Mul", Mul, most, most, most}, {"Mul", Mul, math.MaxInt, math.MaxInt, most}, {"Mul", Mul, math.MinInt, math.MinInt, 0},
		{"Div", Div, 7, 2, 3}, {"Div", Div, 6, 2, 3}, {"Div", Div, 1, 2, 0}, {"Div", Div, 7, 1, 7},
		{"Div", Div, 7, 0, most}, {"Div", Div, 1, 0, most}, {"Div", Div, 0, 0, 0}, {"Div", Div, 0, 7, 0},
		{"Div", Div, 7, -2, most}, {"Div", Div, -7, 2, 0}, {"Div", Div, -7, 0, 0}, {"Div", Div, -7, -2, 0},
		{"Div", Div, most + 5, most, 1}, {"Div", Div, most, most + 5, 1}, {"Div", Div, most, 3, 3002399751580330},
		{"Div", Div, math.MinInt, -1, 0}, {"Div", Div, math.MaxInt, 1, most},
	} {
		if got := x.call(x.a, x.b); got != x.want {
			t.Errorf("%s(%d, %d) = %d, not %d", x.name, x.a, x.b, got, x.want)
		}
	}
}

// P1.1: what the calls tell is what numbers without a bound tell, cut.
func TestCallsOfTwoAsBigNumbers(t *testing.T) {
	for _, a := range slices.Concat(edges, some(40)) {
		for _, b := range slices.Concat(edges, some(40)) {
			x, y := count(a), count(b)
			product := new(big.Int).Mul(x, y)
			for _, c := range []struct {
				name      string
				got, want int
			}{
				{"Add", Add(a, b), int(bigCut(new(big.Int).Add(x, y)).Int64())},
				{"Sub", Sub(a, b), int(bigCut(new(big.Int).Sub(x, y)).Int64())},
				{"Mul", Mul(a, b), int(bigCut(product).Int64())},
				{"Div", Div(a, b), goes(x, y)},
			} {
				if c.got != c.want {
					t.Fatalf("%s(%d, %d) = %d, not %d", c.name, a, b, c.got, c.want)
				}
			}
		}
	}
}

// P1.2: the product is not cut ahead of being divided; a den of 0 is as in Div.
func TestScale(t *testing.T) {
	for _, x := range []struct{ n, num, den, want int }{
		{10, 3, 4, 7}, {8, 3, 4, 6}, {1, 1, 2, 0}, {5, 1, 1, 5}, {0, 3, 4, 0}, {3, 0, 4, 0},
		{most, 3, 4, 6755399441055744}, {most, 4, 3, most}, {most, most, most, most}, {most, most - 1, most, most - 1},
		{most, most, 1, most}, {most, most, 1 << 42, most}, {most, most, 1<<42 + 1, most}, {most, most, 1<<43 - 1, most},
		{1 << 52, 1 << 52, most, 1 << 51}, {most, 1 << 20, 1 << 21, 1 << 52},
		{5, 3, 0, most}, {0, 3, 0, 0}, {5, 0, 0, 0}, {0, 0, 0, 0}, {most, most, 0, most},
		{-5, 3, 4, 0}, {5, -3, 4, 0}, {5, 3, -4, most}, {-5, -3, 4, 0}, {-5, 3, -4, 0},
		{math.MaxInt, 3, 4, 6755399441055744}, {4, 3, math.MaxInt, 0}, {math.MaxInt, math.MaxInt, math.MaxInt, most},
		{math.MinInt, math.MinInt, math.MinInt, 0}, {math.MaxInt, math.MaxInt, math.MinInt, most},
	} {
		if got := Scale(x.n, x.num, x.den); got != x.want {
			t.Errorf("Scale(%d, %d, %d) = %d, not %d", x.n, x.num, x.den, got, x.want)
		}
	}
}

// P1.2: what Scale tells is what numbers without a bound tell, cut.
func TestScaleAsBigNumbers(t *testing.T) {
	l := slices.Concat(edges, some(10))
	for _, n := range l {
		for _, num := range l {
			product := new(big.Int).Mul(count(n), count(num))
			for _, den := range l {
				if got, want := Scale(n, num, den), goes(product, count(den)); got != want {
					t.Fatalf("Scale(%d, %d, %d) = %d, not %d", n, num, den, got, want)
				}
			}
		}
	}
}

// P1.2: each number is cut as it is added, and an empty list is 0.
func TestSum(t *testing.T) {
	for _, x := range []struct {
		l    []int
		want int
	}{
		{nil, 0}, {[]int{}, 0}, {[]int{0}, 0}, {[]int{7}, 7}, {[]int{-7}, 0}, {[]int{most + 1}, most},
		{[]int{1, 2, -9, 3}, 6}, {[]int{-9, 1, 2, 3}, 6}, {[]int{1, 2, 3, -9}, 6},
		{[]int{most, most}, most}, {[]int{most, -1}, most}, {[]int{most - 3, 1, 1}, most - 1},
		{[]int{math.MaxInt, math.MaxInt, math.MaxInt}, most}, {[]int{math.MinInt, math.MinInt, 5}, 5},
		{[]int{math.MinInt, math.MaxInt, math.MinInt}, most},
	} {
		given := slices.Clone(x.l)
		if got := Sum(x.l); got != x.want {
			t.Errorf("Sum(%v) = %d, not %d", given, got, x.want)
		}
		if !slices.Equal(given, x.l) {
			t.Errorf("Sum changed %v to %v", given, x.l)
		}
	}
}

// P1.2: what lies behind a list's end is not its own.
func TestSumReadsNoSpareRoom(t *testing.T) {
	all := []int{1, 2, 100}
	if got := Sum(all[:2]); got != 3 {
		t.Errorf("Sum of 1 and 2 = %d", got)
	}
}

// P1.3: Add and Mul never tell less than either, Sub never more.
func TestNothingWraps(t *testing.T) {
	l := slices.Concat(edges, some(40))
	for _, a := range l {
		for _, b := range l {
			greater, sum, product, less := max(Cut(a), Cut(b)), Add(a, b), Mul(a, b), Sub(a, b)
			if sum < greater || sum > most {
				t.Fatalf("Add(%d, %d) = %d", a, b, sum)
			}
			if Cut(a) != 0 && Cut(b) != 0 && product < greater || product < 0 || product > most {
				t.Fatalf("Mul(%d, %d) = %d", a, b, product)
			}
			if less > Cut(a) || less < 0 {
				t.Fatalf("Sub(%d, %d) = %d", a, b, less)
			}
			if times := Div(a, b); times < 0 || times > most {
				t.Fatalf("Div(%d, %d) = %d", a, b, times)
			}
		}
	}
}

// P1.3: Add and Mul may be done in any order.
func TestAnyOrder(t *testing.T) {
	l := slices.Concat(edges, some(10))
	for _, a := range l {
		for _, b := range l {
			if Add(a, b) != Add(b, a) || Mul(a, b) != Mul(b, a) {
				t.Fatalf("%d and %d are not the same the other way round", a, b)
			}
			for _, c := range l {
				if Add(Add(a, b), c) != Add(a, Add(b, c)) || Mul(Mul(a, b), c) != Mul(a, Mul(b, c)) {
					t.Fatalf("%d, %d and %d are not the same from behind", a, b, c)
				}
			}
		}
	}
}

// P1.3: a sum that was not cut loses exactly what is taken off it.
func TestWhatIsTakenOff(t *testing.T) {
	whole := 0
	for _, a := range slices.Concat(edges, some(200)) {
		for _, b := range slices.Concat(edges, some(200)) {
			a, b := Cut(a), Cut(b)
			if a+b > most {
				continue
			}
			whole++
			if Sub(Add(a, b), b) != a || Sub(Add(a, b), a) != b {
				t.Fatalf("%d and %d do not come back", a, b)
			}
		}
	}
	if whole < 1000 {
		t.Errorf("only %d sums were not cut", whole)
	}
}

// P1.4: Scale times den lies at the product, or less than den below it.
func TestScaleTimesDen(t *testing.T) {
	l := slices.Concat(edges, some(20))
	whole := 0
	for _, n := range l {
		for _, num := range l {
			product := new(big.Int).Mul(count(n), count(num))
			for _, den := range l {
				times := Scale(n, num, den)
				if Cut(den) == 0 || times == most {
					continue
				}
				whole++
				low := new(big.Int).Mul(big.NewInt(int64(times)), count(den))
				high := new(big.Int).Add(low, count(den))
				if low.Cmp(product) > 0 || product.Cmp(high) >= 0 {
					t.Fatalf("Scale(%d, %d, %d) = %d: the product lies not from %v to below %v", n, num, den, times, low, high)
				}
			}
		}
	}
	if whole < 1000 {
		t.Errorf("only %d were not cut", whole)
	}
}
