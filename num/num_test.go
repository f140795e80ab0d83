package num_test

import (
	"math"
	"math/big"
	"slices"
	"testing"

	"bulkhead/api"
	"bulkhead/num"
)

const (
	least    = math.MinInt64
	greatest = math.MaxInt64
)

// edges are numbers at which int64 arithmetic is apt to go wrong, and ordinary ones.
func edges() []int64 {
	list := []int64{least, least + 1, least + 2, greatest, greatest - 1, greatest - 2, 3037000499, 3037000500, -3037000499, -3037000500}
	for n := int64(-13); n <= 13; n++ {
		list = append(list, n)
	}
	for _, shift := range []int{20, 31, 32, 33, 40, 61, 62} {
		power := int64(1) << shift
		list = append(list, power-1, power, power+1, -power-1, -power, -power+1)
	}
	return list
}

// held is a number as an int64 and true, or 0 and false.
func held(x *big.Int) (int64, bool) {
	if !x.IsInt64() {
		return 0, false
	}
	return x.Int64(), true
}

func TestP1_1Examples(t *testing.T) {
	for _, c := range []struct {
		name string
		call func(a, b int64) (int64, bool)
		a, b int64
		want int64
		ok   bool
	}{
		{"Add", num.Add, 2, 3, 5, true},
		{"Add", num.Add, greatest, 1, 0, false},
		{"Add", num.Add, least, -1, 0, false},
		{"Add", num.Add, least, greatest, -1, true},
		{"Sub", num.Sub, 2, 3, -1, true},
		{"Sub", num.Sub, least, 1, 0, false},
		{"Sub", num.Sub, 0, least, 0, false},
		{"Sub", num.Sub, -1, least, greatest, true},
		{"Mul", num.Mul, -2, 3, -6, true},
		{"Mul", num.Mul, least, -1, 0, false},
		{"Mul", num.Mul, -1, least, 0, false},
		{"Mul", num.Mul, 4294967296, 2147483648, 0, false},
		{"Mul", num.Mul, -4294967296, 2147483648, least, true},
	} {
		if got, ok := c.call(c.a, c.b); got != c.want || ok != c.ok {
			t.Errorf("%s(%d, %d) = %d, %v, want %d, %v", c.name, c.a, c.b, got, ok, c.want, c.ok)
		}
	}
}

func TestP1_1AgainstBigNumbers(t *testing.T) {
	for _, c := range []struct {
		name  string
		call  func(a, b int64) (int64, bool)
		exact func(z, x, y *big.Int) *big.Int
	}{
		{"Add", num.Add, (*big.Int).Add},
		{"Sub", num.Sub, (*big.Int).Sub},
		{"Mul", num.Mul, (*big.Int).Mul},
	} {
		for _, a := range edges() {
			for _, b := range edges() {
				want, wantOK := held(c.exact(new(big.Int), big.NewInt(a), big.NewInt(b)))
				if got, ok := c.call(a, b); got != want || ok != wantOK {
					t.Errorf("%s(%d, %d) = %d, %v, want %d, %v", c.name, a, b, got, ok, want, wantOK)
				}
			}
		}
	}
}

func TestP1_2Examples(t *testing.T) {
	for _, c := range []struct {
		a, b, q, r int64
		ok         bool
	}{
		{7, 2, 3, 1, true},
		{-7, 2, -4, 1, true},
		{7, -2, -3, 1, true},
		{-7, -2, 4, 1, true},
		{-6, 3, -2, 0, true},
		{6, -3, -2, 0, true},
		{5, 0, 0, 0, false},
		{0, 0, 0, 0, false},
		{least, 0, 0, 0, false},
		{least, -1, 0, 0, false},
		{least, 1, least, 0, true},
		{greatest, -1, -greatest, 0, true},
		{-1, least, 1, greatest, true},
	} {
		if q, r, ok := num.Div(c.a, c.b); q != c.q || r != c.r || ok != c.ok {
			t.Errorf("Div(%d, %d) = %d, %d, %v, want %d, %d, %v", c.a, c.b, q, r, ok, c.q, c.r, c.ok)
		}
	}
}

func TestP1_2AgainstBigNumbers(t *testing.T) {
	for _, a := range edges() {
		for _, b := range edges() {
			var wantQ, wantR int64
			wantOK := false
			if b != 0 {
				quotient, rest := new(big.Int).DivMod(big.NewInt(a), big.NewInt(b), new(big.Int))
				if wantQ, wantOK = held(quotient); wantOK {
					wantR = rest.Int64()
				}
			}
			if q, r, ok := num.Div(a, b); q != wantQ || r != wantR || ok != wantOK {
				t.Errorf("Div(%d, %d) = %d, %d, %v, want %d, %d, %v", a, b, q, r, ok, wantQ, wantR, wantOK)
			}
		}
	}
}

func TestP1_3Examples(t *testing.T) {
	for _, c := range []struct{ a, b, want int64 }{
		{12, -18, 6},
		{-12, -18, 6},
		{0, 5, 5},
		{-5, 0, 5},
		{0, 0, 0},
		{least, 0, 0},
		{0, least, 0},
		{least, least, 0},
		{least, -1, 1},
		{least, 6, 2},
		{least, 1 << 62, 1 << 62},
		{greatest, greatest, greatest},
	} {
		if got := num.Gcd(c.a, c.b); got != c.want {
			t.Errorf("Gcd(%d, %d) = %d, want %d", c.a, c.b, got, c.want)
		}
	}
	if got := num.Gcd(int(12), int(-18)); got != 6 {
		t.Errorf("Gcd of ints 12, -18 = %d, want 6", got)
	}
}

func TestP1_3AgainstBigNumbers(t *testing.T) {
	for _, a := range edges() {
		for _, b := range edges() {
			want, _ := held(new(big.Int).GCD(nil, nil, big.NewInt(a), big.NewInt(b)))
			if got := num.Gcd(a, b); got != want {
				t.Errorf("Gcd(%d, %d) = %d, want %d", a, b, got, want)
			}
			if got := num.Gcd(int(a), int(b)); got != int(want) {
				t.Errorf("Gcd of ints (%d, %d) = %d, want %d", a, b, got, want)
			}
		}
	}
}

func TestP1_4Examples(t *testing.T) {
	for _, c := range []struct {
		list []int64
		most int64
		want int64
		ok   bool
	}{
		{[]int64{4, 6}, 12, 12, true},
		{[]int64{4, 6}, 11, 0, false},
		{nil, 1, 1, true},
		{[]int64{}, greatest, 1, true},
		{nil, 0, 0, false},
		{nil, least, 0, false},
		{[]int64{1}, 0, 0, false},
		{[]int64{7}, -7, 0, false},
		{[]int64{3, 0}, 9, 0, false},
		{[]int64{0, 3}, 9, 0, false},
		{[]int64{0}, greatest, 0, false},
		{[]int64{-3}, greatest, 0, false},
		{[]int64{2, -2, 3}, greatest, 0, false},
		{[]int64{least}, greatest, 0, false},
		{[]int64{2, least}, greatest, 0, false},
		{[]int64{100, -1}, 5, 0, false},
		{[]int64{100, 2}, 5, 0, false},
		{[]int64{greatest}, greatest, greatest, true},
		{[]int64{greatest, greatest}, greatest, greatest, true},
		{[]int64{greatest}, greatest - 1, 0, false},
		{[]int64{greatest, greatest - 1}, greatest, 0, false},
		{[]int64{1 << 62, 3}, greatest, 0, false},
		{[]int64{1 << 62, 4, 1 << 61}, greatest, 1 << 62, true},
		{[]int64{1, 2, 3, 4, 5, 6, 7, 8, 9, 10}, 2520, 2520, true},
		{[]int64{1, 2, 3, 4, 5, 6, 7, 8, 9, 10}, 2519, 0, false},
	} {
		if got, ok := num.Lcm(c.list, c.most); got != c.want || ok != c.ok {
			t.Errorf("Lcm(%v, %d) = %d, %v, want %d, %v", c.list, c.most, got, ok, c.want, c.ok)
		}
	}
	if got, ok := num.Lcm([]int{4, 6}, 12); got != 12 || !ok {
		t.Errorf("Lcm of ints 4, 6 = %d, %v, want 12, true", got, ok)
	}
}

// leastMultiple seeks the least common multiple number by number.
func leastMultiple(list []int, most int) (int, bool) {
	for m := 1; m <= most; m++ {
		if !slices.ContainsFunc(list, func(x int) bool { return x < 1 || m%x != 0 }) {
			return m, true
		}
	}
	return 0, false
}

func TestP1_4AgainstSearch(t *testing.T) {
	for a := -1; a <= 12; a++ {
		for b := -1; b <= 12; b++ {
			for c := -1; c <= 12; c++ {
				list := []int{a, b, c}
				for _, most := range []int{-1, 0, 1, 11, 12, 60, 2000} {
					want, wantOK := leastMultiple(list, most)
					if got, ok := num.Lcm(list, most); got != want || ok != wantOK {
						t.Fatalf("Lcm(%v, %d) = %d, %v, want %d, %v", list, most, got, ok, want, wantOK)
					}
				}
			}
		}
	}
}

func TestP1_4AgainstBigNumbers(t *testing.T) {
	bound := big.NewInt(greatest)
	for _, a := range edges() {
		for _, b := range edges() {
			var want int64
			wantOK := false
			if a >= 1 && b >= 1 {
				x, y := big.NewInt(a), big.NewInt(b)
				exact := new(big.Int).Div(new(big.Int).Mul(x, y), new(big.Int).GCD(nil, nil, x, y))
				if wantOK = exact.Cmp(bound) <= 0; wantOK {
					want = exact.Int64()
				}
			}
			if got, ok := num.Lcm([]int64{a, b}, greatest); got != want || ok != wantOK {
				t.Errorf("Lcm([%d %d], %d) = %d, %v, want %d, %v", a, b, int64(greatest), got, ok, want, wantOK)
			}
		}
	}
}

func TestLcmLeavesItsListAsItIs(t *testing.T) {
	for _, list := range [][]int{{6, 4, 9, 11, 7}, {6, 0, 4, 9, 7}, {6, 1 << 40, 4, 9, 7}} {
		before := slices.Clone(list)
		num.Lcm(list[:3], 1000)
		if !slices.Equal(list, before) {
			t.Errorf("Lcm has changed its list, or the room behind it: %v, was %v", list, before)
		}
	}
}

func TestP1_5(t *testing.T) {
	const last = api.MaxTick - 1
	for _, c := range []struct {
		t    int
		n    int64
		want int
	}{
		{5, 3, 8},
		{0, 0, 0},
		{last, 0, last},
		{last, 1, api.Never},
		{last - 1, 1, last},
		{last - 1, 2, api.Never},
		{0, last, last},
		{0, api.MaxTick, api.Never},
		{1, last, api.Never},
		{0, greatest, api.Never},
		{1, greatest, api.Never},
		{last, greatest, api.Never},
		{0, -1, api.Never},
		{5, -3, api.Never},
		{5, least, api.Never},
		{-1, 5, api.Never},
		{api.Never, 0, api.Never},
		{least, greatest, api.Never},
		{least, least, api.Never},
		{api.MaxTick, 0, api.Never},
		{api.MaxTick, -1, api.Never},
		{greatest, 0, api.Never},
		{greatest, 1, api.Never},
		{greatest, greatest, api.Never},
	} {
		if got := num.Later(c.t, c.n); got != c.want {
			t.Errorf("Later(%d, %d) = %d, want %d", c.t, c.n, got, c.want)
		}
	}
}

func TestP1_6Examples(t *testing.T) {
	for _, c := range []struct {
		offset, period, from, want int
		ok                         bool
	}{
		{3, 5, -9, 3, true},
		{3, 5, least, 3, true},
		{3, 5, 3, 3, true},
		{3, 5, 4, 8, true},
		{3, 5, 8, 8, true},
		{3, 5, 9, 13, true},
		{3, 5, greatest, 0, false},
		{2, 5, greatest, greatest, true},
		{2, 5, greatest - 4, greatest, true},
		{3, 5, greatest - 4, greatest - 4, true},
		{3, 5, greatest - 3, 0, false},
		{0, 1, greatest, greatest, true},
		{0, greatest, 1, greatest, true},
		{1, greatest, 2, 0, false},
		{greatest, greatest, greatest, greatest, true},
		{greatest, 1, least, greatest, true},
		{3, 0, 4, 0, false},
		{3, -5, 4, 0, false},
		{3, 0, 1, 0, false},
		{3, least, least, 0, false},
		{-1, 5, 4, 0, false},
		{-1, 5, -1, 0, false},
		{least, 5, 4, 0, false},
		{-1, 0, 4, 0, false},
	} {
		if got, ok := num.NextAt(c.offset, c.period, c.from); got != c.want || ok != c.ok {
			t.Errorf("NextAt(%d, %d, %d) = %d, %v, want %d, %v", c.offset, c.period, c.from, got, ok, c.want, c.ok)
		}
	}
}

// comes tells whether tick x is one of offset, offset + period, ..
func comes(offset, period, x int) bool { return x >= offset && (x-offset)%period == 0 }

func TestP1_6AgainstSearch(t *testing.T) {
	for offset := -2; offset <= 9; offset++ {
		for period := -2; period <= 9; period++ {
			for from := -4; from <= 30; from++ {
				want, wantOK := 0, offset >= 0 && period >= 1
				if wantOK {
					for want = from; !comes(offset, period, want); want++ {
					}
				}
				if got, ok := num.NextAt(offset, period, from); got != want || ok != wantOK {
					t.Fatalf("NextAt(%d, %d, %d) = %d, %v, want %d, %v", offset, period, from, got, ok, want, wantOK)
				}
			}
		}
	}
}

// exactNext is the least tick from that one on, reckoned without a bound.
func exactNext(offset, period, from int64) (int64, bool) {
	if offset < 0 || period < 1 {
		return 0, false
	}
	if from <= offset {
		return offset, true
	}
	first, step := big.NewInt(offset), big.NewInt(period)
	gap := new(big.Int).Sub(big.NewInt(from), first)
	steps := new(big.Int).Div(gap.Add(gap, big.NewInt(period-1)), step)
	return held(steps.Add(steps.Mul(steps, step), first))
}

func TestP1_6AgainstBigNumbers(t *testing.T) {
	for _, offset := range edges() {
		for _, period := range edges() {
			for _, from := range edges() {
				want, wantOK := exactNext(offset, period, from)
				if got, ok := num.NextAt(int(offset), int(period), int(from)); got != int(want) || ok != wantOK {
					t.Fatalf("NextAt(%d, %d, %d) = %d, %v, want %d, %v", offset, period, from, got, ok, want, wantOK)
				}
			}
		}
	}
}

func TestP1_7Examples(t *testing.T) {
	for _, c := range []struct {
		offset, period, from, below, want int
		ok                                bool
	}{
		{3, 5, 0, 14, 3, true},
		{3, 5, 0, 13, 2, true},
		{3, 5, 3, 4, 1, true},
		{3, 5, 4, 8, 0, true},
		{3, 5, 4, 9, 1, true},
		{3, 5, 8, 8, 0, true},
		{3, 5, 9, 2, 0, true},
		{3, 5, greatest, least, 0, true},
		{3, 5, least, 3, 0, true},
		{3, 5, least, 4, 1, true},
		{0, 1, -5, greatest, greatest, true},
		{0, 1, least, greatest, greatest, true},
		{0, 2, 0, greatest, 1 << 62, true},
		{0, greatest, 0, greatest, 1, true},
		{greatest - 1, 1, least, greatest, 1, true},
		{greatest, 1, least, greatest, 0, true},
		{3, 0, 0, 14, 0, false},
		{3, -5, 0, 14, 0, false},
		{3, 0, 14, 0, 0, false},
		{-1, 5, 0, 14, 0, false},
		{-1, 5, 14, 0, 0, false},
		{least, 1, least, greatest, 0, false},
		{-1, 0, 0, 14, 0, false},
	} {
		if got, ok := num.Count(c.offset, c.period, c.from, c.below); got != c.want || ok != c.ok {
			t.Errorf("Count(%d, %d, %d, %d) = %d, %v, want %d, %v", c.offset, c.period, c.from, c.below, got, ok, c.want, c.ok)
		}
	}
}

func TestP1_7AgainstSearch(t *testing.T) {
	for offset := -2; offset <= 7; offset++ {
		for period := -2; period <= 7; period++ {
			for from := -4; from <= 20; from++ {
				for below := -4; below <= 20; below++ {
					want, wantOK := 0, offset >= 0 && period >= 1
					for x := from; wantOK && x < below; x++ {
						if comes(offset, period, x) {
							want++
						}
					}
					if got, ok := num.Count(offset, period, from, below); got != want || ok != wantOK {
						t.Fatalf("Count(%d, %d, %d, %d) = %d, %v, want %d, %v", offset, period, from, below, got, ok, want, wantOK)
					}
				}
			}
		}
	}
}

func TestP1_8CommonMultiplesAndDivisors(t *testing.T) {
	for a := 1; a <= 12; a++ {
		for b := 1; b <= 12; b++ {
			list := []int{a, b, 4}
			multiple, ok := num.Lcm(list, 4*a*b)
			if !ok {
				t.Fatalf("Lcm(%v, %d) is refused", list, 4*a*b)
			}
			for m := 0; m <= 4*a*b; m++ {
				if m%a == 0 && m%b == 0 && m%4 == 0 && m%multiple != 0 {
					t.Fatalf("%d is a common multiple of %v, but none of %d", m, list, multiple)
				}
			}
			divisor := num.Gcd(a, -b)
			for d := 1; d <= 12; d++ {
				if a%d == 0 && b%d == 0 && divisor%d != 0 {
					t.Fatalf("%d divides %d and %d, but not %d", d, a, -b, divisor)
				}
			}
		}
	}
}

func TestP1_8DivisorsOfGreatNumbers(t *testing.T) {
	for _, a := range edges() {
		for _, b := range edges() {
			common := num.Gcd(a, b)
			for _, d := range edges() {
				if d != 0 && a%d == 0 && b%d == 0 && common%d != 0 {
					t.Fatalf("%d divides %d and %d, but not %d", d, a, b, common)
				}
			}
		}
	}
}

func TestP1_8NoneAheadOfNext(t *testing.T) {
	for _, offset := range []int{0, 1, 7, 1 << 40, greatest - 30, greatest} {
		for _, period := range []int{1, 2, 5, 13, 1 << 20, greatest} {
			for _, from := range []int{least, -3, 0, 1, 6, 8, 1<<40 + 3, greatest - 20, greatest} {
				next, ok := num.NextAt(offset, period, from)
				if !ok {
					next = greatest
				}
				if count, _ := num.Count(offset, period, from, next); count != 0 {
					t.Errorf("offset %d, period %d: %d ticks from %d on, ahead of %d", offset, period, count, from, next)
				}
				if !ok {
					continue
				}
				if next < from || !comes(offset, period, next) {
					t.Errorf("NextAt(%d, %d, %d) = %d, which does not come", offset, period, from, next)
				}
			}
		}
	}
}

func TestP1_8CountsAddUp(t *testing.T) {
	ticks := []int{least, -4, 0, 1, 3, 4, 8, 9, 1 << 40, greatest - 1, greatest}
	for _, offset := range []int{0, 3, 1 << 40, greatest} {
		for _, period := range []int{1, 5, 1 << 20, greatest} {
			for i, first := range ticks {
				for j := i; j < len(ticks); j++ {
					for k := j; k < len(ticks); k++ {
						one, _ := num.Count(offset, period, first, ticks[j])
						other, _ := num.Count(offset, period, ticks[j], ticks[k])
						whole, _ := num.Count(offset, period, first, ticks[k])
						if one+other != whole {
							t.Fatalf("offset %d, period %d: of %d, %d, %d: %d and %d are not %d", offset, period, first, ticks[j], ticks[k], one, other, whole)
						}
					}
				}
			}
		}
	}
}
