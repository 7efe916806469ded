package kernel

import (
	"fmt"
	"math"
	"math/big"
	"slices"
	"testing"
)

// dice are numbers that look thrown, the same each time.
type dice uint64

func (d *dice) below(n int) int {
	*d = *d*6364136223846793005 + 1442695040888963407
	return int(uint64(*d)>>33) % n
}

// factor makes one of so many bits, at times at its edges.
func (d *dice) factor(bits int) int {
	least, greatest := span(bits)
	switch d.below(4) {
	case 0:
		return least
	case 1:
		return greatest
	}
	return least + d.below(1<<bits)
}

// samples that make a rule's sum as small or as great as it can be, or that look thrown.
func (d *dice) samples(rule []int, bits, n int) []int {
	low, high := span(bits)
	way := d.below(3)
	l := make([]int, n)
	for i := range l {
		l[i] = low + d.below(1<<31)%(high-low+1)
		if way < 2 && i < len(rule) {
			l[i] = low
			if (rule[len(rule)-1-i] < 0) == (way == 0) {
				l[i] = high
			}
		}
	}
	return l
}

// plainly foretells in numbers of any size, up to the first sample that does not fit, and tells how many samples do.
func plainly(rule []int, shift int, samples []int, bits int) int {
	low, high := span(bits)
	for i := len(rule); i < len(samples); i++ {
		sum := new(big.Int)
		for k, c := range rule {
			sum.Add(sum, new(big.Int).Mul(big.NewInt(int64(c)), big.NewInt(int64(samples[i-1-k]))))
		}
		samples[i] += int(sum.Rsh(sum, uint(shift)).Int64())
		if samples[i] < low || samples[i] > high {
			return i
		}
	}
	return len(samples)
}

func TestForetell(t *testing.T) {
	d := dice(1)
	seen := map[bool]int{}
	for order := 0; order <= 32; order++ {
		for range 1500 {
			bits := 1 + d.below(33)
			rule := make([]int, order)
			precision := 1 + d.below(15)
			for k := range rule {
				rule[k] = d.factor(precision)
			}
			shift := d.below(16)
			samples := d.samples(rule, bits, order+d.below(9))
			for i := order; i < len(samples); i++ {
				samples[i] >>= d.below(33)
			}
			if len(samples) > order && d.below(2) == 0 { // a residual by which the first one fits
				try := append(samples[:order:order], 0)
				plainly(rule, shift, try, bits)
				samples[order] = samples[order]>>1 - try[order]
			}
			want := slices.Clone(samples)
			fit := plainly(rule, shift, want, bits)
			what := fmt.Sprintf("rule %v >> %d of %v, %d bits", rule, shift, samples, bits)
			ok := Foretell(rule, shift, samples, bits)
			if ok != (fit == len(samples)) || !slices.Equal(samples[:fit], want[:fit]) {
				t.Fatalf("%s: %v, %v, want %v", what, samples, ok, want[:fit])
			}
			seen[ok]++
		}
	}
	if seen[true] < 1000 || seen[false] < 1000 {
		t.Errorf("seen: %v", seen)
	}
}

// Where a rule's sums just stay within 32 bits, and where they just leave them.
func TestNarrow(t *testing.T) {
	for _, c := range []struct {
		rule []int
		bits int // the most for which 32 bits will do
	}{
		{[]int{1}, 32},
		{[]int{-1}, 31}, // 2^31 is one too many
		{[]int{2}, 31},
		{[]int{-2}, 30},
		{[]int{2, -1}, 30},
		{[]int{3, -3, 1}, 29},
		{[]int{4, -6, 4, -1}, 28},
		{[]int{-16384}, 17},
		{[]int{16383}, 18},
		{[]int{8192, 8192}, 18}, // -2^31 is none too many
		{[]int{8192, 8192, 1}, 17},
		{[]int{8192, 0, 0, 0, 0, 8191}, 18},
		{[]int{-8192, -8191}, 18},
		{[]int{-8192, -8192}, 17},
		{slices.Repeat([]int{-16384}, 32), 12},
		{slices.Repeat([]int{16383}, 32), 13},
		{slices.Repeat([]int{1}, 32), 27},
		{slices.Repeat([]int{-1}, 32), 26},
	} {
		if !isNarrow(reach(c.rule, c.bits)) || isNarrow(reach(c.rule, c.bits+1)) {
			t.Errorf("rule %v: %d bits will not do, or %d will", c.rule, c.bits, c.bits+1)
		}
	}
	for _, c := range []struct {
		least, greatest int
		want            bool
	}{
		{math.MinInt32, math.MaxInt32, true}, {0, 0, true},
		{math.MinInt32 - 1, 0, false}, {0, math.MaxInt32 + 1, false}, {-1 << 50, 1 << 50, false},
	} {
		if isNarrow(c.least, c.greatest) != c.want {
			t.Errorf("%d to %d: %v", c.least, c.greatest, !c.want)
		}
	}
}

// A rule's reach is reached, and nothing is beyond it.
func TestReach(t *testing.T) {
	for _, rule := range [][]int{{}, {0}, {3}, {-3}, {1, 2}, {1, -2}, {-4, 3}, {-1, -1}} {
		for bits := 1; bits <= 4; bits++ {
			low, high := span(bits)
			least, greatest := 0, 0
			for a := low; a <= high; a++ {
				for b := low; b <= high; b++ {
					sum := 0
					for k, c := range rule {
						sum += c * []int{a, b}[k]
					}
					least, greatest = min(least, sum), max(greatest, sum)
				}
			}
			if l, g := reach(rule, bits); l != least || g != greatest {
				t.Errorf("rule %v, %d bits: %d to %d, want %d to %d", rule, bits, l, g, least, greatest)
			}
		}
	}
}

// The kernels of both widths and of both lengths tell the same, wherever 32 bits will do.
func TestWidths(t *testing.T) {
	d := dice(2)
	for order := 0; order <= 32; order++ {
		for range 200 {
			rule := make([]int, order)
			for k := range rule {
				rule[k] = d.factor(1 + d.below(15))
			}
			bits := 1
			for bits < 33 && isNarrow(reach(rule, bits+1)) {
				bits++
			}
			shift := d.below(16)
			samples := d.samples(rule, bits, order+1)
			want := slices.Clone(samples)
			plainly(rule, shift, want, bits)
			runs := []run{longRun[int32](rule, shift), longRun[int64](rule, shift)}
			if order <= short {
				runs = append(runs, shortRun[int32](rule, shift), shortRun[int64](rule, shift))
			}
			for i, r := range runs {
				got := slices.Clone(samples)
				r(got)
				if !slices.Equal(got, want) {
					t.Fatalf("kernel %d of rule %v >> %d, %d bits: %v, want %v", i, rule, shift, bits, got, want)
				}
			}
		}
	}
}

func TestFit(t *testing.T) {
	for bits := 1; bits <= 33; bits++ {
		low, high := span(bits)
		if !fit(nil, bits) || !fit([]int{low, high, 0, -1}, bits) {
			t.Errorf("%d bits: what fits is told not to", bits)
		}
		for _, v := range []int{low - 1, high + 1, 2 * low, 2*high + 2, math.MinInt, math.MaxInt, 1 << 33, -1 << 34, 1 << 62, -1 << 62} {
			if fit([]int{0, v, low, high}, bits) {
				t.Errorf("%d bits: %d is told to fit", bits, v)
			}
		}
	}
}

// The narrow and the wide way of each pair, at the edges of each Depth.
func TestPairs(t *testing.T) {
	for depth := 4; depth <= 32; depth++ {
		low, high := span(depth)
		sideLow, sideHigh := span(depth + 1)
		for _, a := range []int{low, low + 1, low / 2, -1, 0, 1, high / 2, high - 1, high} {
			for _, s := range []int{sideLow, sideLow + 1, low, -1, 0, 1, high, sideHigh - 1, sideHigh} {
				seePair(t, "left and side", LeftAndSide, depth, a, s, a, a-s)
				seePair(t, "side and right", SideAndRight, depth, s, a, a+s, a)
				m := 2*a + s&1
				seePair(t, "middle and side", MiddleAndSide, depth, a, s, (m+s)>>1, (m-s)>>1)
			}
		}
	}
}

func seePair(t *testing.T, what string, kernel func(first, second []int, depth int) bool, depth, a, b, left, right int) {
	t.Helper()
	first, second := []int{0, a, 0}, []int{0, b, 0}
	ok := kernel(first, second, depth)
	low, high := span(depth)
	want := min(left, right) >= low && max(left, right) <= high
	if ok != want || !slices.Equal(first, []int{0, left, 0}) || !slices.Equal(second, []int{0, right, 0}) {
		t.Errorf("%s of %d and %d, Depth %d: %v, %v, %v, want %d, %d, %v", what, a, b, depth, first, second, ok, left, right, want)
	}
}
