package meter

import (
	"math"
	"testing"

	"shoal/flo"
)

var (
	high  = math.Inf(1)
	low   = math.Inf(-1)
	none  = math.NaN()
	minus = math.Copysign(0, -1)
)

const (
	great = math.MaxFloat64
	tiny  = math.SmallestNonzeroFloat64
)

// noNumbers gives what is no number, by several bits.
func noNumbers() []float64 {
	var l []float64
	for _, bits := range []uint64{0x7ff0000000000001, 0x7ff8000000000000, 0x7fffffffffffffff, 0xfff0000000000001, 0xfff8000000000000, 0xffffffffffffffff} {
		l = append(l, math.Float64frombits(bits))
	}
	return l
}

// pattern gives bits that look like chance, and are the same each time.
func pattern(i int) uint64 {
	z := uint64(i) * 0x9e3779b97f4a7c15
	z = (z ^ z>>30) * 0xbf58476d1ce4e5b9
	z = (z ^ z>>27) * 0x94d049bb133111eb
	return z ^ z>>31
}

// alike tells whether two floats are alike, by their bits, but no number as another one.
func alike(a, b float64) bool {
	return math.IsNaN(a) && math.IsNaN(b) || math.Float64bits(a) == math.Float64bits(b)
}

func of(l ...float64) *Meter {
	m := New()
	for _, x := range l {
		m.Add(x)
	}
	return m
}

// told is all that a meter tells but of Rank.
type told struct {
	all, numbers, finite           int64
	sum, mean, least, most, smooth float64
}

func check(t *testing.T, name any, m *Meter, w told) {
	t.Helper()
	all, numbers, finite := m.Count()
	if all != w.all || numbers != w.numbers || finite != w.finite {
		t.Errorf("P2.1: Count of %v: %d, %d, %d, not %d, %d, %d", name, all, numbers, finite, w.all, w.numbers, w.finite)
	}
	for _, c := range []struct {
		call      string
		got, want float64
	}{
		{"Sum", m.Sum(), w.sum},
		{"Mean", m.Mean(), w.mean},
		{"Least", m.Least(), w.least},
		{"Most", m.Most(), w.most},
		{"Smooth", m.Smooth(), w.smooth},
	} {
		if !alike(c.got, c.want) {
			t.Errorf("P2.1: %s of %v: %v, not %v", c.call, name, c.got, c.want)
		}
	}
}

func TestTold(t *testing.T) {
	for _, c := range []struct {
		l    []float64
		want told
	}{
		{nil, told{0, 0, 0, 0, none, high, low, 0}},
		{[]float64{1, 3}, told{2, 2, 2, 4, 2, 1, 3, 1.25}},
		{[]float64{3, 1}, told{2, 2, 2, 4, 2, 1, 3, 2.75}},
		{[]float64{-5}, told{1, 1, 1, -5, -5, -5, -5, -5}},
		{[]float64{8, 8, 8}, told{3, 3, 3, 24, 8, 8, 8, 8}},
		{[]float64{0, 8, 8}, told{3, 3, 3, 16, 16.0 / 3, 0, 8, 1.875}},
		// Noughts: the sum begins with +0, the smooth one with the first as it is.
		{[]float64{0}, told{1, 1, 1, 0, 0, 0, 0, 0}},
		{[]float64{minus}, told{1, 1, 1, 0, 0, minus, minus, minus}},
		{[]float64{minus, minus}, told{2, 2, 2, 0, 0, minus, minus, 0}},
		{[]float64{minus, 0}, told{2, 2, 2, 0, 0, minus, 0, 0}},
		{[]float64{0, minus}, told{2, 2, 2, 0, 0, minus, 0, 0}},
		{[]float64{1, -1, minus}, told{3, 3, 3, 0, 0, -1, 1, 0.65625}},
		// Ends: numbers, but not finite ones.
		{[]float64{high}, told{1, 1, 0, high, high, high, high, 0}},
		{[]float64{low}, told{1, 1, 0, low, low, low, low, 0}},
		{[]float64{high, low}, told{2, 2, 0, none, none, low, high, 0}},
		{[]float64{high, low, 7}, told{3, 3, 1, none, none, low, high, 7}},
		{[]float64{high, 5, 13}, told{3, 3, 2, high, high, 5, high, 6}},
		{[]float64{5, low, 13}, told{3, 3, 2, low, low, low, 13, 6}},
		{[]float64{high, minus}, told{2, 2, 1, high, high, minus, high, minus}},
		// No numbers: counted, and nothing else.
		{[]float64{none}, told{1, 0, 0, 0, none, high, low, 0}},
		{[]float64{none, 1, none, 3, none}, told{5, 2, 2, 4, 2, 1, 3, 1.25}},
		{[]float64{none, minus}, told{2, 1, 1, 0, 0, minus, minus, minus}},
		{[]float64{none, high}, told{2, 1, 0, high, high, high, high, 0}},
		{noNumbers(), told{6, 0, 0, 0, none, high, low, 0}},
		// The sum goes in order, over its ends too.
		{[]float64{great, great, -great}, told{3, 3, 3, high, high, -great, great, low}},
		{[]float64{great, -great, great}, told{3, 3, 3, great, great / 3, -great, great, none}},
		// The smooth one's own steps: the difference may come to an end, and then to no number.
		{[]float64{great, -great}, told{2, 2, 2, 0, 0, -great, great, low}},
		{[]float64{-great, great}, told{2, 2, 2, 0, 0, -great, great, high}},
		{[]float64{-great, great, 0}, told{3, 3, 3, 0, 0, -great, great, none}},
		{[]float64{-great, great, 0, 1}, told{4, 4, 4, 1, 0.25, -great, great, none}},
		// An eighth of the least number is nought, and of twelve times it twice, by the even one.
		{[]float64{0, tiny}, told{2, 2, 2, tiny, 0, 0, tiny, 0}},
		{[]float64{0, 12 * tiny}, told{2, 2, 2, 12 * tiny, 6 * tiny, 0, 12 * tiny, 2 * tiny}},
		{[]float64{0, 4 * tiny}, told{2, 2, 2, 4 * tiny, 2 * tiny, 0, 4 * tiny, 0}},
	} {
		check(t, c.l, of(c.l...), c.want)
	}
}

// Each step of the sum is rounded by itself: what is too small beside it is lost, what comes ahead of it is not.
func TestSumInOrder(t *testing.T) {
	for _, c := range []struct {
		l         []float64
		sum, mean float64
	}{
		{[]float64{1e16, 1, 1}, 1e16, 1e16 / 3},
		{[]float64{1, 1, 1e16}, 1e16 + 2, (1e16 + 2) / 3},
		{[]float64{1e16, 1, -1e16}, 0, 0},
		{[]float64{1e16, -1e16, 1}, 1, 1.0 / 3},
		{[]float64{0.1, 0.2, 0.3}, math.Float64frombits(0x3fe3333333333334), math.Float64frombits(0x3fc999999999999b)},
		{[]float64{0.3, 0.2, 0.1}, math.Float64frombits(0x3fe3333333333333), math.Float64frombits(0x3fc9999999999999)},
	} {
		m := of(c.l...)
		if !alike(m.Sum(), c.sum) || !alike(m.Mean(), c.mean) {
			t.Errorf("P2.1: Sum, Mean of %v: %v (%x), %v (%x)", c.l, m.Sum(), math.Float64bits(m.Sum()), m.Mean(), math.Float64bits(m.Mean()))
		}
	}
}

// smoothed works the smooth one out anew, each step kept in memory by its bits.
func smoothed(l []float64) float64 {
	var s uint64
	first := true
	for _, x := range l {
		if math.IsNaN(x) || math.IsInf(x, 0) {
			continue
		}
		if first {
			s, first = math.Float64bits(x), false
			continue
		}
		way := math.Float64bits(x - math.Float64frombits(s))
		share := math.Float64bits(math.Float64frombits(way) / 8)
		s = math.Float64bits(math.Float64frombits(s) + math.Float64frombits(share))
	}
	return math.Float64frombits(s)
}

// anew works out all that is told of a list, plainly.
func anew(l []float64) told {
	w := told{all: int64(len(l)), mean: none, smooth: smoothed(l)}
	var numbers []float64
	for _, x := range l {
		if math.IsNaN(x) {
			continue
		}
		numbers = append(numbers, x)
		w.sum += x
		if !math.IsInf(x, 0) {
			w.finite++
		}
	}
	w.numbers = int64(len(numbers))
	if len(numbers) > 0 {
		w.mean = w.sum / float64(len(numbers))
	}
	w.least, w.most = flo.Min(numbers...), flo.Max(numbers...)
	return w
}

func below(l []float64, x float64) int64 {
	var n int64
	for _, y := range l {
		if flo.Cmp(y, x) < 0 {
			n++
		}
	}
	return n
}

// edges gives numbers, rising, each once.
func edges() []float64 {
	return []float64{low, -great, -1.5, -1, -tiny, minus, 0, tiny, 1, math.Nextafter(1, 2), great, high}
}

func TestRank(t *testing.T) {
	for _, x := range append(edges(), none) {
		if n := New().Rank(x); n != 0 {
			t.Errorf("P2.1: Rank(%v) of none: %d", x, n)
		}
	}
	rising, falling := New(), New()
	for i, l := 0, edges(); i < len(l); i++ {
		rising.Add(l[i])
		falling.Add(l[len(l)-1-i])
	}
	for i, x := range edges() {
		if a, b := rising.Rank(x), falling.Rank(x); a != int64(i) || b != int64(i) {
			t.Errorf("P2.1: Rank(%v): %d, turned: %d, not %d", x, a, b, i)
		}
	}
	for _, x := range noNumbers() {
		if n := rising.Rank(x); n != int64(len(edges())) {
			t.Errorf("P2.1: Rank of no number: %d", n)
		}
	}
}

// No number is below no number, nor below any other; but each number is below it.
func TestRankOfNoNumbers(t *testing.T) {
	m := of(noNumbers()...)
	for _, x := range append(edges(), noNumbers()...) {
		if n := m.Rank(x); n != 0 {
			t.Errorf("P2.1: Rank(%v) of no numbers: %d", x, n)
		}
	}
	m.Add(high)
	m.Add(minus)
	if m.Rank(none) != 2 || m.Rank(high) != 1 || m.Rank(0) != 1 || m.Rank(minus) != 0 {
		t.Errorf("P2.1: Rank beside no numbers: %d, %d, %d, %d", m.Rank(none), m.Rank(high), m.Rank(0), m.Rank(minus))
	}
}

func TestRankOfAlike(t *testing.T) {
	m := New()
	for i := range 100 {
		for _, x := range []float64{2, 1, 2, 3, none} {
			m.Add(x)
		}
		n := int64(i + 1)
		for k, x := range []float64{1, 1.5, 2, 2.5, 3, 3.5} {
			if got, want := m.Rank(x), []int64{0, n, n, 3 * n, 3 * n, 4 * n}[k]; got != want {
				t.Errorf("P2.1: Rank(%v) of %d each: %d, not %d", x, n, got, want)
			}
		}
	}
}

// mixed gives floats of all kinds: any bits, small whole numbers, edges, no numbers.
func mixed(n int) []float64 {
	var l []float64
	for i := range n {
		p := pattern(i)
		switch p % 8 {
		case 0:
			l = append(l, math.Float64frombits(pattern(i+n)))
		case 1:
			l = append(l, edges()[p>>8%uint64(len(edges()))])
		case 2:
			l = append(l, noNumbers()[p>>8%uint64(len(noNumbers()))])
		default:
			l = append(l, float64(int64(p>>8%2000)-1000)/8)
		}
	}
	return l
}

// At each length all is told as if worked out anew; and what is told changes nothing.
func TestStepByStep(t *testing.T) {
	l := mixed(600)
	asked := append(append(edges(), noNumbers()...), l[:20]...)
	for _, from := range []int{0, 100, 333} {
		m := New()
		for i := from; i < len(l); i++ {
			m.Add(l[i])
			want := anew(l[from : i+1])
			check(t, i, m, want)
			for _, x := range asked {
				if got, want := m.Rank(x), below(l[from:i+1], x); got != want {
					t.Errorf("P2.1: Rank(%v) of %d from %d on: %d, not %d", x, i+1-from, from, got, want)
				}
			}
			check(t, i, m, want)
		}
	}
}

// Small finite numbers alone: here neither sum nor smooth one comes to an end.
func TestFiniteStepByStep(t *testing.T) {
	var l []float64
	m := New()
	for i := range 3000 {
		x := float64(int64(pattern(i)>>11)) / (1 << 40) / float64(i%7+1)
		if i%2 == 1 {
			x = -x
		}
		l = append(l, x)
		m.Add(x)
		if s := smoothed(l); i%50 == 0 && (!alike(m.Smooth(), s) || math.IsNaN(s)) {
			t.Errorf("P2.1: Smooth of %d: %v, not %v", i+1, m.Smooth(), s)
		}
	}
	check(t, "3000", m, anew(l))
}

// What one was told another does not know.
func TestTwoApart(t *testing.T) {
	a, b := New(), New()
	a.Add(1)
	b.Add(-2)
	a.Add(3)
	check(t, "the first", a, told{2, 2, 2, 4, 2, 1, 3, 1.25})
	check(t, "the second", b, told{1, 1, 1, -2, -2, -2, -2, -2})
	if a.Rank(0) != 0 || b.Rank(0) != 1 {
		t.Errorf("P2.1: Rank(0): %d, %d", a.Rank(0), b.Rank(0))
	}
}

// Many, asked at each step: this ends soon only if Rank does not go through all.
func TestMany(t *testing.T) {
	m := New()
	const many = 200000
	for i := range many {
		m.Add(float64(i * 7919 % many))
		if n := m.Rank(many); n != int64(i+1) {
			t.Fatalf("P2.1: Rank of more than all: %d of %d", n, i+1)
		}
	}
	for x := range many {
		if n := m.Rank(float64(x)); n != int64(x) {
			t.Fatalf("P2.1: Rank(%d): %d", x, n)
		}
	}
}
