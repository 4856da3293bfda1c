package flo

import (
	"math"
	"strings"
	"testing"
)

const (
	keyOfLowEnd  = 0x000fffffffffffff
	keyOfHighEnd = 0xfff0000000000000
	bitsOfEnd    = 0x7ff0000000000000
)

// noNumbers gives bits of what is no number: quiet, signalling, of either sign, the least and the greatest.
func noNumbers() []uint64 {
	return []uint64{
		0x7ff0000000000001, 0x7ff4000000000000, 0x7ff8000000000000, 0x7ff8000000000001, 0x7fffffffffffffff,
		0xfff0000000000001, 0xfff4000000000000, 0xfff8000000000000, 0xfff8000000000001, 0xffffffffffffffff,
	}
}

// row is a number, by its bits, with all that P1.1 tells of it.
type row struct {
	bits  uint64
	class int
	key   uint64
	show  string
}

// rows gives numbers, rising, each edge of each class among them.
func rows() []row {
	return []row{
		{0xfff0000000000000, 1, keyOfLowEnd, "-inf"},
		{0xffefffffffffffff, 2, 0x0010000000000000, "ffefffffffffffff"},
		{0xc000000000000000, 2, 0x3fffffffffffffff, "c000000000000000"},
		{0xbff0000000000001, 2, 0x400ffffffffffffe, "bff0000000000001"},
		{0xbff0000000000000, 2, 0x400fffffffffffff, "bff0000000000000"},
		{0x8010000000000000, 2, 0x7fefffffffffffff, "8010000000000000"},
		{0x800fffffffffffff, 2, 0x7ff0000000000000, "800fffffffffffff"},
		{0x8000000000000001, 2, 0x7ffffffffffffffe, "8000000000000001"},
		{0x8000000000000000, 3, 0x7fffffffffffffff, "8000000000000000"},
		{0x0000000000000000, 4, 0x8000000000000000, "0000000000000000"},
		{0x0000000000000001, 5, 0x8000000000000001, "0000000000000001"},
		{0x000fffffffffffff, 5, 0x800fffffffffffff, "000fffffffffffff"},
		{0x0010000000000000, 5, 0x8010000000000000, "0010000000000000"},
		{0x3fb999999999999a, 5, 0xbfb999999999999a, "3fb999999999999a"},
		{0x3ff0000000000000, 5, 0xbff0000000000000, "3ff0000000000000"},
		{0x3ff0000000000001, 5, 0xbff0000000000001, "3ff0000000000001"},
		{0x7fefffffffffffff, 5, 0xffefffffffffffff, "7fefffffffffffff"},
		{0x7ff0000000000000, 6, keyOfHighEnd, "inf"},
	}
}

func (r row) number() float64 { return math.Float64frombits(r.bits) }

// pattern gives bits that look like chance, and are the same each time.
func pattern(i int) uint64 {
	z := uint64(i) * 0x9e3779b97f4a7c15
	z = (z ^ z>>30) * 0xbf58476d1ce4e5b9
	z = (z ^ z>>27) * 0x94d049bb133111eb
	return z ^ z>>31
}

// patterns gives bits of all kinds: any, and such as are near an end or a nought.
func patterns() []uint64 {
	var l []uint64
	for i := 0; i < 4000; i++ {
		p := pattern(i)
		l = append(l, p, p&0x800fffffffffffff, p|bitsOfEnd, p&0x8000000000000000|bitsOfEnd-p>>56)
	}
	return l
}

func isNone(bits uint64) bool { return bits&^(1<<63) > bitsOfEnd }

// isPlus tells whether x is +0, as beside a false.
func isPlus(x float64) bool { return math.Float64bits(x) == 0 }

// below tells whether a is below b by the language's own order, -0 below +0, no number above all.
func below(a, b float64) bool {
	if math.IsNaN(a) || math.IsNaN(b) {
		return !math.IsNaN(a)
	}
	if a == b {
		return math.Signbit(a) && !math.Signbit(b)
	}
	return a < b
}

func TestClassAndKey(t *testing.T) {
	for _, r := range rows() {
		if c := Class(r.number()); c != r.class {
			t.Errorf("P1.1: Class of %x: %d, not %d", r.bits, c, r.class)
		}
		if k := Key(r.number()); k != r.key {
			t.Errorf("P1.1: Key of %x: %x, not %x", r.bits, k, r.key)
		}
	}
	for _, bits := range noNumbers() {
		x := math.Float64frombits(bits)
		if Class(x) != 0 || Key(x) != math.MaxUint64 {
			t.Errorf("P1.1: Class, Key of no number %x: %d, %x", bits, Class(x), Key(x))
		}
	}
}

func TestOf(t *testing.T) {
	for _, r := range rows() {
		if x, ok := Of(r.key); !ok || math.Float64bits(x) != r.bits {
			t.Errorf("P1.1: Of(%x): %x, %v", r.key, math.Float64bits(x), ok)
		}
	}
	if x, ok := Of(math.MaxUint64); !ok || !math.IsNaN(x) {
		t.Errorf("P1.1: Of the last key: %v, %v", x, ok)
	}
	for _, key := range []uint64{0, 1, 0x0007ffffffffffff, keyOfLowEnd - 1, keyOfHighEnd + 1, 0xfff8000000000000, 0xfff8000000000001, math.MaxUint64 - 1} {
		if x, ok := Of(key); ok || !isPlus(x) {
			t.Errorf("P1.1: Of(%x), a key that no number has: %v, %v", key, x, ok)
		}
	}
}

// Each key is a number's, and then just that number's, or none's.
func TestKeysOneByOne(t *testing.T) {
	for _, p := range patterns() {
		x, ok := Of(p)
		if is := keyOfLowEnd <= p && p <= keyOfHighEnd || p == math.MaxUint64; ok != is {
			t.Errorf("P1.1: Of(%x): %v", p, ok)
		}
		if ok && Key(x) != p || !ok && !isPlus(x) {
			t.Errorf("P1.1: Key of Of(%x): %x", p, Key(x))
		}
		x = math.Float64frombits(p)
		y, ok := Of(Key(x))
		if !ok || math.IsNaN(y) != isNone(p) || !isNone(p) && math.Float64bits(y) != p {
			t.Errorf("P1.1: Of of Key of %x: %x, %v", p, math.Float64bits(y), ok)
		}
	}
}

func checkPair(t *testing.T, a, b float64) {
	t.Helper()
	want := 0
	switch {
	case below(a, b):
		want = -1
	case below(b, a):
		want = 1
	}
	if Cmp(a, b) != want || Cmp(b, a) != -want {
		t.Errorf("P1.1: Cmp(%v, %v): %d; turned: %d", a, b, Cmp(a, b), Cmp(b, a))
	}
	if Same(a, b) != (want == 0) || Same(b, a) != (want == 0) {
		t.Errorf("P1.1: Same(%v, %v): %v", a, b, Same(a, b))
	}
}

func TestCmpAndSame(t *testing.T) {
	minus := math.Copysign(0, -1)
	if Cmp(minus, 0) != -1 || Cmp(0, minus) != 1 || Same(minus, 0) {
		t.Errorf("P1.1: -0 is not below +0")
	}
	var all []float64
	for _, r := range rows() {
		all = append(all, r.number())
	}
	for _, bits := range noNumbers() {
		all = append(all, math.Float64frombits(bits))
	}
	for i, a := range all {
		for k, b := range all {
			checkPair(t, a, b)
			if n := len(rows()); i < n && k > i && Cmp(a, b) != -1 {
				t.Errorf("P1.1: number %d is not below number %d", i, k)
			} else if i >= n && k >= n && !Same(a, b) {
				t.Errorf("P1.1: no numbers %x, %x are two", noNumbers()[i-n], noNumbers()[k-n])
			}
		}
	}
	l := patterns()
	for i := 1; i < len(l); i++ {
		checkPair(t, math.Float64frombits(l[i-1]), math.Float64frombits(l[i]))
	}
}

func TestMinAndMax(t *testing.T) {
	inf, minus, none := math.Inf(1), math.Copysign(0, -1), math.NaN()
	for _, c := range []struct {
		l           []float64
		least, most float64
	}{
		{nil, inf, -inf},
		{[]float64{}, inf, -inf},
		{[]float64{7}, 7, 7},
		{[]float64{inf}, inf, inf},
		{[]float64{-inf}, -inf, -inf},
		{[]float64{minus}, minus, minus},
		{[]float64{0, minus}, minus, 0},
		{[]float64{minus, 0}, minus, 0},
		{[]float64{minus, minus}, minus, minus},
		{[]float64{3, 1, 2}, 1, 3},
		{[]float64{-3, -1, -2}, -3, -1},
		{[]float64{2, 2}, 2, 2},
		{[]float64{inf, 5, -inf}, -inf, inf},
		{[]float64{none}, none, none},
		{[]float64{none, 1}, none, none},
		{[]float64{1, none}, none, none},
		{[]float64{-inf, none, inf}, none, none},
		{[]float64{1, 2, math.Float64frombits(0xfff0000000000001), 3}, none, none},
	} {
		if x := Min(c.l...); !Same(x, c.least) {
			t.Errorf("P1.1: Min of %v: %v", c.l, x)
		}
		if x := Max(c.l...); !Same(x, c.most) {
			t.Errorf("P1.1: Max of %v: %v", c.l, x)
		}
	}
}

// R4: what is handed in stays as it is, spare room included.
func TestListsStay(t *testing.T) {
	for _, first := range []uint64{0x3ff0000000000000, 0xfff0000000000001} {
		l := []float64{math.Float64frombits(first), 3, math.Copysign(0, -1), 0, 9, 8}
		Min(l[:4]...)
		Max(l[:4]...)
		for i, want := range []uint64{first, 0x4008000000000000, 1 << 63, 0, 0x4022000000000000, 0x4020000000000000} {
			if math.Float64bits(l[i]) != want {
				t.Errorf("R4: place %d is %x now", i, math.Float64bits(l[i]))
			}
		}
	}
}

func TestShowAndParse(t *testing.T) {
	if Show(1) != "3ff0000000000000" {
		t.Errorf("P1.1: Show(1): %s", Show(1))
	}
	for _, r := range rows() {
		if s := Show(r.number()); s != r.show {
			t.Errorf("P1.1: Show of %x: %s", r.bits, s)
		}
		if x, ok := Parse(r.show); !ok || math.Float64bits(x) != r.bits {
			t.Errorf("P1.1: Parse(%q): %x, %v", r.show, math.Float64bits(x), ok)
		}
	}
	for _, bits := range noNumbers() {
		if s := Show(math.Float64frombits(bits)); s != "nan" {
			t.Errorf("P1.1: Show of no number %x: %s", bits, s)
		}
	}
	if x, ok := Parse("nan"); !ok || !math.IsNaN(x) {
		t.Errorf("P1.1: Parse of nan: %v, %v", x, ok)
	}
	for _, p := range patterns() {
		x := math.Float64frombits(p)
		y, ok := Parse(Show(x))
		if !ok || !Same(x, y) {
			t.Errorf("P1.1: Parse of Show of %x: %x, %v", p, math.Float64bits(y), ok)
		}
	}
}

func TestParseOfWrong(t *testing.T) {
	for _, s := range []string{
		"", " ", "n", "nan ", " nan", "Nan", "NaN", "NAN", "-nan", "+nan", "nan\x00",
		"Inf", "INF", "+inf", "-Inf", "--inf", "infinity", "in", "-in", "inf ",
		"0", "1", "-1", "1.5", "1e3",
		"3ff000000000000", "03ff0000000000000", "3ff00000000000000", "00000000000000000",
		"3FF0000000000000", "3fF0000000000000", "FFEFFFFFFFFFFFFF", "7FEFFFFFFFFFFFFF",
		"3ff000000000000g", "3ff000000000000G", "g000000000000000", "3ff000000000000:", "3ff000000000000/", "3ff000000000000`", "3ff000000000000@",
		"0x3ff00000000000", "0X3ff00000000000", "+ff0000000000000", "-ff0000000000000", "3ff0_00000000000", "3ff000000000000 ", " 3ff000000000000", "3ff000000000000\n",
		"7ff0000000000000", "fff0000000000000",
		"7ff0000000000001", "7ff8000000000000", "7ff8000000000001", "7fffffffffffffff", "fff0000000000001", "fff8000000000000", "ffffffffffffffff",
		"\x00\x00\x00\x00\x00\x00\x00\x00\x00\x00\x00\x00\x00\x00\x00\x00", "3ff00000000000é", strings.Repeat("\xff", 16),
		strings.Repeat("0", 32), strings.Repeat("0", 100000), "3ff0000000000000nan",
	} {
		if x, ok := Parse(s); ok || !isPlus(x) {
			t.Errorf("P1.1: Parse(%q): %v, %v", s, x, ok)
		}
	}
}

// Whatever Parse takes is just Show of what it tells, and what it does not take is told as +0.
func TestParseTakesShowAlone(t *testing.T) {
	right := []string{"3ff0000000000000", "800000000000000a", "nan", "inf", "-inf", "7fefffffffffffff"}
	for _, s := range right {
		for at := range len(s) {
			for c := range 256 {
				b := []byte(s)
				b[at] = byte(c)
				x, ok := Parse(string(b))
				if ok && Show(x) != string(b) || !ok && !isPlus(x) {
					t.Errorf("P1.1: Parse(%q): %v, %v", b, x, ok)
				}
				digit := '0' <= c && c <= '9' || 'a' <= c && c <= 'f'
				if string(b) == s && !ok || len(s) == 16 && ok && !digit {
					t.Errorf("P1.1: Parse(%q): %v", b, ok)
				}
			}
		}
	}
}
