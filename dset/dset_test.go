package dset

import (
	"fmt"
	"math"
	"slices"
	"strings"
	"testing"
)

// outside gives numbers that are no process of a set.
func outside() []int {
	return []int{-1, -2, -63, -64, -65, 64, 65, 127, 128, 256, 1 << 32, -1 << 32, math.MaxInt, math.MinInt}
}

// pattern gives a set that looks like chance, sparse or crowded, and is the same each time.
func pattern(i int) Set {
	z := uint64(i+1) * 0x9e3779b97f4a7c15
	z = (z ^ z>>30) * 0xbf58476d1ce4e5b9
	z ^= z >> 27
	if i%3 == 0 {
		z &= z * 0x94d049bb133111eb
	}
	if i%5 == 0 {
		z |= z << 17
	}
	return Set(z ^ z>>31)
}

// sets gives sets of all kinds: none, all, each alone, each missing, and patterned ones.
func sets() []Set {
	l := []Set{0, math.MaxUint64, 0x5555555555555555, 0xaaaaaaaaaaaaaaaa, 0xffff, 0xffffffff00000000}
	for p := range 64 {
		l = append(l, Set(1)<<p, ^(Set(1) << p))
	}
	for i := range 500 {
		l = append(l, pattern(i))
	}
	return l
}

// members tells a set by halving, with no call of the package.
func members(s Set) []int {
	l := []int{}
	for p := 0; s > 0; p, s = p+1, s/2 {
		if s%2 == 1 {
			l = append(l, p)
		}
	}
	return l
}

// plain writes a set from its members.
func plain(s Set) string {
	return "{" + strings.ReplaceAll(strings.Trim(fmt.Sprint(members(s)), "[]"), " ", ",") + "}"
}

func TestOf(t *testing.T) {
	if s := Of(); s != 0 {
		t.Errorf("P4.1: Of(): %x", s)
	}
	for _, r := range []struct {
		l    []int
		want Set
	}{
		{[]int{0}, 1}, {[]int{3, 0}, 9}, {[]int{0, 3}, 9}, {[]int{5, 5, 5}, 32}, {[]int{63}, 1 << 63},
		{[]int{62, 63, 0}, 3<<62 + 1}, {[]int{-1, 2, 64}, 4}, {[]int{64, -1, 63, 65}, 1 << 63}, {nil, 0}, {[]int{}, 0},
	} {
		if s := Of(r.l...); s != r.want {
			t.Errorf("P4.1: Of(%v): %x, want %x", r.l, s, r.want)
		}
	}
	for _, p := range outside() {
		if s := Of(p); s != 0 {
			t.Errorf("P4.1: Of(%d): %x, want none", p, s)
		}
		if s := Of(7, p, 1); s != 130 {
			t.Errorf("P4.1: Of(7, %d, 1): %x, want 82", p, s)
		}
	}
}

func TestOfLeavesList(t *testing.T) {
	l := []int{9, -4, 3, 64, 3, 0, 77, 78}
	before := slices.Clone(l)
	if s := Of(l[:6]...); s != 1<<9+1<<3+1 || !slices.Equal(l, before) {
		t.Errorf("P4.1: Of changes its list: %v, %x", l, s)
	}
}

func TestAll(t *testing.T) {
	for n := range 65 {
		var want Set
		for p := range n {
			want += Set(1) << p
		}
		if s := All(n); s != want {
			t.Errorf("P4.1: All(%d): %x, want %x", n, s, want)
		}
	}
	for _, n := range outside() {
		want := Set(0)
		if n > 0 {
			want = math.MaxUint64
		}
		if s := All(n); s != want {
			t.Errorf("P4.1: All(%d): %x, want %x", n, s, want)
		}
	}
}

func TestHas(t *testing.T) {
	for _, s := range sets() {
		l := members(s)
		for p := range 64 {
			if has := Has(s, p); has != slices.Contains(l, p) {
				t.Errorf("P4.1: Has(%x, %d): %v", s, p, has)
			}
		}
		for _, p := range outside() {
			if Has(s, p) {
				t.Errorf("P4.1: Has(%x, %d): true, want false", s, p)
			}
		}
	}
}

func TestListCountFirst(t *testing.T) {
	for _, s := range sets() {
		want := members(s)
		if l := List(s); !slices.Equal(l, want) {
			t.Errorf("P4.1: List(%x): %v, want %v", s, l, want)
		}
		if n := Count(s); n != len(want) {
			t.Errorf("P4.1: Count(%x): %d, want %d", s, n, len(want))
		}
		if s == 0 {
			continue
		}
		if p, ok := First(s); p != want[0] || !ok {
			t.Errorf("P4.1: First(%x): %d, %v, want %d", s, p, ok, want[0])
		}
	}
	if p, ok := First(0); p != 0 || ok {
		t.Errorf("P4.1: First of none: %d, %v, want 0, false", p, ok)
	}
}

func TestListAlone(t *testing.T) {
	l, other := List(13), List(13)
	for i := range l[:cap(l)] {
		l[:cap(l)][i] = 99
	}
	if !slices.Equal(other, []int{0, 2, 3}) || !slices.Equal(List(13), other) {
		t.Errorf("P4.1: List shares memory: %v", other)
	}
}

func TestWithin(t *testing.T) {
	all := sets()
	for i, s := range all {
		if !Within(s, s) || !Within(0, s) || !Within(s, math.MaxUint64) {
			t.Errorf("P4.1: Within of %x, its own edges", s)
		}
		for _, u := range []Set{0, all[(i*7+3)%len(all)], all[(i*31+11)%len(all)], s | pattern(i), s & pattern(i)} {
			want := true
			for _, p := range members(s) {
				want = want && slices.Contains(members(u), p)
			}
			if in := Within(s, u); in != want {
				t.Errorf("P4.1: Within(%x, %x): %v, want %v", s, u, in, want)
			}
		}
	}
}

func TestShow(t *testing.T) {
	for _, r := range []struct {
		s    Set
		want string
	}{
		{Of(3, 0), "{0,3}"}, {0, "{}"}, {1, "{0}"}, {1 << 63, "{63}"}, {Of(10, 9, 11), "{9,10,11}"},
	} {
		if text := Show(r.s); text != r.want {
			t.Errorf("P4.1: Show(%x): %q, want %q", r.s, text, r.want)
		}
	}
	for _, s := range sets() {
		if text := Show(s); text != plain(s) {
			t.Errorf("P4.1: Show(%x): %q, want %q", s, text, plain(s))
		}
	}
}

func TestParse(t *testing.T) {
	for _, s := range sets() {
		if set, ok := Parse(plain(s)); set != s || !ok {
			t.Errorf("P4.1: Parse(%q): %x, %v, want %x", plain(s), set, ok, s)
		}
	}
}

func TestParseWrong(t *testing.T) {
	for _, text := range []string{
		"", "{", "}", "}{", "{{}", "{}}", "{{}}", "0", "0,3", "{0", "0}", "{0}}", "{{0}", "{{0}}", "{0}{0}", "{}{}",
		"{3,0}", "{0,0}", "{5,5}", "{0,3,3}", "{,}", "{0,}", "{,0}", "{0,,3}", "{0;3}", "{0.3}", "{0 3}",
		"{0, 3}", "{ 0}", "{0 }", " {0}", "{0} ", "{}\n", "\t{}", "{ }", "{0}\x00", "\x00{0}",
		"{00}", "{03}", "{0,03}", "{+3}", "{-0}", "{-1}", "{-1,3}", "{3,-1}", "{0x3}", "{1_0}", "{3e0}", "{a}", "{0,a}",
		"{64}", "{0,64}", "{65}", "{128}", "{256}", "{0,256}", "{4294967296}", "{4294967299}",
		"{9223372036854775807}", "{18446744073709551616}", "{18446744073709551619}", "{99999999999999999999999999}",
		"[0,3]", "(0)", "{0]", "{٣}", "{0，3}", "\xff{0}", "{\xff}", strings.Repeat("{", 1000), strings.Repeat("0,", 100000),
		"{" + strings.Repeat("1,", 1000) + "1}",
	} {
		if s, ok := Parse(text); s != 0 || ok {
			t.Errorf("P4.1: Parse(%.40q): %x, %v, want none, false", text, s, ok)
		}
	}
}

// TestParseNear spoils each place of right texts: what is still read must be shown just so.
func TestParseNear(t *testing.T) {
	right := map[string]Set{}
	for a := range 64 {
		for b := range 64 {
			for c := range 64 {
				s := Set(1)<<a | Set(1)<<b | Set(1)<<c
				right[plain(s)] = s
			}
		}
	}
	right["{}"] = 0
	for _, text := range []string{"{}", "{0}", "{63}", "{0,3}", "{9,10}", "{3,20,63}"} {
		for i := range text {
			for _, put := range []string{"", "0", "1", "6", "9", ",", "{", "}", "-", " ", "00", ",1"} {
				for _, from := range []int{i, i + 1} {
					near := text[:i] + put + text[from:]
					want, is := right[near]
					if s, ok := Parse(near); (s != want || ok != is) && strings.Count(near, ",") < 3 {
						t.Errorf("P4.1: Parse(%q): %x, %v, want %x, %v", near, s, ok, want, is)
					}
				}
			}
		}
	}
}
