package vec

import (
	"fmt"
	"math"
	"slices"
	"testing"
)

// wide is more places than any row of these tests has.
const wide = 160

// far gives numbers that are no place of a row, or of none that Up goes up at.
func far() []int {
	return []int{-1, -2, -63, -64, -65, 100, 127, 128, 256, 1 << 16, 1 << 32, 1<<32 + 1, -1 << 32, 1 - 1<<32, math.MaxInt, math.MinInt, math.MinInt + 1}
}

// counts gives counts at their edges.
func counts() []uint64 {
	return []uint64{0, 1, 2, 255, 256, math.MaxInt32, math.MaxUint32, 1 << 32, math.MaxInt64, 1 << 63, 1<<63 + 1, math.MaxUint64 - 1, math.MaxUint64}
}

// row gives a row that looks like chance, with small counts, some of them nought, and is the same each time.
func row(seed, size int) Vec {
	v := make(Vec, size)
	x := uint64(seed+1) * 0x9e3779b97f4a7c15
	for i := range v {
		x = x*6364136223846793005 + 1442695040888963407
		v[i] = x >> 33 % 4
	}
	return v
}

// short gives all rows of up to that many places, each count from 0 to 2.
func short(places int) []Vec {
	l := []Vec{{}}
	for first := 0; places > 0; places-- {
		end := len(l)
		for _, v := range l[first:end] {
			for n := range uint64(3) {
				l = append(l, append(slices.Clone(v), n))
			}
		}
		first = end
	}
	return l
}

// padded lays a row out with noughts behind its end, with no call of the package.
func padded(v Vec) [wide]uint64 {
	var p [wide]uint64
	copy(p[:], v)
	return p
}

// order compares two rows place by place, with no call of the package.
func order(a, b Vec) int {
	p, q := padded(a), padded(b)
	less, more := 0, 0
	for i := range wide {
		if p[i] < q[i] {
			less++
		}
		if p[i] > q[i] {
			more++
		}
	}
	switch {
	case less == 0 && more == 0:
		return 0
	case more == 0:
		return -1
	case less == 0:
		return 1
	}
	return 2
}

// compares tells whether Cmp is as it must be, both ways round.
func compares(t *testing.T, a, b Vec, want int) {
	t.Helper()
	turned := map[int]int{0: 0, -1: 1, 1: -1, 2: 2}[want]
	if c := Cmp(a, b); c != want {
		t.Fatalf("P15.1: Cmp(%d, %d): %d, want %d", a, b, c, want)
	}
	if c := Cmp(b, a); c != turned {
		t.Fatalf("P15.1: Cmp(%d, %d): %d, want %d", b, a, c, turned)
	}
}

// ups goes up at a place that may be: that many, no more places than it must have, and the row itself as it was.
func ups(t *testing.T, v Vec, i int) {
	t.Helper()
	before := slices.Clone(v)
	want := padded(v)
	want[i]++
	u, ok := Up(v, i)
	if !ok || len(u) != max(len(v), i+1) || padded(u) != want {
		t.Fatalf("P15.1: Up(%d, %d): %d, %v", v, i, u, ok)
	}
	if !slices.Equal(v, before) {
		t.Fatalf("R4: Up(%d, %d) changes its row: %d", before, i, v)
	}
}

// stays goes up where that may not be: the row alike, as new memory, and false.
func stays(t *testing.T, v Vec, i int) {
	t.Helper()
	before := slices.Clone(v)
	u, ok := Up(v, i)
	if ok || !slices.Equal(u, before) {
		t.Fatalf("P15.1: Up(%d, %d): %d, %v, want it alike, false", before, i, u, ok)
	}
	spoil(u)
	if !slices.Equal(v, before) {
		t.Fatalf("R4: Up(%d, %d): what is told shares memory with its row", before, i)
	}
}

// spoil writes into all of a row, spare room too.
func spoil(v Vec) {
	v = v[:cap(v)]
	for i := range v {
		v[i] = 7777
	}
}

func TestExample(t *testing.T) {
	if c := Cmp(Vec{1, 0}, Vec{0, 1}); c != 2 {
		t.Errorf("P15.1: Cmp(1 0, 0 1): %d, want 2", c)
	}
}

// TestNew asks for each length, those that may be and those that are held.
func TestNew(t *testing.T) {
	all := far()
	for n := -20; n <= 90; n++ {
		all = append(all, n)
	}
	for _, n := range all {
		want := n
		if n < 0 {
			want = 0
		} else if n > 64 {
			want = 64
		}
		if v := New(n); len(v) != want || padded(v) != [wide]uint64{} {
			t.Errorf("P15.1: New(%d): %d places: %d, want %d noughts", n, len(v), v, want)
		}
	}
}

func TestUp(t *testing.T) {
	for _, r := range []struct {
		v    Vec
		i    int
		want Vec
	}{
		{nil, 0, Vec{1}}, {Vec{}, 0, Vec{1}}, {nil, 2, Vec{0, 0, 1}}, {Vec{5}, 0, Vec{6}}, {Vec{5}, 1, Vec{5, 1}},
		{Vec{5}, 3, Vec{5, 0, 0, 1}}, {Vec{1, 2, 3}, 1, Vec{1, 3, 3}}, {Vec{1, 2, 3}, 2, Vec{1, 2, 4}}, {Vec{0, 0, 0}, 0, Vec{1, 0, 0}},
		{Vec{1, 0}, 2, Vec{1, 0, 1}}, {Vec{math.MaxUint64 - 1}, 0, Vec{math.MaxUint64}}, {Vec{math.MaxUint64, 4}, 1, Vec{math.MaxUint64, 5}},
		{Vec{math.MaxUint64}, 1, Vec{math.MaxUint64, 1}}, {Vec{math.MaxInt64}, 0, Vec{1 << 63}}, {Vec{math.MaxUint32}, 0, Vec{1 << 32}},
	} {
		if u, ok := Up(r.v, r.i); !ok || !slices.Equal(u, r.want) {
			t.Errorf("P15.1: Up(%d, %d): %d, %v, want %d, true", r.v, r.i, u, ok, r.want)
		}
	}
}

// TestUpEach goes up at each place of rows of each length, longer ones than New makes among them.
func TestUpEach(t *testing.T) {
	for size := range 70 {
		for i := range 64 {
			ups(t, row(size, size), i)
		}
	}
	for _, size := range []int{100, 128, 150} {
		ups(t, row(size, size), 0)
		ups(t, row(size, size), 63)
	}
}

// TestUpCounts goes up from counts at their edges, at the first, a middle and the last place: the greatest one stays.
func TestUpCounts(t *testing.T) {
	for _, n := range counts() {
		for _, i := range []int{0, 1, 31, 63} {
			for _, size := range []int{i + 1, 64, 70} {
				v := row(i, size)
				v[i] = n
				if n == math.MaxUint64 {
					stays(t, v, i)
				} else {
					ups(t, v, i)
				}
			}
		}
	}
}

// TestUpNone goes up at what is no place, also where the row is so long that it has one there.
func TestUpNone(t *testing.T) {
	none := append(far(), 64, 65, 66, 69, 70, 71)
	for _, size := range []int{0, 1, 2, 63, 64, 65, 70, 150} {
		for _, i := range none {
			stays(t, row(size, size), i)
		}
	}
	for _, i := range none {
		stays(t, nil, i)
		stays(t, Vec{math.MaxUint64, 0, math.MaxUint64}, i)
	}
}

// TestUpMany counts many, each at its own place.
func TestUpMany(t *testing.T) {
	var v Vec
	var want [wide]uint64
	x := uint32(1)
	for range 20_000 {
		x = x*1664525 + 1013904223
		i := int(x>>16) % 64
		u, ok := Up(v, i)
		if !ok || Cmp(v, u) != -1 {
			t.Fatalf("P15.1: Up(%d, %d): %d, %v", v, i, u, ok)
		}
		v = u
		want[i]++
	}
	if len(v) != 64 || padded(v) != want {
		t.Errorf("P15.1: many Ups: %d, want %d", v, want)
	}
}

func TestJoin(t *testing.T) {
	for _, r := range []struct{ a, b, want Vec }{
		{nil, nil, nil}, {Vec{}, nil, nil}, {nil, Vec{3}, Vec{3}}, {Vec{3}, Vec{}, Vec{3}}, {Vec{1, 0}, Vec{0, 1}, Vec{1, 1}},
		{Vec{1, 2, 3}, Vec{3, 2, 1}, Vec{3, 2, 3}}, {Vec{5}, Vec{1, 2, 3}, Vec{5, 2, 3}}, {Vec{0}, Vec{0, 0, 0}, Vec{0, 0, 0}},
		{Vec{4, 0, 0}, Vec{9}, Vec{9, 0, 0}}, {Vec{math.MaxUint64, 0}, Vec{1, math.MaxUint64}, Vec{math.MaxUint64, math.MaxUint64}},
		{Vec{1 << 63}, Vec{math.MaxInt64}, Vec{1 << 63}}, {Vec{1 << 32}, Vec{math.MaxUint32}, Vec{1 << 32}},
	} {
		if v := Join(r.a, r.b); !slices.Equal(v, r.want) {
			t.Errorf("P15.1: Join(%d, %d): %d, want %d", r.a, r.b, v, r.want)
		}
		if v := Join(r.b, r.a); !slices.Equal(v, r.want) {
			t.Errorf("P15.1: Join(%d, %d): %d, want %d", r.b, r.a, v, r.want)
		}
	}
}

// joins tells whether Join has the greater at each place, and as many places as the longer.
func joins(t *testing.T, a, b Vec) {
	t.Helper()
	want, other := padded(a), padded(b)
	for i, n := range other {
		if n > want[i] {
			want[i] = n
		}
	}
	v := Join(a, b)
	if len(v) != max(len(a), len(b)) || padded(v) != want {
		t.Fatalf("P15.1: Join(%d, %d): %d", a, b, v)
	}
	// Of all that both are at most, it is the least.
	if c, d := Cmp(a, v), Cmp(b, v); c > 0 || d > 0 {
		t.Fatalf("P15.1: Cmp of %d, of %d with their Join %d: %d, %d", a, b, v, c, d)
	}
}

// TestJoinEach joins rows of each two lengths, and all short ones.
func TestJoinEach(t *testing.T) {
	for a := range 70 {
		for b := range 70 {
			joins(t, row(a, a), row(b+1000, b))
		}
	}
	joins(t, row(1, 150), row(2, 3))
	joins(t, row(3, 100), row(4, 150))
	all := short(4)
	for _, a := range all {
		for _, b := range all {
			joins(t, a, b)
		}
	}
}

// TestJoinCounts joins counts at their edges, each with each, behind others.
func TestJoinCounts(t *testing.T) {
	for _, m := range counts() {
		for _, n := range counts() {
			joins(t, Vec{1, m}, Vec{2, n})
			joins(t, Vec{m, n}, Vec{n, m})
			joins(t, Vec{m}, Vec{0, n, m})
		}
	}
}

func TestCmp(t *testing.T) {
	for _, r := range []struct {
		a, b Vec
		want int
	}{
		{nil, nil, 0}, {nil, Vec{}, 0}, {nil, Vec{0}, 0}, {Vec{0, 0}, nil, 0}, {New(64), nil, 0}, {New(3), New(64), 0},
		{Vec{1}, Vec{1}, 0}, {Vec{1, 2}, Vec{1, 2, 0, 0}, 0}, {Vec{1, 2, 0}, Vec{1, 2}, 0},
		{nil, Vec{1}, -1}, {Vec{0}, Vec{1}, -1}, {Vec{0, 0}, Vec{1}, -1}, {Vec{1}, Vec{1, 1}, -1}, {Vec{1, 0, 0}, Vec{1, 1}, -1},
		{Vec{1, 2}, Vec{1, 3}, -1}, {Vec{1, 2}, Vec{2, 3}, -1}, {Vec{1, 2}, Vec{2, 2}, -1}, {Vec{1, 2, 3}, Vec{1, 2, 4}, -1},
		{Vec{1}, nil, 1}, {Vec{0, 0, 1}, Vec{0, 0}, 1}, {Vec{2, 2}, Vec{2}, 1}, {Vec{9, 9}, Vec{1, 9}, 1},
		{Vec{1}, Vec{0, 1}, 2}, {Vec{0, 0, 1}, Vec{1}, 2}, {Vec{1, 2}, Vec{2, 1}, 2}, {Vec{1, 2, 3}, Vec{1, 3, 2}, 2},
		{Vec{2, 0, 0}, Vec{1, 0, 1}, 2}, {Vec{5, 1, 1, 1}, Vec{1, 1, 1, 2}, 2}, {Vec{0, 7, 0}, Vec{0, 6, 0, 1}, 2},
	} {
		compares(t, r.a, r.b, r.want)
	}
}

// TestCmpAll holds all short rows against each other.
func TestCmpAll(t *testing.T) {
	all := short(4)
	for _, a := range all {
		for _, b := range all {
			compares(t, a, b, order(a, b))
		}
	}
}

// TestCmpCounts compares counts at their edges.
func TestCmpCounts(t *testing.T) {
	all := counts()
	for i, m := range all {
		for k, n := range all {
			want := 0
			if i < k {
				want = -1
			} else if i > k {
				want = 1
			}
			compares(t, Vec{m}, Vec{n}, want)
			compares(t, Vec{3, m, 4}, Vec{3, n, 4}, want)
			compares(t, Vec{m, n}, Vec{n, m}, 2*want*want)
		}
	}
}

// TestCmpEach has rows differ at each one place, and at each two, behind the end of the one too.
func TestCmpEach(t *testing.T) {
	for _, size := range []int{1, 2, 3, 16, 63, 64, 65, 100} {
		v := row(size, size)
		compares(t, v, slices.Clone(v), 0)
		compares(t, v, append(slices.Clone(v), 0, 0, 0), 0)
		for i := range size {
			one := slices.Clone(v)
			one[i]++
			compares(t, v, one, -1)
			compares(t, append(slices.Clone(v), 0, 0), one, -1)
			compares(t, v[:i], v[:i+1], order(v[:i], v[:i+1]))
			compares(t, append(slices.Clone(v), 1), one, 2)
			for k := range i {
				two := slices.Clone(v)
				two[k]++
				compares(t, one, two, 2)
				two[i]++
				compares(t, one, two, -1)
			}
		}
	}
}

// TestCmpLong holds long rows that look like chance against each other, and against what was joined with them.
func TestCmpLong(t *testing.T) {
	for seed := range 3000 {
		a, b := row(seed, seed%80), row(seed+5000, seed/3%80)
		compares(t, a, b, order(a, b))
		j := Join(a, b)
		compares(t, a, j, order(a, j))
		compares(t, Join(j, a), j, 0)
	}
}

// TestAt asks for each place, those behind the end and those that are none.
func TestAt(t *testing.T) {
	for _, size := range []int{0, 1, 2, 3, 16, 63, 64, 65, 80, 150} {
		v := row(size, size)
		for i := range v {
			v[i] += uint64(i) << 40
		}
		p := padded(v)
		for i := range wide {
			if n := At(v, i); n != p[i] {
				t.Errorf("P15.1: At of %d places, %d: %d, want %d", size, i, n, p[i])
			}
		}
		for _, i := range far() {
			if i >= 0 && i < size {
				continue
			}
			if n := At(v, i); n != 0 {
				t.Errorf("P15.1: At of %d places, %d: %d, want 0", size, i, n)
			}
		}
	}
	if n := At(nil, 0); n != 0 {
		t.Errorf("P15.1: At(nil, 0): %d, want 0", n)
	}
	for _, n := range counts() {
		if got := At(Vec{5, n, 5}, 1); got != n {
			t.Errorf("P15.1: At of %d: %d", n, got)
		}
	}
}

// TestBehindEnd has rows with something in their spare room: that is behind their end, and so counts as nought, and is left as it is.
func TestBehindEnd(t *testing.T) {
	room := Vec{4, 5, 6, 7, 8}
	before := slices.Clone(room)
	v := room[:2]
	if n := At(v, 2); n != 0 {
		t.Errorf("P15.1: At behind the end: %d, want 0", n)
	}
	compares(t, v, Vec{4, 5}, 0)
	compares(t, v, room, -1)
	for _, r := range []struct{ got, want Vec }{
		{Join(v, nil), Vec{4, 5}}, {Join(nil, v), Vec{4, 5}}, {Join(v, Vec{9, 0, 1}), Vec{9, 5, 1}}, {Join(v, v), Vec{4, 5}},
	} {
		if !slices.Equal(r.got, r.want) {
			t.Errorf("P15.1: Join with spare room: %d, want %d", r.got, r.want)
		}
	}
	ups(t, v, 1)
	ups(t, v, 2)
	ups(t, v, 4)
	stays(t, v, -1)
	if !slices.Equal(room, before) {
		t.Errorf("R4: spare room is changed: %d, want %d", room, before)
	}
}

// answers gives all rows that the calls tell of two rows.
func answers(a, b Vec) []Vec {
	l := []Vec{New(len(a)), Join(a, b), Join(b, a), Join(a, nil), Join(nil, b), Join(a, a)}
	for _, i := range []int{-1, 0, 1, 3, 63, 64} {
		u, _ := Up(a, i)
		w, _ := Up(b, i)
		l = append(l, u, w)
	}
	return l
}

// TestAnswersAreNew writes into each answer, spare room too: no argument changes by it, and no other answer.
func TestAnswersAreNew(t *testing.T) {
	a, b := append(make(Vec, 0, 9), 1, 2, 3), append(make(Vec, 0, 70), 3, 2, 1, math.MaxUint64)
	wantA, wantB := slices.Clone(a[:cap(a)]), slices.Clone(b[:cap(b)])
	want := fmt.Sprint(answers(a, b))
	for i := range answers(a, b) {
		l, other := answers(a, b), answers(a, b)
		kept := slices.Clone(l[i])
		spoil(l[i])
		l[i] = kept
		if fmt.Sprint(l) != want || fmt.Sprint(other) != want {
			t.Errorf("R4: answer %d shares memory with another one", i)
		}
		if !slices.Equal(a[:cap(a)], wantA) || !slices.Equal(b[:cap(b)], wantB) {
			t.Fatalf("R4: answer %d shares memory with an argument", i)
		}
	}
}

// TestKeepsNothing writes into the arguments behind each call: what was told stays.
func TestKeepsNothing(t *testing.T) {
	a, b := Vec{1, 2, 3}, Vec{3, 2, 1, 4}
	l := answers(a, b)
	want := fmt.Sprint(l)
	spoil(a)
	spoil(b)
	if got := fmt.Sprint(l); got != want {
		t.Errorf("R4: an argument is kept: %s, want %s", got, want)
	}
}

// TestNoneIsEmpty has nil and an empty row told alike by each call.
func TestNoneIsEmpty(t *testing.T) {
	other := Vec{1, 0, 2}
	if got, want := fmt.Sprint(answers(nil, other)), fmt.Sprint(answers(Vec{}, other)); got != want {
		t.Errorf("R4: nil and an empty row: %s, %s", got, want)
	}
	for _, v := range []Vec{nil, {}, {0}, {0, 1}} {
		if Cmp(nil, v) != Cmp(Vec{}, v) || Cmp(v, nil) != Cmp(v, Vec{}) {
			t.Errorf("R4: Cmp of nil and of an empty row with %d", v)
		}
	}
}
