package mat

import (
	"fmt"
	"math"
	"slices"
	"testing"

	"shoal/api"
	"shoal/dset"
	"shoal/vec"
)

// far gives numbers that are no place of any square, and no size of one.
func far() []int {
	return []int{-1, -2, -15, -16, -17, -63, -64, -65, 17, 18, 63, 64, 65, 128, 256, 1 << 16, 1 << 32, 1<<32 + 1, -1 << 32, 1 - 1<<32, math.MaxInt, math.MinInt, math.MinInt + 1}
}

// counts gives counts at their edges, rising.
func counts() []uint64 {
	return []uint64{0, 1, 2, 255, 256, math.MaxInt32, math.MaxUint32, 1 << 32, math.MaxInt64, 1 << 63, 1<<63 + 1, math.MaxUint64 - 1, math.MaxUint64}
}

// of makes a square of rows, with as many as there are, whether it is Good or not.
func of(rows ...vec.Vec) Mat { return Mat{N: len(rows), Rows: rows} }

// chance gives a square that looks like chance, with small counts, some of them nought, and is the same each time.
func chance(seed, n int) Mat {
	x := uint64(seed+1) * 0x9e3779b97f4a7c15
	m := Mat{N: n}
	for range n {
		row := make(vec.Vec, n)
		for j := range row {
			x = x*6364136223846793005 + 1442695040888963407
			row[j] = x >> 33 % 4
		}
		m.Rows = append(m.Rows, row)
	}
	return m
}

// filled gives a square with the same count at each place.
func filled(n int, count uint64) Mat {
	m := Mat{N: n}
	for range n {
		m.Rows = append(m.Rows, slices.Repeat(vec.Vec{count}, n))
	}
	return m
}

// with gives a square alike, with that count at that place.
func with(m Mat, i, j int, count uint64) Mat {
	c := copied(m)
	c.Rows[i][j] = count
	return c
}

// small gives all squares of two, each count from 0 to 2.
func small() []Mat {
	var l []Mat
	for k := range uint64(81) {
		l = append(l, of(vec.Vec{k % 3, k / 3 % 3}, vec.Vec{k / 9 % 3, k / 27}))
	}
	return l
}

// copied makes a square alike in memory of its own, with no call of the package.
func copied(m Mat) Mat {
	c := Mat{N: m.N}
	for _, row := range m.Rows {
		c.Rows = append(c.Rows, append(vec.Vec{}, row...))
	}
	return c
}

// same tells whether two are alike, field by field.
func same(a, b Mat) bool {
	return a.N == b.N && slices.EqualFunc(a.Rows, b.Rows, slices.Equal[vec.Vec])
}

// wrong gives what is not Good, one for each way in which it is not.
func wrong() map[string]Mat {
	l := map[string]Mat{
		"zero":              {},
		"zero, empty Rows":  {Rows: []vec.Vec{}},
		"N 0 of a row":      {N: 0, Rows: []vec.Vec{{}}},
		"N 1 of none":       {N: 1},
		"N 1 of two":        {N: 1, Rows: []vec.Vec{{1}, {2}}},
		"N 1 of a nil row":  {N: 1, Rows: []vec.Vec{nil}},
		"N 1, row of two":   {N: 1, Rows: []vec.Vec{{1, 2}}},
		"N 2 of 3 by 3":     {N: 2, Rows: filled(3, 5).Rows},
		"N 3 of 2 by 2":     {N: 3, Rows: filled(2, 5).Rows},
		"N 2 of 2 by 3":     {N: 2, Rows: []vec.Vec{{1, 2, 3}, {4, 5, 6}}},
		"N 2 of 3 by 2":     {N: 2, Rows: []vec.Vec{{1, 2}, {3, 4}, {5, 6}}},
		"N 2, first short":  {N: 2, Rows: []vec.Vec{{1}, {2, 3}}},
		"N 2, first long":   {N: 2, Rows: []vec.Vec{{1, 0, 0}, {2, 3}}},
		"N 2, last short":   {N: 2, Rows: []vec.Vec{{1, 2}, {3}}},
		"N 2, last long":    {N: 2, Rows: []vec.Vec{{1, 2}, {3, 4, 0}}},
		"N 2, last nil":     {N: 2, Rows: []vec.Vec{{1, 2}, nil}},
		"N 3, middle short": {N: 3, Rows: []vec.Vec{{1, 2, 3}, {4, 5}, {6, 7, 8}}},
		"as many in all":    {N: 2, Rows: []vec.Vec{{1}, {2, 3, 4}}},
		"N below":           {N: -1},
		"N below, a row":    {N: -1, Rows: []vec.Vec{{1}}},
		"N 17":              filled(17, 1),
		"N 64":              filled(64, 1),
		"N 65":              filled(65, 1),
		"N 100":             filled(100, 1),
	}
	for _, n := range far() {
		l["N far "+fmt.Sprint(n)] = Mat{N: n, Rows: filled(2, 3).Rows}
	}
	return l
}

// spoil writes into all rows of a square, spare room too, and into its list of rows.
func spoil(m Mat) {
	for _, row := range m.Rows {
		spoilRow(row)
	}
	rows := m.Rows[:cap(m.Rows)]
	for i := range rows {
		rows[i] = vec.Vec{7777}
	}
}

// spoilRow writes into all of a row, spare room too.
func spoilRow(v vec.Vec) {
	v = v[:cap(v)]
	for i := range v {
		v[i] = 7777
	}
}

func TestExample(t *testing.T) {
	m, err := New(2)
	if err != api.OK {
		t.Fatalf("P16.1: New(2): %v", err)
	}
	if u := Up(m, 0, dset.Of(1)); !same(u, of(vec.Vec{0, 1}, vec.Vec{0, 0})) {
		t.Errorf("P16.1: Up(New(2), 0, {1}): %v, want row 0: 0 1", u)
	}
}

// TestNew asks for each size, those that may be and those that may not.
func TestNew(t *testing.T) {
	all := far()
	for n := -20; n <= 70; n++ {
		all = append(all, n)
	}
	for _, n := range all {
		want, answer := Mat{}, api.EARG
		if n >= 1 && n <= 16 {
			want, answer = filled(n, 0), api.OK
		}
		if m, err := New(n); !same(m, want) || err != answer {
			t.Errorf("P16.1: New(%d): %v, %v, want %v, %v", n, m, err, want, answer)
		}
	}
}

// TestNewIsGood holds what New makes against Good, and asks for each of its places.
func TestNewIsGood(t *testing.T) {
	for n := 1; n <= 16; n++ {
		m, err := New(n)
		if err != api.OK || !Good(m) {
			t.Errorf("P16.1: New(%d): %v, %v, want what is Good", n, m, err)
		}
		for i := range n {
			for j := range n {
				if At(m, i, j) != 0 {
					t.Errorf("P16.1: New(%d) at %d, %d: %d, want 0", n, i, j, At(m, i, j))
				}
			}
		}
	}
}

func TestGood(t *testing.T) {
	for n := 1; n <= 16; n++ {
		if !Good(chance(n, n)) || !Good(filled(n, math.MaxUint64)) {
			t.Errorf("P16.1: Good of %d by %d: false, want true", n, n)
		}
	}
	for name, m := range wrong() {
		if Good(m) {
			t.Errorf("P16.1: Good of %s: true, want false", name)
		}
	}
}

// TestGoodShape has each N with each number of rows, all of each length.
func TestGoodShape(t *testing.T) {
	for n := -2; n <= 19; n++ {
		for rows := range 20 {
			for size := range 20 {
				m := Mat{N: n, Rows: slices.Repeat([]vec.Vec{make(vec.Vec, size)}, rows)}
				want := n >= 1 && n <= 16 && rows == n && size == n
				if Good(m) != want {
					t.Fatalf("P16.1: Good with N %d of %d rows of %d: %v, want %v", n, rows, size, !want, want)
				}
			}
		}
	}
}

// TestGoodRows has each one row shorter, longer, or nil.
func TestGoodRows(t *testing.T) {
	for n := 1; n <= 16; n++ {
		for i := range n {
			for size := range n + 3 {
				m := chance(n, n)
				m.Rows[i] = make(vec.Vec, size)
				if want := size == n; Good(m) != want {
					t.Fatalf("P16.1: Good with N %d, row %d of %d: %v, want %v", n, i, size, !want, want)
				}
			}
			m := chance(n, n)
			m.Rows[i] = nil
			if Good(m) {
				t.Fatalf("P16.1: Good with N %d, row %d nil: true, want false", n, i)
			}
		}
	}
}

// TestAt asks for each place, and for what is none.
func TestAt(t *testing.T) {
	for n := 1; n <= 16; n++ {
		m := chance(n, n)
		for i := range n {
			for j := range n {
				m.Rows[i][j] += uint64(100*i+j) << 40
			}
		}
		for i := -3; i < n+20; i++ {
			for j := -3; j < n+20; j++ {
				want := uint64(0)
				if i >= 0 && i < n && j >= 0 && j < n {
					want = m.Rows[i][j]
				}
				if got := At(m, i, j); got != want {
					t.Fatalf("P16.1: At of %d by %d, %d, %d: %d, want %d", n, n, i, j, got, want)
				}
			}
		}
	}
}

func TestAtNone(t *testing.T) {
	for _, n := range []int{1, 2, 3, 15, 16} {
		m := filled(n, 9)
		for _, i := range far() {
			for k := range n {
				if a, b, c := At(m, i, k), At(m, k, i), At(m, i, i); a != 0 || b != 0 || c != 0 {
					t.Errorf("P16.1: At of %d by %d, none %d with %d: %d, %d, %d, want 0", n, n, i, k, a, b, c)
				}
			}
		}
	}
	for _, n := range counts() {
		if got := At(with(filled(3, 4), 1, 2, n), 1, 2); got != n {
			t.Errorf("P16.1: At of %d: %d", n, got)
		}
	}
}

// TestAtWrong asks what is not Good: what stands there is told, all else is nought.
func TestAtWrong(t *testing.T) {
	for name, m := range wrong() {
		for i := -2; i < 70; i++ {
			for j := -2; j < 70; j++ {
				want := uint64(0)
				if i >= 0 && i < len(m.Rows) && j >= 0 && j < len(m.Rows[i]) {
					want = m.Rows[i][j]
				}
				if got := At(m, i, j); got != want {
					t.Fatalf("P16.1: At of %s, %d, %d: %d, want %d", name, i, j, got, want)
				}
			}
		}
	}
}

// ups holds an Up against a plain reading, and looks whether the square itself is as it was.
func ups(t *testing.T, m Mat, i int, to dset.Set) {
	t.Helper()
	before, want := copied(m), copied(m)
	for j := range want.Rows[i] {
		if to>>j&1 == 1 && want.Rows[i][j] != math.MaxUint64 {
			want.Rows[i][j]++
		}
	}
	if u := Up(m, i, to); !same(u, want) || !Good(u) {
		t.Fatalf("P16.1: Up(%v, %d, %b): %v, want %v", before, i, to, u, want)
	}
	if !same(m, before) {
		t.Fatalf("R4: Up(%v, %d, %b) changes its square: %v", before, i, to, m)
	}
}

// stays goes up where that may not be: the square alike, as new memory.
func stays(t *testing.T, m Mat, i int, to dset.Set) {
	t.Helper()
	before := copied(m)
	u := Up(m, i, to)
	if !same(u, before) {
		t.Fatalf("P16.1: Up(%v, %d, %b): %v, want it alike", before, i, to, u)
	}
	spoil(u)
	if !same(m, before) {
		t.Fatalf("R4: Up(%v, %d, %b): what is told shares memory with its square", before, i, to)
	}
}

func TestUp(t *testing.T) {
	m := of(vec.Vec{1, 2, 3}, vec.Vec{4, 5, 6}, vec.Vec{7, 8, math.MaxUint64})
	for _, r := range []struct {
		i    int
		to   dset.Set
		want Mat
	}{
		{0, 0, m},
		{0, 1, of(vec.Vec{2, 2, 3}, m.Rows[1], m.Rows[2])},
		{0, 6, of(vec.Vec{1, 3, 4}, m.Rows[1], m.Rows[2])},
		{1, 5, of(m.Rows[0], vec.Vec{5, 5, 7}, m.Rows[2])},
		{1, 7, of(m.Rows[0], vec.Vec{5, 6, 7}, m.Rows[2])},
		{1, math.MaxUint64, of(m.Rows[0], vec.Vec{5, 6, 7}, m.Rows[2])},
		{1, 8, m},
		{1, 1 << 63, m},
		{1, 1<<63 | 10, of(m.Rows[0], vec.Vec{4, 6, 6}, m.Rows[2])},
		{2, 1, of(m.Rows[0], m.Rows[1], vec.Vec{8, 8, math.MaxUint64})},
		{2, 4, m},
		{2, 7, of(m.Rows[0], m.Rows[1], vec.Vec{8, 9, math.MaxUint64})},
		{3, 7, m},
		{-1, 7, m},
	} {
		if u := Up(m, r.i, r.to); !same(u, r.want) {
			t.Errorf("P16.1: Up(%v, %d, %s): %v, want %v", m, r.i, dset.Show(r.to), u, r.want)
		}
	}
}

// TestUpEach goes up in each row of each size: to nobody, to each one alone, to all but one, to all, and to many sets.
func TestUpEach(t *testing.T) {
	for n := 1; n <= 16; n++ {
		m := chance(n, n)
		for i := range n {
			ups(t, m, i, 0)
			ups(t, m, i, math.MaxUint64)
			for p := range 64 {
				ups(t, m, i, 1<<p)
				ups(t, m, i, 1<<p-1)
				ups(t, m, i, math.MaxUint64&^(1<<p))
			}
			x := uint64(n*20 + i)
			for range 20 {
				x = x*6364136223846793005 + 1442695040888963407
				ups(t, m, i, dset.Set(x))
				ups(t, m, i, dset.Set(x>>48))
			}
		}
	}
}

// TestUpCounts goes up from counts at their edges: the greatest one stays, and those beside it go up all the same.
func TestUpCounts(t *testing.T) {
	for _, count := range counts() {
		for _, n := range []int{1, 2, 3, 16} {
			for i := range n {
				ups(t, filled(n, count), i, dset.All(n))
				ups(t, with(chance(n, n), i, n-1, count), i, dset.All(n))
				ups(t, with(chance(n, n), i, 0, count), i, dset.All(n))
				ups(t, with(filled(n, math.MaxUint64), i, i, count), i, dset.All(n))
			}
		}
	}
}

// TestUpNone goes up in rows that are none, and in what is not Good.
func TestUpNone(t *testing.T) {
	sets := []dset.Set{0, 1, 3, 0xffff, math.MaxUint64}
	for n := 1; n <= 16; n++ {
		for _, i := range append(far(), n) {
			for _, to := range sets {
				stays(t, chance(n, n), i, to)
			}
		}
	}
	for _, m := range wrong() {
		for _, i := range append(far(), 0, 1, 2, 3, 16) {
			for _, to := range sets {
				stays(t, m, i, to)
			}
		}
	}
}

// TestUpMany counts many, each where it is.
func TestUpMany(t *testing.T) {
	m, _ := New(16)
	want := filled(16, 0)
	x := uint64(1)
	for range 5_000 {
		x = x*6364136223846793005 + 1442695040888963407
		i, to := int(x>>60), dset.Set(x>>20)
		for j := range 16 {
			want.Rows[i][j] += uint64(to >> j & 1)
		}
		u := Up(m, i, to)
		if !Within(m, u) || Within(u, m) != (to&0xffff == 0) {
			t.Fatalf("P16.1: Up(%v, %d, %b): %v", m, i, to, u)
		}
		m = u
	}
	if !same(m, want) {
		t.Errorf("P16.1: many Ups: %v, want %v", m, want)
	}
}

// TestSharedRows has squares whose rows are one: only that row goes up, and what is told has rows of their own.
func TestSharedRows(t *testing.T) {
	row := vec.Vec{1, 2, 3}
	m := of(row, row, row)
	u := Up(m, 1, 7)
	if !same(u, of(vec.Vec{1, 2, 3}, vec.Vec{2, 3, 4}, vec.Vec{1, 2, 3})) || !slices.Equal(row, vec.Vec{1, 2, 3}) {
		t.Errorf("P16.1: Up of rows that are one: %v, %v", u, m)
	}
	for name, a := range map[string]Mat{"of no row": Up(m, 3, 7), "of row 0": Up(m, 0, 0), "of what is not Good": Up(Mat{N: 4, Rows: m.Rows}, 0, 1)} {
		spoilRow(a.Rows[0])
		if !slices.Equal(a.Rows[1], row) || !slices.Equal(a.Rows[2], row) {
			t.Errorf("R4: Up %s tells rows that share memory", name)
		}
	}
}

// joins holds a Join against a plain reading, both ways round.
func joins(t *testing.T, a, b Mat) {
	t.Helper()
	want := copied(a)
	for i, row := range b.Rows {
		for j, n := range row {
			if n > want.Rows[i][j] {
				want.Rows[i][j] = n
			}
		}
	}
	for _, p := range [][2]Mat{{a, b}, {b, a}} {
		m, err := Join(p[0], p[1])
		if err != api.OK || !same(m, want) || !Good(m) {
			t.Fatalf("P16.1: Join(%v, %v): %v, %v, want %v", p[0], p[1], m, err, want)
		}
		// Of all that both are within, it is the least.
		if !Within(p[0], m) || Within(m, p[0]) != same(m, p[0]) {
			t.Fatalf("P16.1: Within of %v and its Join %v", p[0], m)
		}
	}
}

func TestJoin(t *testing.T) {
	a, b := of(vec.Vec{1, 0}, vec.Vec{5, 2}), of(vec.Vec{0, 1}, vec.Vec{4, 3})
	if m, err := Join(a, b); err != api.OK || !same(m, of(vec.Vec{1, 1}, vec.Vec{5, 3})) {
		t.Errorf("P16.1: Join(%v, %v): %v, %v", a, b, m, err)
	}
	for n := 1; n <= 16; n++ {
		for seed := range 30 {
			joins(t, chance(seed, n), chance(seed+1000, n))
		}
		joins(t, chance(n, n), chance(n, n))
		joins(t, chance(n, n), filled(n, 0))
		joins(t, chance(n, n), filled(n, math.MaxUint64))
	}
	for _, a := range small() {
		for _, b := range small() {
			joins(t, a, b)
		}
	}
}

// TestJoinCounts joins counts at their edges, each with each, at each place.
func TestJoinCounts(t *testing.T) {
	for _, k := range counts() {
		for _, n := range counts() {
			for i := range 3 {
				for j := range 3 {
					joins(t, with(chance(1, 3), i, j, k), with(chance(2, 3), i, j, n))
				}
			}
			joins(t, filled(16, k), filled(16, n))
		}
	}
}

// unlike holds two against each other that may not be: an error and nothing beside it, and neither is within the other.
func unlike(t *testing.T, a, b Mat) {
	t.Helper()
	for _, p := range [][2]Mat{{a, b}, {b, a}} {
		m, err := Join(p[0], p[1])
		if err != api.EARG || m.N != 0 || len(m.Rows) != 0 {
			t.Fatalf("P16.1: Join(%v, %v): %v, %v, want EARG alone", p[0], p[1], m, err)
		}
		if Within(p[0], p[1]) {
			t.Fatalf("P16.1: Within(%v, %v): true, want false", p[0], p[1])
		}
	}
}

// TestUnlike has squares of each two sizes, and what is not Good, with itself, with others, and with what is.
func TestUnlike(t *testing.T) {
	for a := 1; a <= 16; a++ {
		for b := range a {
			if b > 0 {
				unlike(t, filled(a, 3), filled(b, 3))
			}
		}
	}
	for _, m := range wrong() {
		unlike(t, m, m)
		for n := 1; n <= 16; n++ {
			unlike(t, m, filled(n, 0))
			unlike(t, m, filled(n, math.MaxUint64))
		}
		for _, o := range wrong() {
			unlike(t, m, o)
		}
	}
}

func TestColumn(t *testing.T) {
	m := of(vec.Vec{1, 2, 3}, vec.Vec{4, 5, 6}, vec.Vec{7, 8, math.MaxUint64})
	for j, want := range []vec.Vec{{1, 4, 7}, {2, 5, 8}, {3, 6, math.MaxUint64}} {
		if c := Column(m, j); !slices.Equal(c, want) {
			t.Errorf("P16.1: Column(%v, %d): %d, want %d", m, j, c, want)
		}
	}
	for n := 1; n <= 16; n++ {
		for seed := range 10 {
			m := chance(seed, n)
			for j := range n {
				var want vec.Vec
				for i := range n {
					want = append(want, m.Rows[i][j])
				}
				if c := Column(m, j); !slices.Equal(c, want) {
					t.Fatalf("P16.1: Column(%v, %d): %d, want %d", m, j, c, want)
				}
			}
		}
	}
}

// TestColumnNone asks for columns that are none, and of what is not Good.
func TestColumnNone(t *testing.T) {
	for n := 1; n <= 16; n++ {
		for _, j := range append(far(), n, n+1) {
			if c := Column(filled(n, 3), j); len(c) != 0 {
				t.Errorf("P16.1: Column of %d by %d, %d: %d, want nothing", n, n, j, c)
			}
		}
	}
	for name, m := range wrong() {
		for _, j := range append(far(), 0, 1, 2, 3, 15, 16) {
			if c := Column(m, j); len(c) != 0 {
				t.Errorf("P16.1: Column of %s, %d: %d, want nothing", name, j, c)
			}
		}
	}
}

// compares tells whether Within is as it must be, both ways round.
func compares(t *testing.T, a, b Mat, below, above bool) {
	t.Helper()
	if w := Within(a, b); w != below {
		t.Fatalf("P16.1: Within(%v, %v): %v, want %v", a, b, w, below)
	}
	if w := Within(b, a); w != above {
		t.Fatalf("P16.1: Within(%v, %v): %v, want %v", b, a, w, above)
	}
}

// TestWithinSmall holds all squares of two, with counts of 0 to 2, against each other.
func TestWithinSmall(t *testing.T) {
	for _, a := range small() {
		for _, b := range small() {
			below, above := true, true
			for i := range 2 {
				for j := range 2 {
					below = below && a.Rows[i][j] <= b.Rows[i][j]
					above = above && a.Rows[i][j] >= b.Rows[i][j]
				}
			}
			compares(t, a, b, below, above)
		}
	}
}

// TestWithinEach has squares differ at each one place, and at each two.
func TestWithinEach(t *testing.T) {
	for n := 1; n <= 16; n++ {
		m := chance(n, n)
		compares(t, m, copied(m), true, true)
		compares(t, m, filled(n, math.MaxUint64), true, false)
		compares(t, filled(n, 0), m, true, same(m, filled(n, 0)))
		for k := range n * n {
			i, j := k/n, k%n
			one := with(m, i, j, m.Rows[i][j]+1)
			compares(t, m, one, true, false)
			for l := range k {
				if l > 40 && l < k-40 {
					continue
				}
				other := with(m, l/n, l%n, m.Rows[l/n][l%n]+1)
				compares(t, one, other, false, false)
				compares(t, one, with(other, i, j, m.Rows[i][j]+1), true, false)
			}
		}
	}
}

// TestWithinCounts compares counts at their edges, at each place.
func TestWithinCounts(t *testing.T) {
	for a, k := range counts() {
		for b, n := range counts() {
			for place := range 9 {
				m := filled(3, 7)
				compares(t, with(m, place/3, place%3, k), with(m, place/3, place%3, n), a <= b, a >= b)
			}
		}
	}
}

// TestBehindEnd has rows, and a list of rows, with something in their spare room: that is not there, and is left as it is.
func TestBehindEnd(t *testing.T) {
	room := vec.Vec{1, 2, 8, 9}
	rows := []vec.Vec{room[:2:4], {3, 4}, {5, 6}}
	m := Mat{N: 2, Rows: rows[:2:3]}
	plain := of(vec.Vec{1, 2}, vec.Vec{3, 4})
	if !Good(m) || At(m, 0, 2) != 0 || At(m, 2, 0) != 0 {
		t.Errorf("P16.1: Good, At with spare room: %v, %d, %d", Good(m), At(m, 0, 2), At(m, 2, 0))
	}
	compares(t, m, plain, true, true)
	joins(t, m, plain)
	joins(t, m, filled(2, 3))
	for i := range 2 {
		ups(t, m, i, math.MaxUint64)
		stays(t, m, i, 0)
	}
	stays(t, m, 2, math.MaxUint64)
	if c := Column(m, 2); len(c) != 0 {
		t.Errorf("P16.1: Column in spare room: %d, want nothing", c)
	}
	if !slices.Equal(room, vec.Vec{1, 2, 8, 9}) || !slices.Equal(rows[2], vec.Vec{5, 6}) {
		t.Errorf("R4: spare room is changed: %v, %v", room, rows)
	}
}

// answers gives all squares, and all columns as squares of one row, that the calls tell of two of one N.
func answers(a, b Mat) []Mat {
	made, _ := New(a.N)
	l := []Mat{made, Up(a, 0, 0), Up(a, 0, 1), Up(a, a.N-1, math.MaxUint64), Up(a, -1, 1), Up(b, a.N, 1), Up(b, 1, 3), Up(Mat{N: 9, Rows: a.Rows}, 0, 1)}
	for _, p := range [][2]Mat{{a, b}, {b, a}, {a, a}} {
		m, _ := Join(p[0], p[1])
		l = append(l, m)
	}
	for j := -1; j <= a.N; j++ {
		l = append(l, of(Column(a, j)), of(Column(b, j)))
	}
	return l
}

// roomy gives a square with spare room in each row and behind the last row.
func roomy(seed, n int) Mat {
	m := Mat{N: n, Rows: make([]vec.Vec, 0, n+2)}
	for _, row := range chance(seed, n).Rows {
		m.Rows = append(m.Rows, append(make(vec.Vec, 0, n+3), row...))
	}
	return m
}

// TestAnswersAreNew writes into each row of each answer, spare room too: no argument changes by it, no other row of it, and no other answer.
func TestAnswersAreNew(t *testing.T) {
	a, b := roomy(1, 3), roomy(2, 3)
	all := func(m Mat) string {
		s := ""
		for _, row := range m.Rows[:cap(m.Rows)] {
			s += fmt.Sprint(row[:cap(row)])
		}
		return s
	}
	wantA, wantB := all(a), all(b)
	want := fmt.Sprint(answers(a, b))
	for k, m := range answers(a, b) {
		for i := range m.Rows {
			l := answers(a, b)
			row := l[k].Rows[i]
			kept := slices.Clone(row)
			spoilRow(row)
			l[k].Rows[i] = kept
			if fmt.Sprint(l) != want {
				t.Errorf("R4: row %d of answer %d shares memory with another one", i, k)
			}
		}
		spoil(m)
		if all(a) != wantA || all(b) != wantB {
			t.Fatalf("R4: answer %d shares memory with an argument", k)
		}
	}
	if got := fmt.Sprint(answers(a, b)); got != want {
		t.Errorf("R5: what is told hangs on what was told ahead: %s, want %s", got, want)
	}
}

// TestKeepsNothing writes into the arguments behind each call: what was told stays.
func TestKeepsNothing(t *testing.T) {
	a, b := roomy(3, 4), roomy(4, 4)
	l := answers(a, b)
	want := fmt.Sprint(l)
	spoil(a)
	spoil(b)
	if got := fmt.Sprint(l); got != want {
		t.Errorf("R4: an argument is kept: %s, want %s", got, want)
	}
}

// TestChangesNothing calls all, of what is Good and of what is not: what is handed in stays.
func TestChangesNothing(t *testing.T) {
	list := []Mat{chance(1, 1), chance(2, 2), chance(3, 16)}
	for _, m := range wrong() {
		list = append(list, m)
	}
	for _, a := range list {
		for _, b := range list {
			wantA, wantB := copied(a), copied(b)
			Good(a)
			Join(a, b)
			Within(a, b)
			for _, i := range []int{-1, 0, 1, 2, 16} {
				At(a, i, 0)
				Up(a, i, math.MaxUint64)
				Column(a, i)
			}
			if !same(a, wantA) || !same(b, wantB) {
				t.Fatalf("R4: a call changes what is handed in: %v, %v, want %v, %v", a, b, wantA, wantB)
			}
		}
	}
}
