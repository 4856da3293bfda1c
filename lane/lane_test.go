package lane

import (
	"math"
	"slices"
	"testing"
)

// most is how many can be on their way at once.
const most = 4096

// counts is what Counts tells.
type counts struct{ sent, taken, dropped, doubled int64 }

// told gives what Counts tells.
func told[T any](l *Lane[T]) counts {
	var c counts
	c.sent, c.taken, c.dropped, c.doubled = l.Counts()
	return c
}

// of gives a lane with these, sent one behind the other.
func of[T any](t *testing.T, values ...T) *Lane[T] {
	t.Helper()
	l := New[T]()
	for i, v := range values {
		if !l.Send(v) {
			t.Fatalf("P9.1: Send of number %d: false", i)
		}
	}
	return l
}

// filled gives a lane with 0, 1, 2 and so on, size of them.
func filled(t *testing.T, size int) *Lane[int] {
	t.Helper()
	return of(t, rising(0, size)...)
}

// rising gives size numbers from first on.
func rising(first, size int) []int {
	var l []int
	for i := range size {
		l = append(l, first+i)
	}
	return l
}

// holds tells whether a lane has just these, in this order, and was told just so much.
func holds[T comparable](t *testing.T, name string, l *Lane[T], want []T, c counts) {
	t.Helper()
	if got := l.All(); !slices.Equal(got, want) {
		t.Errorf("P9.1: %s: All: %d of them, beginning with %v; want %d, beginning with %v", name, len(got), got[:min(len(got), 9)], len(want), want[:min(len(want), 9)])
	}
	if l.Len() != len(want) {
		t.Errorf("P9.1: %s: Len: %d, want %d", name, l.Len(), len(want))
	}
	if told(l) != c {
		t.Errorf("P9.1: %s: Counts: %v, want %v", name, told(l), c)
	}
}

// nobody asks each call that has a k of a k that is none.
func nobody[T comparable](t *testing.T, name string, l *Lane[T], k int) {
	t.Helper()
	var none T
	before, c := l.All(), told(l)
	if v, ok := l.Take(k); ok || v != none {
		t.Errorf("P9.1: %s: Take(%d): %v, %v", name, k, v, ok)
	}
	for call, does := range map[string]func(int) bool{"Drop": l.Drop, "Double": l.Double, "Hold": l.Hold} {
		if does(k) {
			t.Errorf("P9.1: %s: %s(%d): true", name, call, k)
		}
	}
	holds(t, name+", asked of none", l, before, c)
}

func TestExample(t *testing.T) {
	l := of(t, "a", "b")
	if !l.Hold(0) {
		t.Errorf("P9.1: Hold(0): false")
	}
	holds(t, "the example", l, []string{"b", "a"}, counts{sent: 2})
}

func TestNew(t *testing.T) {
	l := New[int]()
	holds(t, "a new one", l, nil, counts{})
	nobody(t, "a new one", l, 0)
}

// TestNewApart has two lanes that know nothing of each other.
func TestNewApart(t *testing.T) {
	a, b := of(t, 1, 2), of(t, 3)
	a.Drop(0)
	b.Double(0)
	holds(t, "the first", a, []int{2}, counts{sent: 2, dropped: 1})
	holds(t, "the second", b, []int{3, 3}, counts{sent: 1, doubled: 1})
}

// TestEach does each thing to each place.
func TestEach(t *testing.T) {
	for _, c := range []struct {
		k                int
		gone, held, more []string
	}{
		{0, []string{"b", "c", "d"}, []string{"b", "c", "d", "a"}, []string{"a", "b", "c", "d", "a"}},
		{1, []string{"a", "c", "d"}, []string{"a", "c", "d", "b"}, []string{"a", "b", "c", "d", "b"}},
		{2, []string{"a", "b", "d"}, []string{"a", "b", "d", "c"}, []string{"a", "b", "c", "d", "c"}},
		{3, []string{"a", "b", "c"}, []string{"a", "b", "c", "d"}, []string{"a", "b", "c", "d", "d"}},
	} {
		all := []string{"a", "b", "c", "d"}
		l := of(t, all...)
		if v, ok := l.Take(c.k); !ok || v != all[c.k] {
			t.Errorf("P9.1: Take(%d): %q, %v", c.k, v, ok)
		}
		holds(t, "Take", l, c.gone, counts{sent: 4, taken: 1})
		l = of(t, all...)
		if !l.Drop(c.k) {
			t.Errorf("P9.1: Drop(%d): false", c.k)
		}
		holds(t, "Drop", l, c.gone, counts{sent: 4, dropped: 1})
		l = of(t, all...)
		if !l.Double(c.k) {
			t.Errorf("P9.1: Double(%d): false", c.k)
		}
		holds(t, "Double", l, c.more, counts{sent: 4, doubled: 1})
		l = of(t, all...)
		if !l.Hold(c.k) {
			t.Errorf("P9.1: Hold(%d): false", c.k)
		}
		holds(t, "Hold", l, c.held, counts{sent: 4})
	}
}

// TestNone asks for places that are none, of lanes of each length up to some, and of a full one.
func TestNone(t *testing.T) {
	for _, size := range []int{0, 1, 2, 3, 7, 8, 9, most - 1, most} {
		l := filled(t, size)
		for _, k := range []int{-1, -2, -size, -size - 1, size, size + 1, 2*size + 1, most, 1 << 32, -1 << 32, math.MaxInt, math.MinInt, math.MinInt + 1} {
			if k < 0 || k >= size {
				nobody(t, "places that are none", l, k)
			}
		}
	}
	l := of(t, 7)
	l.Take(0)
	nobody(t, "the only one gone", l, 0)
	l = of(t, 7, 8)
	l.Drop(0)
	nobody(t, "one of two gone", l, 1)
}

// TestZeros sends values that are as none is: they are there all the same.
func TestZeros(t *testing.T) {
	l := of(t, 0, 0)
	if !l.Double(0) || l.Len() != 3 {
		t.Errorf("P9.1: Double of a nought: %d", l.Len())
	}
	if v, ok := l.Take(2); !ok || v != 0 {
		t.Errorf("P9.1: Take of a nought: %d, %v", v, ok)
	}
	holds(t, "noughts", l, []int{0, 0}, counts{sent: 2, taken: 1, doubled: 1})
	e := of(t, struct{}{}, struct{}{})
	if _, ok := e.Take(1); !ok || e.Len() != 1 || len(e.All()) != 1 {
		t.Errorf("P9.1: Take of what has no bytes: %v, %d", ok, e.Len())
	}
	n := of[any](t, nil, 5)
	if v, ok := n.Take(0); !ok || v != nil {
		t.Errorf("P9.1: Take of nil: %v, %v", v, ok)
	}
	holds(t, "nil, and one", n, []any{5}, counts{sent: 2, taken: 1})
}

// TestAsTheyAre has values go through as they are, of other kinds too.
func TestAsTheyAre(t *testing.T) {
	x := &counts{sent: 1}
	p := of(t, x, nil, x)
	p.Hold(0)
	holds(t, "pointers", p, []*counts{nil, x, x}, counts{sent: 3})
	f := of(t, math.NaN(), math.Copysign(0, -1))
	if v, ok := f.Take(1); !ok || math.Float64bits(v) != 1<<63 {
		t.Errorf("P9.1: Take of -0: %v, %v", v, ok)
	}
	if v, ok := f.Take(0); !ok || !math.IsNaN(v) {
		t.Errorf("P9.1: Take of no number: %v, %v", v, ok)
	}
	s := of(t, []byte("some"))
	s.Double(0)
	for range 2 {
		if v, ok := s.Take(0); !ok || string(v) != "some" {
			t.Errorf("P9.1: Take of bytes: %q, %v", v, ok)
		}
	}
	c := of(t, func() int { return 5 })
	if v, ok := c.Take(0); !ok || v() != 5 {
		t.Errorf("P9.1: Take of a function: %v", ok)
	}
}

// TestFull sends as many as can be there, and one more.
func TestFull(t *testing.T) {
	l := filled(t, most)
	all := rising(0, most)
	holds(t, "a full one", l, all, counts{sent: most})
	for range 3 {
		if l.Send(-1) || l.Double(0) || l.Double(most-1) || l.Double(most) {
			t.Errorf("P9.1: one more than %d: true", most)
		}
	}
	holds(t, "a full one, refusing", l, all, counts{sent: most})
	if !l.Hold(0) || !l.Hold(most-1) || !l.Hold(1) {
		t.Errorf("P9.1: Hold in a full one: false")
	}
	all = slices.Concat([]int{1}, rising(3, most-3), []int{0, 2})
	holds(t, "a full one, holding", l, all, counts{sent: most})
	if !l.Drop(5) || !l.Double(0) || l.Double(0) || l.Send(7) {
		t.Errorf("P9.1: room for just one behind a Drop in a full one")
	}
	if v, ok := l.Take(most - 1); !ok || v != 1 || !l.Send(9) || l.Send(9) {
		t.Errorf("P9.1: room for just one behind a Take in a full one: %d, %v", v, ok)
	}
	all = slices.Concat(slices.Delete(all, 5, 6), []int{9})
	holds(t, "a full one, at last", l, all, counts{sent: most + 1, taken: 1, dropped: 1, doubled: 1})
}

// TestFullOfDoubled fills a lane by doubling alone.
func TestFullOfDoubled(t *testing.T) {
	l := of(t, "a")
	for i := range most - 1 {
		if !l.Double(i / 2) {
			t.Fatalf("P9.1: Double, time %d: false", i)
		}
	}
	if l.Double(0) || l.Send("b") {
		t.Errorf("P9.1: one more than %d: true", most)
	}
	holds(t, "doubled", l, slices.Repeat([]string{"a"}, most), counts{sent: 1, doubled: most - 1})
}

// TestMoreThanAtOnce has far more come and go than can be there at once: what is gone takes no room.
func TestMoreThanAtOnce(t *testing.T) {
	l := New[int]()
	for i := range 5 * most {
		if !l.Send(i) {
			t.Fatalf("P9.1: Send of number %d: false", i)
		}
		if i < 9 {
			continue
		}
		if v, ok := l.Take(0); !ok || v != i-9 {
			t.Fatalf("P9.1: Take(0) behind Send of number %d: %d, %v", i, v, ok)
		}
	}
	holds(t, "come and gone", l, rising(5*most-9, 9), counts{sent: 5 * most, taken: 5*most - 9})
}

// bead is one on its way in a chain, the other way of keeping a lane.
type bead struct {
	v    int
	next *bead
}

// chain is a lane of at most so many, kept bead by bead.
type chain struct {
	first *bead
	most  int
	c     counts
}

// at gives where the k-th hangs, or where the next one would: nil of what is none.
func (c *chain) at(k int) **bead {
	where := &c.first
	for i := 0; i != k; i++ {
		if *where == nil {
			return nil
		}
		where = &(*where).next
	}
	return where
}

// size counts them.
func (c *chain) size() int {
	n := 0
	for b := c.first; b != nil; b = b.next {
		n++
	}
	return n
}

// last lays one at the end.
func (c *chain) last(v int) { *c.at(c.size()) = &bead{v: v} }

// out cuts one out.
func (c *chain) out(k int) (int, bool) {
	where := c.at(k)
	if where == nil || *where == nil {
		return 0, false
	}
	v := (*where).v
	*where = (*where).next
	return v, true
}

// all lists them.
func (c *chain) all() []int {
	var l []int
	for b := c.first; b != nil; b = b.next {
		l = append(l, b.v)
	}
	return l
}

// do does one thing to the chain: 0 sends v, 1 to 4 take, drop, double, hold the k-th.
func (c *chain) do(op, k, v int) (int, bool) {
	switch op {
	case 0:
		if c.size() >= c.most {
			return 0, false
		}
		c.last(v)
		c.c.sent++
		return 0, true
	case 1:
		v, ok := c.out(k)
		if ok {
			c.c.taken++
		}
		return v, ok
	case 2:
		_, ok := c.out(k)
		if ok {
			c.c.dropped++
		}
		return 0, ok
	case 3:
		where := c.at(k)
		if where == nil || *where == nil || c.size() >= c.most {
			return 0, false
		}
		c.last((*where).v)
		c.c.doubled++
		return 0, true
	}
	v, ok := c.out(k)
	if ok {
		c.last(v)
	}
	return 0, ok
}

// same does one thing to a lane and to a chain, and holds what they answer against each other.
func same(t *testing.T, l *Lane[int], c *chain, op, k, v int) bool {
	t.Helper()
	want, ok := c.do(op, k, v)
	var got int
	var did bool
	switch op {
	case 0:
		did = l.Send(v)
	case 1:
		got, did = l.Take(k)
	case 2:
		did = l.Drop(k)
	case 3:
		did = l.Double(k)
	case 4:
		did = l.Hold(k)
	}
	if got != want || did != ok {
		t.Fatalf("P9.1: of %d there, op %d, k %d, v %d: %d, %v; want %d, %v", l.Len(), op, k, v, got, did, want, ok)
	}
	return did
}

// TestAllShortRuns does all short runs of things, with places from just below to just past those there.
func TestAllShortRuns(t *testing.T) {
	type step struct{ op, k int }
	steps := []step{{op: 0}}
	for op := 1; op <= 4; op++ {
		for k := -1; k <= 2; k++ {
			steps = append(steps, step{op, k})
		}
	}
	for run := range 17 * 17 * 17 * 17 {
		// Two are there from the beginning, so that no run begins with refusals alone.
		l, c := of(t, 1, 2), &chain{most: most}
		c.do(0, 0, 1)
		c.do(0, 0, 2)
		for i := range 4 {
			s := steps[run%17]
			run /= 17
			same(t, l, c, s.op, s.k, 3+i)
		}
		if !slices.Equal(l.All(), c.all()) || l.Len() != c.size() || told(l) != c.c {
			t.Fatalf("P9.1: run %d: %v, %v; want %v, %v", run, l.All(), told(l), c.all(), c.c)
		}
	}
}

// long does a long run of things, more of those that grow while grows is true, and tells how many were done and refused.
func long(t *testing.T, l *Lane[int], c *chain, steps int, grows func(i int) bool) (done, refused int) {
	t.Helper()
	x := uint32(12345)
	for i := range steps {
		x = x*1664525 + 1013904223
		op := int(x>>16) % 5
		if grows(i) && (op == 1 || op == 2) && x>>31 == 0 {
			op = 0
		}
		k := int(x>>8)%(l.Len()+3) - 1
		if same(t, l, c, op, k, i) {
			done++
		} else {
			refused++
		}
		if i%64 == 0 && (!slices.Equal(l.All(), c.all()) || l.Len() != c.size() || told(l) != c.c) {
			t.Fatalf("P9.1: step %d: %d there, %v; want %d, %v", i, l.Len(), told(l), c.size(), c.c)
		}
	}
	return done, refused
}

func TestLongRun(t *testing.T) {
	l, c := New[int](), &chain{most: most}
	done, refused := long(t, l, c, 20000, func(i int) bool { return i/500%2 == 0 })
	holds(t, "a long run", l, c.all(), c.c)
	if done < 5000 || refused < 30 {
		t.Errorf("P9.1: of a long run %d were done, %d refused", done, refused)
	}
}

// TestLongRunFull does the same near to where no more can be.
func TestLongRunFull(t *testing.T) {
	l, c := filled(t, most-2), &chain{most: most}
	for i := range most - 2 {
		c.first = &bead{v: most - 3 - i, next: c.first}
		c.c.sent++
	}
	done, refused := long(t, l, c, 2000, func(i int) bool { return true })
	holds(t, "a long run near the limit", l, c.all(), c.c)
	if done < 500 || refused < 100 {
		t.Errorf("P9.1: of a long run near the limit %d were done, %d refused", done, refused)
	}
}

// TestAllOfItsOwn tells all in memory of its own, spare room too.
func TestAllOfItsOwn(t *testing.T) {
	l := filled(t, 5)
	l.Take(4)
	a, b := l.All(), l.All()
	spare := a[:cap(a)]
	for i := range spare {
		spare[i] = 99
	}
	if !slices.Equal(b, rising(0, 4)) {
		t.Errorf("R4: two lists share memory: %v", b)
	}
	l.Send(7)
	l.Double(0)
	holds(t, "what All told was changed", l, []int{0, 1, 2, 3, 7, 0}, counts{sent: 6, taken: 1, doubled: 1})
	l.Hold(0)
	l.Drop(0)
	if !slices.Equal(b, rising(0, 4)) {
		t.Errorf("R4: what All told changed: %v", b)
	}
	for l.Drop(0) {
	}
	none := l.All()
	if len(none) != 0 {
		t.Errorf("P9.1: All of none: %v", none)
	}
	spare = none[:cap(none)]
	for i := range spare {
		spare[i] = 99
	}
	l.Send(8)
	holds(t, "what All told of none was changed", l, []int{8}, counts{sent: 7, taken: 1, dropped: 6, doubled: 1})
}

// TestKeepsNothingGone looks behind those that are there: what is gone does not stay.
func TestKeepsNothingGone(t *testing.T) {
	l := New[*int]()
	for range 40 {
		l.Send(new(int))
	}
	l.Hold(3)
	for i := range 20 {
		l.Take(i % 3)
		l.Drop(i % 2)
	}
	if l.Len() > 2 {
		t.Errorf("P9.1: of 40 %d are left", l.Len())
	}
	for i, v := range l.there[l.Len():cap(l.there)] {
		if v != nil {
			t.Errorf("P9.1: what is gone is kept, %d behind the last", i)
		}
	}
}
