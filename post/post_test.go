package post

import (
	"go/ast"
	"go/parser"
	"go/token"
	"math"
	"slices"
	"testing"

	"shoal/api"
)

// The most boxes, and the most room in each.
const (
	mostBoxes = 16
	mostRoom  = 64
)

// far are numbers far from each box.
func far() []int {
	return []int{1 << 16, 1<<16 + 1, 1 << 32, 1<<32 + 1, math.MaxInt, -1 << 16, -1 << 32, math.MinInt + 1, math.MinInt}
}

// made gives boxes, all empty.
func made[T any](t *testing.T, boxes, room int) *Post[T] {
	t.Helper()
	p, e := New[T](boxes, room)
	if e != api.OK || p == nil {
		t.Fatalf("P10.1: New(%d, %d): %v, error %d", boxes, room, p, e)
	}
	return p
}

// puts puts these into a box, one behind the other.
func puts[T any](t *testing.T, p *Post[T], box int, values ...T) {
	t.Helper()
	for i, v := range values {
		if !p.Put(box, v) {
			t.Fatalf("P10.1: Put(%d, ..), number %d: false", box, i)
		}
	}
}

// gets takes all out of a box, and tells whether they are these.
func gets[T comparable](t *testing.T, p *Post[T], box int, want ...T) {
	t.Helper()
	for i, w := range want {
		if p.Len(box) != len(want)-i {
			t.Errorf("P10.1: Len(%d): %d, want %d", box, p.Len(box), len(want)-i)
		}
		if v, ok := p.Get(box); !ok || v != w {
			t.Errorf("P10.1: Get(%d), number %d: %v, %v; want %v", box, i, v, ok, w)
		}
	}
	nothing(t, p, box)
}

// nothing tells whether a box has nothing: it may be none.
func nothing[T comparable](t *testing.T, p *Post[T], box int) {
	t.Helper()
	var none T
	if p.Len(box) != 0 {
		t.Errorf("P10.1: Len(%d): %d, want 0", box, p.Len(box))
	}
	if v, ok := p.Get(box); ok || v != none {
		t.Errorf("P10.1: Get(%d) of nothing: %v, %v", box, v, ok)
	}
	if b, v, ok := p.Either(box, box); ok || b != 0 || v != none {
		t.Errorf("P10.1: Either(%d, %d) of nothing: %d, %v, %v", box, box, b, v, ok)
	}
}

// anyIs asks Any.
func anyIs[T comparable](t *testing.T, p *Post[T], box int, want T, has bool) {
	t.Helper()
	if b, v, ok := p.Any(); b != box || v != want || ok != has {
		t.Errorf("P10.1: Any: %d, %v, %v; want %d, %v, %v", b, v, ok, box, want, has)
	}
}

// eitherIs asks Either.
func eitherIs[T comparable](t *testing.T, p *Post[T], a, b, box int, want T, has bool) {
	t.Helper()
	if got, v, ok := p.Either(a, b); got != box || v != want || ok != has {
		t.Errorf("P10.1: Either(%d, %d): %d, %v, %v; want %d, %v, %v", a, b, got, v, ok, box, want, has)
	}
}

func TestExample(t *testing.T) {
	p := made[string](t, 2, 1)
	puts(t, p, 1, "x")
	anyIs(t, p, 1, "x", true)
	anyIs(t, p, 0, "", false)
}

// TestNew asks for each number of boxes and each room, those that may be and those that may not.
func TestNew(t *testing.T) {
	for boxes := -2; boxes <= mostRoom+2; boxes++ {
		for room := -2; room <= mostRoom+2; room++ {
			may := boxes >= 1 && boxes <= mostBoxes && room >= 1 && room <= mostRoom
			p, e := New[int](boxes, room)
			if may && (p == nil || e != api.OK) || !may && (p != nil || e != api.EARG) {
				t.Errorf("P10.1: New(%d, %d): %v, error %d", boxes, room, p, e)
			}
		}
	}
	for _, n := range far() {
		for _, c := range [][2]int{{n, 1}, {n, n}, {1, n}} {
			if p, e := New[int](c[0], c[1]); p != nil || e != api.EARG {
				t.Errorf("P10.1: New(%d, %d): %v, error %d", c[0], c[1], p, e)
			}
		}
	}
}

// TestRoom fills each box of each size, and one more.
func TestRoom(t *testing.T) {
	for boxes := 1; boxes <= mostBoxes; boxes++ {
		for _, room := range []int{1, 2, 3, mostRoom - 1, mostRoom} {
			full(t, boxes, room)
		}
	}
}

// full fills all boxes, has one more refused by each, makes room for one in each, and takes all out.
func full(t *testing.T, boxes, room int) {
	t.Helper()
	p := made[int](t, boxes, room)
	for i := range boxes * room {
		box := i % boxes
		if p.Len(box) != i/boxes || !p.Put(box, i) {
			t.Fatalf("P10.1: %d boxes, room for %d: Put(%d, ..) to %d others: false", boxes, room, box, p.Len(box))
		}
	}
	for box := range boxes {
		if p.Put(box, -1) || p.Put(box, -2) || p.Len(box) != room {
			t.Errorf("P10.1: room for %d: one more in box %d: true", room, box)
		}
		if v, ok := p.Get(box); !ok || v != box {
			t.Errorf("P10.1: Get(%d) of a full one: %d, %v", box, v, ok)
		}
		if !p.Put(box, -3-box) || p.Put(box, -4) || p.Len(box) != room {
			t.Errorf("P10.1: room for just one in box %d behind Get", box)
		}
	}
	for box := range boxes {
		var want []int
		for i := 1; i < room; i++ {
			want = append(want, i*boxes+box)
		}
		gets(t, p, box, append(want, -3-box)...)
	}
}

// TestNone asks for boxes that are none, where all others are empty, have one, or are full.
func TestNone(t *testing.T) {
	for _, boxes := range []int{1, 2, 3, mostBoxes - 1, mostBoxes} {
		p := made[int](t, boxes, 2)
		for range 3 {
			for _, box := range append(far(), -1, -2, -boxes, boxes, boxes+1, 2*boxes, mostRoom) {
				if p.Put(box, 9) {
					t.Errorf("P10.1: of %d, Put(%d, 9): true", boxes, box)
				}
				nothing(t, p, box)
				eitherIs(t, p, box, boxes, 0, 0, false)
				eitherIs(t, p, -1, box, 0, 0, false)
			}
			for box := range boxes {
				p.Put(box, 7)
			}
		}
		for box := range boxes {
			gets(t, p, box, 7, 7)
		}
	}
}

// TestAny takes all by Any, from the least box on, each in its order.
func TestAny(t *testing.T) {
	p := made[string](t, 4, 3)
	anyIs(t, p, 0, "", false)
	puts(t, p, 3, "d")
	puts(t, p, 1, "b", "bb")
	puts(t, p, 2, "c")
	anyIs(t, p, 1, "b", true)
	puts(t, p, 1, "bbb")
	anyIs(t, p, 1, "bb", true)
	puts(t, p, 0, "a")
	anyIs(t, p, 0, "a", true)
	anyIs(t, p, 1, "bbb", true)
	anyIs(t, p, 2, "c", true)
	anyIs(t, p, 3, "d", true)
	anyIs(t, p, 0, "", false)
}

// TestAnyEach has each set of boxes that have one.
func TestAnyEach(t *testing.T) {
	p := made[int](t, 8, 1)
	for set := range 1 << 8 {
		for box := 7; box >= 0; box-- {
			if set>>box&1 == 1 {
				puts(t, p, box, 100*set+box)
			}
		}
		for box := range 8 {
			if set>>box&1 == 1 {
				anyIs(t, p, box, 100*set+box, true)
			}
		}
		anyIs(t, p, 0, 0, false)
	}
}

// TestEither asks each two boxes, and what are none beside them. It asks often: what has two to take of must take the same each time.
func TestEither(t *testing.T) {
	const boxes = 3
	for a := -2; a <= boxes+1; a++ {
		for b := -2; b <= boxes+1; b++ {
			for set := range 1 << boxes {
				for range 20 {
					either(t, boxes, a, b, set)
				}
			}
		}
	}
}

// either asks Either of boxes of which a set have one each.
func either(t *testing.T, boxes, a, b, set int) {
	t.Helper()
	p := made[int](t, boxes, 2)
	has := func(box int) bool { return box >= 0 && box < boxes && set>>box&1 == 1 }
	left := set
	for box := range boxes {
		if has(box) {
			puts(t, p, box, 5+box)
		}
	}
	switch {
	case has(a):
		eitherIs(t, p, a, b, a, 5+a, true)
		left &^= 1 << a
	case has(b):
		eitherIs(t, p, a, b, b, 5+b, true)
		left &^= 1 << b
	default:
		eitherIs(t, p, a, b, 0, 0, false)
	}
	for box := range boxes {
		if left>>box&1 == 1 {
			gets(t, p, box, 5+box)
		} else {
			nothing(t, p, box)
		}
	}
}

// TestEitherInTurn takes all of the one ahead of those of the other, though it is the greater.
func TestEitherInTurn(t *testing.T) {
	p := made[string](t, 2, 3)
	puts(t, p, 0, "a", "aa", "aaa")
	puts(t, p, 1, "b", "bb")
	eitherIs(t, p, 1, 0, 1, "b", true)
	eitherIs(t, p, 1, 0, 1, "bb", true)
	eitherIs(t, p, 1, 0, 0, "a", true)
	puts(t, p, 1, "bbb")
	eitherIs(t, p, 1, 0, 1, "bbb", true)
	eitherIs(t, p, 0, 0, 0, "aa", true)
	eitherIs(t, p, -1, 0, 0, "aaa", true)
	eitherIs(t, p, 1, 0, 0, "", false)
}

// TestApart has two that know nothing of each other.
func TestApart(t *testing.T) {
	a, b := made[int](t, 1, 1), made[int](t, 1, 2)
	puts(t, a, 0, 1)
	nothing(t, b, 0)
	puts(t, b, 0, 2, 3)
	gets(t, a, 0, 1)
	gets(t, b, 0, 2, 3)
}

// TestZeros puts values that are as none is: they are there all the same.
func TestZeros(t *testing.T) {
	n := made[int](t, 2, 3)
	puts(t, n, 0, 0, 0, 0)
	puts(t, n, 1, 0)
	anyIs(t, n, 0, 0, true)
	eitherIs(t, n, 1, 0, 1, 0, true)
	gets(t, n, 0, 0, 0)
	e := made[struct{}](t, 1, 1)
	puts(t, e, 0, struct{}{})
	if e.Put(0, struct{}{}) {
		t.Errorf("P10.1: Put of one more that has no bytes: true")
	}
	gets(t, e, 0, struct{}{})
	x := made[any](t, 1, 2)
	puts[any](t, x, 0, nil, 5)
	gets[any](t, x, 0, nil, 5)
}

// TestAsTheyAre has values go through as they are, of other kinds too.
func TestAsTheyAre(t *testing.T) {
	one, other := 1, 1
	p := made[*int](t, 1, 4)
	puts(t, p, 0, &one, nil, &other, &one)
	gets(t, p, 0, &one, nil, &other, &one)
	f := made[float64](t, 1, 2)
	puts(t, f, 0, math.NaN(), math.Copysign(0, -1))
	if v, ok := f.Get(0); !ok || !math.IsNaN(v) {
		t.Errorf("P10.1: Get of no number: %v, %v", v, ok)
	}
	if v, ok := f.Get(0); !ok || math.Float64bits(v) != 1<<63 {
		t.Errorf("P10.1: Get of -0: %v, %v", v, ok)
	}
	b := made[[]byte](t, 1, 1)
	puts(t, b, 0, []byte("some"))
	if v, ok := b.Get(0); !ok || string(v) != "some" {
		t.Errorf("P10.1: Get of bytes: %q, %v", v, ok)
	}
	c := made[func() int](t, 1, 1)
	puts(t, c, 0, func() int { return 5 })
	if v, ok := c.Get(0); !ok || v() != 5 {
		t.Errorf("P10.1: Get of a function: %v", ok)
	}
	d := made[chan int](t, 1, 1)
	puts(t, d, 0, nil)
	gets(t, d, 0, nil)
}

// TestGreatValues has values greater than a channel takes.
func TestGreatValues(t *testing.T) {
	type great [1 << 16]byte
	p := made[great](t, mostBoxes, mostRoom)
	var v great
	v[0], v[1<<16-1] = 1, 2
	puts(t, p, 1, v, great{}, v)
	v[0] = 3
	if got, ok := p.Get(1); !ok || got[0] != 1 || got[1<<16-1] != 2 {
		t.Errorf("P10.1: Get of a great one: %d, %d, %v", got[0], got[1<<16-1], ok)
	}
	if got, ok := p.Get(1); !ok || got != (great{}) {
		t.Errorf("P10.1: Get of great noughts: %v", ok)
	}
	if box, got, ok := p.Any(); box != 1 || !ok || got[0] != 1 {
		t.Errorf("P10.1: Any of a great one: %d, %v", box, ok)
	}
}

// TestMoreThanRoom has far more come and go than there is room for: what is gone takes none.
func TestMoreThanRoom(t *testing.T) {
	p := made[int](t, 1, mostRoom)
	puts(t, p, 0, -5, -4, -3, -2, -1)
	for i := range 100 * mostRoom {
		puts(t, p, 0, i)
		if v, ok := p.Get(0); !ok || v != i-5 {
			t.Fatalf("P10.1: Get behind Put of %d: %d, %v", i, v, ok)
		}
	}
	if p.Len(0) != 5 {
		t.Errorf("P10.1: Len(0): %d, want 5", p.Len(0))
	}
}

// lists is the other way of keeping boxes: a list each.
type lists struct {
	boxes [][]int
	room  int
}

// is tells whether there is such a box.
func (l *lists) is(box int) bool { return box >= 0 && box < len(l.boxes) }

// put puts one in.
func (l *lists) put(box, v int) bool {
	if !l.is(box) || len(l.boxes[box]) == l.room {
		return false
	}
	l.boxes[box] = append(l.boxes[box], v)
	return true
}

// get takes the first out of the first of these boxes that has one.
func (l *lists) get(boxes ...int) (int, int, bool) {
	for _, box := range boxes {
		if l.is(box) && len(l.boxes[box]) > 0 {
			v := l.boxes[box][0]
			l.boxes[box] = l.boxes[box][1:]
			return box, v, true
		}
	}
	return 0, 0, false
}

// size counts what a box has.
func (l *lists) size(box int) int {
	if !l.is(box) {
		return 0
	}
	return len(l.boxes[box])
}

// step is one call: 0 puts, 1 to 3 are Get, Any, Either.
type step struct{ op, a, b int }

// same does one step to a post and to lists, and holds what they answer against each other.
func same(t *testing.T, p *Post[int], l *lists, s step, v int) {
	t.Helper()
	var box, got, wantBox, want int
	var ok, wantOK bool
	switch s.op {
	case 0:
		ok, wantOK = p.Put(s.a, v), l.put(s.a, v)
	case 1:
		got, ok = p.Get(s.a)
		_, want, wantOK = l.get(s.a)
	case 2:
		var all []int
		for k := range l.boxes {
			all = append(all, k)
		}
		box, got, ok = p.Any()
		wantBox, want, wantOK = l.get(all...)
	case 3:
		box, got, ok = p.Either(s.a, s.b)
		wantBox, want, wantOK = l.get(s.a, s.b)
	}
	if box != wantBox || got != want || ok != wantOK {
		t.Fatalf("P10.1: %v: %d, %d, %v; want %d, %d, %v", s, box, got, ok, wantBox, want, wantOK)
	}
	for k := -1; k <= len(l.boxes); k++ {
		if p.Len(k) != l.size(k) {
			t.Fatalf("P10.1: behind %v: Len(%d): %d, want %d", s, k, p.Len(k), l.size(k))
		}
	}
}

// all lists all steps with boxes from just below to just past those there.
func all(boxes int) []step {
	steps := []step{{op: 2}}
	for a := -1; a <= boxes; a++ {
		steps = append(steps, step{op: 0, a: a}, step{op: 1, a: a})
		for b := -1; b <= boxes; b++ {
			steps = append(steps, step{3, a, b})
		}
	}
	return steps
}

// TestAllShortRuns does all short runs of steps to two boxes with room for one each, from each beginning.
func TestAllShortRuns(t *testing.T) {
	steps := all(2)
	n := len(steps)
	for run := range n * n * n {
		for begin := range 4 {
			p, l := made[int](t, 2, 1), &lists{boxes: make([][]int, 2), room: 1}
			for box := range 2 {
				if begin>>box&1 == 1 {
					same(t, p, l, step{a: box}, box)
				}
			}
			for i, k := range []int{run % n, run / n % n, run / n / n} {
				same(t, p, l, steps[k], 5+i)
			}
		}
	}
}

// TestLongRuns does long runs, of which some fill the boxes and some empty them.
func TestLongRuns(t *testing.T) {
	x := uint32(12345)
	for _, c := range [][2]int{{1, 1}, {1, mostRoom}, {3, 2}, {4, 5}, {mostBoxes, 3}, {mostBoxes, mostRoom}} {
		boxes, room := c[0], c[1]
		p, l := made[int](t, boxes, room), &lists{boxes: make([][]int, boxes), room: room}
		next := func(n int) int {
			x = x*1664525 + 1013904223
			return int(x>>8) % n
		}
		for i := range 20000 {
			s := step{next(4), next(boxes+2) - 1, next(boxes+2) - 1}
			if i/5000%2 == 0 && next(2) == 0 {
				s.op = 0
			}
			same(t, p, l, s, i)
		}
	}
}

// TestWays reads the program: Put, Get and Either have a select, and each select has one channel and a default, so that it neither waits nor chooses.
func TestWays(t *testing.T) {
	file, err := parser.ParseFile(token.NewFileSet(), "post.go", nil, 0)
	if err != nil {
		t.Fatal(err)
	}
	selects := map[string]int{}
	for _, d := range file.Decls {
		f, ok := d.(*ast.FuncDecl)
		if !ok {
			continue
		}
		ast.Inspect(f, func(n ast.Node) bool {
			if s, ok := n.(*ast.SelectStmt); ok {
				selects[f.Name.Name]++
				other := slices.ContainsFunc(s.Body.List, func(c ast.Stmt) bool { return c.(*ast.CommClause).Comm == nil })
				if len(s.Body.List) != 2 || !other {
					t.Errorf("Ways: a select of %s has %d ways, with a default: %v", f.Name.Name, len(s.Body.List), other)
				}
			}
			return true
		})
	}
	for _, name := range []string{"Put", "Get", "Either"} {
		if selects[name] == 0 {
			t.Errorf("Ways: %s has no select", name)
		}
	}
	var boxes []chan *int = made[int](t, 2, 3).boxes
	if len(boxes) != 2 || cap(boxes[0]) != 3 || cap(boxes[1]) != 3 {
		t.Errorf("Ways: the boxes are channels of other room: %d", len(boxes))
	}
}
