package dock

import (
	"bytes"
	"fmt"
	"math"
	"slices"
	"testing"

	"shoal/api"
)

// The most that a window can be.
const mostWindow = 16

// is tells whether a dock is so. It asks twice: to ask changes nothing.
func is(t *testing.T, name string, d *Dock, next uint64, held ...uint64) {
	t.Helper()
	for range 2 {
		if n, h := d.Next(), d.Held(); n != next || !slices.Equal(h, held) {
			t.Fatalf("P13.1: %s: Next %d, Held %d, want %d, %d", name, n, h, next, held)
		}
	}
}

// body gives the body that most tests have for a number.
func body(num uint64) []byte { return fmt.Append(nil, "b", num) }

// bodies gives those from one number up to another one.
func bodies(from, to uint64) [][]byte {
	var l [][]byte
	for n := from; n <= to; n++ {
		l = append(l, body(n))
	}
	return l
}

// alike tells whether two lists of bodies are the same.
func alike(a, b [][]byte) bool { return slices.EqualFunc(a, b, bytes.Equal) }

// made gives a new one.
func made(t *testing.T, window int) *Dock {
	t.Helper()
	d, e := New(window)
	if e != api.OK || d == nil {
		t.Fatalf("P13.1: New(%d): %v, error %d", window, d, e)
	}
	return d
}

// takes takes numbers that are new, none of which may go on yet.
func takes(t *testing.T, d *Dock, nums ...uint64) {
	t.Helper()
	for _, n := range nums {
		if l, fresh := d.Take(n, body(n)); len(l) > 0 || !fresh {
			t.Fatalf("P13.1: Take(%d): %q, %v, want nothing, true", n, l, fresh)
		}
	}
}

// goes takes one that is new: it goes on with all up to another one.
func goes(t *testing.T, d *Dock, num, to uint64) {
	t.Helper()
	if l, fresh := d.Take(num, body(num)); !alike(l, bodies(num, to)) || !fresh {
		t.Fatalf("P13.1: Take(%d): %q, %v, want %q, true", num, l, fresh, bodies(num, to))
	}
	if d.Next() != to+1 {
		t.Fatalf("P13.1: Take(%d): Next %d, want %d", num, d.Next(), to+1)
	}
}

// refused takes one that is not new: nothing goes on, and nothing changes.
func refused(t *testing.T, d *Dock, num uint64) {
	t.Helper()
	next, held := d.Next(), d.Held()
	if l, fresh := d.Take(num, []byte("no")); len(l) > 0 || fresh {
		t.Fatalf("P13.1: Take(%d) at Next %d, Held %d: %q, %v, want nothing, false", num, next, held, l, fresh)
	}
	is(t, "Take of what is not new", d, next, held...)
}

// gone gives one that so many went through already.
func gone(t *testing.T, window int, n uint64) *Dock {
	t.Helper()
	d := made(t, window)
	for num := uint64(1); num <= n; num++ {
		goes(t, d, num, num)
	}
	return d
}

func TestExample(t *testing.T) {
	d := made(t, 2)
	takes(t, d, 2)
	goes(t, d, 1, 2)
	is(t, "behind it", d, 3)
}

// TestNew asks for each window, those that may be and those that may not.
func TestNew(t *testing.T) {
	all := []int{100, 1 << 8, 1<<8 + 1, 1 << 16, 1<<16 + 2, 1 << 32, 1<<32 + 2, math.MaxInt, -1 << 16, -1 << 32, 2 - 1<<32, math.MinInt + 2, math.MinInt}
	for window := -20; window <= mostWindow+20; window++ {
		all = append(all, window)
	}
	for _, window := range all {
		may := window >= 1 && window <= mostWindow
		d, e := New(window)
		if !may && (d != nil || e != api.EARG) || may && (d == nil || e != api.OK) {
			t.Fatalf("P13.1: New(%d): %v, error %d", window, d, e)
		}
		if may {
			is(t, "New", d, 1)
		}
	}
}

// TestInOrder takes all in their order: each goes on at once.
func TestInOrder(t *testing.T) {
	for window := 1; window <= mostWindow; window++ {
		d := made(t, window)
		for n := uint64(1); n <= 50; n++ {
			goes(t, d, n, n)
			is(t, "in order", d, n+1)
		}
	}
}

// TestBackward takes a whole window from its end on, and again: all of it goes on with the last one.
func TestBackward(t *testing.T) {
	for window := uint64(1); window <= mostWindow; window++ {
		d := made(t, int(window))
		for first := uint64(1); first < 100; first += window {
			var held []uint64
			for n := first + window - 1; n > first; n-- {
				takes(t, d, n)
				held = slices.Insert(held, 0, n)
				is(t, "backward", d, first, held...)
			}
			goes(t, d, first, first+window-1)
			is(t, "behind the last one", d, first+window)
		}
	}
}

// TestHoles has holes: what stands behind one stays held until that one comes.
func TestHoles(t *testing.T) {
	d := made(t, 8)
	takes(t, d, 7, 2, 5, 4)
	is(t, "four are held", d, 1, 2, 4, 5, 7)
	goes(t, d, 1, 2)
	is(t, "up to the first hole", d, 3, 4, 5, 7)
	takes(t, d, 10, 8)
	goes(t, d, 3, 5)
	is(t, "up to the second hole", d, 6, 7, 8, 10)
	goes(t, d, 6, 8)
	is(t, "up to the third hole", d, 9, 10)
	goes(t, d, 9, 10)
	is(t, "no hole", d, 11)
}

// TestOneHole fills a window but for one: all behind it goes on with it, and no sooner.
func TestOneHole(t *testing.T) {
	const before = 5
	for window := uint64(1); window <= mostWindow; window++ {
		for hole := uint64(1); hole <= window; hole++ {
			d := gone(t, int(window), before)
			for n := uint64(before + 1); n < before+hole; n++ {
				goes(t, d, n, n)
			}
			var held []uint64
			for n := before + hole + 1; n <= before+window; n++ {
				takes(t, d, n)
				held = append(held, n)
			}
			is(t, "one hole", d, before+hole, held...)
			goes(t, d, before+hole, before+window)
			is(t, "no hole", d, before+window+1)
		}
	}
}

// TestEdges takes each number below, in and above each window, at each Next: those in it are new, and no others.
func TestEdges(t *testing.T) {
	for window := uint64(1); window <= mostWindow; window++ {
		for before := range uint64(20) {
			next := before + 1
			for n := range next + window + 20 {
				d := gone(t, int(window), before)
				switch {
				case n < next || n > next+window-1:
					refused(t, d, n)
				case n == next:
					goes(t, d, n, n)
					is(t, "the next one", d, next+1)
				default:
					takes(t, d, n)
					is(t, "one ahead of its order", d, next, n)
				}
			}
		}
	}
}

// TestEdgeMoves has the window's end move with Next, by as many as went on, and not by what is held.
func TestEdgeMoves(t *testing.T) {
	d := made(t, 3)
	refused(t, d, 4)
	takes(t, d, 3)
	refused(t, d, 4)
	takes(t, d, 2)
	refused(t, d, 4)
	goes(t, d, 1, 3)
	refused(t, d, 7)
	takes(t, d, 6)
	refused(t, d, 7)
	goes(t, d, 4, 4)
	takes(t, d, 7)
	refused(t, d, 8)
	is(t, "the end", d, 5, 6, 7)
}

// TestFar takes numbers far from all windows.
func TestFar(t *testing.T) {
	far := []uint64{0, 1 << 8, 1<<8 + 1, 1<<16 + 1, 1 << 32, 1<<32 + 1, 1<<32 + 5, math.MaxInt64, 1 << 63, 1<<63 + 1, 1<<63 + 5}
	for n := range uint64(40) {
		far = append(far, math.MaxUint64-n)
	}
	for _, window := range []int{1, 2, 7, mostWindow} {
		for _, before := range []uint64{0, 1, 4, 30} {
			d := gone(t, window, before)
			for _, n := range far {
				refused(t, d, n)
			}
			is(t, "far", d, before+1)
			goes(t, d, before+1, before+1)
		}
	}
}

// TestTwice takes what is held, and what went on, once more, with other bytes: it is not new, and the first bytes count.
func TestTwice(t *testing.T) {
	d := made(t, 4)
	takes(t, d, 3, 2)
	for _, n := range []uint64{2, 3, 2} {
		refused(t, d, n)
	}
	is(t, "what is held came again", d, 1, 2, 3)
	goes(t, d, 1, 3)
	for _, n := range []uint64{3, 2, 1, 0} {
		refused(t, d, n)
	}
	takes(t, d, 6)
	refused(t, d, 6)
	refused(t, d, 3)
	goes(t, d, 4, 4)
	refused(t, d, 6)
	goes(t, d, 5, 6)
	refused(t, d, 5)
	refused(t, d, 6)
	is(t, "all came again", d, 7)
}

// TestAllOrders takes a whole window in each order, each number twice over.
func TestAllOrders(t *testing.T) {
	const window = 6
	var order func(left []uint64, so []uint64)
	order = func(left []uint64, so []uint64) {
		if len(left) == 0 {
			d, k := made(t, window), newBook(window)
			for _, n := range so {
				both(t, d, k, n, body(n))
				both(t, d, k, n, []byte("again"))
			}
			is(t, "all came", d, window+1)
			return
		}
		for i := range left {
			order(slices.Delete(slices.Clone(left), i, i+1), append(slices.Clone(so), left[i]))
		}
	}
	order([]uint64{1, 2, 3, 4, 5, 6}, nil)
}

// TestBodies takes bytes of all kinds: none, all, many, and the same twice; in order, and backward.
func TestBodies(t *testing.T) {
	all := make([]byte, 256)
	for i := range all {
		all[i] = byte(i)
	}
	want := [][]byte{nil, {}, {0}, all, bytes.Repeat(all, 4096), all, nil}
	d := made(t, len(want))
	for i, b := range want {
		if l, fresh := d.Take(uint64(i)+1, b); !fresh || !alike(l, want[i:i+1]) {
			t.Fatalf("P13.1: Take of body %d: %d go on, %v", i, len(l), fresh)
		}
	}
	d = made(t, len(want))
	for i := len(want) - 1; i > 0; i-- {
		if l, fresh := d.Take(uint64(i)+1, want[i]); !fresh || len(l) > 0 {
			t.Fatalf("P13.1: Take of body %d ahead of its order: %d go on, %v", i, len(l), fresh)
		}
		refused(t, d, uint64(i)+1)
	}
	if l, fresh := d.Take(1, want[0]); !fresh || !alike(l, want) {
		t.Fatalf("P13.1: Take of all bodies: %d go on, %v", len(l), fresh)
	}
}

// TestApart has two that know nothing of each other.
func TestApart(t *testing.T) {
	a, b := made(t, 2), made(t, 3)
	takes(t, a, 2)
	is(t, "the other", b, 1)
	takes(t, b, 3)
	is(t, "the one", a, 1, 2)
	goes(t, a, 1, 2)
	is(t, "the other", b, 1, 3)
	takes(t, a, 4)
	refused(t, a, 5)
	takes(t, b, 2)
	goes(t, b, 1, 3)
	is(t, "the one", a, 3, 4)
}

// blot writes into all bytes, spare room too.
func blot(b []byte) {
	b = b[:cap(b)]
	for i := range b {
		b[i] = '!'
	}
}

// spoil writes into all of a list of bodies, spare room too.
func spoil(l [][]byte) {
	l = l[:cap(l)]
	for i := range l {
		blot(l[i])
		l[i] = []byte("spoilt")
	}
}

// TestTakeKeepsNothing leaves what is handed in as it is, spare room too, and keeps nothing of it.
func TestTakeKeepsNothing(t *testing.T) {
	d := made(t, 3)
	room := []byte("body and room")
	before := slices.Clone(room)
	var last [][]byte
	for _, num := range []uint64{3, 2, 2, 9, 1} {
		l, _ := d.Take(num, room[:4])
		if !bytes.Equal(room, before) {
			t.Fatalf("R4: Take(%d): %q", num, room)
		}
		last = l
	}
	for i := range room {
		room[i] = '#'
	}
	if !alike(last, [][]byte{before[:4], before[:4], before[:4]}) {
		t.Fatalf("R4: what goes on shares memory with an argument: %q", last)
	}
	spoil(last)
	if !bytes.Equal(room, bytes.Repeat([]byte("#"), len(room))) {
		t.Fatalf("R4: an argument shares memory with what goes on: %q", room)
	}
	takes(t, d, 6)
	b := body(5)
	if l, fresh := d.Take(5, b); len(l) > 0 || !fresh {
		t.Fatalf("P13.1: Take(5): %q, %v", l, fresh)
	}
	blot(b)
	goes(t, d, 4, 6)
}

// noted does one run, and notes all that is told in it; where it spoils, it writes into all of that then.
func noted(t *testing.T, spoils bool) []string {
	t.Helper()
	d := made(t, 4)
	var all []string
	for _, n := range []uint64{4, 2, 4, 1, 5, 3, 3, 8, 9, 7, 6, 12, 10, 11} {
		l, fresh := d.Take(n, body(n))
		held := d.Held()
		all = append(all, fmt.Sprintf("%q %v %d %d", l, fresh, d.Next(), held))
		if !spoils {
			continue
		}
		spoil(l)
		for held = held[:cap(held)]; len(held) > 0; held = held[1:] {
			held[0] = 77
		}
	}
	return all
}

// TestAnswersAreNew writes into all that is told: nothing that is kept changes by it.
func TestAnswersAreNew(t *testing.T) {
	if got, want := noted(t, true), noted(t, false); !slices.Equal(got, want) {
		t.Errorf("R4: what is told is not new memory: %q, want %q", got, want)
	}
}

// TestAnswersShareNothing has several bodies in one answer: none shares memory with another one, and no list with the one told ahead of it.
func TestAnswersShareNothing(t *testing.T) {
	d := made(t, 4)
	takes(t, d, 4, 3, 2)
	first := d.Held()
	l, _ := d.Take(1, body(1))
	if !alike(l, bodies(1, 4)) {
		t.Fatalf("P13.1: Take(1): %q", l)
	}
	blot(l[1])
	blot(l[3])
	if string(l[0]) != "b1" || string(l[2]) != "b3" {
		t.Errorf("R4: one body shares memory with another one: %q", l)
	}
	takes(t, d, 8, 7, 6)
	if !slices.Equal(first, []uint64{2, 3, 4}) {
		t.Errorf("R4: Held: what was told changed: %d", first)
	}
	again, _ := d.Take(5, body(5))
	spoil(l)
	if !alike(again, bodies(5, 8)) {
		t.Errorf("R4: one answer shares memory with another one: %q", again)
	}
}

// TestMany has many go by, more than any window has, two and two turned about: their numbers go on, and nothing stays held.
func TestMany(t *testing.T) {
	const many = 1 << 17
	d := made(t, 2)
	for n := uint64(1); n < many; n += 2 {
		if l, fresh := d.Take(n+1, []byte("y")); len(l) > 0 || !fresh {
			t.Fatalf("P13.1: Take(%d): %q, %v", n+1, l, fresh)
		}
		if l, fresh := d.Take(n, []byte("x")); !alike(l, [][]byte{[]byte("x"), []byte("y")}) || !fresh {
			t.Fatalf("P13.1: Take(%d): %q, %v", n, l, fresh)
		}
	}
	is(t, "many are gone", d, many+1)
	if len(d.held) > 0 {
		t.Errorf("P13.1: %d are kept of what is gone", len(d.held))
	}
}

// book is the other way of keeping it: all that ever came new, each with its bytes, and nothing taken away.
type book struct {
	window uint64
	came   map[uint64][]byte
}

// newBook makes one.
func newBook(window int) *book { return &book{window: uint64(window), came: map[uint64][]byte{}} }

// next tells the least number that did not come.
func (k *book) next() uint64 {
	n := uint64(1)
	for k.came[n] != nil {
		n++
	}
	return n
}

// held tells what came behind that.
func (k *book) held() []uint64 {
	var l []uint64
	for n := k.next(); n < k.next()+k.window; n++ {
		if k.came[n] != nil {
			l = append(l, n)
		}
	}
	return l
}

// take takes one.
func (k *book) take(num uint64, b []byte) ([][]byte, bool) {
	from := k.next()
	if num < from || num >= from+k.window || k.came[num] != nil {
		return nil, false
	}
	k.came[num] = append([]byte{}, b...)
	var l [][]byte
	for n := from; n < k.next(); n++ {
		l = append(l, k.came[n])
	}
	return l, true
}

// both takes one into a dock and into a book, and holds them against each other.
func both(t *testing.T, d *Dock, k *book, num uint64, b []byte) {
	t.Helper()
	next, held := k.next(), k.held()
	got, fresh := d.Take(num, b)
	want, may := k.take(num, b)
	if fresh != may || !alike(got, want) {
		t.Fatalf("P13.1: window %d, Next %d, Held %d: Take(%d): %q, %v, want %q, %v", k.window, next, held, num, got, fresh, want, may)
	}
	is(t, fmt.Sprintf("window %d, Next %d, Held %d: behind Take(%d)", k.window, next, held, num), d, k.next(), k.held()...)
}

// TestAllShortRuns does all runs of five Takes to small docks.
func TestAllShortRuns(t *testing.T) {
	const all = 7 * 7 * 7 * 7 * 7
	for window := 1; window <= 4; window++ {
		for run := range all {
			d, k := made(t, window), newBook(window)
			for left := all; left > 1; left /= 7 {
				both(t, d, k, uint64(run%7), []byte{byte(left)})
				run /= 7
			}
		}
	}
}

// TestLongRuns does long runs at each window: some near Next, some far from it.
func TestLongRuns(t *testing.T) {
	x := uint32(12345)
	roll := func(n int) int {
		x = x*1664525 + 1013904223
		return int(x>>8) % n
	}
	for window := 1; window <= mostWindow; window++ {
		for _, spread := range []int{2, window + 1, 2*window + 4} {
			d, k := made(t, window), newBook(window)
			for i := range 400 {
				num := k.next() + uint64(roll(spread))
				if roll(4) == 0 {
					num -= min(num, uint64(roll(5)))
				}
				both(t, d, k, num, fmt.Append(nil, i))
			}
		}
	}
}
