package ship

import (
	"bytes"
	"fmt"
	"math"
	"slices"
	"testing"

	"shoal/api"
)

// The most that a window and a queue can be.
const (
	mostWindow = 16
	mostQueue  = 32
)

// state is all that can be asked of a ship.
type state struct {
	out         []Item
	waits       []string
	left        int
	runs        bool
	last        uint64
	room, reply bool
}

// told asks a ship all.
func told(s *Ship) state {
	var a state
	a.out, a.last = s.Out(), s.Last()
	for _, b := range s.Waits() {
		a.waits = append(a.waits, string(b))
	}
	a.left, a.runs = s.Left()
	a.room, a.reply = s.Room(false), s.Room(true)
	return a
}

// alike tells whether two lists of what goes out are the same.
func alike(a, b []Item) bool {
	return slices.EqualFunc(a, b, func(x, y Item) bool { return x.Num == y.Num && bytes.Equal(x.Body, y.Body) })
}

// same tells whether two states are the same.
func same(a, b state) bool {
	return alike(a.out, b.out) && slices.Equal(a.waits, b.waits) && a.left == b.left && a.runs == b.runs &&
		a.last == b.last && a.room == b.room && a.reply == b.reply
}

// items gives bodies numbers, from one on.
func items(first uint64, bodies ...string) []Item {
	var l []Item
	for i, b := range bodies {
		l = append(l, Item{Num: first + uint64(i), Body: []byte(b)})
	}
	return l
}

// named gives the names of so many bodies, from one on.
func named(first, n int) []string {
	var l []string
	for i := range n {
		l = append(l, fmt.Sprint("b", first+i))
	}
	return l
}

// is tells whether a ship is so. It asks twice: to ask changes nothing.
func is(t *testing.T, name string, s *Ship, want state) {
	t.Helper()
	for range 2 {
		if got := told(s); !same(got, want) {
			t.Fatalf("P12.1: %s: %q, want %q", name, fmt.Sprint(got), fmt.Sprint(want))
		}
	}
}

// goes tells whether just this goes out.
func goes(t *testing.T, name string, got, want []Item) {
	t.Helper()
	if !alike(got, want) {
		t.Fatalf("P12.1: %s: %v goes out, want %v", name, got, want)
	}
}

// made gives a new one.
func made(t *testing.T, window, queue, first, most int) *Ship {
	t.Helper()
	s, e := New(window, queue, first, most)
	if e != api.OK || s == nil {
		t.Fatalf("P12.1: New(%d, %d, %d, %d): %v, error %d", window, queue, first, most, s, e)
	}
	return s
}

// pushed pushes one that there must be room for: what goes out.
func pushed(t *testing.T, s *Ship, b string, reply bool) []Item {
	t.Helper()
	l, ok := s.Push([]byte(b), reply)
	if !ok {
		t.Fatalf("P12.1: Push of %q, %v: no room: %v", b, reply, told(s))
	}
	return l
}

// filled gives one to which b1, b2 and so on were pushed, all as replies.
func filled(t *testing.T, window, queue, first, most, n int) *Ship {
	t.Helper()
	s := made(t, window, queue, first, most)
	for _, b := range named(1, n) {
		pushed(t, s, b, true)
	}
	return s
}

// refused pushes one that there may be no room for: nothing changes.
func refused(t *testing.T, s *Ship, reply bool) {
	t.Helper()
	before := told(s)
	if l, ok := s.Push([]byte("no"), reply); ok || len(l) > 0 {
		t.Fatalf("P12.1: Push without room: %v, %v", l, ok)
	}
	is(t, "Push without room", s, before)
}

// silent does so many Ticks, at none of which anything may go out.
func silent(t *testing.T, s *Ship, ticks int) {
	t.Helper()
	for range ticks {
		goes(t, "Tick that does not ring", s.Tick(), nil)
	}
}

func TestExample(t *testing.T) {
	s := made(t, 1, 3, 2, 8)
	goes(t, "Push a", pushed(t, s, "a", false), items(1, "a"))
	goes(t, "Push b", pushed(t, s, "b", false), nil)
	goes(t, "Ack 1", s.Ack(1), items(2, "b"))
	is(t, "behind it", s, state{out: items(2, "b"), left: 2, runs: true, last: 2, room: true, reply: true})
}

// asked asks New, and tells whether it answers as it should.
func asked(t *testing.T, window, queue, first, most int, may bool) {
	t.Helper()
	s, e := New(window, queue, first, most)
	if !may && (s != nil || e != api.EARG) || may && (s == nil || e != api.OK) {
		t.Fatalf("P12.1: New(%d, %d, %d, %d): %v, error %d", window, queue, first, most, s, e)
	}
	if may {
		is(t, "New", s, state{room: true, reply: true})
	}
}

// TestNew asks for each window and each queue, those that may be and those that may not.
func TestNew(t *testing.T) {
	for window := -2; window <= mostWindow+2; window++ {
		for queue := -2; queue <= mostQueue+2; queue++ {
			may := window >= 1 && window <= mostWindow && queue >= 2 && queue <= mostQueue
			asked(t, window, queue, 2, 8, may)
			asked(t, window, queue, 0, 8, false)
			asked(t, window, queue, 9, 8, false)
			asked(t, window, queue, 1, 1001, false)
		}
	}
}

// TestNewAlarm asks for alarms that may be and that may not.
func TestNewAlarm(t *testing.T) {
	some := []int{-2, -1, 0, 1, 2, 3, 8, 999, 1000, 1001, 1002}
	for _, first := range some {
		for _, most := range some {
			may := first >= 1 && first <= most && most <= 1000
			asked(t, 1, 2, first, most, may)
			asked(t, mostWindow, mostQueue, first, most, may)
		}
	}
}

// TestNewFar asks for numbers far from all that may be.
func TestNewFar(t *testing.T) {
	far := []int{1 << 16, 1<<16 + 2, 1 << 32, 1<<32 + 2, math.MaxInt, -1 << 16, -1 << 32, 2 - 1<<32, math.MinInt + 2, math.MinInt}
	for _, n := range far {
		asked(t, n, 3, 2, 8, false)
		asked(t, 2, n, 2, 8, false)
		asked(t, 2, 3, n, 8, false)
		asked(t, 2, 3, 2, n, false)
		asked(t, n, n, n, n, false)
	}
}

// TestEmpty has one to which nothing was pushed: no Ack and no Tick is anything to it.
func TestEmpty(t *testing.T) {
	s := made(t, 2, 3, 1, 4)
	empty := state{room: true, reply: true}
	for _, n := range []uint64{0, 1, 2, 3, math.MaxInt64, math.MaxUint64 - 1, math.MaxUint64} {
		goes(t, "Ack where nothing is out", s.Ack(n), nil)
		is(t, "Ack where nothing is out", s, empty)
	}
	silent(t, s, 20)
	is(t, "Ticks where nothing is out", s, empty)
	goes(t, "Push", pushed(t, s, "a", false), items(1, "a"))
	is(t, "Push", s, state{out: items(1, "a"), left: 1, runs: true, last: 1, room: true, reply: true})
}

// TestFill fills each window and each queue to their ends, and counts the places for replies alone.
func TestFill(t *testing.T) {
	for window := 1; window <= mostWindow; window++ {
		for queue := 2; queue <= mostQueue; queue++ {
			s := made(t, window, queue, 3, 8)
			for n := 1; n <= window; n++ {
				b := named(n, 1)
				goes(t, "Push as the window has room", pushed(t, s, b[0], n%2 == 0), items(uint64(n), b...))
				is(t, "Push as the window has room", s, state{out: items(1, named(1, n)...), left: 3, runs: true, last: uint64(n), room: true, reply: true})
			}
			full := state{out: items(1, named(1, window)...), left: 3, runs: true, last: uint64(window), room: true, reply: true}
			for n := 1; n < queue; n++ {
				goes(t, "Push as the window is full", pushed(t, s, fmt.Sprint("b", window+n), n%2 == 0), nil)
				full.waits, full.room = named(window+1, n), n < queue-1
				is(t, "Push as the window is full", s, full)
			}
			refused(t, s, false)
			goes(t, "Push of a reply to the last place", pushed(t, s, "last", true), nil)
			full.waits, full.reply = append(full.waits, "last"), false
			is(t, "the queue is full", s, full)
			refused(t, s, true)
			refused(t, s, false)
		}
	}
}

// TestSmallestQueue has a queue of two: where one waits already, there is room for a reply alone.
func TestSmallestQueue(t *testing.T) {
	s := made(t, 1, 2, 2, 8)
	goes(t, "the first", pushed(t, s, "a", false), items(1, "a"))
	goes(t, "the second", pushed(t, s, "b", false), nil)
	refused(t, s, false)
	goes(t, "a reply", pushed(t, s, "c", true), nil)
	refused(t, s, false)
	refused(t, s, true)
	goes(t, "Ack", s.Ack(1), items(2, "b"))
	refused(t, s, false)
	goes(t, "a reply again", pushed(t, s, "d", true), nil)
	goes(t, "Ack", s.Ack(2), items(3, "c"))
	goes(t, "Ack", s.Ack(3), items(4, "d"))
	is(t, "the last is out", s, state{out: items(4, "d"), left: 2, runs: true, last: 4, room: true, reply: true})
}

// TestReplyIsLast has replies wait like all else, without going ahead.
func TestReplyIsLast(t *testing.T) {
	s := filled(t, 1, 5, 2, 8, 1)
	pushed(t, s, "a", false)
	pushed(t, s, "r", true)
	pushed(t, s, "b", false)
	for n, b := range []string{"a", "r", "b"} {
		goes(t, "Ack", s.Ack(uint64(n)+1), items(uint64(n)+2, b))
	}
}

// TestAck has an Ack of each number, at each window, with each number out and some that wait.
func TestAck(t *testing.T) {
	const came = 3
	for window := 1; window <= mostWindow; window++ {
		for n := range window + 5 {
			out := min(n, window)
			last := came + out
			for ack := 0; ack <= last+3; ack++ {
				s := made(t, window, 9, 3, 8)
				for i := range came {
					pushed(t, s, "gone", false)
					s.Ack(uint64(i) + 1)
				}
				for _, b := range named(came+1, n) {
					pushed(t, s, b, true)
				}
				silent(t, s, 2)
				before := told(s)
				l := s.Ack(uint64(ack))
				if ack <= came || ack > last {
					goes(t, "Ack of what is not out", l, nil)
					is(t, "Ack of what is not out", s, before)
					continue
				}
				now := min(came+n, ack+window)
				goes(t, "Ack", l, items(uint64(last)+1, named(last+1, now-last)...))
				want := state{out: items(uint64(ack)+1, named(ack+1, now-ack)...), waits: named(now+1, came+n-now), last: uint64(now), room: true, reply: true}
				if now > ack {
					want.left, want.runs = 3, true
				}
				is(t, "Ack", s, want)
			}
		}
	}
}

// TestAckFar has Acks far from all that is out.
func TestAckFar(t *testing.T) {
	for _, n := range []int{1, 2, 5} {
		for _, ack := range []uint64{0, 6, 1<<8 + 1, 1<<16 + 1, 1<<32 + 1, 1<<63 + 1, math.MaxInt64, math.MaxUint64 - 1, math.MaxUint64} {
			s := filled(t, 2, 9, 5, 8, n)
			silent(t, s, 3)
			before := told(s)
			goes(t, "Ack of what is not out", s.Ack(ack), nil)
			is(t, "Ack of what is not out", s, before)
		}
	}
}

// TestAckAgain hears each Ack twice, and those that came late: they are nothing.
func TestAckAgain(t *testing.T) {
	s := filled(t, 3, 9, 5, 8, 8)
	goes(t, "Ack 2", s.Ack(2), items(4, named(4, 2)...))
	silent(t, s, 4)
	before := told(s)
	for _, late := range []uint64{0, 1, 2, 6, 7, 8} {
		goes(t, "Ack of what is not out", s.Ack(late), nil)
		is(t, "Ack of what is not out", s, before)
	}
	goes(t, "it rings", s.Tick(), items(3, named(3, 3)...))
	goes(t, "Ack 5", s.Ack(5), items(6, named(6, 3)...))
	goes(t, "Ack 8", s.Ack(8), nil)
	goes(t, "Ack 8 again", s.Ack(8), nil)
	is(t, "nothing is out", s, state{last: 8, room: true, reply: true})
	goes(t, "the next number", pushed(t, s, "b9", false), items(9, "b9"))
}

// TestAckFreesQueue has room again as what waits goes out.
func TestAckFreesQueue(t *testing.T) {
	s := filled(t, 2, 4, 5, 8, 6)
	refused(t, s, true)
	goes(t, "Ack 1", s.Ack(1), items(3, "b3"))
	is(t, "three wait", s, state{out: items(2, "b2", "b3"), waits: named(4, 3), left: 5, runs: true, last: 3, reply: true})
	refused(t, s, false)
	goes(t, "Ack 3", s.Ack(3), items(4, "b4", "b5"))
	is(t, "one waits", s, state{out: items(4, "b4", "b5"), waits: named(6, 1), left: 5, runs: true, last: 5, room: true, reply: true})
	goes(t, "Ack 5", s.Ack(5), items(6, "b6"))
	goes(t, "Push", pushed(t, s, "b7", false), items(7, "b7"))
}

// TestTick lets what is out go out again, all of it, at the Ticks at which its alarm rings.
func TestTick(t *testing.T) {
	s := filled(t, 3, 9, 2, 5, 5)
	out := items(1, named(1, 3)...)
	for _, step := range []int{2, 4, 5, 5, 5} {
		for gone := range step {
			is(t, "as it runs", s, state{out: out, waits: named(4, 2), left: step - gone, runs: true, last: 3, room: true, reply: true})
			var want []Item
			if gone == step-1 {
				want = out
			}
			goes(t, "Tick", s.Tick(), want)
		}
	}
	goes(t, "Ack 3", s.Ack(3), items(4, named(4, 2)...))
	silent(t, s, 1)
	goes(t, "the first step again", s.Tick(), items(4, named(4, 2)...))
	is(t, "it rang", s, state{out: items(4, named(4, 2)...), left: 4, runs: true, last: 5, room: true, reply: true})
	goes(t, "Ack 5", s.Ack(5), nil)
	is(t, "nothing is out", s, state{last: 5, room: true, reply: true})
	silent(t, s, 20)
	is(t, "nothing is out", s, state{last: 5, room: true, reply: true})
}

// TestPushLetsRun has an alarm that runs: a Push does not start it anew, whether it goes out or waits or is refused.
func TestPushLetsRun(t *testing.T) {
	s := made(t, 2, 2, 3, 8)
	pushed(t, s, "b1", false)
	silent(t, s, 1)
	pushed(t, s, "b2", false)
	is(t, "Push that goes out", s, state{out: items(1, "b1", "b2"), left: 2, runs: true, last: 2, room: true, reply: true})
	silent(t, s, 1)
	pushed(t, s, "b3", false)
	is(t, "Push that waits", s, state{out: items(1, "b1", "b2"), waits: named(3, 1), left: 1, runs: true, last: 2, reply: true})
	refused(t, s, false)
	goes(t, "it rings", s.Tick(), items(1, "b1", "b2"))
	pushed(t, s, "b4", true)
	is(t, "the step is doubled still", s, state{out: items(1, "b1", "b2"), waits: named(3, 2), left: 6, runs: true, last: 2})
}

// TestAckStartsAnew has an Ack at each place of an alarm's way: what is out still waits for the first step, whole.
func TestAckStartsAnew(t *testing.T) {
	for ticks := range 20 {
		s := filled(t, 2, 9, 2, 5, 2)
		for range ticks {
			s.Tick()
		}
		goes(t, "Ack 1", s.Ack(1), nil)
		is(t, "one is out", s, state{out: items(2, "b2"), left: 2, runs: true, last: 2, room: true, reply: true})
		silent(t, s, 1)
		goes(t, "it rings", s.Tick(), items(2, "b2"))
		silent(t, s, 3)
		goes(t, "it rings again", s.Tick(), items(2, "b2"))
		goes(t, "Ack 2", s.Ack(2), nil)
		is(t, "nothing is out", s, state{last: 2, room: true, reply: true})
		goes(t, "Push", pushed(t, s, "b3", false), items(3, "b3"))
		is(t, "the first step again", s, state{out: items(3, "b3"), left: 2, runs: true, last: 3, room: true, reply: true})
	}
}

// TestBodies pushes bytes of all kinds: none, all, many, and the same twice.
func TestBodies(t *testing.T) {
	all := make([]byte, 256)
	for i := range all {
		all[i] = byte(i)
	}
	s := made(t, 2, 9, 1, 4)
	want := [][]byte{nil, {}, {0}, all, bytes.Repeat(all, 4096), all, nil}
	for i, b := range want {
		l, ok := s.Push(b, false)
		if !ok || len(l) > 1 || i < 2 != (len(l) == 1) {
			t.Fatalf("P12.1: Push of body %d: %d go out, %v", i, len(l), ok)
		}
	}
	if got := s.Waits(); !slices.EqualFunc(got, want[2:], bytes.Equal) {
		t.Fatalf("P12.1: Waits: %d", len(got))
	}
	for n := uint64(2); n <= uint64(len(want)); n++ {
		l := s.Tick()
		if len(l) != 2 || l[0].Num != n-1 || l[1].Num != n || !bytes.Equal(l[0].Body, want[n-2]) || !bytes.Equal(l[1].Body, want[n-1]) {
			t.Fatalf("P12.1: what is out with number %d is not what was pushed", n)
		}
		s.Ack(n - 1)
	}
}

// TestApart has two that know nothing of each other.
func TestApart(t *testing.T) {
	a, b := made(t, 1, 2, 1, 4), made(t, 2, 3, 2, 3)
	pushed(t, a, "a1", false)
	pushed(t, a, "a2", false)
	is(t, "the other", b, state{room: true, reply: true})
	pushed(t, b, "b1", false)
	goes(t, "the one", a.Tick(), items(1, "a1"))
	is(t, "the other", b, state{out: items(1, "b1"), left: 2, runs: true, last: 1, room: true, reply: true})
	a.Ack(1)
	is(t, "the other", b, state{out: items(1, "b1"), left: 2, runs: true, last: 1, room: true, reply: true})
	is(t, "the one", a, state{out: items(2, "a2"), left: 1, runs: true, last: 2, room: true, reply: true})
}

// TestPushKeepsNothing leaves what is handed in as it is, spare room too, and keeps nothing of it.
func TestPushKeepsNothing(t *testing.T) {
	for _, n := range []int{0, 2} {
		s := filled(t, 2, 9, 2, 8, n)
		room := []byte("body and room")
		before := slices.Clone(room)
		l, ok := s.Push(room[:4], false)
		if !ok || !bytes.Equal(room, before) {
			t.Fatalf("R4: Push: %v, %q", ok, room)
		}
		after := told(s)
		for i := range room {
			room[i] = '#'
		}
		is(t, "what was handed in changed", s, after)
		spoil(l)
		if !bytes.Equal(room, bytes.Repeat([]byte("#"), len(room))) {
			t.Errorf("R4: what Push told shares memory with its argument: %q", room)
		}
	}
}

// spoil writes into all of a list, spare room too.
func spoil(l []Item) {
	l = l[:cap(l)]
	for i := range l {
		blot(l[i].Body)
		l[i] = Item{Num: 77, Body: []byte("spoilt")}
	}
}

// blot writes into all bytes, spare room too.
func blot(b []byte) {
	b = b[:cap(b)]
	for i := range b {
		b[i] = '!'
	}
}

// apart gives what goes out in memory of its own.
func apart(l []Item) []Item {
	var own []Item
	for _, i := range l {
		own = append(own, items(i.Num, string(i.Body))...)
	}
	return own
}

// noted does one run, and notes all that is told in it; where it spoils, it writes into all of that then.
func noted(t *testing.T, spoils bool) []state {
	t.Helper()
	s := made(t, 2, 9, 1, 2)
	var all []state
	note := func(l []Item) {
		all = append(all, state{out: apart(l)}, told(s))
		if !spoils {
			return
		}
		spoil(l)
		spoil(s.Out())
		for w := s.Waits(); len(w) > 0; w = w[1:] {
			blot(w[0])
			w[0] = []byte("spoilt")
		}
	}
	for _, b := range named(1, 7) {
		note(pushed(t, s, b, false))
	}
	for n := uint64(1); n <= 7; n++ {
		note(s.Tick())
		note(s.Ack(n))
	}
	return all
}

// TestAnswersAreNew writes into all that is told: nothing that is kept changes by it.
func TestAnswersAreNew(t *testing.T) {
	if !slices.EqualFunc(noted(t, true), noted(t, false), same) {
		t.Errorf("R4: what is told is not new memory")
	}
}

// TestAnswersShareNothing has several bodies in one answer: none shares memory with another one.
func TestAnswersShareNothing(t *testing.T) {
	s := filled(t, 4, 9, 1, 2, 8)
	for name, l := range map[string][]Item{"Out": s.Out(), "Tick": s.Tick(), "Ack": s.Ack(4)} {
		if len(l) != 4 {
			t.Fatalf("P12.1: %s: %v", name, l)
		}
		blot(l[1].Body)
		blot(l[3].Body)
		if string(l[0].Body) == "!!" || string(l[2].Body) == "!!" {
			t.Errorf("R4: %s: one body shares memory with another one: %v", name, l)
		}
	}
	s = filled(t, 1, 9, 1, 2, 4)
	w := s.Waits()
	blot(w[1])
	if string(w[0]) != "b2" || string(w[2]) != "b4" {
		t.Errorf("R4: Waits: one body shares memory with another one: %q", w)
	}
}

// TestMany has many go by, more than any window or queue has: their numbers go on.
func TestMany(t *testing.T) {
	const many = 1 << 17
	s := made(t, 3, 2, 1, 4)
	for n := uint64(1); n <= many; n++ {
		l := pushed(t, s, "x", false)
		if len(l) != 1 || l[0].Num != n || s.Last() != n {
			t.Fatalf("P12.1: number %d: %v, Last %d", n, l, s.Last())
		}
		goes(t, "Ack", s.Ack(n), nil)
	}
	is(t, "many are gone", s, state{last: many, room: true, reply: true})
}

// book is the other way of keeping it: all that was ever pushed, and how many of these went out, and came.
type book struct {
	window, queue, first, most int
	all                        []string
	went, came                 int
	gone                       int
}

// part gives those behind the first from, up to the to-th.
func (k *book) part(from, to int) []Item { return items(uint64(from)+1, k.all[from:to]...) }

// alarm tells how many Ticks from its start on it rings next, and whether the Tick that went by just now was one at which it rang.
func (k *book) alarm() (next int, rang bool) {
	step := k.first
	for next = step; next <= k.gone; next += step {
		rang = next == k.gone
		step = min(step+step, k.most)
	}
	return next, rang
}

// told tells all.
func (k *book) told() state {
	waits := len(k.all) - k.went
	a := state{out: k.part(k.came, k.went), waits: k.all[k.went:], last: uint64(k.went)}
	a.room, a.reply = waits+1 < k.queue, waits < k.queue
	if k.went > k.came {
		next, _ := k.alarm()
		a.left, a.runs = next-k.gone, true
	}
	return a
}

// more lets go out what the window has room for.
func (k *book) more() []Item {
	ahead := k.went
	k.went = min(len(k.all), k.came+k.window)
	return k.part(ahead, k.went)
}

// push pushes one.
func (k *book) push(b string, reply bool) ([]Item, bool) {
	if a := k.told(); !a.reply || !reply && !a.room {
		return nil, false
	}
	if k.went == k.came {
		k.gone = 0
	}
	k.all = append(k.all, b)
	return k.more(), true
}

// ack hears what has come.
func (k *book) ack(n int) []Item {
	if n <= k.came || n > k.went {
		return nil
	}
	k.came, k.gone = n, 0
	return k.more()
}

// tick lets a tick go by.
func (k *book) tick() []Item {
	if k.went == k.came {
		return nil
	}
	k.gone++
	if _, rang := k.alarm(); !rang {
		return nil
	}
	return k.part(k.came, k.went)
}

// both does one thing to a ship and to a book, and holds them against each other: 0 and 1 push, 2 ticks, all else hears an Ack of one from the last that came on.
func both(t *testing.T, s *Ship, k *book, op int) {
	t.Helper()
	var got, want []Item
	ok, may := true, true
	switch op {
	case 0, 1:
		b := fmt.Sprint(len(k.all))
		got, ok = s.Push([]byte(b), op == 1)
		want, may = k.push(b, op == 1)
	case 2:
		got, want = s.Tick(), k.tick()
	default:
		n := k.came + op - 3
		got, want = s.Ack(uint64(n)), k.ack(n)
	}
	if ok != may || !alike(got, want) {
		t.Fatalf("P12.1: %+v: op %d: %v, %v, want %v, %v", *k, op, got, ok, want, may)
	}
	if a, b := told(s), k.told(); !same(a, b) {
		t.Fatalf("P12.1: %+v: behind op %d: %q, want %q", *k, op, fmt.Sprint(a), fmt.Sprint(b))
	}
}

// TestAllShortRuns does all runs of six things to small ships.
func TestAllShortRuns(t *testing.T) {
	const all = 6 * 6 * 6 * 6 * 6 * 6
	for _, c := range [][4]int{{1, 2, 1, 1}, {1, 2, 1, 2}, {1, 3, 2, 3}, {2, 2, 1, 4}, {2, 3, 2, 2}} {
		for run := range all {
			s, k := made(t, c[0], c[1], c[2], c[3]), &book{window: c[0], queue: c[1], first: c[2], most: c[3]}
			for left := all; left > 1; left /= 6 {
				both(t, s, k, run%6)
				run /= 6
			}
		}
	}
}

// TestLongRuns does long runs: some push more than they hear, some hear more than they push, some tick most of all.
func TestLongRuns(t *testing.T) {
	x := uint32(12345)
	next := func(n int) int {
		x = x*1664525 + 1013904223
		return int(x>>8) % n
	}
	for _, c := range [][4]int{{1, 2, 1, 1}, {1, mostQueue, 1, 7}, {2, 3, 2, 8}, {5, 9, 3, 10}, {mostWindow, 2, 1, 1000}, {mostWindow, mostQueue, 5, 64}} {
		s, k := made(t, c[0], c[1], c[2], c[3]), &book{window: c[0], queue: c[1], first: c[2], most: c[3]}
		for _, weight := range [][3]int{{8, 1, 1}, {1, 1, 1}, {3, 1, 8}, {1, 4, 1}, {4, 1, 2}} {
			for range 1500 {
				op := next(weight[0] + weight[1] + weight[2])
				switch {
				case op < weight[0]:
					op = next(2)
				case op < weight[0]+weight[1]:
					op = 3 + next(c[0]+3)
				default:
					op = 2
				}
				both(t, s, k, op)
			}
		}
	}
}
