package tie

import (
	"bytes"
	"encoding/binary"
	"fmt"
	"math"
	"slices"
	"strings"
	"testing"

	"shoal/api"
)

// The most that a window and a queue can be, and the most bytes that data can have.
const (
	mostWindow = 16
	mostQueue  = 32
	mostBytes  = 30_000
)

// data gives data as it goes over a link, written without frame.
func data(num uint64, body string) []byte {
	b := binary.AppendUvarint([]byte{0}, num)
	b = binary.AppendUvarint(b, uint64(len(body)))
	return append(b, body...)
}

// ack gives an Ack likewise.
func ack(num uint64) []byte { return binary.AppendUvarint([]byte{1}, num) }

// run gives data from one number on.
func run(first uint64, bodies ...string) [][]byte {
	var l [][]byte
	for i, b := range bodies {
		l = append(l, data(first+uint64(i), b))
	}
	return l
}

// named gives the names of so many bodies, from one on.
func named(first, n int) []string {
	var l []string
	for i := range n {
		l = append(l, fmt.Sprint("b", first+i))
	}
	return l
}

// list gives bodies as bytes.
func list(bodies ...string) [][]byte {
	var l [][]byte
	for _, b := range bodies {
		l = append(l, []byte(b))
	}
	return l
}

// alike tells whether two lists are the same.
func alike(a, b [][]byte) bool { return slices.EqualFunc(a, b, bytes.Equal) }

// state is all that can be asked of a tie.
type state struct {
	out, waits, held   int
	next, last         uint64
	quiet, room, reply bool
}

// told asks a tie all.
func told(a *Tie) state {
	var s state
	s.out, s.waits, s.held, s.next, s.last = a.State()
	s.quiet, s.room, s.reply = a.Quiet(), a.Room(false), a.Room(true)
	return s
}

// is tells whether a tie is so. It asks twice: to ask changes nothing.
func is(t *testing.T, name string, a *Tie, want state) {
	t.Helper()
	for range 2 {
		if got := told(a); got != want {
			t.Fatalf("P14.1: %s: %+v, want %+v", name, got, want)
		}
	}
}

// goes tells whether just this goes out.
func goes(t *testing.T, name string, got [][]byte, want ...[]byte) {
	t.Helper()
	if !alike(got, want) {
		t.Fatalf("P14.1: %s: %q goes out, want %q", name, got, want)
	}
}

// made gives a new one.
func made(t *testing.T, window, queue, first, most int) *Tie {
	t.Helper()
	a, e := New(window, queue, first, most)
	if e != api.OK || a == nil {
		t.Fatalf("P14.1: New(%d, %d, %d, %d): %v, error %d", window, queue, first, most, a, e)
	}
	return a
}

// pushed pushes one that there must be room for: what goes out.
func pushed(t *testing.T, a *Tie, b string, reply bool) [][]byte {
	t.Helper()
	l, ok := a.Push([]byte(b), reply)
	if !ok {
		t.Fatalf("P14.1: Push of %d bytes, %v: refused: %+v", len(b), reply, told(a))
	}
	return l
}

// filled gives one to which b1, b2 and so on were pushed, all as replies.
func filled(t *testing.T, window, queue, first, most, n int) *Tie {
	t.Helper()
	a := made(t, window, queue, first, most)
	for _, b := range named(1, n) {
		pushed(t, a, b, true)
	}
	return a
}

// refused pushes one that may not be: nothing changes.
func refused(t *testing.T, a *Tie, b string, reply bool) {
	t.Helper()
	before := told(a)
	if l, ok := a.Push([]byte(b), reply); ok || len(l) > 0 {
		t.Fatalf("P14.1: Push of %d bytes, %v: %d go out, %v, want nothing, false", len(b), reply, len(l), ok)
	}
	is(t, "Push that is refused", a, before)
}

// hears hears a frame that has form: what goes up and what goes out must be this.
func hears(t *testing.T, a *Tie, b []byte, up, down [][]byte) {
	t.Helper()
	gotUp, gotDown, e := a.Hear(b)
	if e != api.OK || !alike(gotUp, up) || !alike(gotDown, down) {
		t.Fatalf("P14.1: Hear(%q): up %q, down %q, error %d, want %q, %q", b, gotUp, gotDown, e, up, down)
	}
}

// comes hears data, and wants just an Ack of this number for it.
func comes(t *testing.T, a *Tie, num uint64, body string, acked uint64, up ...string) {
	t.Helper()
	hears(t, a, data(num, body), list(up...), [][]byte{ack(acked)})
}

// formless hears what has no form: nothing changes.
func formless(t *testing.T, a *Tie, b []byte) {
	t.Helper()
	before := told(a)
	up, down, e := a.Hear(b)
	if e != api.EFORM || len(up) > 0 || len(down) > 0 {
		t.Fatalf("P14.1: Hear of %d bytes without form: up %q, down %q, error %d", len(b), up, down, e)
	}
	is(t, "Hear of bytes without form", a, before)
}

// fresh is how a new one stands.
func fresh() state { return state{next: 1, quiet: true, room: true, reply: true} }

func TestExample(t *testing.T) {
	a := made(t, 2, 3, 2, 8)
	comes(t, a, 1, "it", 1, "it")
	is(t, "behind it", a, state{next: 2, quiet: true, room: true, reply: true})
}

// asked asks New, and tells whether it answers as it should.
func asked(t *testing.T, window, queue, first, most int) {
	t.Helper()
	may := window >= 1 && window <= mostWindow && queue >= 2 && queue <= mostQueue && first >= 1 && first <= most && most <= 1000
	a, e := New(window, queue, first, most)
	if !may && (a != nil || e != api.EARG) || may && (a == nil || e != api.OK) {
		t.Fatalf("P14.1: New(%d, %d, %d, %d): %v, error %d", window, queue, first, most, a, e)
	}
	if may {
		is(t, "New", a, fresh())
	}
}

// TestNew asks for each window and each queue, and for alarms, that may be and that may not.
func TestNew(t *testing.T) {
	for window := -2; window <= mostWindow+2; window++ {
		for queue := -2; queue <= mostQueue+2; queue++ {
			asked(t, window, queue, 2, 8)
			asked(t, window, queue, 0, 8)
			asked(t, window, queue, 9, 8)
			asked(t, window, queue, 1, 1001)
		}
	}
	some := []int{-2, -1, 0, 1, 2, 3, 8, 999, 1000, 1001, 1002}
	for _, first := range some {
		for _, most := range some {
			asked(t, 1, 2, first, most)
			asked(t, mostWindow, mostQueue, first, most)
		}
	}
	for _, n := range []int{1 << 16, 1<<16 + 2, 1 << 32, 1<<32 + 2, math.MaxInt, -1 << 32, 2 - 1<<32, math.MinInt + 2, math.MinInt} {
		asked(t, n, 3, 2, 8)
		asked(t, 2, n, 2, 8)
		asked(t, 2, 3, n, 8)
		asked(t, 2, 3, 2, n)
	}
}

// TestPush fills each window and each queue to their ends: what goes out goes as data, and the last place is for replies alone.
func TestPush(t *testing.T) {
	for window := 1; window <= mostWindow; window++ {
		for queue := 2; queue <= mostQueue; queue++ {
			a := made(t, window, queue, 3, 8)
			for n := 1; n <= window; n++ {
				b := named(n, 1)[0]
				goes(t, "Push as the window has room", pushed(t, a, b, n%2 == 0), data(uint64(n), b))
				is(t, "Push as the window has room", a, state{out: n, next: 1, last: uint64(n), room: true, reply: true})
			}
			for n := 1; n < queue; n++ {
				goes(t, "Push as the window is full", pushed(t, a, "w", n%2 == 0))
				is(t, "Push as the window is full", a, state{out: window, waits: n, next: 1, last: uint64(window), room: n < queue-1, reply: true})
			}
			refused(t, a, "no", false)
			goes(t, "Push of a reply to the last place", pushed(t, a, "last", true))
			is(t, "the queue is full", a, state{out: window, waits: queue, next: 1, last: uint64(window)})
			refused(t, a, "no", false)
			refused(t, a, "no", true)
		}
	}
}

// TestLongBodies pushes bodies just as long as may be, and just longer: those are refused whatever room there is, and take no number.
func TestLongBodies(t *testing.T) {
	longest := strings.Repeat("x", mostBytes)
	for _, reply := range []bool{false, true} {
		a := made(t, 2, 3, 1, 4)
		for _, size := range []int{mostBytes + 1, mostBytes + 2, mostBytes * 2, 1 << 16, 1 << 20} {
			refused(t, a, strings.Repeat("x", size), reply)
		}
		is(t, "only such as are refused", a, fresh())
		goes(t, "Tick", a.Tick())
		goes(t, "Push of the longest", pushed(t, a, longest, reply), data(1, longest))
		refused(t, a, longest+"x", reply)
		goes(t, "Push of one shorter", pushed(t, a, longest[1:], reply), data(2, longest[1:]))
		refused(t, a, longest+"x", reply)
		goes(t, "Push as the window is full", pushed(t, a, longest, reply))
		refused(t, a, longest+"x", reply)
		goes(t, "Tick", a.Tick(), data(1, longest), data(2, longest[1:]))
		hears(t, a, ack(1), nil, run(3, longest))
		goes(t, "Tick", a.Tick(), data(2, longest[1:]), data(3, longest))
	}
}

// TestBodies sends bytes of all kinds from one end to the other: none, one, all, and what looks like a frame.
func TestBodies(t *testing.T) {
	all := make([]byte, 256)
	for i := range all {
		all[i] = byte(i)
	}
	a, b := made(t, 1, 2, 1, 4), made(t, 1, 2, 1, 4)
	for i, body := range []string{"", "\x00", "\x01", "\x80", string(all), "", string(ack(1)), string(data(1, "in it")), strings.Repeat(string(all), 100)} {
		n := uint64(i) + 1
		goes(t, "Push", pushed(t, a, body, false), data(n, body))
		comes(t, b, n, body, n, body)
		hears(t, a, ack(n), nil, nil)
	}
	if l, ok := a.Push(nil, false); !ok || !alike(l, run(10, "")) {
		t.Errorf("P14.1: Push of nil: %q, %v", l, ok)
	}
}

// TestTick lets what is out go out again, all of it and as data, at the Ticks at which the alarm rings.
func TestTick(t *testing.T) {
	a := filled(t, 3, 9, 2, 5, 5)
	for _, step := range []int{2, 4, 5, 5, 5} {
		for range step - 1 {
			goes(t, "Tick that does not ring", a.Tick())
		}
		goes(t, "Tick that rings", a.Tick(), run(1, named(1, 3)...)...)
		is(t, "it rang", a, state{out: 3, waits: 2, next: 1, last: 3, room: true, reply: true})
	}
	hears(t, a, ack(2), nil, run(4, named(4, 2)...))
	goes(t, "Tick that does not ring", a.Tick())
	goes(t, "the first step again", a.Tick(), run(3, named(3, 3)...)...)
	hears(t, a, ack(5), nil, nil)
	for range 20 {
		goes(t, "Tick where nothing is out", a.Tick())
	}
	is(t, "nothing is out", a, state{next: 1, last: 5, quiet: true, room: true, reply: true})
}

// TestTickOfNone ticks one to which nothing was pushed, whatever came.
func TestTickOfNone(t *testing.T) {
	a := made(t, 3, 3, 1, 1)
	goes(t, "Tick of a new one", a.Tick())
	comes(t, a, 2, "b", 0)
	comes(t, a, 1, "a", 2, "a", "b")
	comes(t, a, 5, "e", 2)
	for range 20 {
		goes(t, "Tick where nothing is out", a.Tick())
	}
	is(t, "Ticks", a, state{held: 1, next: 3, room: true, reply: true})
}

// TestAck hears an Ack of each number, at each window, with each number out and some that wait: nothing goes up, and there is no answer but what goes out.
func TestAck(t *testing.T) {
	const came = 3
	for window := 1; window <= mostWindow; window++ {
		for n := range window + 5 {
			last := came + min(n, window)
			for num := 0; num <= last+3; num++ {
				a := made(t, window, 9, 3, 8)
				for i := range uint64(came) {
					pushed(t, a, "gone", false)
					hears(t, a, ack(i+1), nil, nil)
				}
				for _, b := range named(came+1, n) {
					pushed(t, a, b, true)
				}
				before := told(a)
				if num <= came || num > last {
					hears(t, a, ack(uint64(num)), nil, nil)
					is(t, "Ack of what is not out", a, before)
					continue
				}
				now := min(came+n, num+window)
				hears(t, a, ack(uint64(num)), nil, run(uint64(last)+1, named(last+1, now-last)...))
				is(t, "Ack", a, state{out: now - num, waits: came + n - now, next: 1, last: uint64(now), quiet: num == came+n, room: true, reply: true})
			}
		}
	}
}

// TestAckFar hears Acks far from all that is out.
func TestAckFar(t *testing.T) {
	for n := range 6 {
		a := filled(t, 2, 9, 5, 8, n)
		before := told(a)
		for _, num := range []uint64{0, 6, 1<<8 + 1, 1<<16 + 1, 1<<32 + 1, 1<<63 + 1, math.MaxInt64, math.MaxUint64 - 1, math.MaxUint64} {
			hears(t, a, ack(num), nil, nil)
			is(t, "Ack of what is not out", a, before)
		}
	}
}

// TestAckStartsAnew hears an Ack at each place of the alarm's way, and Acks that are nothing: they do not touch the alarm.
func TestAckStartsAnew(t *testing.T) {
	for ticks := range 12 {
		a := filled(t, 2, 9, 2, 5, 2)
		for range ticks {
			a.Tick()
		}
		hears(t, a, ack(1), nil, nil)
		goes(t, "Tick that does not ring", a.Tick())
		hears(t, a, ack(1), nil, nil)
		hears(t, a, ack(0), nil, nil)
		hears(t, a, ack(3), nil, nil)
		comes(t, a, 1, "in", 1, "in")
		goes(t, "Tick that rings", a.Tick(), data(2, "b2"))
	}
}

// TestData hears data of each number below, in and above each window, at each Next: just one Ack answers each, of all that came in order.
func TestData(t *testing.T) {
	for window := uint64(1); window <= mostWindow; window++ {
		for before := range uint64(18) {
			next := before + 1
			for n := uint64(1); n < next+window+18; n++ {
				a := made(t, int(window), 2, 1, 4)
				for i := uint64(1); i <= before; i++ {
					comes(t, a, i, "x", i, "x")
				}
				want := state{next: next, quiet: true, room: true, reply: true}
				switch {
				case n < next || n > next+window-1:
					comes(t, a, n, "no", before)
				case n == next:
					comes(t, a, n, "it", n, "it")
					want.next++
				default:
					comes(t, a, n, "ahead", before)
					want.held, want.quiet = 1, false
				}
				is(t, "Hear of data", a, want)
			}
		}
	}
}

// TestDataFar hears data with numbers far from all windows.
func TestDataFar(t *testing.T) {
	for _, before := range []uint64{0, 1, 30} {
		a := made(t, 7, 2, 1, 4)
		for i := uint64(1); i <= before; i++ {
			comes(t, a, i, "x", i, "x")
		}
		for _, n := range []uint64{1<<8 + 1, 1 << 16, 1<<16 + 2, 1 << 32, 1<<32 + 5, math.MaxInt64, 1 << 63, 1<<63 + 5, math.MaxUint64 - 1, math.MaxUint64} {
			comes(t, a, n, "far", before)
			is(t, "far", a, state{next: before + 1, quiet: true, room: true, reply: true})
		}
	}
}

// TestDataTwice hears what is held and what went up once more, with other bytes: an Ack answers it, and the first bytes count.
func TestDataTwice(t *testing.T) {
	a := made(t, 3, 2, 1, 4)
	comes(t, a, 3, "c", 0)
	comes(t, a, 3, "again", 0)
	comes(t, a, 2, "b", 0)
	comes(t, a, 4, "past the window", 0)
	is(t, "two are held", a, state{held: 2, next: 1, room: true, reply: true})
	comes(t, a, 1, "a", 3, "a", "b", "c")
	for n := uint64(1); n <= 3; n++ {
		comes(t, a, n, "again", 3)
	}
	comes(t, a, 6, "f", 3)
	comes(t, a, 1, "again", 3)
	comes(t, a, 4, "d", 4, "d")
	comes(t, a, 6, "again", 4)
	comes(t, a, 5, "e", 6, "e", "f")
	is(t, "all came", a, state{next: 7, quiet: true, room: true, reply: true})
}

// TestLongData hears data just as long as may be, and just longer.
func TestLongData(t *testing.T) {
	longest := strings.Repeat("x", mostBytes)
	a := made(t, 2, 2, 1, 4)
	formless(t, a, data(1, longest+"x"))
	formless(t, a, data(2, longest+"x"))
	comes(t, a, 2, longest, 0)
	comes(t, a, 1, longest[1:], 2, longest[1:], longest)
	formless(t, a, data(3, longest+"x"))
}

// TestFormless hears bytes without form: an end to which nothing happened, and one to which much did, stay as they are.
func TestFormless(t *testing.T) {
	busy := filled(t, 2, 9, 3, 8, 4)
	comes(t, busy, 1, "x", 1, "x")
	comes(t, busy, 3, "x", 1)
	for _, a := range []*Tie{made(t, 2, 9, 3, 8), busy} {
		for _, b := range [][]byte{nil, {}, {0}, {1}, {0, 1}, {0, 2, 1}, {0, 2, 2, 'a'}, {0, 0, 0}, data(0, "a"), {1, 1, 0}, {1, 1, 1}, {1, 0x81, 0}, {0x81, 0, 1}, {0, 0x82, 0, 0}, {0, 2, 0x80, 0}, {2}, {2, 1}, {3, 2, 0}, {0xff}, {1, 0x80}} {
			formless(t, a, b)
		}
		for _, b := range [][]byte{data(2, "ab"), data(300, ""), ack(1), ack(300), ack(math.MaxUint64)} {
			formless(t, a, append(slices.Clone(b), 0))
			for end := range b {
				formless(t, a, b[:end])
			}
		}
	}
	goes(t, "the alarm is where it was", busy.Tick())
	goes(t, "the alarm is where it was", busy.Tick())
	goes(t, "the alarm is where it was", busy.Tick(), run(1, "b1", "b2")...)
	comes(t, busy, 2, "y", 3, "y", "x")
}

// TestAllShortFrames hears all bytes of up to three, and tells those that have form by the chapter of frames.
func TestAllShortFrames(t *testing.T) {
	a := made(t, 1, 2, 1, 4)
	for x := range 1 << 8 {
		one := []byte{byte(x)}
		formless(t, a, one)
		for y := range 1 << 8 {
			two := append(one, byte(y))
			if x == 1 && y < 0x80 {
				hears(t, a, two, nil, nil)
			} else {
				formless(t, a, two)
			}
		}
	}
	for z := range 1 << 16 {
		three := []byte{1, byte(z >> 8), byte(z)}
		if three[1] >= 0x80 && three[2] < 0x80 && three[2] > 0 {
			hears(t, a, three, nil, nil)
		} else {
			formless(t, a, three)
		}
		three[0] = 0
		if three[1] == 0 || three[1] >= 0x80 || three[2] != 0 {
			formless(t, a, three)
		}
	}
	is(t, "Acks of nothing", a, fresh())
}

// TestQuiet has each thing alone that keeps an end from being Quiet, and all together.
func TestQuiet(t *testing.T) {
	a := made(t, 1, 3, 1, 4)
	is(t, "a new one", a, fresh())
	pushed(t, a, "a", false)
	is(t, "one is out", a, state{out: 1, next: 1, last: 1, room: true, reply: true})
	pushed(t, a, "b", false)
	is(t, "one waits", a, state{out: 1, waits: 1, next: 1, last: 1, room: true, reply: true})
	hears(t, a, ack(1), nil, run(2, "b"))
	is(t, "the last is out", a, state{out: 1, next: 1, last: 2, room: true, reply: true})
	hears(t, a, ack(2), nil, nil)
	is(t, "all came", a, state{next: 1, last: 2, quiet: true, room: true, reply: true})
	b := made(t, 2, 3, 1, 4)
	comes(t, b, 2, "b", 0)
	is(t, "one is held", b, state{held: 1, next: 1, room: true, reply: true})
	pushed(t, b, "a", false)
	is(t, "one is out and one held", b, state{out: 1, held: 1, next: 1, last: 1, room: true, reply: true})
	hears(t, b, ack(1), nil, nil)
	is(t, "one is held still", b, state{held: 1, next: 1, last: 1, room: true, reply: true})
	comes(t, b, 1, "a", 2, "a", "b")
	is(t, "all came", b, state{next: 3, last: 1, quiet: true, room: true, reply: true})
}

// TestLinksApart has both links of one end: what comes on one does not touch the other, and no data brings an Ack for the other with it.
func TestLinksApart(t *testing.T) {
	a := filled(t, 2, 3, 3, 8, 4)
	stands := state{out: 2, waits: 2, next: 1, last: 2, reply: true}
	for n := uint64(1); n <= 6; n++ {
		comes(t, a, n, "x", n, "x")
		stands.next = n + 1
		is(t, "data", a, stands)
	}
	comes(t, a, 8, "x", 6)
	stands.held = 1
	for _, num := range []uint64{3, 6, 7, 8} {
		hears(t, a, ack(num), nil, nil)
		is(t, "Ack of what came, and not of what is out", a, stands)
	}
	hears(t, a, ack(2), nil, run(3, "b3", "b4"))
	is(t, "Ack", a, state{out: 2, held: 1, next: 7, last: 4, room: true, reply: true})
	comes(t, a, 7, "y", 8, "y", "x")
	is(t, "data", a, state{out: 2, next: 9, last: 4, room: true, reply: true})
}

// TestApart has two ends that know nothing of each other.
func TestApart(t *testing.T) {
	a, b := made(t, 1, 2, 1, 4), made(t, 2, 3, 2, 3)
	pushed(t, a, "a1", false)
	pushed(t, a, "a2", false)
	comes(t, a, 1, "x", 1, "x")
	is(t, "the other", b, fresh())
	comes(t, b, 2, "y", 0)
	goes(t, "the one", a.Tick(), data(1, "a1"))
	is(t, "the one", a, state{out: 1, waits: 1, next: 2, last: 1, reply: true})
	is(t, "the other", b, state{held: 1, next: 1, room: true, reply: true})
}

// blot writes into all bytes, spare room too.
func blot(b []byte) {
	b = b[:cap(b)]
	for i := range b {
		b[i] = '!'
	}
}

// spoil writes into all of a list, spare room too.
func spoil(l [][]byte) {
	l = l[:cap(l)]
	for i := range l {
		blot(l[i])
		l[i] = []byte("spoilt")
	}
}

// TestKeepsNothing leaves what is handed in as it is, spare room too, and keeps nothing of it.
func TestKeepsNothing(t *testing.T) {
	a := made(t, 2, 9, 1, 4)
	room := []byte("body and room")
	before := slices.Clone(room)
	for i := range uint64(4) {
		var want [][]byte
		if i < 2 {
			want = run(i+1, "body")
		}
		l, ok := a.Push(room[:4], i%2 == 0)
		if !ok || !alike(l, want) || !bytes.Equal(room, before) {
			t.Fatalf("R4: Push: %q, %v; %q", l, ok, room)
		}
		spoil(l)
	}
	blot(room)
	goes(t, "what was handed in changed", a.Tick(), run(1, "body", "body")...)
	frame := append(data(2, "b"), "room"...)
	before = slices.Clone(frame)
	hears(t, a, frame[:4], nil, [][]byte{ack(0)})
	if !bytes.Equal(frame, before) {
		t.Fatalf("R4: Hear: %q", frame)
	}
	blot(frame)
	frame = append(data(1, "a"), "room"...)
	before = slices.Clone(frame)
	up, down, _ := a.Hear(frame[:4])
	blot(frame[:4])
	if !alike(up, list("a", "b")) || !alike(down, [][]byte{ack(2)}) {
		t.Fatalf("R4: what is told shares memory with the argument: up %q, down %q", up, down)
	}
	frame = slices.Clone(before)
	spoil(up)
	spoil(down)
	if !bytes.Equal(frame, before) {
		t.Fatalf("R4: the argument shares memory with what is told: %q", frame)
	}
	word := append(ack(2), "room"...)
	before = slices.Clone(word)
	hears(t, a, word[:2], nil, run(3, "body", "body"))
	if !bytes.Equal(word, before) {
		t.Fatalf("R4: Hear of an Ack: %q", word)
	}
}

// noted does one run, and notes all that is told in it; where it spoils, it writes into all of that then.
func noted(t *testing.T, spoils bool) []string {
	t.Helper()
	a := made(t, 3, 9, 1, 2)
	var all []string
	note := func(up, down [][]byte) {
		all = append(all, fmt.Sprintf("%q %q %+v", up, down, told(a)))
		if spoils {
			spoil(up)
			spoil(down)
		}
	}
	for _, b := range named(1, 9) {
		note(nil, pushed(t, a, b, false))
	}
	for n := uint64(1); n <= 9; n++ {
		note(nil, a.Tick())
		for _, b := range [][]byte{data((n-1)/3*3+3-(n-1)%3, fmt.Sprint("x", n)), ack(n), ack(n - 1)} {
			up, down, _ := a.Hear(b)
			note(up, down)
		}
	}
	return all
}

// TestAnswersAreNew writes into all that is told: nothing that is kept changes by it.
func TestAnswersAreNew(t *testing.T) {
	if got, want := noted(t, true), noted(t, false); !slices.Equal(got, want) {
		t.Errorf("R4: what is told is not new memory: %q, want %q", got, want)
	}
}

// TestAnswersShareNothing has several lists in one answer: none shares memory with another one.
func TestAnswersShareNothing(t *testing.T) {
	a := filled(t, 4, 9, 1, 2, 8)
	comes(t, a, 4, "x4", 0)
	comes(t, a, 3, "x3", 0)
	comes(t, a, 2, "x2", 0)
	up, down, _ := a.Hear(data(1, "x1"))
	blot(up[1])
	blot(up[3])
	if string(up[0]) != "x1" || string(up[2]) != "x3" || !bytes.Equal(down[0], ack(4)) {
		t.Errorf("R4: what goes up shares memory: up %q, down %q", up, down)
	}
	again := a.Tick()
	blot(again[0])
	blot(again[2])
	_, more, _ := a.Hear(ack(4))
	blot(more[1])
	blot(more[3])
	if !bytes.Equal(again[1], data(2, "b2")) || !bytes.Equal(again[3], data(4, "b4")) || !bytes.Equal(more[0], data(5, "b5")) || !bytes.Equal(more[2], data(7, "b7")) {
		t.Errorf("R4: what goes out shares memory: %q, %q", again, more)
	}
}

// roller gives numbers that look rolled, and are the same each time.
func roller(x uint32) func(n int) int {
	return func(n int) int {
		x = x*1664525 + 1013904223
		return int(x>>8) % n
	}
}

// link is two ends, and what is on its way to each.
type link struct {
	ends [2]*Tie
	way  [2][][]byte
	up   [2][]string
	roll func(n int) int
}

// send puts on its way what goes out from one end: some is lost, some is doubled.
func (k *link) send(from int, l [][]byte) {
	for _, b := range l {
		for range []int{0, 1, 1, 2}[k.roll(4)] {
			k.way[1-from] = append(k.way[1-from], b)
		}
	}
}

// come lets one of those that are on their way to an end come, whichever.
func (k *link) come(t *testing.T, at int) {
	t.Helper()
	if len(k.way[at]) == 0 {
		return
	}
	i := k.roll(len(k.way[at]))
	b := k.way[at][i]
	k.way[at] = slices.Delete(k.way[at], i, i+1)
	up, down, e := k.ends[at].Hear(b)
	if e != api.OK {
		t.Fatalf("P14.1: Hear(%q) of what went out: error %d", b, e)
	}
	for _, u := range up {
		k.up[at] = append(k.up[at], string(u))
	}
	k.send(at, down)
}

// TestLink has two ends send to each other over a net that loses, doubles and turns about: all goes up, each once and in order, and then both are Quiet.
func TestLink(t *testing.T) {
	const many = 60
	for window := 1; window <= mostWindow; window++ {
		k := &link{ends: [2]*Tie{made(t, window, 2, 1, 3), made(t, window, 5, 2, 4)}, roll: roller(uint32(window))}
		var pushes [2]int
		for steps := 0; len(k.up[0]) < many || len(k.up[1]) < many || !k.ends[0].Quiet() || !k.ends[1].Quiet(); steps++ {
			if steps > 100_000 {
				t.Fatalf("P14.1: window %d: it does not end: %+v, %+v", window, told(k.ends[0]), told(k.ends[1]))
			}
			at := k.roll(2)
			if b := named(pushes[at]+1, 1)[0]; pushes[at] < many {
				room := k.ends[at].Room(false)
				l, ok := k.ends[at].Push([]byte(b), false)
				if ok != room {
					t.Fatalf("P14.1: window %d: Room %v, Push %v", window, room, ok)
				}
				if ok {
					pushes[at]++
				}
				k.send(at, l)
			}
			k.come(t, k.roll(2))
			k.send(at, k.ends[at].Tick())
		}
		for at := range 2 {
			if !slices.Equal(k.up[at], named(1, many)) {
				t.Fatalf("P14.1: window %d: end %d has %q", window, at, k.up[at])
			}
			is(t, "all came", k.ends[at], state{next: many + 1, last: many, quiet: true, room: true, reply: true})
		}
	}
}

// book is the other way of keeping it: all that was pushed and how many of these went out and were Acked, the Ticks since the alarm began, and all that came.
type book struct {
	window, queue, first, most int
	all                        []string
	went, acked, gone          int
	came                       map[uint64]string
}

// newBook makes one.
func newBook(c [4]int) *book {
	return &book{window: c[0], queue: c[1], first: c[2], most: c[3], came: map[uint64]string{}}
}

// next tells the least number that did not come.
func (k *book) next() uint64 {
	for n := uint64(1); ; n++ {
		if _, ok := k.came[n]; !ok {
			return n
		}
	}
}

// told tells all.
func (k *book) told() state {
	s := state{out: k.went - k.acked, waits: len(k.all) - k.went, held: len(k.came) - int(k.next()-1), next: k.next(), last: uint64(k.went)}
	s.quiet = len(k.all) == k.acked && s.held == 0
	s.room, s.reply = s.waits+1 < k.queue, s.waits < k.queue
	return s
}

// more lets go out what the window has room for.
func (k *book) more() [][]byte {
	ahead := k.went
	k.went = min(len(k.all), k.acked+k.window)
	return run(uint64(ahead)+1, k.all[ahead:k.went]...)
}

// push pushes one.
func (k *book) push(b string, reply bool) ([][]byte, bool) {
	if s := k.told(); !s.reply || !reply && !s.room {
		return nil, false
	}
	if k.went == k.acked {
		k.gone = 0
	}
	k.all = append(k.all, b)
	return k.more(), true
}

// ack hears an Ack.
func (k *book) ack(n int) [][]byte {
	if n <= k.acked || n > k.went {
		return nil
	}
	k.acked, k.gone = n, 0
	return k.more()
}

// data hears data.
func (k *book) data(num uint64, body string) (up, down [][]byte) {
	from := k.next()
	if _, ok := k.came[num]; !ok && num >= from && num < from+uint64(k.window) {
		k.came[num] = body
	}
	for n := from; n < k.next(); n++ {
		up = append(up, []byte(k.came[n]))
	}
	return up, [][]byte{ack(k.next() - 1)}
}

// tick lets a tick go by.
func (k *book) tick() [][]byte {
	if k.went == k.acked {
		return nil
	}
	k.gone++
	step, at := k.first, k.first
	for at < k.gone {
		step = min(step+step, k.most)
		at += step
	}
	if at > k.gone {
		return nil
	}
	return run(uint64(k.acked)+1, k.all[k.acked:k.went]...)
}

// both does one thing to a tie and to a book, and holds them against each other: 0 and 1 push, 2 ticks, 3 hears what has no form, even numbers from 4 on hear Acks from the last one on, odd ones data from the last one on.
func both(t *testing.T, a *Tie, k *book, op int) {
	t.Helper()
	var up, down, wantUp, wantDown [][]byte
	ok, may, e, want := true, true, api.OK, api.OK
	switch {
	case op < 2:
		b := fmt.Sprint(len(k.all))
		down, ok = a.Push([]byte(b), op == 1)
		wantDown, may = k.push(b, op == 1)
	case op == 2:
		down, wantDown = a.Tick(), k.tick()
	case op == 3:
		up, down, e = a.Hear([]byte{2, byte(len(k.all))})
		want = api.EFORM
	case op%2 == 0:
		n := k.acked + op/2 - 2
		up, down, e = a.Hear(ack(uint64(n)))
		wantDown = k.ack(n)
	default:
		n := max(1, k.next()+uint64(op/2)-3)
		b := fmt.Sprint("x", n, "y", len(k.all))
		up, down, e = a.Hear(data(n, b))
		wantUp, wantDown = k.data(n, b)
	}
	if ok != may || e != want || !alike(up, wantUp) || !alike(down, wantDown) {
		t.Fatalf("P14.1: %+v: op %d: up %q, down %q, %v, error %d, want %q, %q, %v, %d", *k, op, up, down, ok, e, wantUp, wantDown, may, want)
	}
	if got, want := told(a), k.told(); got != want {
		t.Fatalf("P14.1: %+v: behind op %d: %+v, want %+v", *k, op, got, want)
	}
}

// TestAllShortRuns does all runs of five things to small ties.
func TestAllShortRuns(t *testing.T) {
	ops := []int{0, 1, 2, 3, 6, 8, 5, 7, 9}
	all := len(ops) * len(ops) * len(ops) * len(ops) * len(ops)
	for _, c := range [][4]int{{1, 2, 1, 1}, {1, 3, 1, 2}, {2, 2, 1, 4}, {3, 3, 2, 3}} {
		for i := range all {
			a, k := made(t, c[0], c[1], c[2], c[3]), newBook(c)
			for left := all; left > 1; left /= len(ops) {
				both(t, a, k, ops[i%len(ops)])
				i /= len(ops)
			}
		}
	}
}

// TestLongRuns does long runs: some push more than they hear, some hear more than they push, some tick most of all.
func TestLongRuns(t *testing.T) {
	roll := roller(12345)
	for _, c := range [][4]int{{1, 2, 1, 1}, {1, mostQueue, 1, 7}, {2, 3, 2, 8}, {5, 9, 3, 10}, {mostWindow, 2, 1, 1000}, {mostWindow, mostQueue, 5, 64}} {
		a, k := made(t, c[0], c[1], c[2], c[3]), newBook(c)
		for _, weight := range [][3]int{{8, 1, 1}, {1, 1, 3}, {3, 8, 1}, {1, 1, 6}, {4, 2, 1}} {
			for range 400 {
				op := roll(weight[0] + weight[1] + weight[2])
				switch {
				case op < weight[0]:
					op = roll(2)
				case op < weight[0]+weight[1]:
					op = 2 + roll(2)
				default:
					op = 4 + roll(2*c[0]+8)
				}
				both(t, a, k, op)
			}
		}
	}
}
