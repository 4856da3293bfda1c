package lean

import (
	"bytes"
	"cmp"
	"encoding/binary"
	"fmt"
	"math"
	"slices"
	"testing"

	"shoal/api"
	"shoal/dset"
	"shoal/full"
	"shoal/trim"
	"shoal/vec"
)

// most is how many processes there can be, all of them together, and top the greatest number.
const (
	most = 16
	all  = dset.Set(1<<most - 1)
	top  = math.MaxUint64
)

// far gives numbers that are no process of any engine, and no size of one.
func far() []int {
	return []int{-1, -2, -15, -16, -17, -63, -64, -65, 17, 18, 31, 32, 33, 63, 64, 65, 128, 256, 1 << 16, 1 << 32, 1<<32 + 1, -1 << 32, 1 - 1<<32, math.MaxInt, math.MinInt, math.MinInt + 1}
}

// nums gives numbers of messages at their edges, those of each length in bytes among them, rising from 1.
func nums() []uint64 {
	l := []uint64{1, 2}
	for shift := 7; shift < 64; shift += 7 {
		l = append(l, 1<<shift-1, 1<<shift)
	}
	return append(l, top-1, top)
}

// sets gives sets of processes: none, all, each alone, each missing, those up to each, and some like chance.
func sets() []dset.Set {
	l := []dset.Set{0, top, all, 0xffff << 16, 1<<63 | 1}
	for p := range 64 {
		l = append(l, 1<<p, top&^(1<<p), 1<<p-1, (all+1)>>1&^(1<<p))
	}
	x := uint64(1)
	for range 20 {
		x = next(x)
		l = append(l, dset.Set(x), dset.Set(x>>48))
	}
	return l
}

// next gives what looks like chance behind x, and is the same each time.
func next(x uint64) uint64 { return x*6364136223846793005 + 1442695040888963407 }

// of makes a log of entries, whether it may be or not.
func of(l ...trim.Entry) trim.Log { return trim.Log{L: l} }

// entry makes an entry to some processes.
func entry(from int, num uint64, to ...int) trim.Entry {
	x := trim.Entry{From: from, Num: num}
	for _, d := range to {
		x.To |= 1 << d
	}
	return x
}

// same tells whether two are alike; a list that is nil and an empty one are.
func same(a, b trim.Log) bool { return slices.Equal(a.L, b.L) }

// key is what an entry is told by.
type key struct {
	from int
	num  uint64
}

// keyed is a log kept in the plainest way.
type keyed map[key]dset.Set

// keyedOf makes one.
func keyedOf(g trim.Log) keyed {
	m := keyed{}
	for _, x := range g.L {
		m[key{x.From, x.Num}] = x.To
	}
	return m
}

// log tells its entries in their order.
func (m keyed) log() trim.Log {
	var g trim.Log
	for k, to := range m {
		g.L = append(g.L, trim.Entry{From: k.from, Num: k.num, To: to})
	}
	slices.SortFunc(g.L, func(a, b trim.Entry) int {
		return cmp.Or(cmp.Compare(a.From, b.From), cmp.Compare(a.Num, b.Num))
	})
	return g
}

// greater tells whether it has one of a From with a greater Num.
func (m keyed) greater(k key) bool {
	for o := range m {
		if o.from == k.from && o.num > k.num {
			return true
		}
	}
	return false
}

// less takes some out of each, but d where it was.
func (m keyed) less(to []int, d int) keyed {
	l := keyed{}
	for k, old := range m {
		for _, p := range to {
			if p != d {
				old &^= 1 << p
			}
		}
		l[k] = old
	}
	return l
}

// purge leaves out what has no To and is not the last of its From.
func (m keyed) purge() keyed {
	l := keyed{}
	for k, to := range m {
		if to != 0 || !m.greater(k) {
			l[k] = to
		}
	}
	return l
}

// join puts two together.
func (m keyed) join(heard keyed) keyed {
	l := keyed{}
	for k, to := range m {
		if other, has := heard[k]; has {
			l[k] = to & other
		} else if !heard.greater(k) {
			l[k] = to
		}
	}
	for k, to := range heard {
		if _, has := m[k]; !has && !m.greater(k) {
			l[k] = to
		}
	}
	return l
}

// may tells whether a log may be, each entry held against each.
func may(g trim.Log) bool {
	for i, x := range g.L {
		if x.From < 0 || x.From > 15 || x.Num == 0 || x.To > all {
			return false
		}
		for _, y := range g.L[:i] {
			if y.From > x.From || y.From == x.From && y.Num >= x.Num {
				return false
			}
		}
	}
	return true
}

// written writes a log, whether it may be or not, with no call of another package of the program.
func written(g trim.Log) []byte {
	b := binary.AppendUvarint(nil, uint64(len(g.L)))
	for _, x := range g.L {
		b = binary.AppendUvarint(b, uint64(x.From))
		b = binary.AppendUvarint(b, x.Num)
		b = binary.AppendUvarint(b, uint64(x.To))
	}
	return b
}

// readPlainly reads a log likewise: it must be one that may be, and be written just so.
func readPlainly(b []byte) (trim.Log, bool) {
	count, size := binary.Uvarint(b)
	if size <= 0 || count > uint64(len(b)) {
		return trim.Log{}, false
	}
	left, g := b[size:], trim.Log{}
	for range count {
		var parts [3]uint64
		for i := range parts {
			n, size := binary.Uvarint(left)
			if size <= 0 {
				return trim.Log{}, false
			}
			parts[i], left = n, left[size:]
		}
		if parts[0] > 15 {
			return trim.Log{}, false
		}
		g.L = append(g.L, trim.Entry{From: int(parts[0]), Num: parts[1], To: dset.Set(parts[2])})
	}
	if !may(g) || !bytes.Equal(written(g), b) {
		return trim.Log{}, false
	}
	return g, true
}

// none is the stamp of a message ahead of which nothing is known.
var none = []byte{0}

// plain is an engine kept in the plainest way.
type plain struct {
	n, me int
	num   uint64
	log   keyed
	seen  vec.Vec
}

// send sends.
func (p *plain) send(to dset.Set) [][]byte {
	var these []int
	for d := range p.n {
		if to>>d&1 == 1 && d != p.me {
			these = append(these, d)
		}
	}
	p.num++
	var l [][]byte
	for _, d := range these {
		l = append(l, written(p.log.less(these, d).purge().log()))
	}
	p.log = p.log.less(these, -1)
	p.log[key{p.me, p.num}] = entry(0, 0, these...).To
	p.log = p.log.purge()
	return l
}

// can tells whether one may be delivered.
func (p *plain) can(from int, num uint64, stamp []byte) bool {
	g, ok := readPlainly(stamp)
	if !ok || num == 0 || from < 0 || from >= p.n || from == p.me {
		return false
	}
	for _, x := range g.L {
		if x.From == p.me || x.To>>p.me&1 == 0 {
			continue
		}
		if x.From >= p.n || p.seen[x.From] < x.Num {
			return false
		}
	}
	return true
}

// take delivers it.
func (p *plain) take(from int, num uint64, to dset.Set, stamp []byte) bool {
	if !p.can(from, num, stamp) {
		return false
	}
	g, _ := readPlainly(stamp)
	heard := keyedOf(g)
	if to <= all {
		heard[key{from, num}] = to
	}
	p.seen[from] = num
	p.log = p.log.join(heard.less([]int{p.me}, -1)).less([]int{p.me}, -1).purge()
	return true
}

// made gives a new engine.
func made(t *testing.T, n, me int) *Engine {
	t.Helper()
	e, err := New(n, me)
	if err != api.OK || e == nil {
		t.Fatalf("P19.1: New(%d, %d): %v, %v", n, me, e, err)
	}
	return e
}

// is tells whether an engine knows just that. It asks twice: to ask changes nothing.
func is(t *testing.T, name string, e *Engine, log trim.Log, seen vec.Vec) {
	t.Helper()
	for range 2 {
		if g, v := e.Log(), e.Seen(); !same(g, log) || !slices.Equal(v, seen) {
			t.Fatalf("P19.1: %s: Log %v, Seen %v, want %v, %v", name, g, v, log, seen)
		}
	}
}

// pair is an engine and a plain one, to which the same is done.
type pair struct {
	*testing.T
	e *Engine
	p *plain
}

// paired makes both.
func paired(t *testing.T, n, me int) pair {
	t.Helper()
	return pair{t, made(t, n, me), &plain{n: n, me: me, log: keyed{}, seen: make(vec.Vec, n)}}
}

// is holds both against each other.
func (a pair) is(name string) {
	a.Helper()
	is(a.T, name, a.e, a.p.log.log(), a.p.seen)
}

// send sends by both.
func (a pair) send(to dset.Set) [][]byte {
	a.Helper()
	before := a.p.log.log()
	got, want := a.e.Send(to), a.p.send(to)
	if !slices.EqualFunc(got, want, bytes.Equal) {
		a.Fatalf("P19.1: %d of %d with Log %v Sends to %b: %d, want %d", a.p.me, a.p.n, before, to, got, want)
	}
	a.is("behind a Send")
	return got
}

// can asks both.
func (a pair) can(from int, num uint64, stamp []byte) bool {
	a.Helper()
	want := a.p.can(from, num, stamp)
	if a.e.Can(from, num, stamp) != want {
		a.Fatalf("P19.1: %d of %d that has Seen %d: Can(%d, %d, %d): %v, want %v", a.p.me, a.p.n, a.p.seen, from, num, stamp, !want, want)
	}
	a.is("behind a Can")
	return want
}

// take takes by both.
func (a pair) take(from int, num uint64, to dset.Set, stamp []byte) bool {
	a.Helper()
	a.can(from, num, stamp)
	want := a.p.take(from, num, to, stamp)
	if a.e.Take(from, num, to, stamp) != want {
		a.Fatalf("P19.1: %d of %d that has Seen %d: Take(%d, %d, %b, %d): %v, want %v", a.p.me, a.p.n, a.p.seen, from, num, to, stamp, !want, want)
	}
	a.is("behind a Take")
	return want
}

// fed gives both, with messages of these numbers delivered, where they are not nought.
func fed(t *testing.T, n, me int, num func(k int) uint64) pair {
	t.Helper()
	a := paired(t, n, me)
	for k := range n {
		if k != me && num(k) > 0 && !a.take(k, num(k), 0, none) {
			t.Fatalf("P19.1: %d of %d refuses number %d from %d with nothing ahead", me, n, num(k), k)
		}
	}
	return a
}

func TestExample(t *testing.T) {
	e := made(t, 2, 0)
	first, second := e.Send(dset.Of(1)), e.Send(dset.Of(1))
	if len(first) != 1 || !bytes.Equal(first[0], none) {
		t.Errorf("P19.1: the first stamp: %d, want 0", first)
	}
	if len(second) != 1 || !bytes.Equal(second[0], []byte{1, 0, 1, 2}) {
		t.Fatalf("P19.1: the second stamp: %d, want 1, 0 1 {1}", second)
	}
	if g, ok := trim.Get(second[0]); !ok || !same(g, of(entry(0, 1, 1))) {
		t.Errorf("P19.1: the second stamp is read as %v, %v, want 0 1 {1}", g, ok)
	}
	is(t, "behind two Sends", e, of(entry(0, 2, 1)), vec.Vec{0, 0})
}

// TestNew asks for each size with each process, those that may be and those that may not.
func TestNew(t *testing.T) {
	l := far()
	for n := -20; n <= 70; n++ {
		l = append(l, n)
	}
	for _, n := range l {
		for _, me := range l {
			e, err := New(n, me)
			if n >= 1 && n <= most && me >= 0 && me < n {
				if err != api.OK || e == nil {
					t.Fatalf("P19.1: New(%d, %d): %v, %v, want one", n, me, e, err)
				}
				is(t, "a new one", e, of(), make(vec.Vec, n))
			} else if err != api.EARG || e != nil {
				t.Fatalf("P19.1: New(%d, %d): %v, %v, want EARG alone", n, me, e, err)
			}
		}
	}
}

// TestSend sends from each one of each size, to all kinds of sets.
func TestSend(t *testing.T) {
	for n := 1; n <= most; n++ {
		for me := range n {
			a := paired(t, n, me)
			for _, to := range sets() {
				l := a.send(to)
				if want := dset.Count(to & dset.All(n) &^ dset.Of(me)); len(l) != want {
					t.Fatalf("P19.1: %d of %d Sends to %b: %d stamps, want %d", me, n, to, len(l), want)
				}
			}
		}
	}
}

// TestSendNone sends to nobody, to itself, and to those that are none: no stamp, but the number counts.
func TestSendNone(t *testing.T) {
	for n := 1; n <= most; n++ {
		for me := range n {
			a := paired(t, n, me)
			for k, to := range []dset.Set{0, dset.Of(me), dset.Of(n), dset.Of(63), dset.Set(top) << n, dset.Set(top)<<n | dset.Of(me)} {
				if l := a.send(to); len(l) != 0 {
					t.Fatalf("P19.1: %d of %d Sends to %b: %d, want nothing", me, n, to, l)
				}
				is(t, "behind a Send to nobody", a.e, of(entry(me, uint64(k+1))), make(vec.Vec, n))
			}
			if n == 1 {
				continue
			}
			d := (me + 1) % n
			if l := a.send(dset.Of(d)); len(l) != 1 || !bytes.Equal(l[0], written(of(entry(me, 6)))) {
				t.Fatalf("P19.1: %d of %d Sends behind six to nobody: %d", me, n, l)
			}
			a.send(0)
			is(t, "behind one to somebody and one to nobody", a.e, of(entry(me, 7, d), entry(me, 8)), make(vec.Vec, n))
		}
	}
}

// TestSendGrows sends so often that the numbers take more bytes.
func TestSendGrows(t *testing.T) {
	e := made(t, 3, 1)
	e.Send(dset.Of(0, 2))
	for k := uint64(1); k <= 20_000; k++ {
		l := e.Send(dset.Of(0, 2))
		first, second := written(of(entry(1, k, 0))), written(of(entry(1, k, 2)))
		if len(l) != 2 || !bytes.Equal(l[0], first) || !bytes.Equal(l[1], second) {
			t.Fatalf("P19.1: Send of number %d: %d, want %d and %d", k+1, l, first, second)
		}
	}
	is(t, "behind many Sends", e, of(entry(1, 20_001, 0, 2)), vec.Vec{0, 0, 0})
}

// TestSendBut sends behind what it heard: each stamp has its own one still in each To, and the others not.
func TestSendBut(t *testing.T) {
	a := paired(t, 5, 0)
	if !a.take(1, 3, dset.Of(0, 2, 3), written(of(entry(2, 5, 3), entry(4, 1, 1, 2)))) {
		t.Fatal("P19.1: Take is refused")
	}
	is(t, "behind a Take", a.e, of(entry(1, 3, 2, 3), entry(2, 5, 3), entry(4, 1, 1, 2)), vec.Vec{0, 3, 0, 0, 0})
	want := [][]byte{
		written(of(entry(1, 3, 3), entry(2, 5, 3), entry(4, 1, 1))),
		written(of(entry(1, 3, 2, 3), entry(2, 5, 3), entry(4, 1, 2))),
	}
	if l := a.send(dset.Of(2, 1)); !slices.EqualFunc(l, want, bytes.Equal) {
		t.Errorf("P19.1: Send to 1 and 2: %d, want %d", l, want)
	}
	is(t, "behind a Send", a.e, of(entry(0, 1, 1, 2), entry(1, 3, 3), entry(2, 5, 3), entry(4, 1)), vec.Vec{0, 3, 0, 0, 0})
	want = [][]byte{written(of(entry(0, 1, 1, 2), entry(1, 3, 3), entry(2, 5, 3), entry(4, 1)))}
	if l := a.send(dset.Of(3)); !slices.EqualFunc(l, want, bytes.Equal) {
		t.Errorf("P19.1: Send to 3: %d, want %d", l, want)
	}
	is(t, "behind two Sends", a.e, of(entry(0, 1, 1, 2), entry(0, 2, 3), entry(1, 3), entry(2, 5), entry(4, 1)), vec.Vec{0, 3, 0, 0, 0})
}

// TestSendPurges sends behind several of one sender's: what has no To any more is left out of a stamp and of the Log, but the last.
func TestSendPurges(t *testing.T) {
	a := paired(t, 4, 0)
	if !a.take(1, 3, 0, written(of(entry(1, 1, 2), entry(1, 2, 3)))) {
		t.Fatal("P19.1: Take is refused")
	}
	is(t, "behind a Take", a.e, of(entry(1, 1, 2), entry(1, 2, 3), entry(1, 3)), vec.Vec{0, 3, 0, 0})
	want := [][]byte{
		written(of(entry(1, 1, 2), entry(1, 3))),
		written(of(entry(1, 2, 3), entry(1, 3))),
	}
	if l := a.send(dset.Of(2, 3)); !slices.EqualFunc(l, want, bytes.Equal) {
		t.Errorf("P19.1: Send to 2 and 3: %d, want %d", l, want)
	}
	is(t, "behind a Send", a.e, of(entry(0, 1, 2, 3), entry(1, 3)), vec.Vec{0, 3, 0, 0})
}

// TestCan has entries for here, of each process, with a number below, at and above what it has seen of it.
func TestCan(t *testing.T) {
	for n := 2; n <= most; n++ {
		for _, me := range []int{0, n / 2, n - 1} {
			a := fed(t, n, me, func(k int) uint64 { return uint64(1 + k%4) })
			for k := range most {
				for _, num := range []uint64{1, 2, 3, 4, 5, 127, 128, top - 1, top} {
					b := written(of(entry(k, num, me, (me+1)%most)))
					for from := range n {
						want := from != me && (k == me || k < n && num <= uint64(1+k%4))
						if a.can(from, 9, b) != want {
							t.Fatalf("P19.1: %d of %d that has Seen %d, of a stamp with %d %d for it, from %d: %v, want %v", me, n, a.p.seen, k, num, from, !want, want)
						}
					}
				}
			}
		}
	}
}

// TestCanAll has entries of all at what was seen, and then one of them above it, at each place of the stamp.
func TestCanAll(t *testing.T) {
	for n := 2; n <= most; n++ {
		for me := range n {
			a := fed(t, n, me, func(k int) uint64 { return uint64(2 + k%3) })
			var g trim.Log
			for k := range n {
				g.L = append(g.L, entry(k, 1, me), entry(k, 2, (me+1)%n))
				if a.p.seen[k] > 2 {
					g.L = append(g.L, entry(k, a.p.seen[k], 0, me, 15))
				}
			}
			from := (me + 1) % n
			if !a.can(from, 9, written(g)) {
				t.Fatalf("P19.1: %d of %d that has Seen %d: Can says no to just that", me, n, a.p.seen)
			}
			for k := range n {
				if k == me {
					continue
				}
				m := keyedOf(g)
				m[key{k, a.p.seen[k] + 1}] = 1 << me
				if a.can(from, 9, written(m.log())) {
					t.Fatalf("P19.1: %d of %d that has Seen %d: Can says yes to one more of %d", me, n, a.p.seen, k)
				}
			}
		}
	}
}

// TestCanElse has entries of all kinds for others, and of its own for whomever: they do not count.
func TestCanElse(t *testing.T) {
	for n := 2; n <= most; n++ {
		for _, me := range []int{0, n / 2, n - 1} {
			a := paired(t, n, me)
			for k := range most {
				for _, num := range nums() {
					for _, to := range []dset.Set{0, dset.Of(me), all, all &^ dset.Of(me)} {
						want := k == me || to>>me&1 == 0
						if a.can((me+1)%n, 1, written(of(trim.Entry{From: k, Num: num, To: to}))) != want {
							t.Fatalf("P19.1: %d of %d, of a stamp with %d %d to %b: %v, want %v", me, n, k, num, to, !want, want)
						}
					}
				}
			}
		}
	}
}

// TestFrom has messages from all, and from those that are none: another one of the n alone may be.
func TestFrom(t *testing.T) {
	for n := 1; n <= most; n++ {
		for me := range n {
			a := paired(t, n, me)
			for _, from := range append(far(), me, n, n+1, 16) {
				if a.can(from, 1, none) || a.take(from, 1, dset.Of(me), none) {
					t.Fatalf("P19.1: %d of %d takes from %d", me, n, from)
				}
			}
			for from := range n {
				if a.take(from, 1, dset.Of(me), none) != (from != me) {
					t.Fatalf("P19.1: %d of %d, Take from %d", me, n, from)
				}
			}
		}
	}
}

// TestNum has numbers of all kinds: nought alone may not be, and what was seen is the last one, greater or less.
func TestNum(t *testing.T) {
	a := paired(t, 3, 1)
	l := nums()
	back := slices.Clone(l)
	slices.Reverse(back)
	for _, num := range slices.Concat(l, back) {
		if a.can(0, 0, none) || a.take(0, 0, 6, none) {
			t.Fatal("P19.1: number 0 may be delivered")
		}
		if !a.can(0, num, none) || !a.take(0, num, 6, none) {
			t.Fatalf("P19.1: number %d may not be delivered", num)
		}
		if seen := a.e.Seen(); !slices.Equal(seen, vec.Vec{num, 0, 0}) {
			t.Errorf("P19.1: Seen behind number %d: %d", num, seen)
		}
		if !a.can(2, 1, written(of(entry(0, num, 1)))) {
			t.Errorf("P19.1: Can says no to what is behind number %d, which was delivered", num)
		}
		if num < top && a.can(2, 1, written(of(entry(0, num+1, 1)))) {
			t.Errorf("P19.1: Can says yes to what is behind number %d, and only %d was delivered", num+1, num)
		}
	}
}

// wrong gives stamps that are none, one for each way in which they are not.
func wrong() map[string][]byte {
	a, b, c := entry(0, 2, 2), entry(0, 5, 2), entry(2, 1)
	l := map[string][]byte{
		"nil":                     nil,
		"empty":                   {},
		"one entry, not there":    {1},
		"one entry, cut off":      {1, 0},
		"an entry too few":        {0, 0, 1, 4},
		"an entry too many":       {2, 0, 1, 4},
		"a byte behind none":      {0, 0},
		"two noughts, long":       {128, 0},
		"many":                    {255, 255, 255, 255, 255, 255, 255, 255, 255, 1},
		"more than a number":      {255, 255, 255, 255, 255, 255, 255, 255, 255, 2},
		"a long From":             {1, 128, 0, 1, 4},
		"a long Num":              {1, 0, 129, 0, 4},
		"a long To":               {1, 0, 1, 132, 0},
		"Num nought":              written(of(entry(0, 0, 2))),
		"From 16":                 written(of(entry(16, 1, 2))),
		"From 64":                 written(of(entry(64, 1, 2))),
		"To 16":                   written(of(entry(0, 1, 16))),
		"To 63":                   written(of(a, entry(0, 3, 2, 63))),
		"twice":                   written(of(a, a)),
		"Num falls":               written(of(b, a)),
		"From falls":              written(of(c, a)),
		"From falls in the midst": written(of(a, c, b)),
	}
	for name, b := range l {
		l[name] = slices.Clone(b)
	}
	return l
}

// TestWrongStamps has stamps that are none: Can and Take say no, and nothing changes.
func TestWrongStamps(t *testing.T) {
	for n := 2; n <= most; n++ {
		a := fed(t, n, 1, func(k int) uint64 { return 9 })
		a.send(top)
		for name, b := range wrong() {
			if a.can(0, 10, b) || a.take(0, 10, 3, b) {
				t.Fatalf("P19.1: 1 of %d takes a stamp that is none: %s", n, name)
			}
		}
		if !a.take(0, 10, 3, none) {
			t.Fatalf("P19.1: 1 of %d refuses a stamp of no entries", n)
		}
	}
}

// TestChangedStamps cuts stamps off at each place, lengthens them, changes each byte to each other one, and puts one in and takes one away at each place.
func TestChangedStamps(t *testing.T) {
	yes, no := 0, 0
	for _, g := range []trim.Log{of(), of(entry(0, 300, 1)), of(entry(0, 1, 0, 1), entry(0, 300, 0, 2), entry(2, top, 1, 15))} {
		a := fed(t, 3, 1, func(k int) uint64 { return 400 })
		try := func(b []byte) {
			t.Helper()
			if a.can(0, 401, b) {
				yes++
			} else {
				no++
			}
		}
		b := written(g)
		for k := range b {
			if a.can(0, 401, b[:k]) {
				t.Fatalf("P19.1: Can of a stamp that is cut off: %d", b[:k])
			}
			for c := range 256 {
				changed := slices.Clone(b)
				changed[k] = byte(c)
				try(changed)
				try(slices.Insert(slices.Clone(b), k, byte(c)))
			}
			try(slices.Delete(slices.Clone(b), k, k+1))
		}
		for c := range 256 {
			if a.can(0, 401, append(slices.Clone(b), byte(c))) {
				t.Fatalf("P19.1: Can of a stamp with %d behind it", c)
			}
		}
	}
	if yes < 10 || no < 10 {
		t.Errorf("P19.1: %d may be and %d may not: the test tells nothing", yes, no)
	}
}

// TestTake takes some messages, and refuses one in between.
func TestTake(t *testing.T) {
	a := paired(t, 4, 2)
	if !a.e.Take(0, 1, dset.Of(1, 2, 3), none) {
		t.Fatal("P19.1: Take is refused")
	}
	is(t, "behind the first", a.e, of(entry(0, 1, 1, 3)), vec.Vec{1, 0, 0, 0})
	if a.e.Take(1, 1, dset.Of(2), written(of(entry(0, 2, 2)))) {
		t.Error("P19.1: Take ahead of what came ahead of it")
	}
	is(t, "behind the refused one", a.e, of(entry(0, 1, 1, 3)), vec.Vec{1, 0, 0, 0})
	if !a.e.Take(1, 1, dset.Of(0, 2), written(of(entry(0, 1, 2, 3), entry(3, 7, 0)))) {
		t.Fatal("P19.1: Take of the second is refused")
	}
	// What 1 knew of as come to itself need not be told any more; what is for 0 and 3 may not have come.
	is(t, "behind the second", a.e, of(entry(0, 1, 3), entry(1, 1, 0), entry(3, 7, 0)), vec.Vec{1, 1, 0, 0})
	if !a.e.Take(0, 2, dset.Of(2), written(of(entry(0, 1, 2), entry(3, 8, 1)))) {
		t.Fatal("P19.1: Take of the third is refused")
	}
	is(t, "behind the third", a.e, of(entry(0, 2), entry(1, 1, 0), entry(3, 8, 1)), vec.Vec{2, 1, 0, 0})
}

// TestTakeTo takes messages to all kinds of sets: to these it was sent, me and its sender too; to what no entry may have, it adds none.
func TestTakeTo(t *testing.T) {
	for n := 2; n <= most; n++ {
		for _, me := range []int{0, n / 2, n - 1} {
			a, from := paired(t, n, me), (me+1)%n
			for k, to := range sets() {
				if !a.take(from, uint64(k+1), to, none) {
					t.Fatalf("P19.1: Take to %b is refused", to)
				}
				alone := made(t, n, me)
				alone.Take(from, 5, to, none)
				var want trim.Log
				if to <= all {
					want = of(trim.Entry{From: from, Num: 5, To: to &^ (1 << me)})
				}
				seen := make(vec.Vec, n)
				seen[from] = 5
				is(t, "behind one alone", alone, want, seen)
			}
		}
	}
}

// TestTakeInPlace takes messages whose stamps have an entry of their own, and of their senders ahead and behind.
func TestTakeInPlace(t *testing.T) {
	a := paired(t, 3, 2)
	if !a.take(0, 4, dset.Of(1), written(of(entry(0, 3, 0), entry(0, 4, 0, 1), entry(0, 6, 1)))) {
		t.Fatal("P19.1: Take is refused")
	}
	is(t, "behind a stamp with an entry of its own", a.e, of(entry(0, 3, 0), entry(0, 4, 1), entry(0, 6, 1)), vec.Vec{4, 0, 0})
	if !a.take(0, 5, dset.Of(1, 2), written(of(entry(0, 4, 0, 1, 2), entry(0, 6, 0, 1)))) {
		t.Fatal("P19.1: Take of the second is refused")
	}
	// 3 is out, since the other one knows of a later one; 5 is out likewise.
	is(t, "behind another one", a.e, of(entry(0, 4, 1), entry(0, 6, 1)), vec.Vec{5, 0, 0})
}

// TestTakeOwn takes stamps that have entries of its own: they are joined as all others are.
func TestTakeOwn(t *testing.T) {
	a := paired(t, 3, 0)
	a.send(dset.Of(1, 2))
	if !a.take(1, 1, dset.Of(0), written(of(entry(0, 1, 2)))) {
		t.Fatal("P19.1: Take is refused")
	}
	is(t, "behind a stamp with its own entry", a.e, of(entry(0, 1, 2), entry(1, 1)), vec.Vec{0, 1, 0})
	if !a.take(1, 2, dset.Of(0), written(of(entry(0, 9, 0, 2)))) {
		t.Fatal("P19.1: Take of the second is refused")
	}
	is(t, "behind a stamp with its own entry that it never sent", a.e, of(entry(0, 9, 2), entry(1, 2)), vec.Vec{0, 2, 0})
	if l := a.send(dset.Of(1)); !slices.EqualFunc(l, [][]byte{written(of(entry(0, 9, 2), entry(1, 2)))}, bytes.Equal) {
		t.Errorf("P19.1: Send behind that: %d", l)
	}
	is(t, "behind a Send", a.e, of(entry(0, 2, 1), entry(0, 9, 2), entry(1, 2)), vec.Vec{0, 2, 0})
}

// small gives stamps of entries of 0 and 1, with Num 1 and 2, to some of two.
func small() [][]byte {
	var l [][]byte
	for to := range dset.Set(4) {
		for k := range 4 {
			x := trim.Entry{From: k / 2, Num: uint64(k%2 + 1), To: to}
			l = append(l, written(of(x)))
			if x.Num == 1 {
				l = append(l, written(of(x, trim.Entry{From: x.From, Num: 2, To: 3 &^ to})))
			}
			if x.From == 0 {
				l = append(l, written(of(x, trim.Entry{From: 1, Num: x.Num, To: to})))
			}
		}
	}
	return append(l, none, nil)
}

// do does to both what a number tells: Sends and Takes.
func (a pair) do(op int, stamps [][]byte) bool {
	a.Helper()
	if op < 4 {
		a.send(dset.Set(op))
		return true
	}
	op -= 4
	from, num, to := op%2, uint64(op/2%3), dset.Set(op/6%4)
	return a.take(from, num, to, stamps[op/24])
}

// TestShortRuns does all short runs to engines of two, and longer ones.
func TestShortRuns(t *testing.T) {
	stamps := small()
	ops := 4 + 2*3*4*len(stamps)
	for me := range 2 {
		var some []int
		for op := range ops {
			// What is refused whatever went ahead is tried once.
			if op >= 4 && ((op-4)%2 == me || (op-4)/2%3 == 0) {
				paired(t, 2, me).do(op, stamps)
			} else {
				some = append(some, op)
			}
		}
		for _, first := range some {
			for _, second := range some {
				a := paired(t, 2, me)
				a.do(first, stamps)
				a.do(second, stamps)
			}
		}
		x, yes, no := uint64(me+1), 0, 0
		for range 400 {
			a := paired(t, 2, me)
			for range 30 {
				x = next(x)
				if a.do(some[x>>33%uint64(len(some))], stamps) {
					yes++
				} else {
					no++
				}
			}
		}
		if yes < 1000 || no < 1000 {
			t.Errorf("P19.1: %d were done and %d refused: the test tells nothing", yes, no)
		}
	}
}

// chance gives a stamp that looks like chance, with at most many entries of so many processes, and the next x.
func chance(x uint64, many, procs int) ([]byte, uint64) {
	m := keyed{}
	for range many {
		x = next(x)
		k := key{int(x >> 33 % uint64(procs)), x>>50%6 + 1}
		x = next(x)
		m[k] = dset.Set(x >> 48 & (x >> 32))
	}
	return written(m.log()), x
}

// TestLongRuns does long runs that look like chance to engines of each size.
func TestLongRuns(t *testing.T) {
	for n := 2; n <= most; n++ {
		x := uint64(n)
		for me := range n {
			a := paired(t, n, me)
			yes, no := 0, 0
			for range 300 {
				x = next(x)
				if x>>61 == 0 {
					a.send(dset.Set(next(x) >> 47))
					continue
				}
				from, num := int(x>>20%uint64(n+1)), x>>40%8
				to := dset.Set(next(x) >> 48)
				var b []byte
				b, x = chance(x, int(x>>30%5), min(n+1, most))
				if a.take(from, num, to, b) {
					yes++
				} else {
					no++
				}
			}
			if yes < 20 || no < 20 {
				t.Errorf("P19.1: %d of %d takes %d, and refuses %d: the test tells nothing", me, n, yes, no)
			}
		}
	}
}

// sent is a message in a net of these tests: what it is, its stamps by both engines for each it goes to, and which messages came ahead of it.
type sent struct {
	from       int
	num        uint64
	to         dset.Set
	lean, full map[int][]byte
	ahead      []bool
}

// proc is a process of a net: both engines, and which messages it knows of and which it has delivered.
type proc struct {
	pair
	full        *full.Engine
	num         uint64
	known, done []bool
}

// net is all processes and messages.
type net struct {
	*testing.T
	n     int
	procs []*proc
	all   []sent
	// How often a message could be delivered when it was asked for, and how often not.
	yes, no int
}

// newNet makes one of n, with room for that many messages.
func newNet(t *testing.T, n, room int) *net {
	s := &net{T: t, n: n}
	for me := range n {
		f, err := full.New(n, me)
		if err != api.OK {
			t.Fatalf("P17.1: New(%d, %d): %v", n, me, err)
		}
		s.procs = append(s.procs, &proc{pair: paired(t, n, me), full: f, known: make([]bool, room), done: make([]bool, room)})
	}
	return s
}

// cast sends a message by both engines.
func (s *net) cast(from int, to dset.Set) {
	s.Helper()
	to &= dset.All(s.n) &^ dset.Of(from)
	a := s.procs[from]
	a.num++
	m := sent{from: from, num: a.num, to: to, lean: map[int][]byte{}, full: map[int][]byte{}, ahead: slices.Clone(a.known)}
	lean, full := a.send(to), a.full.Send(to)
	for k, d := range dset.List(to) {
		m.lean[d], m.full[d] = lean[k], full[k]
	}
	a.known[len(s.all)] = true
	s.all = append(s.all, m)
}

// goesTo tells whether a message is on its way to one.
func (s *net) goesTo(k, at int) bool { return dset.Has(s.all[k].to, at) && !s.procs[at].done[k] }

// onItsWay tells all messages that are on their way to one.
func (s *net) onItsWay(at int) []int {
	var l []int
	for k := range s.all {
		if s.goesTo(k, at) {
			l = append(l, k)
		}
	}
	return l
}

// may tells by the truth whether a message may be delivered: all that is ahead of it and for here was.
func (s *net) may(k, at int) bool {
	for other, is := range s.all[k].ahead {
		if is && s.goesTo(other, at) {
			return false
		}
	}
	return true
}

// asks asks both engines and the truth whether a message may be delivered: all must say the same.
func (s *net) asks(k, at int) bool {
	s.Helper()
	m, a, want := s.all[k], s.procs[at], s.may(k, at)
	lean, full := a.e.Can(m.from, m.num, m.lean[at]), a.full.Can(m.from, m.num, m.full[at])
	if lean != want || full != want {
		s.Fatalf("P19.2: number %d from %d at %d: %v by the log, %v by the matrix, and in truth %v", m.num, m.from, at, lean, full, want)
	}
	if want {
		s.yes++
	} else {
		s.no++
	}
	return want
}

// asksAll asks of all that is on its way.
func (s *net) asksAll() {
	s.Helper()
	for k := range s.all {
		for at := range s.n {
			if s.goesTo(k, at) {
				s.asks(k, at)
			}
		}
	}
}

// come lets a message come: it is delivered, if it may be.
func (s *net) come(k, at int) bool {
	s.Helper()
	m, a, want := s.all[k], s.procs[at], s.asks(k, at)
	lean, full := a.take(m.from, m.num, m.to, m.lean[at]), a.full.Take(m.from, m.num, m.to, m.full[at])
	if lean != want || full != want {
		s.Fatalf("P19.2: Take of number %d from %d at %d: %v by the log, %v by the matrix, and in truth %v", m.num, m.from, at, lean, full, want)
	}
	if want {
		a.done[k], a.known[k] = true, true
		for other, is := range m.ahead {
			a.known[other] = a.known[other] || is
		}
	}
	return want
}

// settle lets all come that is on its way, the last first, till nothing is.
func (s *net) settle() {
	s.Helper()
	for more := true; more; {
		more = false
		for k := len(s.all) - 1; k >= 0; k-- {
			for at := range s.n {
				more = s.goesTo(k, at) && s.come(k, at) || more
			}
		}
	}
	for k := range s.all {
		for at := range s.n {
			if s.goesTo(k, at) {
				s.Fatalf("P19.2: number %d from %d never comes at %d", s.all[k].num, s.all[k].from, at)
			}
		}
	}
}

// bounded tells whether logs are as short as they must stay: of one sender's messages the last one to each says that all ahead of it come first, so no two are kept for one.
func (s *net) bounded() {
	s.Helper()
	for me, a := range s.procs {
		g := a.e.Log()
		for i, x := range g.L {
			for _, y := range g.L[:i] {
				if x.From == y.From && x.To&y.To != 0 {
					s.Fatalf("T6: %d has two of one sender for one: %v", me, g)
				}
			}
		}
		if len(g.L) > s.n*s.n {
			s.Fatalf("T6: %d has a log of %d entries", me, len(g.L))
		}
	}
}

// some gives a set of those below n that looks like chance: about half of all, one, or few or nobody, as the round has it.
func some(x uint64, n, round int) dset.Set {
	half := dset.Set(x >> 32)
	switch round {
	case 0:
		return half
	case 1:
		return 1 << (x >> 50 % uint64(n))
	}
	return half & dset.Set(x>>45)
}

// TestBothEngines has nets in which messages come in any order: each engine says yes to just those all of whose messages ahead, for here, were delivered.
func TestBothEngines(t *testing.T) {
	const steps = 300
	for n := 2; n <= most; n++ {
		x := uint64(n)
		for round := range 3 {
			s := newNet(t, n, steps)
			for range steps {
				x = next(x)
				at := int(x >> 33 % uint64(n))
				if x>>60 < 9 || len(s.all) == 0 {
					s.cast(at, some(next(x), n, round))
				} else if l := s.onItsWay(at); len(l) > 0 {
					s.come(l[x>>20%uint64(len(l))], at)
				}
				if n <= 4 {
					s.asksAll()
					s.bounded()
				}
			}
			s.bounded()
			s.settle()
			s.bounded()
			if s.yes < 20 || s.no < 20 {
				t.Errorf("P19.2: of %d, %d messages could be delivered and %d could not: the test tells nothing", n, s.yes, s.no)
			}
		}
	}
}

// step is a step of a run: a Send of at's to a set, or message k that comes at one.
type step struct {
	send  bool
	at, k int
	to    dset.Set
}

// run does steps, each of which may be.
func run(t *testing.T, n int, steps []step) *net {
	t.Helper()
	s := newNet(t, n, len(steps)+1)
	for _, x := range steps {
		if x.send {
			s.cast(x.at, x.to)
		} else if !s.come(x.k, x.at) {
			t.Fatalf("P19.2: %v: the last one does not come", steps)
		}
	}
	return s
}

// runs does all runs of so many more steps behind these, and asks of all on its way behind each. The first one is 0's, as well as any other's.
func runs(t *testing.T, n, more int, steps []step) (yes, no int) {
	t.Helper()
	s := run(t, n, steps)
	s.asksAll()
	s.bounded()
	yes, no = s.yes, s.no
	if more == 0 {
		return yes, no
	}
	var l []step
	for at := range n {
		for to := range dset.All(n) + 1 {
			if !dset.Has(to, at) && (len(steps) > 0 || at == 0) {
				l = append(l, step{send: true, at: at, to: to})
			}
		}
	}
	for k := range s.all {
		for at := range n {
			if s.goesTo(k, at) && s.may(k, at) {
				l = append(l, step{at: at, k: k})
			}
		}
	}
	for _, x := range l {
		y, n := runs(t, n, more-1, append(slices.Clip(steps), x))
		yes, no = yes+y, no+n
	}
	return yes, no
}

// TestAllRuns does all short runs of two and of three.
func TestAllRuns(t *testing.T) {
	for n, more := range map[int]int{1: 6, 2: 6, 3: 4} {
		yes, no := runs(t, n, more, nil)
		if n > 1 && (yes < 100 || no < 100) {
			t.Errorf("P19.2: of %d, %d messages could be delivered and %d could not: the test tells nothing", n, yes, no)
		}
	}
}

// TestTriangle has 0 send to 1 and 2, and 1 send to 2 behind it: 2 takes 0's ahead of 1's.
func TestTriangle(t *testing.T) {
	s := newNet(t, 3, 2)
	s.cast(0, dset.Of(1, 2))
	if !s.come(0, 1) {
		t.Fatal("P19.2: 1 refuses the first")
	}
	s.cast(1, dset.Of(2))
	if s.come(1, 2) {
		t.Error("P19.2: 2 takes what has another one ahead of it that did not come")
	}
	if !s.come(0, 2) || !s.come(1, 2) {
		t.Error("P19.2: 2 refuses both in their order")
	}
}

// TestLongWay has 0 send to the last, and then word of it go by all others in a row: the last takes 0's ahead of what comes behind all.
func TestLongWay(t *testing.T) {
	for n := 3; n <= most; n++ {
		s := newNet(t, n, n)
		s.cast(0, dset.Of(n-1))
		for k := range n - 1 {
			s.cast(k, dset.Of(k+1))
			if k+1 < n-1 && !s.come(k+1, k+1) {
				t.Fatalf("P19.2: %d of %d refuses", k+1, n)
			}
		}
		if s.come(n-1, n-1) {
			t.Errorf("P19.2: the last of %d takes what has another one ahead of it that did not come", n)
		}
		if !s.come(0, n-1) || !s.come(n-1, n-1) {
			t.Errorf("P19.2: the last of %d refuses both in their order", n)
		}
	}
}

// TestConcurrent has two send with nothing ahead: they come in either order.
func TestConcurrent(t *testing.T) {
	for first := range 2 {
		s := newNet(t, 3, 2)
		s.cast(0, dset.Of(1, 2))
		s.cast(1, dset.Of(0, 2))
		if !s.come(first, 2) || !s.come(1-first, 2) {
			t.Errorf("P19.2: 2 refuses what has nothing ahead, number %d first", first)
		}
	}
}

// spoil writes into all of a list of bytes, spare room too.
func spoil(b []byte) {
	b = b[:cap(b)]
	for i := range b {
		b[i] = 77
	}
}

// spoilLog writes into all of a log, spare room too.
func spoilLog(g trim.Log) {
	l := g.L[:cap(g.L)]
	for i := range l {
		l[i] = entry(7, 7777, 7)
	}
}

// spoilVec writes into all of a row, spare room too.
func spoilVec(v vec.Vec) {
	v = v[:cap(v)]
	for i := range v {
		v[i] = 7777
	}
}

// TestAnswersAreNew writes into all that an engine tells: it goes on as it was, and other answers stay.
func TestAnswersAreNew(t *testing.T) {
	for n := 2; n <= most; n++ {
		a := fed(t, n, 1, func(k int) uint64 { return uint64(k + 1) })
		a.take(0, 9, all, written(of(entry(0, 2, n-1), entry(n-1, 1, 0))))
		for _, to := range []dset.Set{0, 1, top, 1 << (n - 1), top, top} {
			l := a.send(to)
			for k := range l {
				others := slices.Clone(l)
				others[k] = nil
				want := fmt.Sprint(others)
				spoil(l[k])
				if fmt.Sprint(others) != want {
					t.Fatalf("R4: stamp %d of %d shares memory with another one", k, len(l))
				}
			}
			l = l[:cap(l)]
			for k := range l {
				l[k] = []byte{77}
			}
			g, v := a.e.Log(), a.e.Seen()
			spoilLog(a.e.Log())
			spoilVec(a.e.Seen())
			if !same(g, a.p.log.log()) || !slices.Equal(v, a.p.seen) {
				t.Fatalf("R4: Log or Seen shares memory with another one")
			}
			spoilLog(g)
			spoilVec(v)
			a.is("behind answers that were written into")
		}
	}
}

// TestAnswersStay keeps what an engine told, and goes on: it stays as it was.
func TestAnswersStay(t *testing.T) {
	a := fed(t, 4, 1, func(k int) uint64 { return uint64(k + 1) })
	g, v, l := a.e.Log(), a.e.Seen(), a.e.Send(top)
	a.p.send(top)
	want := fmt.Sprint(g, v, l)
	for k := range uint64(20) {
		a.send(dset.Set(k))
		a.take(0, k+9, dset.Set(k), written(of(entry(0, k+1, 2), entry(2, 1, 0, 1, 3))))
	}
	if got := fmt.Sprint(g, v, l); got != want {
		t.Errorf("R4: what was told was %s, and is %s", want, got)
	}
}

// TestKeepsNothing writes into the stamps behind Can and Take: the engine stays as it was, and the stamps, spare room too, did not change by the calls.
func TestKeepsNothing(t *testing.T) {
	for n := 2; n <= most; n++ {
		a := paired(t, n, 0)
		for k := range uint64(4) {
			b := append(make([]byte, 0, 500), written(of(entry(1, k+1, n-1), entry(n-1, k+9, 1)))...)
			before := slices.Clone(b[:cap(b)])
			for _, from := range []int{1, 0, n} {
				a.take(from, k+1, all, b)
				if !bytes.Equal(b[:cap(b)], before) {
					t.Fatalf("R4: Take from %d changes its stamp", from)
				}
			}
			spoil(b)
			a.is("behind a stamp that was written into")
		}
	}
}

// TestApart has two engines alike: what one is told, the other does not know.
func TestApart(t *testing.T) {
	a, b := made(t, 3, 0), made(t, 3, 0)
	a.Send(6)
	a.Take(1, 1, 5, none)
	is(t, "another one", b, of(), vec.Vec{0, 0, 0})
	is(t, "this one", a, of(entry(0, 1, 1, 2), entry(1, 1, 2)), vec.Vec{0, 1, 0})
}
