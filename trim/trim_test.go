package trim

import (
	"bytes"
	"encoding/binary"
	"fmt"
	"math"
	"slices"
	"testing"

	"shoal/dset"
)

// procCount is how many processes there can be, all of them together, and top the greatest Num.
const (
	procCount = 16
	all       = dset.Set(1<<procCount - 1)
	top       = math.MaxUint64
)

// far gives numbers that are no process.
func far() []int {
	return []int{-1, -2, -15, -16, -17, -63, -64, -65, 16, 17, 18, 31, 32, 33, 63, 64, 65, 128, 256, 1 << 16, 1 << 32, 1<<32 + 1, -1 << 32, 1 - 1<<32, math.MaxInt, math.MinInt, math.MinInt + 1}
}

// nums gives Nums at their edges, those of each length in bytes among them, rising from 1.
func nums() []uint64 {
	l := []uint64{1, 2}
	for shift := 7; shift < 64; shift += 7 {
		l = append(l, 1<<shift-1, 1<<shift)
	}
	return append(l, top-1, top)
}

// sets gives sets that a To may be: none, all, each process alone and missing, and some others.
func sets() []dset.Set {
	l := []dset.Set{0, all, 0b101, 0x5555, 0xaaaa, 0xff, 0xff00}
	for p := range procCount {
		l = append(l, 1<<p, all&^(1<<p))
	}
	return l
}

// strange gives sets that no To may be: processes from 16 on are in them.
func strange() []dset.Set {
	l := []dset.Set{math.MaxUint64, math.MaxUint64 &^ all, all + 1, all<<1 | 1}
	for p := procCount; p < 64; p++ {
		l = append(l, 1<<p, 1<<p|1, 1<<p|all)
	}
	return l
}

// next gives what looks like chance behind x, and is the same each time.
func next(x uint64) uint64 { return x*6364136223846793005 + 1442695040888963407 }

// of makes a log of entries, whether it is Good or not.
func of(l ...Entry) Log { return Log{L: l} }

// alike makes a log alike in memory of its own, with no call of the package.
func alike(g Log) Log { return Log{L: append([]Entry{}, g.L...)} }

// same tells whether two are alike; a list that is nil and an empty one are.
func same(a, b Log) bool { return slices.Equal(a.L, b.L) }

// chance gives a log that looks like chance, with at most many entries.
func chance(seed uint64, many, procs int) Log {
	p, x, l := plain{}, next(seed+1), sets()
	for range many {
		x = next(x)
		k := key{int(x >> 33 % uint64(procs)), x>>40%5 + 1}
		x = next(x)
		p[k] = l[x>>33%uint64(len(l))]
	}
	return p.log()
}

// key is what an entry is told by.
type key struct {
	from int
	num  uint64
}

// plain is a log kept in the plainest way.
type plain map[key]dset.Set

// plainOf makes one.
func plainOf(g Log) plain {
	p := plain{}
	for _, x := range g.L {
		p[key{x.From, x.Num}] = x.To
	}
	return p
}

// log tells its entries in their order.
func (p plain) log() Log {
	var g Log
	for k, to := range p {
		g.L = append(g.L, Entry{k.from, k.num, to})
	}
	slices.SortFunc(g.L, func(a, b Entry) int {
		if a.From != b.From {
			return a.From - b.From
		}
		if a.Num < b.Num {
			return -1
		}
		return 1
	})
	return g
}

// greater tells whether it has one of a From with a greater Num.
func (p plain) greater(k key) bool {
	for o := range p {
		if o.from == k.from && o.num > k.num {
			return true
		}
	}
	return false
}

// less takes some out of each, d where it is kept.
func (p plain) less(to dset.Set, d int) plain {
	l := plain{}
	for k, old := range p {
		var left dset.Set
		for i := range procCount {
			if old>>i&1 == 1 && (to>>i&1 == 0 || i == d) {
				left |= 1 << i
			}
		}
		l[k] = left
	}
	return l
}

// purge leaves out what says nothing.
func (p plain) purge() plain {
	l := plain{}
	for k, to := range p {
		if to != 0 || !p.greater(k) {
			l[k] = to
		}
	}
	return l
}

// join puts two together.
func (p plain) join(heard plain) plain {
	l := plain{}
	for k, to := range p {
		if other, ok := heard[k]; ok {
			l[k] = to & other
		} else if !heard.greater(k) {
			l[k] = to
		}
	}
	for k, to := range heard {
		if _, ok := p[k]; !ok && !p.greater(k) {
			l[k] = to
		}
	}
	return l
}

// goodPlainly tells whether a log may be, each entry held against each.
func goodPlainly(g Log) bool {
	for i, x := range g.L {
		if x.From < 0 || x.From > 15 || x.Num == 0 || x.To > all {
			return false
		}
		for _, y := range g.L[:i] {
			if y.From > x.From || y.From == x.From && y.Num >= x.Num {
				return false
			}
		}
	}
	return true
}

// written writes a log, with no call of another package of the program.
func written(g Log) []byte {
	b := binary.AppendUvarint(nil, uint64(len(g.L)))
	for _, x := range g.L {
		b = binary.AppendUvarint(b, uint64(x.From))
		b = binary.AppendUvarint(b, x.Num)
		b = binary.AppendUvarint(b, uint64(x.To))
	}
	return b
}

// readPlainly reads a log likewise: what is read must be one that may be, and be written just so.
func readPlainly(b []byte) (Log, bool) {
	count, size := binary.Uvarint(b)
	if size <= 0 || count > uint64(len(b)) {
		return Log{}, false
	}
	left, g := b[size:], Log{}
	for range count {
		var parts [3]uint64
		for i := range parts {
			n, size := binary.Uvarint(left)
			if size <= 0 {
				return Log{}, false
			}
			parts[i], left = n, left[size:]
		}
		if parts[0] > 15 {
			return Log{}, false
		}
		g.L = append(g.L, Entry{int(parts[0]), parts[1], dset.Set(parts[2])})
	}
	if !goodPlainly(g) || !bytes.Equal(written(g), b) {
		return Log{}, false
	}
	return g, true
}

// small gives all logs of From 0 and 1, Num 1 and 2, each with a To of some of two processes.
func small() []Log {
	tos := []dset.Set{0, 1, 2, 3}
	l := []Log{{}}
	for _, k := range []key{{0, 1}, {0, 2}, {1, 1}, {1, 2}} {
		for _, g := range slices.Clone(l) {
			for _, to := range tos {
				l = append(l, of(append(slices.Clone(g.L), Entry{k.from, k.num, to})...))
			}
		}
	}
	return l
}

// edges gives logs of all kinds that are Good.
func edges() []Log {
	l := []Log{{}, {L: []Entry{}}}
	for from := range procCount {
		for _, num := range nums() {
			l = append(l, of(Entry{from, num, all}))
		}
	}
	for _, to := range sets() {
		l = append(l, of(Entry{3, 4, to}), of(Entry{0, 1, to}, Entry{0, 2, 0}, Entry{15, top, to}))
	}
	var each, rising Log
	for from := range procCount {
		each.L = append(each.L, Entry{from, top - uint64(from), 1 << from})
	}
	for _, num := range nums() {
		rising.L = append(rising.L, Entry{7, num, 0})
	}
	l = append(l, each, rising)
	for seed := range uint64(60) {
		l = append(l, chance(seed, int(seed), int(seed%16+1)))
	}
	return l
}

// wrong gives logs that are not Good, one for each way in which they are not.
func wrong() map[string]Log {
	a, b, c := Entry{1, 2, 8}, Entry{1, 5, 6}, Entry{4, 1, 0}
	l := map[string]Log{
		"zero entry":             of(Entry{}),
		"Num nought":             of(Entry{1, 0, 1}),
		"Num nought ahead":       of(Entry{1, 0, 1}, a, b),
		"Num nought behind":      of(a, b, Entry{4, 0, 1}),
		"twice":                  of(a, a),
		"twice, other To":        of(a, Entry{1, 2, 3}),
		"twice behind":           of(a, b, b),
		"twice last":             of(a, b, c, c),
		"Num falls":              of(b, a),
		"Num falls by one":       of(Entry{0, top, 1}, Entry{0, top - 1, 1}),
		"From falls":             of(c, a),
		"From falls, Num rises":  of(Entry{4, 1, 0}, Entry{1, 2, 8}),
		"From falls last":        of(a, b, c, Entry{3, 9, 0}),
		"From falls in between":  of(a, c, b, Entry{5, 1, 1}),
		"a doubled one at ends":  of(a, b, a),
		"wrong To, then a right": of(Entry{0, 1, 1 << 16}, a),
		"right, then wrong To":   of(a, Entry{1, 3, 1 << 63}),
		"far From with Num":      of(Entry{16, 1, 1}),
	}
	for _, from := range far() {
		l["From "+fmt.Sprint(from)] = of(Entry{from, 1, 1})
		l["last From "+fmt.Sprint(from)] = of(a, b, Entry{from, 1, 1})
		l["first From "+fmt.Sprint(from)] = of(Entry{from, 1, 1}, a, b)
	}
	for _, to := range strange() {
		l["To "+fmt.Sprint(to)] = of(a, Entry{1, 3, to}, c)
	}
	return l
}

// is holds an answer against what it must be.
func is(t *testing.T, name string, got, want Log) {
	t.Helper()
	if !same(got, want) {
		t.Fatalf("P18.1: %s: %v, want %v", name, got, want)
	}
}

func TestExample(t *testing.T) {
	own, heard := of(Entry{0, 2, dset.Of(1)}), of(Entry{0, 1, dset.Of(3)})
	is(t, "Join of the example", Join(own, heard), of(Entry{0, 2, dset.Of(1)}))
	is(t, "Join of the example, turned about", Join(heard, own), of(Entry{0, 2, dset.Of(1)}))
}

// TestGood asks for what may be, what may not, and all short logs.
func TestGood(t *testing.T) {
	for _, g := range slices.Concat(small(), edges()) {
		if !Good(g) || !goodPlainly(g) {
			t.Errorf("P18.1: Good(%v): false", g)
		}
	}
	for name, g := range wrong() {
		if Good(g) || goodPlainly(g) {
			t.Errorf("P18.1: %s: Good(%v): true", name, g)
		}
	}
	for _, from := range append(far(), 0, 1, 7, 14, 15) {
		for _, num := range append(nums(), 0) {
			for _, to := range slices.Concat(sets(), strange()) {
				g := of(Entry{from, num, to})
				if Good(g) != goodPlainly(g) {
					t.Fatalf("P18.1: Good(%v): %v", g, Good(g))
				}
			}
		}
	}
	var each []Entry
	for from := range 2 {
		for num := range uint64(4) {
			each = append(each, Entry{from, num, 1}, Entry{from, num, 0})
		}
	}
	good := 0
	for _, x := range each {
		for _, y := range each {
			for _, z := range each {
				g := of(x, y, z)
				if Good(g) != goodPlainly(g) {
					t.Fatalf("P18.1: Good(%v): %v", g, Good(g))
				}
				if Good(g) {
					good++
				}
			}
		}
	}
	if good == 0 || good == len(each)*len(each)*len(each) {
		t.Errorf("P18.1: %d of these are Good: the test tells nothing", good)
	}
}

// TestAdd adds at each place, in place of each, and what may not be.
func TestAdd(t *testing.T) {
	var xs []Entry
	for _, from := range []int{0, 1, 2, 7, 14, 15} {
		for _, num := range []uint64{1, 2, 3, 4, 5, 6, 127, top - 1, top} {
			xs = append(xs, Entry{from, num, 0}, Entry{from, num, all}, Entry{from, num, 2})
		}
	}
	in, instead := 0, 0
	for _, g := range slices.Concat(small(), edges()) {
		for _, x := range append(xs, g.L...) {
			p := plainOf(g)
			p[key{x.From, x.Num}] = x.To
			is(t, fmt.Sprintf("Add(%v, %v)", g, x), Add(g, x), p.log())
			if len(p) == len(g.L) {
				instead++
			} else {
				in++
			}
		}
	}
	if in == 0 || instead == 0 {
		t.Errorf("P18.1: %d went in and %d instead: the test tells nothing", in, instead)
	}
}

// TestAddWrong adds what may not be, to what is Good and to what is not.
func TestAddWrong(t *testing.T) {
	bad := []Entry{{}, {0, 0, 1}, {15, 0, 0}, {16, 0, 0}}
	for _, from := range far() {
		bad = append(bad, Entry{from, 1, 1}, Entry{from, 9, 0})
	}
	for _, to := range strange() {
		bad = append(bad, Entry{0, 1, to}, Entry{3, 4, to})
	}
	for _, g := range edges() {
		for _, x := range bad {
			is(t, fmt.Sprintf("Add(%v, %v)", g, x), Add(g, x), g)
		}
	}
	for name, g := range wrong() {
		for _, x := range append(bad, Entry{0, 1, 1}, Entry{1, 2, 3}, Entry{15, top, 0}) {
			is(t, name+": Add", Add(g, x), g)
		}
	}
}

// TestAddBuilds builds logs by Adds in whatever order.
func TestAddBuilds(t *testing.T) {
	for seed := range uint64(40) {
		x, g, p := next(seed+1), Log{}, plain{}
		for range 200 {
			x = next(x)
			y := Entry{int(x >> 33 % 18), x >> 40 % 9, dset.Set(x >> 44 % (1 << 17))}
			g = Add(g, y)
			if y.From < 16 && y.Num > 0 && y.To <= all {
				p[key{y.From, y.Num}] = y.To
			}
			is(t, "Adds", g, p.log())
		}
		if len(p) < 20 {
			t.Fatalf("P18.1: only %d entries went in: the test tells nothing", len(p))
		}
	}
}

// TestLessAndBut takes sets of all kinds out, with each process kept, and with none.
func TestLessAndBut(t *testing.T) {
	kept := append(far(), 0, 1, 2, 3, 7, 14, 15)
	for i, g := range slices.Concat(small(), edges()) {
		for j, to := range slices.Concat(sets(), strange()) {
			is(t, fmt.Sprintf("Less(%v, %b)", g, to), Less(g, to), plainOf(g).less(to, -1).log())
			for k := range 5 {
				d := kept[(i+j+k*7)%len(kept)]
				is(t, fmt.Sprintf("But(%v, %b, %d)", g, to, d), But(g, to, d), plainOf(g).less(to, d).log())
			}
		}
	}
	g := of(Entry{0, 1, 0}, Entry{0, 2, all}, Entry{3, 1, 1}, Entry{3, 5, 6}, Entry{15, top, 1 << 15})
	for to := 0; to < 1<<procCount; to += 5 {
		is(t, "Less", Less(g, dset.Set(to)), plainOf(g).less(dset.Set(to), -1).log())
		d := to % procCount
		is(t, "But", But(g, dset.Set(to), d), plainOf(g).less(dset.Set(to), d).log())
	}
	for _, d := range kept {
		is(t, fmt.Sprintf("But of all, %d", d), But(g, math.MaxUint64, d), plainOf(g).less(all, d).log())
	}
}

// TestButKeeps keeps one only where it was: it is put into none.
func TestButKeeps(t *testing.T) {
	for d := range procCount {
		g := of(Entry{1, 1, 1 << d}, Entry{1, 2, all}, Entry{1, 3, all &^ (1 << d)}, Entry{2, 1, 0})
		want := of(Entry{1, 1, 1 << d}, Entry{1, 2, 1 << d}, Entry{1, 3, 0}, Entry{2, 1, 0})
		is(t, "But of all", But(g, all, d), want)
		is(t, "But of it alone", But(g, 1<<d, d), g)
		is(t, "But of none", But(g, 0, d), g)
		want = of(Entry{1, 1, 0}, Entry{1, 2, all &^ (1 << d)}, Entry{1, 3, all &^ (1 << d)}, Entry{2, 1, 0})
		is(t, "Less it", Less(g, 1<<d), want)
	}
}

// TestPurge leaves out each entry that says nothing, and no other.
func TestPurge(t *testing.T) {
	for name, c := range map[string][2]Log{
		"none":                   {{}, {}},
		"one, no To":             {of(Entry{0, 1, 0}), of(Entry{0, 1, 0})},
		"one behind":             {of(Entry{0, 1, 0}, Entry{0, 2, 0}), of(Entry{0, 2, 0})},
		"one behind with To":     {of(Entry{0, 1, 0}, Entry{0, 9, 4}), of(Entry{0, 9, 4})},
		"one ahead with To":      {of(Entry{0, 1, 4}, Entry{0, 2, 0}), of(Entry{0, 1, 4}, Entry{0, 2, 0})},
		"of another behind":      {of(Entry{0, 1, 0}, Entry{1, 2, 0}), of(Entry{0, 1, 0}, Entry{1, 2, 0})},
		"all but the last":       {of(Entry{3, 1, 0}, Entry{3, 2, 0}, Entry{3, 3, 0}), of(Entry{3, 3, 0})},
		"one of three":           {of(Entry{3, 1, 2}, Entry{3, 2, 0}, Entry{3, 3, 0}), of(Entry{3, 1, 2}, Entry{3, 3, 0})},
		"each From by itself":    {of(Entry{0, 5, 0}, Entry{0, 6, 1}, Entry{15, 5, 0}, Entry{15, 6, 0}), of(Entry{0, 6, 1}, Entry{15, 6, 0})},
		"the greatest Num":       {of(Entry{0, top - 1, 0}, Entry{0, top, 0}), of(Entry{0, top, 0})},
		"a whole one stays":      {of(Entry{0, 1, 1}, Entry{0, 2, 1}, Entry{1, 1, 1}), of(Entry{0, 1, 1}, Entry{0, 2, 1}, Entry{1, 1, 1})},
		"a lesser Num elsewhere": {of(Entry{0, 9, 0}, Entry{1, 1, 0}, Entry{1, 2, 0}), of(Entry{0, 9, 0}, Entry{1, 2, 0})},
	} {
		is(t, name, Purge(c[0]), c[1])
	}
	for _, g := range slices.Concat(small(), edges()) {
		is(t, fmt.Sprintf("Purge(%v)", g), Purge(g), plainOf(g).purge().log())
		is(t, fmt.Sprintf("Purge twice of %v", g), Purge(Purge(g)), plainOf(g).purge().log())
	}
}

// TestJoin joins all small logs with all, and logs of all kinds.
func TestJoin(t *testing.T) {
	l := small()
	plains := make([]plain, len(l))
	for i, g := range l {
		plains[i] = plainOf(g)
	}
	for i, own := range l {
		for j, heard := range l {
			is(t, fmt.Sprintf("Join(%v, %v)", own, heard), Join(own, heard), plains[i].join(plains[j]).log())
		}
	}
	l = edges()
	for i, own := range l {
		for j := i % 3; j < len(l); j += 3 {
			heard := l[j]
			is(t, fmt.Sprintf("Join(%v, %v)", own, heard), Join(own, heard), plainOf(own).join(plainOf(heard)).log())
		}
	}
}

// TestJoinCases joins by hand each case that the chapter names.
func TestJoinCases(t *testing.T) {
	for name, c := range map[string][3]Log{
		"none and none":            {{}, {}, {}},
		"one and none":             {of(Entry{0, 1, 2}), {}, of(Entry{0, 1, 2})},
		"none and one":             {{}, of(Entry{0, 1, 2}), of(Entry{0, 1, 2})},
		"both":                     {of(Entry{0, 1, 6}), of(Entry{0, 1, 12}), of(Entry{0, 1, 4})},
		"both, none left":          {of(Entry{0, 1, 2}), of(Entry{0, 1, 4}), of(Entry{0, 1, 0})},
		"both, none left, later":   {of(Entry{0, 1, 2}, Entry{0, 2, 1}), of(Entry{0, 1, 4}), of(Entry{0, 1, 0}, Entry{0, 2, 1})},
		"heard lacks a lesser":     {of(Entry{0, 1, 6}, Entry{0, 2, 6}), of(Entry{0, 2, 7}), of(Entry{0, 2, 6})},
		"own lacks a lesser":       {of(Entry{0, 2, 6}), of(Entry{0, 1, 6}, Entry{0, 2, 7}), of(Entry{0, 2, 6})},
		"heard lacks a greater":    {of(Entry{0, 1, 6}, Entry{0, 2, 6}), of(Entry{0, 1, 7}), of(Entry{0, 1, 6}, Entry{0, 2, 6})},
		"own lacks a greater":      {of(Entry{0, 1, 6}), of(Entry{0, 1, 7}, Entry{0, 2, 6}), of(Entry{0, 1, 6}, Entry{0, 2, 6})},
		"each other's greater":     {of(Entry{0, 1, 6}, Entry{0, 3, 6}), of(Entry{0, 2, 7}, Entry{0, 4, 7}), of(Entry{0, 4, 7})},
		"of another greater":       {of(Entry{0, 1, 6}), of(Entry{1, 2, 7}), of(Entry{0, 1, 6}, Entry{1, 2, 7})},
		"of another greater ahead": {of(Entry{1, 1, 6}), of(Entry{0, 2, 7}), of(Entry{0, 2, 7}, Entry{1, 1, 6})},
		"no To, left out":          {of(Entry{0, 1, 0}), of(Entry{0, 2, 0}), of(Entry{0, 2, 0})},
		"no To, both":              {of(Entry{0, 1, 0}, Entry{0, 2, 0}), of(Entry{0, 1, 0}, Entry{0, 2, 0}), of(Entry{0, 1, 0}, Entry{0, 2, 0})},
		"the greatest Num":         {of(Entry{9, top, 3}), of(Entry{9, top - 1, 3}, Entry{9, top, 1}), of(Entry{9, top, 1})},
		"in their order":           {of(Entry{2, 1, 1}, Entry{9, 1, 1}), of(Entry{0, 1, 1}, Entry{5, 1, 1}, Entry{15, 1, 1}), of(Entry{0, 1, 1}, Entry{2, 1, 1}, Entry{5, 1, 1}, Entry{9, 1, 1}, Entry{15, 1, 1})},
	} {
		is(t, name, Join(c[0], c[1]), c[2])
		is(t, name+", turned about", Join(c[1], c[0]), c[2])
	}
}

// TestWrong hands in what is not Good: it is answered as it is, and nothing of it is written.
func TestWrong(t *testing.T) {
	for name, g := range wrong() {
		for _, to := range []dset.Set{0, 1, all, math.MaxUint64} {
			is(t, name+": Less", Less(g, to), g)
			is(t, name+": But", But(g, to, 0), g)
			is(t, name+": But", But(g, to, -1), g)
		}
		is(t, name+": Purge", Purge(g), g)
		for _, other := range edges() {
			is(t, name+": Join as own", Join(g, other), g)
			is(t, name+": Join as heard", Join(other, g), other)
		}
		for _, other := range wrong() {
			is(t, name+": Join of two", Join(g, other), g)
		}
		if b := Put(g); len(b) != 0 {
			t.Errorf("P18.1: %s: Put(%v): %d, want nothing", name, g, b)
		}
	}
	// What would be left out of a Good one, or made Good, is not.
	g := of(Entry{0, 1, 0}, Entry{0, 2, 0}, Entry{0, 2, 0})
	is(t, "Purge of one twice", Purge(g), g)
	g = of(Entry{0, 1, 1 << 16})
	is(t, "Less of what may not be in it", Less(g, 1<<16), g)
}

// TestPut writes logs of all kinds, and reads them again.
func TestPut(t *testing.T) {
	for _, c := range []struct {
		g Log
		b []byte
	}{
		{Log{}, []byte{0}},
		{of(Entry{0, 1, 0}), []byte{1, 0, 1, 0}},
		{of(Entry{0, 2, dset.Of(1)}), []byte{1, 0, 2, 2}},
		{of(Entry{3, 300, dset.Of(0, 2)}, Entry{15, 1, dset.Of(7)}), []byte{2, 3, 172, 2, 5, 15, 1, 128, 1}},
		{of(Entry{1, 1, all}), []byte{1, 1, 1, 255, 255, 3}},
		{of(Entry{1, top, 1}), []byte{1, 1, 255, 255, 255, 255, 255, 255, 255, 255, 255, 1, 1}},
	} {
		if b := Put(c.g); !bytes.Equal(b, c.b) {
			t.Errorf("P18.1: Put(%v): %d, want %d", c.g, b, c.b)
		}
	}
	for _, g := range slices.Concat(small(), edges()) {
		b := Put(g)
		if !bytes.Equal(b, written(g)) {
			t.Fatalf("P18.1: Put(%v): %d, want %d", g, b, written(g))
		}
		if h, ok := Get(b); !ok || !same(h, g) {
			t.Fatalf("P18.1: Get(%d): %v, %v, want %v", b, h, ok, g)
		}
	}
}

// gets holds Get of some bytes against a plain reading, and tells whether they are Put of some.
func gets(t *testing.T, b []byte) bool {
	t.Helper()
	g, ok := Get(b)
	want, good := readPlainly(b)
	if ok != good || !same(g, want) {
		t.Fatalf("P18.1: Get(%d): %v, %v, want %v, %v", b, g, ok, want, good)
	}
	if !ok && g.L != nil {
		t.Fatalf("R2: Get(%d): %v beside false", b, g)
	}
	return ok
}

// TestGetChanged reads bytes cut off, lengthened and changed at each place.
func TestGetChanged(t *testing.T) {
	yes, no := 0, 0
	for _, g := range edges() {
		b := written(g)
		for i := range b {
			if gets(t, b[:i]) {
				t.Fatalf("P18.1: Get(%d): true, cut off", b[:i])
			}
			c := slices.Clone(b)
			for _, to := range []byte{0, 1, 2, 15, 16, 127, 128, 129, 255, b[i] - 1, b[i] + 1, b[i] ^ 128} {
				c[i] = to
				if gets(t, c) {
					yes++
				} else {
					no++
				}
			}
		}
		for _, more := range []byte{0, 1, 128, 255} {
			if gets(t, append(slices.Clone(b), more)) {
				t.Fatalf("P18.1: Get(%d and %d): true", b, more)
			}
		}
	}
	if yes == 0 || no == 0 {
		t.Errorf("P18.1: %d read, %d not: the test tells nothing", yes, no)
	}
}

// TestGetShort reads all short bytes.
func TestGetShort(t *testing.T) {
	gets(t, nil)
	if g, ok := Get([]byte{}); ok || g.L != nil {
		t.Errorf("P18.1: Get of nothing: %v, %v", g, ok)
	}
	yes := 0
	few := []byte{0, 1, 2, 3, 15, 16, 127, 128, 129, 255}
	for a := range 256 {
		gets(t, []byte{byte(a)})
		for b := range 256 {
			gets(t, []byte{byte(a), byte(b)})
		}
	}
	var each func(b []byte)
	each = func(b []byte) {
		if gets(t, b) {
			yes++
		}
		if len(b) < 6 {
			for _, c := range few {
				each(append(slices.Clone(b), c))
			}
		}
	}
	each(nil)
	if yes < 10 {
		t.Errorf("P18.1: only %d read: the test tells nothing", yes)
	}
}

// TestGetWrong reads what is written by the same form, but is no log that may be.
func TestGetWrong(t *testing.T) {
	for name, g := range wrong() {
		if h, ok := Get(written(g)); ok || h.L != nil {
			t.Errorf("P18.1: %s: Get: %v, %v", name, h, ok)
		}
	}
	for _, count := range append(nums(), top/3, top/24, 1<<62, 1<<31, 1<<32) {
		for _, rest := range [][]byte{nil, {0}, {0, 1}, {0, 1, 0}, {0, 1, 0, 0}, {0, 1, 0, 0, 2}, {0, 1, 0, 0, 2, 0}, {0, 1, 0, 1, 1, 0, 2, 1, 0}} {
			gets(t, append(binary.AppendUvarint(nil, count), rest...))
		}
	}
	// Not in as few bytes as can be.
	for _, b := range [][]byte{{128, 0}, {129, 0, 0, 1, 0}, {1, 128, 0, 1, 0}, {1, 0, 129, 0, 0}, {1, 0, 1, 128, 0}, {1, 0, 1, 129, 128, 0}} {
		if gets(t, b) {
			t.Errorf("P18.1: Get(%d): true", b)
		}
	}
	// More than 64 bits, and bits behind the last process, as which others stand if they are cut off.
	long := []byte{255, 255, 255, 255, 255, 255, 255, 255, 255}
	for _, last := range []byte{1, 2, 3, 127, 129} {
		num := append(slices.Clone(long), last)
		b := append(append([]byte{1, 0}, num...), 1)
		if gets(t, b) != (last == 1) {
			t.Errorf("P18.1: Get(%d): %v", b, last != 1)
		}
		gets(t, append([]byte{1, 0, 1}, num...))
		gets(t, append(append([]byte{1}, num...), 1, 1))
		gets(t, append(slices.Clone(num), 0, 1, 1))
	}
}

// TestLong does all to logs with many entries.
func TestLong(t *testing.T) {
	var g, odd Log
	for from := range procCount {
		for num := uint64(1); num <= 2000; num++ {
			x := Entry{from, num * 3, dset.Set(num) * 7 & all}
			g.L = append(g.L, x)
			if num%2 == 1 {
				odd.L = append(odd.L, x)
			}
		}
	}
	if !Good(g) {
		t.Fatalf("P18.1: a long one is not Good")
	}
	if b := Put(g); !bytes.Equal(b, written(g)) {
		t.Errorf("P18.1: Put of a long one")
	}
	if h, ok := Get(written(g)); !ok || !same(h, g) {
		t.Errorf("P18.1: Get of a long one: %v", ok)
	}
	want := odd
	want.L = slices.DeleteFunc(slices.Clone(g.L), func(x Entry) bool { return x.Num/3%2 == 0 && x.Num < 6000 })
	is(t, "Join of long ones", Join(g, odd), want)
	is(t, "Join of long ones, turned about", Join(odd, g), want)
	empty := Purge(Less(g, all))
	if len(empty.L) != procCount || empty.L[15] != (Entry{15, 6000, 0}) {
		t.Errorf("P18.1: Purge of a long one with no To: %v", empty)
	}
	is(t, "Add ahead of a long one", Add(g, Entry{0, 1, 1}), of(append([]Entry{{0, 1, 1}}, g.L...)...))
	is(t, "Add behind a long one", Add(g, Entry{15, top, 1}), of(append(slices.Clone(g.L), Entry{15, top, 1})...))
}

// TestRuns does all calls one behind the other, held against a plain log.
func TestRuns(t *testing.T) {
	longest, dropped := 0, 0
	for seed := range uint64(200) {
		x, g, p := next(seed+77), Log{}, plain{}
		for step := range 100 {
			x = next(x)
			set, d := dset.Set(x>>20&0xffff), int(x>>40%20)-2
			before := len(p)
			switch what := x >> 55 % 8; what {
			case 0, 1, 2:
				y := Entry{int(x >> 33 % 3), uint64(step) + 1, set}
				g, p[key{y.From, y.Num}] = Add(g, y), set
			case 3:
				g, p = Less(g, 1<<(d&15)), p.less(1<<(d&15), -1)
			case 4:
				g, p = But(g, set&0xff, d), p.less(set&0xff, d)
			case 5:
				g, p = Purge(g), p.purge()
			default:
				h := chance(x, int(x>>33%6), 3)
				if what == 6 {
					g, p = Join(g, h), p.join(plainOf(h))
				} else {
					g, p = Join(h, g), plainOf(h).join(p)
				}
			}
			is(t, "a run", g, p.log())
			h, ok := Get(Put(g))
			if !Good(g) || !ok || !same(h, g) {
				t.Fatalf("P18.1: a run: Good(%v) %v, Get of Put %v, %v", g, Good(g), h, ok)
			}
			longest = max(longest, len(p))
			if len(p) < before {
				dropped++
			}
		}
	}
	if longest < 8 || dropped < 100 {
		t.Errorf("P18.1: at most %d entries, %d times fewer: the test tells nothing", longest, dropped)
	}
}

// spared gives a log alike that has spare room behind it, filled with entries, and all of its memory.
func spared(g Log) (Log, []Entry) {
	room := append(slices.Clone(g.L), Entry{9, 9, 9}, Entry{8, 8, 8}, Entry{7, 7, 7})
	return Log{L: room[:len(g.L)]}, room
}

// spoil writes into all of a list, spare room too.
func spoil[T any](l []T, with T) {
	l = l[:cap(l)]
	for i := range l {
		l[i] = with
	}
}

// TestMemory: what is handed in stays as it is, spare room too, and what is answered shares no memory with it.
func TestMemory(t *testing.T) {
	heard := of(Entry{0, 1, 3}, Entry{1, 1, 3}, Entry{5, 5, 5})
	calls := map[string]func(g Log) Log{
		"Add in":       func(g Log) Log { return Add(g, Entry{0, 3, 1}) },
		"Add behind":   func(g Log) Log { return Add(g, Entry{15, top, 1}) },
		"Add instead":  func(g Log) Log { return Add(g, Entry{0, 1, 12}) },
		"Add wrong":    func(g Log) Log { return Add(g, Entry{0, 0, 1}) },
		"Less":         func(g Log) Log { return Less(g, 3) },
		"Less none":    func(g Log) Log { return Less(g, 0) },
		"But":          func(g Log) Log { return But(g, 3, 1) },
		"Purge":        Purge,
		"Join":         func(g Log) Log { return Join(g, heard) },
		"Join none":    func(g Log) Log { return Join(g, Log{}) },
		"none joined":  func(g Log) Log { return Join(Log{}, g) },
		"Join wrong":   func(g Log) Log { return Join(g, of(Entry{})) },
		"Join itself":  func(g Log) Log { return Join(g, g) },
		"wrong joined": func(g Log) Log { return Join(of(Entry{}), g) },
		"Joined":       func(g Log) Log { return Join(heard, g) },
	}
	logs := append(edges(), of(Entry{}), of(Entry{0, 1, 1}, Entry{0, 1, 1}), of(Entry{0, 1, 0}, Entry{0, 2, 1}, Entry{2, 1, 0}))
	for name, call := range calls {
		for _, old := range logs {
			g, room := spared(old)
			before := slices.Clone(room)
			first := call(g)
			if !slices.Equal(room, before) {
				t.Fatalf("R4: %s of %v changed what was handed in: %v", name, old, room)
			}
			want := alike(first)
			second := call(g)
			spoil(second.L, Entry{6, 6, 6})
			if !slices.Equal(room, before) || !same(first, want) {
				t.Fatalf("R4: %s of %v shares memory", name, old)
			}
			spoil(room, Entry{5, 6, 7})
			if !same(first, want) {
				t.Fatalf("R4: %s of %v keeps what was handed in", name, old)
			}
		}
		is(t, "Join's other", heard, of(Entry{0, 1, 3}, Entry{1, 1, 3}, Entry{5, 5, 5}))
	}
}

// TestBytesMemory: the same of what is written and read.
func TestBytesMemory(t *testing.T) {
	for _, old := range edges() {
		g, room := spared(old)
		before := slices.Clone(room)
		b, want := Put(g), written(old)
		spoil(Put(g), 99)
		if !slices.Equal(room, before) || !bytes.Equal(b, want) {
			t.Fatalf("R4: Put(%v) shares memory, or changed what was handed in", old)
		}
		long := append(slices.Clone(want), 1, 2, 3)
		kept := slices.Clone(long)
		h, ok := Get(long[:len(want)])
		other, _ := Get(long[:len(want)])
		spoil(other.L, Entry{6, 6, 6})
		if !bytes.Equal(long, kept) {
			t.Fatalf("R4: Get(%d) changed what was handed in", want)
		}
		spoil(long, 77)
		if !ok || !same(h, old) {
			t.Fatalf("R4: Get(%d) shares memory: %v", want, h)
		}
	}
}

// TestAgain: what is answered hangs on what is handed in alone, and nil and an empty list are one.
func TestAgain(t *testing.T) {
	none := Log{L: []Entry{}}
	for _, g := range []Log{{}, none, {L: make([]Entry, 0, 5)}} {
		is(t, "Less of none", Less(g, all), Log{})
		is(t, "But of none", But(g, all, 1), Log{})
		is(t, "Purge of none", Purge(g), Log{})
		is(t, "Join of none", Join(g, none), Log{})
		is(t, "Add to none", Add(g, Entry{1, 1, 1}), of(Entry{1, 1, 1}))
		if !Good(g) || !bytes.Equal(Put(g), []byte{0}) {
			t.Errorf("P18.1: none: Good %v, Put %d, want true, 0", Good(g), Put(g))
		}
	}
	g := chance(5, 20, 4)
	first := Put(Join(g, chance(6, 20, 4)))
	for range 5 {
		if b := Put(Join(g, chance(6, 20, 4))); !bytes.Equal(b, first) {
			t.Errorf("R5: Join answers other things: %d, %d", b, first)
		}
	}
}
