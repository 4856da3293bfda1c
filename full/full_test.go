package full

import (
	"bytes"
	"encoding/binary"
	"fmt"
	"math"
	"slices"
	"testing"

	"shoal/api"
	"shoal/dset"
	"shoal/mat"
	"shoal/vec"
)

// most is how many processes there can be, and top the greatest count.
const (
	most = 16
	top  = math.MaxUint64
)

// far gives numbers that are no process of any engine, and no size of one.
func far() []int {
	return []int{-1, -2, -15, -16, -17, -63, -64, -65, 17, 18, 31, 32, 33, 63, 64, 65, 128, 256, 1 << 16, 1 << 32, 1<<32 + 1, -1 << 32, 1 - 1<<32, math.MaxInt, math.MinInt, math.MinInt + 1}
}

// counts gives counts at their edges, those of each length in bytes among them, rising.
func counts() []uint64 {
	l := []uint64{0, 1, 2}
	for shift := 7; shift < 64; shift += 7 {
		l = append(l, 1<<shift-1, 1<<shift)
	}
	return append(l, top-1, top)
}

// next gives what looks like chance behind x, and is the same each time.
func next(x uint64) uint64 { return x*6364136223846793005 + 1442695040888963407 }

// of makes a square of rows, with as many as there are, whether it is Good or not.
func of(rows ...vec.Vec) mat.Mat { return mat.Mat{N: len(rows), Rows: rows} }

// filled gives a square with the same count at each place.
func filled(n int, count uint64) mat.Mat {
	m := mat.Mat{N: n}
	for range n {
		m.Rows = append(m.Rows, slices.Repeat(vec.Vec{count}, n))
	}
	return m
}

// chance gives a square that looks like chance, with counts at all edges.
func chance(seed, n int) mat.Mat {
	m, x, l := filled(n, 0), next(uint64(seed+1)), counts()
	for i := range n {
		for j := range n {
			x = next(x)
			m.Rows[i][j] = l[x>>33%uint64(len(l))]
		}
	}
	return m
}

// with gives a square alike, with that count at that place.
func with(m mat.Mat, i, j int, count uint64) mat.Mat {
	c := copied(m)
	c.Rows[i][j] = count
	return c
}

// copied makes a square alike in memory of its own, with no call of another package.
func copied(m mat.Mat) mat.Mat {
	c := mat.Mat{N: m.N}
	for _, row := range m.Rows {
		c.Rows = append(c.Rows, append(vec.Vec{}, row...))
	}
	return c
}

// same tells whether two are alike, field by field.
func same(a, b mat.Mat) bool {
	return a.N == b.N && slices.EqualFunc(a.Rows, b.Rows, slices.Equal[vec.Vec])
}

// wrong gives what is not Good, one for each way in which it is not.
func wrong() map[string]mat.Mat {
	l := map[string]mat.Mat{
		"zero":             {},
		"N 0 of a row":     {N: 0, Rows: []vec.Vec{{}}},
		"N 1 of none":      {N: 1},
		"N 1 of two":       {N: 1, Rows: []vec.Vec{{1}, {2}}},
		"N 1 of a nil row": {N: 1, Rows: []vec.Vec{nil}},
		"N 1, row of two":  {N: 1, Rows: []vec.Vec{{1, 2}}},
		"N 2 of 3 by 3":    {N: 2, Rows: filled(3, 5).Rows},
		"N 3 of 2 by 2":    {N: 3, Rows: filled(2, 5).Rows},
		"N 2 of 2 by 3":    {N: 2, Rows: []vec.Vec{{1, 2, 3}, {4, 5, 6}}},
		"N 2 of 3 by 2":    {N: 2, Rows: []vec.Vec{{1, 2}, {3, 4}, {5, 6}}},
		"N 2, first short": {N: 2, Rows: []vec.Vec{{1}, {2, 3}}},
		"N 2, last long":   {N: 2, Rows: []vec.Vec{{1, 2}, {3, 4, 0}}},
		"N 2, last nil":    {N: 2, Rows: []vec.Vec{{1, 2}, nil}},
		"as many in all":   {N: 2, Rows: []vec.Vec{{1}, {2, 3, 4}}},
		"N below, a row":   {N: -1, Rows: []vec.Vec{{1}}},
		"N 17":             filled(17, 1),
		"N 64":             filled(64, 1),
		"N 65":             filled(65, 1),
	}
	for _, n := range far() {
		l["N far "+fmt.Sprint(n)] = mat.Mat{N: n, Rows: filled(2, 3).Rows}
	}
	return l
}

// written writes a square, with no call of another package of the program.
func written(m mat.Mat) []byte {
	var b []byte
	for _, row := range m.Rows {
		for _, n := range row {
			b = binary.AppendUvarint(b, n)
		}
	}
	return b
}

// readPlainly reads a square likewise: what is read must be written just so.
func readPlainly(n int, b []byte) (mat.Mat, bool) {
	if n < 1 || n > most {
		return mat.Mat{}, false
	}
	m, left := filled(n, 0), b
	for k := range n * n {
		count, size := binary.Uvarint(left)
		if size <= 0 {
			return mat.Mat{}, false
		}
		m.Rows[k/n][k%n], left = count, left[size:]
	}
	if !bytes.Equal(written(m), b) {
		return mat.Mat{}, false
	}
	return m, true
}

// plain is an engine kept in the plainest way: each count by itself.
type plain struct {
	n, me int
	sent  mat.Mat
	got   vec.Vec
}

// newPlain makes one.
func newPlain(n, me int) *plain {
	return &plain{n: n, me: me, sent: filled(n, 0), got: make(vec.Vec, n)}
}

// send sends.
func (p *plain) send(to dset.Set) [][]byte {
	b := written(p.sent)
	var l [][]byte
	for d := range p.n {
		if to>>d&1 == 0 || d == p.me {
			continue
		}
		l = append(l, b)
		if p.sent.Rows[p.me][d] < top {
			p.sent.Rows[p.me][d]++
		}
	}
	return l
}

// can tells whether one may be delivered.
func (p *plain) can(from int, stamp []byte) bool {
	m, ok := readPlainly(p.n, stamp)
	if !ok || from < 0 || from >= p.n || from == p.me {
		return false
	}
	for k := range p.n {
		if m.Rows[k][p.me] > p.got[k] {
			return false
		}
	}
	return true
}

// take delivers it.
func (p *plain) take(from int, to dset.Set, stamp []byte) bool {
	if !p.can(from, stamp) {
		return false
	}
	m, _ := readPlainly(p.n, stamp)
	for d := range p.n {
		if to>>d&1 == 1 && m.Rows[from][d] < top {
			m.Rows[from][d]++
		}
	}
	for k := range p.n * p.n {
		p.sent.Rows[k/p.n][k%p.n] = max(p.sent.Rows[k/p.n][k%p.n], m.Rows[k/p.n][k%p.n])
	}
	p.got[from]++
	return true
}

// made gives a new engine.
func made(t *testing.T, n, me int) *Engine {
	t.Helper()
	e, err := New(n, me)
	if err != api.OK || e == nil {
		t.Fatalf("P17.1: New(%d, %d): %v, %v", n, me, e, err)
	}
	return e
}

// is tells whether an engine knows just that. It asks twice: to ask changes nothing.
func is(t *testing.T, name string, e *Engine, sent mat.Mat, got vec.Vec) {
	t.Helper()
	for range 2 {
		if m, v := e.Sent(), e.Got(); !same(m, sent) || !slices.Equal(v, got) {
			t.Fatalf("P17.1: %s: Sent %v, Got %v, want %v, %v", name, m, v, sent, got)
		}
	}
}

// pair is an engine and a plain one, to which the same is done.
type pair struct {
	*testing.T
	e *Engine
	p *plain
}

// paired makes both.
func paired(t *testing.T, n, me int) pair {
	t.Helper()
	return pair{t, made(t, n, me), newPlain(n, me)}
}

// is holds both against each other.
func (a pair) is(name string) {
	a.Helper()
	is(a.T, name, a.e, a.p.sent, a.p.got)
}

// send sends by both.
func (a pair) send(to dset.Set) [][]byte {
	a.Helper()
	got, want := a.e.Send(to), a.p.send(to)
	if !slices.EqualFunc(got, want, bytes.Equal) {
		a.Fatalf("P17.1: %d of %d Sends to %b: %d, want %d", a.p.me, a.p.n, to, got, want)
	}
	a.is("behind a Send")
	return got
}

// can asks both, the engine with some numbers, which do not count.
func (a pair) can(from int, stamp []byte) bool {
	a.Helper()
	want := a.p.can(from, stamp)
	for _, num := range []uint64{0, 1, 7, top} {
		if a.e.Can(from, num, stamp) != want {
			a.Fatalf("P17.1: %d of %d that Got %d: Can(%d, %d, %d): %v, want %v", a.p.me, a.p.n, a.p.got, from, num, stamp, !want, want)
		}
	}
	a.is("behind a Can")
	return want
}

// take takes by both.
func (a pair) take(from int, num uint64, to dset.Set, stamp []byte) bool {
	a.Helper()
	a.can(from, stamp)
	want := a.p.take(from, to, stamp)
	if a.e.Take(from, num, to, stamp) != want {
		a.Fatalf("P17.1: %d of %d that Got %d: Take(%d, %d, %b, %d): %v, want %v", a.p.me, a.p.n, a.p.got, from, num, to, stamp, !want, want)
	}
	a.is("behind a Take")
	return want
}

// fed gives both, with that many delivered from each other one by stamps of noughts.
func fed(t *testing.T, n, me int, each func(k int) int) pair {
	t.Helper()
	a := paired(t, n, me)
	for k := range n {
		for range each(k) {
			if k != me && !a.take(k, 1, 0, make([]byte, n*n)) {
				t.Fatalf("P17.1: %d of %d refuses a stamp of noughts from %d", me, n, k)
			}
		}
	}
	return a
}

// sets gives sets of processes: none, all, each alone, each missing, those up to each, and some like chance.
func sets() []dset.Set {
	l := []dset.Set{0, top, 0xffff, 0xffff << 16, 1<<63 | 1}
	for p := range 64 {
		l = append(l, 1<<p, top&^(1<<p), 1<<p-1)
	}
	x := uint64(1)
	for range 20 {
		x = next(x)
		l = append(l, dset.Set(x), dset.Set(x>>48))
	}
	return l
}

func TestExample(t *testing.T) {
	e := made(t, 2, 0)
	first, second := e.Send(dset.Of(1)), e.Send(dset.Of(1))
	if len(first) != 1 || !bytes.Equal(first[0], []byte{0, 0, 0, 0}) {
		t.Errorf("P17.1: the first stamp: %d, want 0 0 0 0", first)
	}
	if len(second) != 1 || !bytes.Equal(second[0], []byte{0, 1, 0, 0}) {
		t.Fatalf("P17.1: the second stamp: %d, want 0 1 0 0", second)
	}
	if m, ok := Read(2, second[0]); !ok || !same(m, of(vec.Vec{0, 1}, vec.Vec{0, 0})) {
		t.Errorf("P17.1: the second stamp is read as %v, %v, want 1 at row 0, place 1", m, ok)
	}
	is(t, "behind two Sends", e, of(vec.Vec{0, 2}, vec.Vec{0, 0}), vec.Vec{0, 0})
}

// TestNew asks for each size with each process, those that may be and those that may not.
func TestNew(t *testing.T) {
	all := far()
	for n := -20; n <= 70; n++ {
		all = append(all, n)
	}
	for _, n := range all {
		for _, me := range all {
			e, err := New(n, me)
			if n >= 1 && n <= most && me >= 0 && me < n {
				if err != api.OK || e == nil {
					t.Fatalf("P17.1: New(%d, %d): %v, %v, want one", n, me, e, err)
				}
				is(t, "a new one", e, filled(n, 0), make(vec.Vec, n))
			} else if err != api.EARG || e != nil {
				t.Fatalf("P17.1: New(%d, %d): %v, %v, want EARG alone", n, me, e, err)
			}
		}
	}
}

func TestStamp(t *testing.T) {
	for _, r := range []struct {
		m    mat.Mat
		want []byte
	}{
		{of(vec.Vec{0}), []byte{0}},
		{of(vec.Vec{127}), []byte{127}},
		{of(vec.Vec{128}), []byte{128, 1}},
		{of(vec.Vec{top}), []byte{255, 255, 255, 255, 255, 255, 255, 255, 255, 1}},
		{of(vec.Vec{1, 2}, vec.Vec{3, 4}), []byte{1, 2, 3, 4}},
		{of(vec.Vec{300, 0}, vec.Vec{0, 16384}), []byte{172, 2, 0, 0, 128, 128, 1}},
		{of(vec.Vec{1, 2, 3}, vec.Vec{4, 5, 6}, vec.Vec{7, 8, 9}), []byte{1, 2, 3, 4, 5, 6, 7, 8, 9}},
	} {
		if b := Stamp(r.m); !bytes.Equal(b, r.want) {
			t.Errorf("P17.1: Stamp(%v): %d, want %d", r.m, b, r.want)
		}
	}
	for name, m := range wrong() {
		if b := Stamp(m); len(b) != 0 {
			t.Errorf("P17.1: Stamp of %s: %d, want nothing", name, b)
		}
	}
}

// reads tells whether bytes are read as they must be, with that n.
func reads(t *testing.T, n int, b []byte) bool {
	t.Helper()
	want, yes := readPlainly(n, b)
	if m, ok := Read(n, b); ok != yes || !same(m, want) {
		t.Fatalf("P17.1: Read(%d, %d): %v, %v, want %v, %v", n, b, m, ok, want, yes)
	}
	return yes
}

// TestThrough writes squares of each size and reads them again, with their own N and with others.
func TestThrough(t *testing.T) {
	for n := 1; n <= most; n++ {
		l := []mat.Mat{filled(n, 0), filled(n, 127), filled(n, 128), filled(n, top)}
		for seed := range 10 {
			l = append(l, chance(seed, n))
		}
		for _, m := range l {
			b := Stamp(m)
			if !bytes.Equal(b, written(m)) {
				t.Fatalf("P17.1: Stamp(%v): %d, want %d", m, b, written(m))
			}
			if got, ok := Read(n, b); !ok || !same(got, m) {
				t.Fatalf("P17.1: Read(%d) of Stamp(%v): %v, %v", n, m, got, ok)
			}
			for other := -3; other <= 20; other++ {
				if reads(t, other, b) != (other == n) {
					t.Fatalf("P17.1: Read(%d) of a stamp with N %d", other, n)
				}
			}
		}
	}
	for _, count := range counts() {
		for k := range 9 {
			m := with(filled(3, 5), k/3, k%3, count)
			if got, ok := Read(3, Stamp(m)); !ok || !same(got, m) {
				t.Errorf("P17.1: Read of Stamp(%v): %v, %v", m, got, ok)
			}
		}
	}
}

// TestReadNothing reads sizes that are none, and no bytes.
func TestReadNothing(t *testing.T) {
	for n := -20; n <= 70; n++ {
		for _, b := range [][]byte{nil, {}} {
			if m, ok := Read(n, b); ok || !same(m, mat.Mat{}) {
				t.Errorf("P17.1: Read(%d) of no bytes: %v, %v, want nothing", n, m, ok)
			}
		}
	}
	for _, n := range append(far(), 0) {
		for _, size := range []int{0, 1, 4, 256, 289, 1024, 4096, 4225, 65536} {
			if m, ok := Read(n, make([]byte, size)); ok || !same(m, mat.Mat{}) {
				t.Errorf("P17.1: Read(%d) of %d noughts: %v, %v, want nothing", n, size, m, ok)
			}
		}
	}
}

// TestReadSizes reads noughts, as many as there are places, and others.
func TestReadSizes(t *testing.T) {
	for n := 1; n <= most; n++ {
		for size := range 300 {
			if reads(t, n, make([]byte, size)) != (size == n*n) {
				t.Fatalf("P17.1: Read(%d) of %d noughts", n, size)
			}
		}
	}
}

// TestReadCut reads stamps that are cut off at each place, and that go on.
func TestReadCut(t *testing.T) {
	for n := 1; n <= most; n++ {
		for seed := range 3 {
			b := written(chance(seed, n))
			for k := range b {
				if reads(t, n, b[:k]) {
					t.Fatalf("P17.1: Read(%d) of a stamp that is cut off", n)
				}
				// Without its first bytes, a number may be another one.
				reads(t, n, b[k+1:])
			}
			for _, more := range []byte{0, 1, 127, 128, 255} {
				if reads(t, n, append(slices.Clone(b), more)) {
					t.Fatalf("P17.1: Read(%d) of a stamp with %d behind it", n, more)
				}
			}
			if reads(t, n, append(slices.Clone(b), b...)) {
				t.Fatalf("P17.1: Read(%d) of two stamps", n)
			}
		}
	}
}

// TestReadShort reads all short runs of bytes at their edges.
func TestReadShort(t *testing.T) {
	edges := []byte{0, 1, 2, 127, 128, 129, 255}
	l := [][]byte{{}}
	for size := 0; size < 6; size++ {
		var longer [][]byte
		for _, b := range l {
			for n := 1; n <= 2; n++ {
				reads(t, n, b)
			}
			for _, c := range edges {
				longer = append(longer, append(slices.Clone(b), c))
			}
		}
		l = longer
	}
}

// TestReadChanged changes each byte to each other one, and puts one in and takes one away at each place.
func TestReadChanged(t *testing.T) {
	for _, m := range []mat.Mat{of(vec.Vec{top}), of(vec.Vec{0, 300}, vec.Vec{127, top}), chance(1, 3)} {
		b := written(m)
		for k := range b {
			for c := range 256 {
				changed := slices.Clone(b)
				changed[k] = byte(c)
				reads(t, m.N, changed)
				reads(t, m.N, slices.Insert(slices.Clone(b), k, byte(c)))
			}
			reads(t, m.N, slices.Delete(slices.Clone(b), k, k+1))
		}
	}
}

// TestReadLong reads numbers that are not in as few bytes as can be, or are too great.
func TestReadLong(t *testing.T) {
	for name, one := range map[string][]byte{
		"a nought in two":  {128, 0},
		"1 in two":         {129, 0},
		"2^64":             {128, 128, 128, 128, 128, 128, 128, 128, 128, 2},
		"eleven bytes":     {255, 255, 255, 255, 255, 255, 255, 255, 255, 255, 0},
		"one without end":  {255},
		"many without end": bytes.Repeat([]byte{128}, 1000),
	} {
		for k := range 4 {
			b := append(append(make([]byte, k), one...), make([]byte, 3-k)...)
			if m, ok := Read(2, b); ok || !same(m, mat.Mat{}) {
				t.Errorf("P17.1: Read of %s at place %d: %v, %v, want nothing", name, k, m, ok)
			}
		}
	}
}

// TestSend sends from each one of each size, to all kinds of sets.
func TestSend(t *testing.T) {
	for n := 1; n <= most; n++ {
		for me := range n {
			a := paired(t, n, me)
			for _, to := range sets() {
				l := a.send(to)
				if want := dset.Count(to & dset.All(n) &^ dset.Of(me)); len(l) != want {
					t.Fatalf("P17.1: %d of %d Sends to %b: %d stamps, want %d", me, n, to, len(l), want)
				}
			}
		}
	}
}

// TestSendNone sends to nobody, to itself, and to those that are none: no stamp, and nothing sent.
func TestSendNone(t *testing.T) {
	for n := 1; n <= most; n++ {
		for me := range n {
			e := made(t, n, me)
			for _, to := range []dset.Set{0, dset.Of(me), dset.Of(n), dset.Of(63), dset.Set(top) << n, dset.Set(top)<<n | dset.Of(me)} {
				if l := e.Send(to); len(l) != 0 {
					t.Fatalf("P17.1: %d of %d Sends to %b: %d, want nothing", me, n, to, l)
				}
				is(t, "behind a Send to nobody", e, filled(n, 0), make(vec.Vec, n))
			}
		}
	}
}

// TestSendGrows sends so often that the counts take more bytes.
func TestSendGrows(t *testing.T) {
	e := made(t, 3, 1)
	for k := range uint64(20_000) {
		l := e.Send(dset.Of(0, 2))
		want := binary.AppendUvarint(binary.AppendUvarint([]byte{0, 0, 0}, k), 0)
		want = append(binary.AppendUvarint(want, k), 0, 0, 0)
		if len(l) != 2 || !bytes.Equal(l[0], want) || !bytes.Equal(l[1], want) {
			t.Fatalf("P17.1: Send of number %d: %d, want %d twice", k+1, l, want)
		}
	}
	is(t, "behind many Sends", e, of(vec.Vec{0, 0, 0}, vec.Vec{20_000, 0, 20_000}, vec.Vec{0, 0, 0}), vec.Vec{0, 0, 0})
}

// TestSendHeard sends behind what it heard: the stamp has that too.
func TestSendHeard(t *testing.T) {
	a := paired(t, 3, 1)
	heard := of(vec.Vec{0, 0, 7}, vec.Vec{top, 0, 3}, vec.Vec{top - 1, 0, 0})
	if !a.take(0, 1, dset.Of(1, 2), written(heard)) {
		t.Fatal("P17.1: Take is refused")
	}
	want := of(vec.Vec{0, 1, 8}, vec.Vec{top, 0, 3}, vec.Vec{top - 1, 0, 0})
	if l := a.send(dset.Of(0, 2)); len(l) != 2 || !bytes.Equal(l[0], written(want)) {
		t.Errorf("P17.1: Send behind what was heard: %d, want %d", l, written(want))
	}
	// The greatest count stays, and that beside it goes up all the same.
	is(t, "behind that Send", a.e, with(want, 1, 2, 4), vec.Vec{1, 0, 0})
}

// TestCan has each row at me below, at and above what was delivered of it.
func TestCan(t *testing.T) {
	for n := 2; n <= most; n++ {
		for _, me := range []int{0, n / 2, n - 1} {
			a := fed(t, n, me, func(k int) int { return 1 + k%3 })
			for k := range n {
				for _, count := range []uint64{0, 1, 2, 3, 4, 127, 128, top} {
					b := written(with(filled(n, 0), k, me, count))
					for from := range n {
						want := from != me && count <= a.p.got[k]
						if a.can(from, b) != want {
							t.Fatalf("P17.1: %d of %d that Got %d, of a stamp with %d in row %d from %d: %v, want %v", me, n, a.p.got, count, k, from, !want, want)
						}
					}
				}
			}
		}
	}
}

// TestCanAll has all rows at me at what was delivered, and then one of them above it.
func TestCanAll(t *testing.T) {
	for n := 2; n <= most; n++ {
		for me := range n {
			a := fed(t, n, me, func(k int) int { return k % 4 })
			m := chance(n, n)
			for k := range n {
				m.Rows[k][me] = a.p.got[k]
			}
			from := (me + 1) % n
			if !a.can(from, written(m)) {
				t.Fatalf("P17.1: %d of %d that Got %d: Can says no to just that", me, n, a.p.got)
			}
			for k := range n {
				if a.can(from, written(with(m, k, me, a.p.got[k]+1))) {
					t.Fatalf("P17.1: %d of %d that Got %d: Can says yes to one more of %d", me, n, a.p.got, k)
				}
			}
		}
	}
}

// TestCanElse has counts of all kinds for others, at each place: they do not count.
func TestCanElse(t *testing.T) {
	for n := 2; n <= 5; n++ {
		for me := range n {
			a := paired(t, n, me)
			for k := range n * n {
				for _, count := range counts() {
					want := k%n != me || count == 0
					if a.can((me+1)%n, written(with(filled(n, 0), k/n, k%n, count))) != want {
						t.Fatalf("P17.1: %d of %d, of a stamp with %d at %d, %d: %v, want %v", me, n, count, k/n, k%n, !want, want)
					}
				}
			}
		}
	}
}

// TestFrom has messages from all, and from those that are none: another one of the n alone may be.
func TestFrom(t *testing.T) {
	for n := 1; n <= most; n++ {
		for me := range n {
			a := paired(t, n, me)
			for _, from := range append(far(), me, n, n+1) {
				if a.can(from, make([]byte, n*n)) || a.take(from, 1, dset.Of(me), make([]byte, n*n)) {
					t.Fatalf("P17.1: %d of %d takes from %d", me, n, from)
				}
			}
			for from := range n {
				if a.take(from, 1, dset.Of(me), make([]byte, n*n)) != (from != me) {
					t.Fatalf("P17.1: %d of %d, Take from %d", me, n, from)
				}
			}
		}
	}
}

// TestNum has numbers of all kinds: they do not count.
func TestNum(t *testing.T) {
	a := paired(t, 2, 1)
	for k, num := range counts() {
		if !a.e.Can(0, num, []byte{0, byte(k), 0, 0}) || a.e.Can(0, num, []byte{0, byte(k + 1), 0, 0}) {
			t.Errorf("P17.1: Can of number %d", num)
		}
		if a.take(0, num, 2, []byte{0, byte(k + 1), 0, 0}) || !a.take(0, num, 2, []byte{0, byte(k), 0, 0}) {
			t.Errorf("P17.1: Take of number %d", num)
		}
	}
}

// TestWrongStamps has stamps that are none: Can and Take say no, and nothing changes.
func TestWrongStamps(t *testing.T) {
	for n := 2; n <= most; n++ {
		a := fed(t, n, 1, func(int) int { return 2 })
		good := make([]byte, n*n)
		l := [][]byte{nil, {}, {0}, good[1:], append(slices.Clone(good), 0), append([]byte{128}, good...), append(slices.Clone(good[1:]), 128), make([]byte, (n-1)*(n-1)), make([]byte, (n+1)*(n+1))}
		for _, b := range l {
			if a.can(0, b) || a.take(0, 3, top, b) {
				t.Fatalf("P17.1: 1 of %d takes a stamp of %d", n, b)
			}
		}
		if !a.take(0, 3, top, good) {
			t.Fatalf("P17.1: 1 of %d refuses a stamp of noughts", n)
		}
	}
}

func TestTake(t *testing.T) {
	a := paired(t, 3, 2)
	if !a.e.Take(0, 1, dset.Of(1, 2), written(of(vec.Vec{0, 4, 0}, vec.Vec{5, 0, 0}, vec.Vec{0, 6, 0}))) {
		t.Fatal("P17.1: Take is refused")
	}
	sent := of(vec.Vec{0, 5, 1}, vec.Vec{5, 0, 0}, vec.Vec{0, 6, 0})
	is(t, "behind the first", a.e, sent, vec.Vec{1, 0, 0})
	if a.e.Take(1, 1, dset.Of(2), written(of(vec.Vec{0, 0, 2}, vec.Vec{0, 0, 0}, vec.Vec{0, 0, 0}))) {
		t.Error("P17.1: Take ahead of what came ahead of it")
	}
	is(t, "behind the refused one", a.e, sent, vec.Vec{1, 0, 0})
	if !a.e.Take(1, 1, dset.Of(0, 2), written(of(vec.Vec{0, 1, 1}, vec.Vec{4, 3, 0}, vec.Vec{0, 9, 0}))) {
		t.Fatal("P17.1: Take of the second is refused")
	}
	is(t, "behind the second", a.e, of(vec.Vec{0, 5, 1}, vec.Vec{5, 3, 1}, vec.Vec{0, 9, 0}), vec.Vec{1, 1, 0})
}

// TestTakeTo takes messages to all kinds of sets: to all of these below n it was sent, me and its sender too.
func TestTakeTo(t *testing.T) {
	for n := 2; n <= most; n++ {
		for _, me := range []int{0, n / 2, n - 1} {
			a, from := paired(t, n, me), (me+1)%n
			for k, to := range sets() {
				m := chance(k, n)
				for i := range n {
					m.Rows[i][me] = 0
				}
				if !a.take(from, uint64(k), to, written(m)) {
					t.Fatalf("P17.1: Take to %b is refused", to)
				}
			}
			alone := made(t, n, me)
			alone.Take(from, 1, top, make([]byte, n*n))
			want := filled(n, 0)
			want.Rows[from] = slices.Repeat(vec.Vec{1}, n)
			got := make(vec.Vec, n)
			got[from] = 1
			is(t, "behind one to all", alone, want, got)
		}
	}
}

// TestTakeCounts takes stamps with counts at their edges, each behind each: the greater one is kept, and the greatest one does not go up.
func TestTakeCounts(t *testing.T) {
	for _, first := range counts() {
		for _, second := range counts() {
			a := paired(t, 2, 0)
			if !a.take(1, 1, 3, written(of(vec.Vec{0, first}, vec.Vec{0, second}))) || !a.take(1, 2, 2, written(of(vec.Vec{0, second}, vec.Vec{1, first}))) {
				t.Fatalf("P17.1: Take of %d, %d is refused", first, second)
			}
			a.send(2)
			a.send(3)
		}
	}
}

// do does to both what a number tells: Sends and Takes, these with stamps of all small kinds.
func (a pair) do(op int) {
	a.Helper()
	if op < 4 {
		a.send(dset.Set(op))
		return
	}
	op -= 4
	from, to := op%2, dset.Set(op/2%4)
	k := uint64(op / 8)
	a.take(from, 1, to, written(of(vec.Vec{k % 2, k / 2 % 2}, vec.Vec{k / 4 % 2, k / 8 % 2})))
}

// TestShortRuns does all short runs to engines of two.
func TestShortRuns(t *testing.T) {
	const ops = 4 + 2*4*16
	for me := range 2 {
		for run := range ops * ops {
			a := paired(t, 2, me)
			a.do(run % ops)
			a.do(run / ops)
		}
		// Sends, and what is from the other one, in longer runs.
		var some []int
		for op := range ops {
			if op < 4 || (op-4)%2 != me {
				some = append(some, op)
			}
		}
		x := uint64(me)
		for range 300 {
			a := paired(t, 2, me)
			for range 20 {
				x = next(x)
				a.do(some[x>>33%uint64(len(some))])
			}
		}
	}
}

// sent is a message on its way in a net of these tests: what it is, and which messages came ahead of it.
type sent struct {
	from  int
	to    dset.Set
	stamp []byte
	ahead []bool
}

// net is engines, plain ones beside them, all messages, and which of these each knows of and has delivered.
type net struct {
	*testing.T
	n     int
	procs []pair
	all   []sent
	known [][]bool
	done  [][]bool
	// How often a message came at its time, and how often too early.
	yes, no int
}

// newNet makes one of n, with room for that many messages.
func newNet(t *testing.T, n, room int) *net {
	s := &net{T: t, n: n}
	for me := range n {
		s.procs = append(s.procs, paired(t, n, me))
		s.known = append(s.known, make([]bool, room))
		s.done = append(s.done, make([]bool, room))
	}
	return s
}

// cast sends a message.
func (s *net) cast(from int, to dset.Set) {
	s.Helper()
	l := s.procs[from].send(to)
	if len(l) == 0 {
		return
	}
	s.known[from][len(s.all)] = true
	s.all = append(s.all, sent{from, to & dset.All(s.n) &^ dset.Of(from), l[0], slices.Clone(s.known[from])})
}

// goesTo tells whether a message is on its way to one.
func (s *net) goesTo(k, at int) bool { return dset.Has(s.all[k].to, at) && !s.done[at][k] }

// may tells by the truth whether a message may be delivered: all that is ahead of it and for here was.
func (s *net) may(k, at int) bool {
	for other, is := range s.all[k].ahead {
		if is && other != k && s.goesTo(other, at) {
			return false
		}
	}
	return true
}

// come lets a message come, if it may by the truth: the engine must say just the same.
func (s *net) come(k, at int) bool {
	s.Helper()
	m, want := s.all[k], s.may(k, at)
	if got := s.procs[at].take(m.from, 1, m.to, m.stamp); got != want {
		s.Fatalf("T1: message %d from %d at %d: %v, want %v", k, m.from, at, got, want)
	}
	if !want {
		s.no++
	} else {
		s.yes++
		s.done[at][k] = true
		for other, is := range m.ahead {
			s.known[at][other] = s.known[at][other] || is
		}
	}
	return want
}

// settle lets all come, the last first, until nothing is on its way.
func (s *net) settle() {
	s.Helper()
	for moved := true; moved; {
		moved = false
		for k := len(s.all) - 1; k >= 0; k-- {
			for at := range s.n {
				moved = s.goesTo(k, at) && s.come(k, at) || moved
			}
		}
	}
	for k := range s.all {
		for at := range s.n {
			if s.goesTo(k, at) {
				s.Fatalf("T1: message %d never comes to %d", k, at)
			}
		}
	}
}

// TestOrder runs nets in which messages come in any order: each engine says yes to just those all of whose messages ahead, for here, were delivered.
func TestOrder(t *testing.T) {
	const steps = 400
	for n := 2; n <= most; n++ {
		x := uint64(n)
		for range 3 {
			s := newNet(t, n, steps)
			for range steps {
				x = next(x)
				at := int(x >> 33 % uint64(n))
				if x>>60 < 6 || len(s.all) == 0 {
					to := next(x) >> 40
					s.cast(at, dset.Set(to&(to>>8|1<<(x>>50%16))))
					continue
				}
				if k := int(x >> 20 % uint64(len(s.all))); s.goesTo(k, at) {
					s.come(k, at)
				}
			}
			s.settle()
			if s.yes < 20 || s.no < 20 {
				t.Errorf("T1: of %d, only %d messages came at their time, and %d too early", n, s.yes, s.no)
			}
			// All know now of all that was sent to them, and of nothing that was not.
			for _, a := range s.procs {
				for k := range n {
					if a.p.got[k] != s.procs[k].p.sent.Rows[k][a.p.me] {
						t.Fatalf("T1: %d Got %d, and %d sent %d to it", a.p.me, a.p.got, k, s.procs[k].p.sent.Rows[k][a.p.me])
					}
				}
			}
		}
	}
}

// TestTriangle has 0 send to 1 and 2, and 1 send to 2 behind it: 2 takes 0's ahead of 1's.
func TestTriangle(t *testing.T) {
	s := newNet(t, 3, 2)
	s.cast(0, dset.Of(1, 2))
	if !s.come(0, 1) {
		t.Fatal("T1: 1 refuses the first")
	}
	s.cast(1, dset.Of(2))
	if s.come(1, 2) {
		t.Error("T1: 2 takes what has another one ahead of it that did not come")
	}
	if !s.come(0, 2) || !s.come(1, 2) {
		t.Error("T1: 2 refuses both in their order")
	}
}

// TestConcurrent has two send with nothing ahead: they come in either order.
func TestConcurrent(t *testing.T) {
	for first := range 2 {
		s := newNet(t, 3, 2)
		s.cast(0, dset.Of(1, 2))
		s.cast(1, dset.Of(0, 2))
		if !s.come(first, 2) || !s.come(1-first, 2) {
			t.Errorf("T1: 2 refuses what has nothing ahead, number %d first", first)
		}
	}
}

// spoil writes into all of a list of bytes, spare room too.
func spoil(b []byte) {
	b = b[:cap(b)]
	for i := range b {
		b[i] = 77
	}
}

// spoilMat writes into all rows of a square, spare room too, and into its list of rows.
func spoilMat(m mat.Mat) {
	for _, row := range m.Rows {
		spoilVec(row)
	}
	rows := m.Rows[:cap(m.Rows)]
	for i := range rows {
		rows[i] = vec.Vec{7777}
	}
}

// spoilVec writes into all of a row, spare room too.
func spoilVec(v vec.Vec) {
	v = v[:cap(v)]
	for i := range v {
		v[i] = 7777
	}
}

// TestAnswersAreNew writes into all that an engine tells: it goes on as it was, and other answers stay.
func TestAnswersAreNew(t *testing.T) {
	for n := 2; n <= most; n++ {
		a := fed(t, n, 1, func(k int) int { return k })
		for range 3 {
			l := a.send(top)
			for k := range l {
				others := slices.Clone(l)
				others[k] = nil
				want := fmt.Sprint(others)
				spoil(l[k])
				if fmt.Sprint(others) != want {
					t.Fatalf("R4: stamp %d of %d shares memory with another one", k, len(l))
				}
			}
			m := a.e.Sent()
			for k, row := range m.Rows {
				m.Rows[k] = nil
				want := fmt.Sprint(m)
				spoilVec(row)
				if fmt.Sprint(m) != want {
					t.Fatalf("R4: row %d of Sent shares memory with another one", k)
				}
			}
			spoilMat(m)
			spoilMat(a.e.Sent())
			spoilVec(a.e.Got())
			a.is("behind answers that were written into")
		}
	}
}

// TestReadIsNew writes into what Read and Stamp tell, and into what they were handed.
func TestReadIsNew(t *testing.T) {
	b := append(make([]byte, 0, 100), written(chance(1, 3))...)
	before := slices.Clone(b[:cap(b)])
	m, _ := Read(3, b)
	for k, row := range m.Rows {
		rest := copied(m)
		rest.Rows[k] = nil
		want := fmt.Sprint(rest)
		kept := slices.Clone(row)
		spoilVec(row)
		rest = copied(m)
		rest.Rows[k] = nil
		if fmt.Sprint(rest) != want {
			t.Errorf("R4: row %d of what is read shares memory with another one", k)
		}
		m.Rows[k] = kept
	}
	if !bytes.Equal(b[:cap(b)], before) {
		t.Error("R4: Read changes its bytes, or tells what shares memory with them")
	}
	spoil(b)
	if !same(m, chance(1, 3)) {
		t.Error("R4: what is read shares memory with its bytes")
	}
	s := Stamp(m)
	spoil(s)
	if !same(m, chance(1, 3)) {
		t.Error("R4: Stamp changes its square")
	}
	s = Stamp(m)
	spoilMat(m)
	if !bytes.Equal(s, written(chance(1, 3))) {
		t.Error("R4: a stamp shares memory with its square")
	}
}

// TestKeepsNothing writes into the stamps behind Can and Take: the engine stays as it was, and the stamps, spare room too, did not change by the calls.
func TestKeepsNothing(t *testing.T) {
	for n := 2; n <= most; n++ {
		a := paired(t, n, 0)
		for k := range 4 {
			b := append(make([]byte, 0, 5000), written(with(filled(n, 0), 1, n-1, uint64(k)))...)
			before := slices.Clone(b[:cap(b)])
			for _, from := range []int{1, 0, n} {
				a.take(from, uint64(k), top, b)
				if !bytes.Equal(b[:cap(b)], before) {
					t.Fatalf("R4: Take from %d changes its stamp", from)
				}
			}
			spoil(b)
			a.is("behind a stamp that was written into")
		}
	}
}

// TestSpareRoom has squares with something in their spare room: it is not there, and stays.
func TestSpareRoom(t *testing.T) {
	room := vec.Vec{1, 2, 8, 9}
	rows := []vec.Vec{room[:2:4], {3, 4}, {5, 6}}
	if b := Stamp(mat.Mat{N: 2, Rows: rows[:2:3]}); !bytes.Equal(b, []byte{1, 2, 3, 4}) {
		t.Errorf("P17.1: Stamp with spare room: %d, want 1 2 3 4", b)
	}
	if !slices.Equal(room, vec.Vec{1, 2, 8, 9}) || !slices.Equal(rows[2], vec.Vec{5, 6}) {
		t.Errorf("R4: spare room is changed: %v, %v", room, rows)
	}
}

// TestApart has two engines alike: what one is told, the other does not know.
func TestApart(t *testing.T) {
	a, b := made(t, 3, 0), made(t, 3, 0)
	a.Send(6)
	a.Take(1, 1, 5, make([]byte, 9))
	is(t, "another one", b, filled(3, 0), vec.Vec{0, 0, 0})
	is(t, "this one", a, of(vec.Vec{0, 1, 1}, vec.Vec{1, 0, 1}, vec.Vec{0, 0, 0}), vec.Vec{0, 1, 0})
}
