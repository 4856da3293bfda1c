package pane

import (
	"bytes"
	"encoding/binary"
	"math"
	"slices"
	"testing"

	"shoal/dset"
)

// long gives so many bytes, all but the last of them c.
func long(c byte, size int, last byte) []byte {
	return append(bytes.Repeat([]byte{c}, size-1), last)
}

// pattern gives a number that looks like chance, of any length, and is the same each time.
func pattern(i int) uint64 {
	z := uint64(i+1) * 0x9e3779b97f4a7c15
	z = (z ^ z>>30) * 0xbf58476d1ce4e5b9
	z = (z ^ z>>27) * 0x94d049bb133111eb
	return (z ^ z>>31) >> (uint(i) % 64)
}

// count gives so many bytes, none of them like its neighbours.
func count(size int) []byte {
	b := make([]byte, size)
	for i := range b {
		b[i] = byte(7*i + 1)
	}
	return b
}

// isPlus tells whether x is +0, as of a bad one.
func isPlus(x float64) bool { return math.Float64bits(x) == 0 }

// alike tells whether two are the same by their bits, or both no number.
func alike(a, b float64) bool {
	return math.Float64bits(a) == math.Float64bits(b) || a != a && b != b
}

// row is a number, or a float's bits, and the bytes it is written in.
type row struct {
	n uint64
	b []byte
}

// numbers gives numbers and their bytes: ordinary ones, and the edges of the lengths.
func numbers() []row {
	return []row{
		{0, []byte{0}}, {1, []byte{1}}, {5, []byte{5}}, {127, []byte{127}}, {128, []byte{128, 1}}, {300, []byte{172, 2}},
		{16383, []byte{255, 127}}, {16384, []byte{128, 128, 1}}, {624485, []byte{229, 142, 38}},
		{math.MaxInt64, long(255, 9, 127)}, {1 << 63, long(128, 10, 1)}, {math.MaxUint64, long(255, 10, 1)},
	}
}

// floats gives floats, by their bits, and their bytes: each class, and its edges.
func floats() []row {
	return []row{
		{0xfff0000000000000, []byte{0x00, 0x0f, 0xff, 0xff, 0xff, 0xff, 0xff, 0xff}},
		{0xffefffffffffffff, []byte{0x00, 0x10, 0x00, 0x00, 0x00, 0x00, 0x00, 0x00}},
		{0xbff0000000000000, []byte{0x40, 0x0f, 0xff, 0xff, 0xff, 0xff, 0xff, 0xff}},
		{0x8000000000000001, []byte{0x7f, 0xff, 0xff, 0xff, 0xff, 0xff, 0xff, 0xfe}},
		{0x8000000000000000, []byte{0x7f, 0xff, 0xff, 0xff, 0xff, 0xff, 0xff, 0xff}},
		{0x0000000000000000, []byte{0x80, 0x00, 0x00, 0x00, 0x00, 0x00, 0x00, 0x00}},
		{0x0000000000000001, []byte{0x80, 0x00, 0x00, 0x00, 0x00, 0x00, 0x00, 0x01}},
		{0x0123456789abcdef, []byte{0x81, 0x23, 0x45, 0x67, 0x89, 0xab, 0xcd, 0xef}},
		{0x3ff0000000000000, []byte{0xbf, 0xf0, 0x00, 0x00, 0x00, 0x00, 0x00, 0x00}},
		{0x7fefffffffffffff, []byte{0xff, 0xef, 0xff, 0xff, 0xff, 0xff, 0xff, 0xff}},
		{0x7ff0000000000000, []byte{0xff, 0xf0, 0x00, 0x00, 0x00, 0x00, 0x00, 0x00}},
		{0x7ff8000000000001, []byte{0xff, 0xff, 0xff, 0xff, 0xff, 0xff, 0xff, 0xff}},
		{0x7ff0000000000001, []byte{0xff, 0xff, 0xff, 0xff, 0xff, 0xff, 0xff, 0xff}},
		{0xfff8000000000000, []byte{0xff, 0xff, 0xff, 0xff, 0xff, 0xff, 0xff, 0xff}},
		{0xffffffffffffffff, []byte{0xff, 0xff, 0xff, 0xff, 0xff, 0xff, 0xff, 0xff}},
	}
}

// notNumbers gives bytes that begin with no number.
func notNumbers() [][]byte {
	return [][]byte{
		nil, {}, {128}, {255}, {128, 128}, {128, 0}, {129, 0, 1, 1, 1, 1, 1, 1, 1, 1}, {172, 130, 0},
		long(255, 10, 2), long(128, 10, 0), long(255, 10, 129), long(128, 11, 1), long(255, 300, 1),
	}
}

// checkBad asks each call of a bad one, some with all that could be let through, again and again.
func checkBad(t *testing.T, name string, r *Reader) {
	t.Helper()
	for range 3 {
		if r.End() {
			t.Errorf("P5.1: %s: End of a bad one: true", name)
		}
		if n := r.Num(math.MaxUint64); n != 0 {
			t.Errorf("P5.1: %s: Num of a bad one: %d", name, n)
		}
		if s := r.Set(math.MaxUint64); s != 0 {
			t.Errorf("P5.1: %s: Set of a bad one: %x", name, s)
		}
		if x := r.Float(); !isPlus(x) {
			t.Errorf("P5.1: %s: Float of a bad one: %v", name, x)
		}
		for _, most := range []int{math.MaxInt, 0, -1} {
			if b := r.Bytes(most); len(b) != 0 {
				t.Errorf("P5.1: %s: Bytes of a bad one: %v", name, b)
			}
		}
	}
}

// tail is what stands behind in tests of bad ones: a reader that went on would find something for each call.
func tail() []byte {
	return append([]byte{1, 9, 0, 0, 0}, bytes.Repeat([]byte{0x80, 0, 0, 0, 0, 0, 0, 0}, 9)...)
}

func TestExamples(t *testing.T) {
	w := NewWriter()
	w.Num(300)
	w.Bytes([]byte("a"))
	if b := w.Done(); !bytes.Equal(b, []byte{172, 2, 1, 97}) {
		t.Fatalf("P5.1: Num(300), Bytes(a): %v", b)
	}
	r := NewReader([]byte{172, 2, 1, 97})
	if n, b := r.Num(300), r.Bytes(1); n != 300 || string(b) != "a" || !r.End() {
		t.Errorf("P5.1: read again: %d, %q, End %v", n, b, r.End())
	}
}

func TestNothing(t *testing.T) {
	if b := NewWriter().Done(); len(b) != 0 {
		t.Errorf("P5.1: Done of nothing: %v", b)
	}
	for _, b := range [][]byte{nil, {}} {
		if !NewReader(b).End() {
			t.Errorf("P5.1: End of nothing: false")
		}
		r := NewReader(b)
		if n := r.Num(math.MaxUint64); n != 0 {
			t.Errorf("P5.1: Num of nothing: %d", n)
		}
		checkBad(t, "Num of nothing", r)
	}
}

func TestNum(t *testing.T) {
	for _, c := range numbers() {
		w := NewWriter()
		w.Num(c.n)
		if b := w.Done(); !bytes.Equal(b, c.b) {
			t.Errorf("P5.1: Num(%d): %v, want %v", c.n, b, c.b)
		}
		for _, most := range []uint64{c.n, c.n | 1, math.MaxUint64} {
			r := NewReader(c.b)
			if r.End() {
				t.Errorf("P5.1: End ahead of %d: true", c.n)
			}
			if n := r.Num(most); n != c.n || !r.End() {
				t.Errorf("P5.1: Num of %v, at most %d: %d, End %v", c.b, most, n, r.End())
			}
			r = NewReader(append(slices.Clone(c.b), 7))
			if n := r.Num(most); n != c.n || r.End() || r.Num(7) != 7 || !r.End() {
				t.Errorf("P5.1: Num of %v and 7, at most %d: %d", c.b, most, n)
			}
		}
	}
}

func TestNumWrong(t *testing.T) {
	for _, c := range numbers() {
		for _, most := range []uint64{c.n - 1, c.n / 2, 0} {
			if most >= c.n {
				continue
			}
			r := NewReader(append(slices.Clone(c.b), tail()...))
			if n := r.Num(most); n != 0 {
				t.Errorf("P5.1: Num of %v, at most %d: %d", c.b, most, n)
			}
			checkBad(t, "Num above most", r)
		}
		for size := range c.b {
			r := NewReader(c.b[:size])
			if n := r.Num(math.MaxUint64); n != 0 {
				t.Errorf("P5.1: Num of %v, cut off: %d", c.b[:size], n)
			}
			checkBad(t, "Num cut off", r)
		}
	}
	for _, b := range notNumbers() {
		r := NewReader(b)
		if n := r.Num(math.MaxUint64); n != 0 {
			t.Errorf("P5.1: Num of %v: %d", b, n)
		}
		checkBad(t, "Num not so", r)
	}
}

func TestSet(t *testing.T) {
	for _, c := range numbers() {
		s := dset.Set(c.n)
		w := NewWriter()
		w.Set(s)
		if b := w.Done(); !bytes.Equal(b, c.b) {
			t.Errorf("P5.1: Set(%x): %v, want %v", c.n, b, c.b)
		}
		for _, within := range []dset.Set{s, s | 1, s | 1<<63, math.MaxUint64} {
			r := NewReader(append(slices.Clone(c.b), 7))
			if got := r.Set(within); got != s || r.End() || r.Set(7) != 7 || !r.End() {
				t.Errorf("P5.1: Set of %v, within %x: %x", c.b, within, got)
			}
		}
	}
}

func TestSetWrong(t *testing.T) {
	for _, c := range numbers() {
		for p := range 64 {
			if c.n>>p&1 == 0 {
				continue
			}
			within := ^(dset.Set(1) << p)
			r := NewReader(append(slices.Clone(c.b), tail()...))
			if s := r.Set(within); s != 0 {
				t.Errorf("P5.1: Set of %v, within %x: %x", c.b, within, s)
			}
			checkBad(t, "Set not within", r)
		}
	}
	r := NewReader(append([]byte{2}, tail()...))
	if s := r.Set(5); s != 0 {
		t.Errorf("P5.1: Set of 2, within 5: %x", s)
	}
	checkBad(t, "Set of a lesser number that is not within", r)
	for _, b := range notNumbers() {
		r := NewReader(b)
		if s := r.Set(math.MaxUint64); s != 0 {
			t.Errorf("P5.1: Set of %v: %x", b, s)
		}
		checkBad(t, "Set not so", r)
	}
}

func TestFloat(t *testing.T) {
	for _, c := range floats() {
		x := math.Float64frombits(c.n)
		w := NewWriter()
		w.Float(x)
		if b := w.Done(); !bytes.Equal(b, c.b) {
			t.Errorf("P5.1: Float of bits %x: %v, want %v", c.n, b, c.b)
		}
		r := NewReader(c.b)
		if got := r.Float(); !alike(got, x) || !r.End() {
			t.Errorf("P5.1: Float of %v: %x, End %v, want %x", c.b, math.Float64bits(got), r.End(), c.n)
		}
		r = NewReader(append(slices.Clone(c.b), 7))
		if got := r.Float(); !alike(got, x) || r.End() || r.Num(7) != 7 || !r.End() {
			t.Errorf("P5.1: Float of %v and 7: %x, want %x", c.b, math.Float64bits(got), c.n)
		}
	}
}

func TestFloatWrong(t *testing.T) {
	for _, c := range floats() {
		for size := range c.b {
			r := NewReader(c.b[:size])
			if x := r.Float(); !isPlus(x) {
				t.Errorf("P5.1: Float of %v, cut off: %v", c.b[:size], x)
			}
			checkBad(t, "Float cut off", r)
		}
	}
	for _, key := range []uint64{
		0, 1, 1 << 32, 0x0007ffffffffffff, 0x000ffffffffffffe,
		0xfff0000000000001, 0xfff8000000000000, 0xfff8000000000001, math.MaxUint64 - 1,
	} {
		r := NewReader(append(binary.BigEndian.AppendUint64(nil, key), tail()...))
		if x := r.Float(); !isPlus(x) {
			t.Errorf("P5.1: Float of key %x, that no number has: %v", key, x)
		}
		checkBad(t, "Float of a key that no number has", r)
	}
}

func TestBytes(t *testing.T) {
	for _, size := range []int{0, 1, 2, 127, 128, 300, 16383, 16384, 100000} {
		b := count(size)
		want := append(binary.AppendUvarint(nil, uint64(size)), b...)
		w := NewWriter()
		w.Bytes(b)
		if got := w.Done(); !bytes.Equal(got, want) {
			t.Errorf("P5.1: Bytes of %d: %d, beginning with %v", size, len(got), got[:min(len(got), 4)])
		}
		for _, most := range []int{size, size + 1, math.MaxInt} {
			r := NewReader(append(slices.Clone(want), 7))
			if got := r.Bytes(most); !bytes.Equal(got, b) || r.End() || r.Num(7) != 7 || !r.End() {
				t.Errorf("P5.1: Bytes of %d, at most %d: %d", size, most, len(got))
			}
		}
		if size == 0 {
			continue
		}
		for _, most := range []int{size - 1, 0, -1, -size, math.MinInt} {
			r := NewReader(append(slices.Clone(want), tail()...))
			if got := r.Bytes(most); len(got) != 0 {
				t.Errorf("P5.1: Bytes of %d, at most %d: %d", size, most, len(got))
			}
			checkBad(t, "Bytes longer than most", r)
		}
	}
}

func TestBytesNone(t *testing.T) {
	w := NewWriter()
	w.Bytes(nil)
	w.Bytes([]byte{})
	if b := w.Done(); !bytes.Equal(b, []byte{0, 0}) {
		t.Errorf("P5.1: Bytes of none, twice: %v", b)
	}
	for _, most := range []int{0, -1, math.MinInt, 1, math.MaxInt} {
		r := NewReader([]byte{0, 0})
		if a, b := r.Bytes(most), r.Bytes(most); len(a) != 0 || len(b) != 0 || !r.End() {
			t.Errorf("P5.1: Bytes of none, at most %d: %v, %v, End %v", most, a, b, r.End())
		}
	}
}

func TestBytesWrong(t *testing.T) {
	for _, b := range notNumbers() {
		r := NewReader(b)
		if got := r.Bytes(math.MaxInt); len(got) != 0 {
			t.Errorf("P5.1: Bytes of %v: %v", b, got)
		}
		checkBad(t, "Bytes not so", r)
	}
	for _, size := range []uint64{4, 5, 127, 128, 1 << 31, 1 << 32, 1<<32 + 3, math.MaxInt64, 1 << 63, 1<<63 + 3, math.MaxUint64} {
		r := NewReader(append(binary.AppendUvarint(nil, size), 1, 2, 3))
		if got := r.Bytes(math.MaxInt); len(got) != 0 {
			t.Errorf("P5.1: Bytes of %d, where 3 are: %v", size, got)
		}
		checkBad(t, "Bytes not there", r)
	}
}

// TestDone tells all so far, each time, and in memory of its own.
func TestDone(t *testing.T) {
	w := NewWriter()
	var all [][]byte
	var want []byte
	for i := range 40 {
		all = append(all, w.Done(), w.Done())
		w.Num(uint64(i))
		want = append(want, byte(i))
	}
	for i, b := range all {
		if !bytes.Equal(b, want[:i/2]) {
			t.Errorf("P5.1: Done of %d: %v", i/2, b)
		}
	}
	for _, b := range all {
		for i := range b[:cap(b)] {
			b[:cap(b)][i] = 99
		}
	}
	w.Num(40)
	if b := w.Done(); !bytes.Equal(b, append(want, 40)) {
		t.Errorf("R4: Done shares memory: %v", b)
	}
	for i, b := range all {
		if len(b) != i/2 || bytes.ContainsFunc(b, func(c rune) bool { return c != 99 }) {
			t.Errorf("R4: Done of %d is changed by what is written later: %v", i/2, b)
		}
	}
}

func TestWriterKeepsNothing(t *testing.T) {
	room := count(20)
	w := NewWriter()
	w.Bytes(room[:3])
	for i := range room {
		room[i] = 77
	}
	w.Num(9)
	b := w.Done()
	if !bytes.Equal(b, []byte{3, 1, 8, 15, 9}) || bytes.ContainsFunc(room, func(c rune) bool { return c != 77 }) {
		t.Errorf("R4: Bytes keeps or changes its list: %v, %v", b, room)
	}
	w.Bytes(b)
	if b := w.Done(); !bytes.Equal(b, []byte{3, 1, 8, 15, 9, 5, 3, 1, 8, 15, 9}) {
		t.Errorf("P5.1: Bytes of what was Done: %v", b)
	}
}

func TestReaderKeepsNothing(t *testing.T) {
	given := []byte{172, 2, 3, 1, 8, 15, 2, 5, 6, 9, 0, 0, 0}
	before := slices.Clone(given)
	r := NewReader(given[:10])
	if n := r.Num(300); n != 300 || !bytes.Equal(given, before) {
		t.Errorf("R4: Num: %d, of %v", n, given)
	}
	for i := range given {
		given[i] = 77
	}
	a, b := r.Bytes(3), []byte(nil)
	for i := range a[:cap(a)] {
		a[:cap(a)][i] = 99
	}
	if b = r.Bytes(2); !bytes.Equal(b, []byte{5, 6}) || r.Num(9) != 9 || !r.End() {
		t.Errorf("R4: a Reader hangs on what was done to its list, or to an answer: %v", b)
	}
	for i := range b[:cap(b)] {
		b[:cap(b)][i] = 55
	}
	if !bytes.Equal(a, []byte{99, 99, 99}) || bytes.ContainsFunc(given, func(c rune) bool { return c != 77 }) {
		t.Errorf("R4: Bytes shares memory: %v, %v", a, given)
	}
}

// TestEnd tells nothing of its own: asked at any time, it changes nothing.
func TestEnd(t *testing.T) {
	r := NewReader([]byte{5, 6})
	for _, want := range []uint64{5, 6} {
		if r.End() || r.End() {
			t.Errorf("P5.1: End ahead of %d: true", want)
		}
		if n := r.Num(9); n != want {
			t.Errorf("P5.1: Num behind End: %d, want %d", n, want)
		}
	}
	if !r.End() || !r.End() {
		t.Errorf("P5.1: End behind all: false")
	}
	if n := r.Num(9); n != 0 {
		t.Errorf("P5.1: Num behind all: %d", n)
	}
	checkBad(t, "Num behind all", r)
}

// TestBadByEach goes bad behind something good, by each call, with more behind that each call could read.
func TestBadByEach(t *testing.T) {
	for name, spoil := range map[string]func(r *Reader) bool{
		"Num":   func(r *Reader) bool { return r.Num(2) == 0 },
		"Set":   func(r *Reader) bool { return r.Set(4) == 0 },
		"Bytes": func(r *Reader) bool { return len(r.Bytes(2)) == 0 },
		"Float": func(r *Reader) bool { return isPlus(r.Float()) },
	} {
		b := append([]byte{5, 3, 0, 0, 0, 0, 0, 0, 0}, tail()...)
		if name == "Float" {
			b = append([]byte{5, 0}, b[2:]...)
		}
		r := NewReader(b)
		if n := r.Num(5); n != 5 || r.End() {
			t.Errorf("P5.1: Num ahead of a bad %s: %d", name, n)
		}
		if !spoil(r) {
			t.Errorf("P5.1: a bad %s tells something", name)
		}
		checkBad(t, name, r)
	}
}

// item is one thing of those that a pattern writes: of Kind 0 a number, 1 a set, 2 a float, 3 bytes.
type item struct {
	kind int
	n    uint64
	x    float64
	b    []byte
}

// items gives things of all kinds, in a turn that looks like chance.
func items(first, many int) []item {
	var l []item
	for i := first; i < first+many; i++ {
		p := pattern(64 * i)
		l = append(l, item{kind: int(p >> 62), n: pattern(i), x: math.Float64frombits(pattern(64*i + 1)), b: count(int(p % 200))})
	}
	return l
}

// write writes it by the package, and by the library alone.
func (m item) write(w *Writer, plain []byte) []byte {
	switch m.kind {
	case 0:
		w.Num(m.n)
		return binary.AppendUvarint(plain, m.n)
	case 1:
		w.Set(dset.Set(m.n))
		return binary.AppendUvarint(plain, m.n)
	case 2:
		w.Float(m.x)
		key := math.Float64bits(m.x)
		switch {
		case m.x != m.x:
			key = math.MaxUint64
		case math.Signbit(m.x):
			key = math.MaxUint64 - key
		default:
			key += 1 << 63
		}
		return binary.BigEndian.AppendUint64(plain, key)
	}
	w.Bytes(m.b)
	return append(binary.AppendUvarint(plain, uint64(len(m.b))), m.b...)
}

// read tells whether just it stands next, with no more let through than it needs.
func (m item) read(r *Reader) bool {
	switch m.kind {
	case 0:
		return r.Num(m.n) == m.n
	case 1:
		return r.Set(dset.Set(m.n)) == dset.Set(m.n)
	case 2:
		return alike(r.Float(), m.x)
	}
	return bytes.Equal(r.Bytes(len(m.b)), m.b)
}

func TestPatterns(t *testing.T) {
	for _, many := range []int{1, 2, 3, 10, 100, 20000} {
		w := NewWriter()
		var want []byte
		l := items(many, many)
		for _, m := range l {
			want = m.write(w, want)
		}
		b := w.Done()
		if !bytes.Equal(b, want) {
			t.Fatalf("P5.1: %d items: %d bytes, want %d", many, len(b), len(want))
		}
		r := NewReader(b)
		for i, m := range l {
			if r.End() || !m.read(r) {
				t.Fatalf("P5.1: of %d items number %d is not read again: %v", many, i, m)
			}
		}
		if !r.End() {
			t.Errorf("P5.1: End behind %d items: false", many)
		}
	}
}

// TestPatternsCut cuts all ways of writing at each byte: what is whole is read, all behind it is bad.
func TestPatternsCut(t *testing.T) {
	w := NewWriter()
	var ends []int
	l := items(77, 12)
	for _, m := range l {
		m.write(w, nil)
		ends = append(ends, len(w.Done()))
	}
	b := w.Done()
	for size := range b {
		r := NewReader(b[:size])
		i := 0
		for ; i < len(l) && ends[i] <= size; i++ {
			if !l[i].read(r) {
				t.Fatalf("P5.1: of %d bytes item %d is not read", size, i)
			}
		}
		if got := r.End(); got != (size == 0 || i > 0 && ends[i-1] == size) {
			t.Errorf("P5.1: End at byte %d: %v", size, got)
		}
		switch l[i].kind {
		case 0:
			r.Num(math.MaxUint64)
		case 1:
			r.Set(math.MaxUint64)
		case 2:
			r.Float()
		default:
			r.Bytes(math.MaxInt)
		}
		checkBad(t, "cut off", r)
	}
}

// TestAnyBytes reads bytes of all kinds by all kinds of calls, held against the library's own reading.
func TestAnyBytes(t *testing.T) {
	for i := range 20000 {
		b := make([]byte, i%20)
		for k := range b {
			b[k] = byte(pattern(64*(32*i+k)) >> 40)
		}
		n, size := binary.Uvarint(b)
		is := size > 0 && bytes.Equal(binary.AppendUvarint(nil, n), b[:size])
		if !is {
			n, size = 0, len(b)
		}
		r := NewReader(b)
		if got := r.Num(math.MaxUint64); got != n || r.End() != (is && size == len(b)) {
			t.Fatalf("P5.1: Num of %v: %d, End %v, want %d", b, got, r.End(), n)
		}
		r = NewReader(b)
		whole := is && n <= uint64(len(b)-size)
		want := []byte(nil)
		if whole {
			want = b[size : size+int(n)]
		}
		if got := r.Bytes(math.MaxInt); !bytes.Equal(got, want) || r.End() != (whole && size+len(want) == len(b)) {
			t.Fatalf("P5.1: Bytes of %v: %v, End %v, want %v", b, got, r.End(), want)
		}
	}
}
