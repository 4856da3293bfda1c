package mail

import (
	"bytes"
	"encoding/binary"
	"math"
	"slices"
	"testing"

	"shoal/api"
	"shoal/dset"
)

// one is 1 as a float is written: its bits, and 2^63, the highest first.
var one = []byte{0xbf, 0xf0, 0, 0, 0, 0, 0, 0}

// join gives all, one behind the other.
func join(l ...[]byte) []byte { return slices.Concat(l...) }

// num gives a number as it is written.
func num(n uint64) []byte { return binary.AppendUvarint(nil, n) }

// count gives so many bytes, none of them like its neighbours.
func count(size int) []byte {
	b := make([]byte, size)
	for i := range b {
		b[i] = byte(7*i + 1)
	}
	return b
}

// sized gives so many bytes, and how many ahead of them.
func sized(size int) []byte { return append(num(uint64(size)), count(size)...) }

// minus is -0.
func minus() float64 { return math.Copysign(0, -1) }

// same tells whether two floats are the same by their bits, or both no number.
func same(a, b float64) bool {
	return math.Float64bits(a) == math.Float64bits(b) || a != a && b != b
}

// alike tells whether two messages are the same, part by part.
func alike(a, b Msg) bool {
	return a.From == b.From && a.Num == b.Num && a.To == b.To && a.Kind == b.Kind && a.Var == b.Var && same(a.Value, b.Value) &&
		a.Writer == b.Writer && a.Tag == b.Tag && bytes.Equal(a.Body, b.Body) && bytes.Equal(a.Stamp, b.Stamp)
}

// aWord gives a message of Kind 0, far from every edge; so do the next ones of their kinds.
func aWord() Msg {
	return Msg{From: 5, Num: 7, To: 1<<3 | 1<<9, Body: []byte("some"), Stamp: []byte{9, 8}}
}

func aWrite() Msg {
	return Msg{From: 5, Num: 7, To: 1<<3 | 1<<9, Kind: 1, Var: 4, Value: 2.5, Writer: 5, Tag: 6, Stamp: []byte{9, 8}}
}

func aRequest() Msg {
	return Msg{From: 5, Num: 7, To: 1 << 9, Kind: 2, Var: 4, Stamp: []byte{9, 8}}
}

func anAnswer() Msg {
	return Msg{From: 5, Num: 7, To: 1 << 9, Kind: 3, Var: 4, Value: 2.5, Writer: 11, Tag: 6, Stamp: []byte{9, 8}}
}

// bases gives one of each kind, and an answer where nobody wrote yet.
func bases() []Msg {
	none := anAnswer()
	none.Value, none.Writer, none.Tag = 0, -1, 0
	return []Msg{aWord(), aWrite(), aRequest(), anAnswer(), none}
}

// with gives a message, changed.
func with(m Msg, change func(m *Msg)) Msg {
	change(&m)
	return m
}

// may tells what Good should, sentence by sentence of P7.1.
func may(m Msg) bool {
	to := uint64(m.To)
	hasTag := m.Kind == 1 || m.Kind == 3
	if m.From < 0 || m.From > 15 || m.Num < 1 || to < 1 || to > 65535 || to>>m.From%2 == 1 || m.Kind < 0 || m.Kind > 3 {
		return false
	}
	if len(m.Body) > 256 || m.Kind != 0 && len(m.Body) > 0 || m.Var < 0 || m.Var > 15 || m.Kind == 0 && m.Var != 0 {
		return false
	}
	if !hasTag && (math.Float64bits(m.Value) != 0 || m.Writer != 0 || m.Tag != 0) || m.Writer < -1 || m.Writer > 15 {
		return false
	}
	if m.Kind == 1 && (m.Writer != m.From || m.Tag == 0) {
		return false
	}
	if m.Kind == 3 && (m.Tag == 0 && m.Writer != -1 || m.Tag > 0 && m.Writer == -1) {
		return false
	}
	return len(m.Stamp) <= 20000
}

// check asks all calls of a message: what is Good is written, and read again; of what is not there is nothing.
func check(t *testing.T, m Msg) {
	t.Helper()
	want := may(m)
	b := Put(m)
	if Good(m) != want {
		t.Errorf("P7.1: Good of %+v: %v, want %v", m, !want, want)
	}
	if Size(m) != len(b) || want != (len(b) > 0) {
		t.Errorf("P7.1: of %+v: Size %d, Put %d", m, Size(m), len(b))
	}
	if !want {
		return
	}
	if got, err := Get(b); err != api.OK || !alike(got, m) {
		t.Errorf("P7.1: Get of Put of %+v: %+v, %d", m, got, err)
	}
}

// refused asks Get of bytes that are Put of none.
func refused(t *testing.T, name string, b []byte) {
	t.Helper()
	if m, err := Get(b); err != api.EFORM || !alike(m, Msg{}) {
		t.Errorf("P7.1: Get of %s: %+v, %d, want nothing, 2", name, m, err)
	}
}

// far gives whole numbers far beyond all limits, on both sides.
func far() []int {
	return []int{math.MinInt, math.MinInt + 1, -1 << 32, -256, 64, 65, 256, 1 << 32, 1<<32 + 1, 1<<32 + 5, math.MaxInt - 1, math.MaxInt}
}

// near gives whole numbers at all limits, and far ones.
func near() []int {
	l := far()
	for n := -20; n < 40; n++ {
		l = append(l, n)
	}
	return l
}

// counts gives numbers from nought on: ordinary ones, and edges.
func counts() []uint64 {
	return []uint64{0, 1, 2, 127, 128, 300, 1 << 32, math.MaxInt64, 1 << 63, math.MaxUint64 - 1, math.MaxUint64}
}

// floats gives floats of each class, and their edges.
func floats() []float64 {
	return []float64{
		0, minus(), 1, -1, 0.1, math.Inf(1), math.Inf(-1), math.NaN(), math.Float64frombits(0xfff8000000000001), math.Float64frombits(0x7ff0000000000001),
		math.MaxFloat64, -math.MaxFloat64, math.SmallestNonzeroFloat64, -math.SmallestNonzeroFloat64,
	}
}

func TestExamples(t *testing.T) {
	m := Msg{Num: 1, To: 2, Body: []byte("a")}
	if !Good(m) || Size(m) != 7 || !bytes.Equal(Put(m), []byte{0, 1, 2, 0, 1, 'a', 0}) {
		t.Fatalf("P7.1: a word of a, from 0 to 1: Good %v, Size %d, Put %v", Good(m), Size(m), Put(m))
	}
	if got, err := Get([]byte{0, 1, 2, 0, 1, 'a', 0}); err != api.OK || !alike(got, m) {
		t.Errorf("P7.1: Get of a word of a, from 0 to 1: %+v, %d", got, err)
	}
}

func TestPut(t *testing.T) {
	for i, c := range []struct {
		m Msg
		b []byte
	}{
		{Msg{Num: 1, To: 2}, []byte{0, 1, 2, 0, 0, 0}},
		{aWord(), join([]byte{5, 7, 136, 4, 0, 4}, []byte("some"), []byte{2, 9, 8})},
		{aWrite(), []byte{5, 7, 136, 4, 1, 4, 0xc0, 0x04, 0, 0, 0, 0, 0, 0, 6, 6, 2, 9, 8}},
		{aRequest(), []byte{5, 7, 128, 4, 2, 4, 2, 9, 8}},
		{anAnswer(), []byte{5, 7, 128, 4, 3, 4, 0xc0, 0x04, 0, 0, 0, 0, 0, 0, 12, 6, 2, 9, 8}},
		{bases()[4], []byte{5, 7, 128, 4, 3, 4, 0x80, 0, 0, 0, 0, 0, 0, 0, 0, 0, 2, 9, 8}},
		{Msg{From: 15, Num: 300, To: 32767, Body: count(256), Stamp: count(20000)}, join([]byte{15, 172, 2, 255, 255, 1, 0}, sized(256), sized(20000))},
		{Msg{From: 15, Num: math.MaxUint64, To: 1, Kind: 1, Var: 15, Value: 1, Writer: 15, Tag: 300}, join([]byte{15}, num(math.MaxUint64), []byte{1, 1, 15}, one, []byte{16, 172, 2, 0})},
		{Msg{Num: 1, To: 1 << 15, Kind: 2}, []byte{0, 1, 128, 128, 2, 2, 0, 0}},
		{Msg{Num: 1, To: 65534, Kind: 3, Value: minus(), Tag: math.MaxUint64}, join([]byte{0, 1, 254, 255, 3, 3, 0, 0x7f}, slices.Repeat([]byte{255}, 7), []byte{1}, num(math.MaxUint64), []byte{0})},
		{Msg{Num: 1, To: 2, Kind: 1, Value: math.NaN(), Tag: 1}, join([]byte{0, 1, 2, 1, 0}, slices.Repeat([]byte{255}, 8), []byte{1, 1, 0})},
		{Msg{Num: 1, To: 2, Kind: 1, Value: math.Inf(-1), Tag: 1}, join([]byte{0, 1, 2, 1, 0, 0, 15}, slices.Repeat([]byte{255}, 6), []byte{1, 1, 0})},
	} {
		if !may(c.m) || !bytes.Equal(Put(c.m), c.b) {
			t.Errorf("P7.1: Put of number %d: %d bytes, beginning with %v, want %v", i, Size(c.m), Put(c.m)[:min(Size(c.m), 30)], c.b[:min(len(c.b), 30)])
		}
		if m, err := Get(c.b); err != api.OK || !alike(m, c.m) {
			t.Errorf("P7.1: Get of number %d: %+v, %d", i, m, err)
		}
		check(t, c.m)
	}
}

// TestGoodWay changes whom it goes from, and to whom, and its number.
func TestGoodWay(t *testing.T) {
	for _, base := range bases() {
		for _, from := range near() {
			for p := range 64 {
				for _, to := range []dset.Set{0, 1, 1 << p, 1<<p | 1, 1<<p | 1<<15, 1<<p - 1, 65535 &^ (1 << p), math.MaxUint64 &^ (1 << p)} {
					check(t, with(base, func(m *Msg) { m.From, m.To = from, to }))
					check(t, with(base, func(m *Msg) { m.From, m.To, m.Writer = from, to, from }))
				}
			}
		}
		for _, n := range counts() {
			check(t, with(base, func(m *Msg) { m.Num = n }))
		}
	}
}

// TestGoodKind gives each kind what others have.
func TestGoodKind(t *testing.T) {
	for _, base := range bases() {
		for _, kind := range near() {
			check(t, with(base, func(m *Msg) { m.Kind = kind }))
			check(t, with(base, func(m *Msg) { m.Kind, m.Body = kind, nil }))
			check(t, with(Msg{Num: 1, To: 2}, func(m *Msg) { m.Kind = kind }))
			for _, v := range near() {
				check(t, with(base, func(m *Msg) { m.Var = v }))
				check(t, with(base, func(m *Msg) { m.Kind, m.Body, m.Var = kind, nil, v }))
			}
		}
		for _, x := range floats() {
			check(t, with(base, func(m *Msg) { m.Value = x }))
		}
	}
}

// TestGoodTag gives each kind any writer and any tag, together.
func TestGoodTag(t *testing.T) {
	for _, base := range bases() {
		for _, writer := range near() {
			for _, tag := range counts() {
				for _, x := range []float64{base.Value, 0, minus(), math.NaN()} {
					check(t, with(base, func(m *Msg) { m.Writer, m.Tag, m.Value = writer, tag, x }))
				}
			}
		}
		for from := range 16 {
			for writer := -1; writer < 17; writer++ {
				for tag := range uint64(2) {
					check(t, with(base, func(m *Msg) { m.From, m.To, m.Writer, m.Tag = from, 1<<((from+1)%16), writer, tag }))
				}
			}
		}
	}
}

func TestGoodSizes(t *testing.T) {
	for _, base := range bases() {
		for _, size := range []int{0, 1, 2, 127, 128, 255, 256, 257, 258, 300, 512, 1000, 20000, 65536, 65537} {
			check(t, with(base, func(m *Msg) { m.Body = count(size) }))
		}
		for _, size := range []int{0, 1, 127, 128, 256, 257, 16383, 16384, 19999, 20000, 20001, 20002, 32768, 65536, 65537, 100000} {
			check(t, with(base, func(m *Msg) { m.Stamp = count(size) }))
		}
		check(t, with(base, func(m *Msg) { m.Body, m.Stamp = []byte{}, []byte{} }))
		check(t, with(base, func(m *Msg) { m.Body, m.Stamp = nil, nil }))
	}
	check(t, Msg{})
}

// TestGoodNamed holds Good against plain answers, for each way in which one may not be.
func TestGoodNamed(t *testing.T) {
	for i, m := range bases() {
		if !Good(m) {
			t.Errorf("P7.1: Good of base %d: false", i)
		}
	}
	for name, m := range map[string]Msg{
		"zero":                  {},
		"From below":            with(aWord(), func(m *Msg) { m.From = -1 }),
		"From above":            with(aWord(), func(m *Msg) { m.From = 16 }),
		"Num nought":            with(aWord(), func(m *Msg) { m.Num = 0 }),
		"To none":               with(aWord(), func(m *Msg) { m.To = 0 }),
		"To 16":                 with(aWord(), func(m *Msg) { m.To |= 1 << 16 }),
		"To with From":          with(aWord(), func(m *Msg) { m.To |= 1 << 5 }),
		"Kind below":            with(aWord(), func(m *Msg) { m.Kind = -1 }),
		"Kind above":            with(anAnswer(), func(m *Msg) { m.Kind = 4 }),
		"Body too long":         with(aWord(), func(m *Msg) { m.Body = count(257) }),
		"Body of a write":       with(aWrite(), func(m *Msg) { m.Body = count(1) }),
		"Body of a request":     with(aRequest(), func(m *Msg) { m.Body = count(1) }),
		"Body of an answer":     with(anAnswer(), func(m *Msg) { m.Body = count(1) }),
		"Var below":             with(aRequest(), func(m *Msg) { m.Var = -1 }),
		"Var above":             with(aRequest(), func(m *Msg) { m.Var = 16 }),
		"Var of a word":         with(aWord(), func(m *Msg) { m.Var = 1 }),
		"Value of a word":       with(aWord(), func(m *Msg) { m.Value = 1 }),
		"-0 of a word":          with(aWord(), func(m *Msg) { m.Value = minus() }),
		"-0 of a request":       with(aRequest(), func(m *Msg) { m.Value = minus() }),
		"no number of a word":   with(aWord(), func(m *Msg) { m.Value = math.NaN() }),
		"Writer of a word":      with(aWord(), func(m *Msg) { m.Writer = 1 }),
		"nobody of a word":      with(aWord(), func(m *Msg) { m.Writer = -1 }),
		"nobody of a request":   with(aRequest(), func(m *Msg) { m.Writer = -1 }),
		"own of a request":      with(aRequest(), func(m *Msg) { m.Writer = 5 }),
		"another's of a write":  with(aWrite(), func(m *Msg) { m.Writer = 3 }),
		"nobody of a write":     with(aWrite(), func(m *Msg) { m.Writer = -1 }),
		"Writer above":          with(anAnswer(), func(m *Msg) { m.Writer = 16 }),
		"Writer below":          with(anAnswer(), func(m *Msg) { m.Writer = -2 }),
		"Writer below, no Tag":  with(anAnswer(), func(m *Msg) { m.Writer, m.Tag = -2, 0 }),
		"Tag of a word":         with(aWord(), func(m *Msg) { m.Tag = 1 }),
		"Tag of a request":      with(aRequest(), func(m *Msg) { m.Tag = 1 }),
		"no Tag of a write":     with(aWrite(), func(m *Msg) { m.Tag = 0 }),
		"no Tag of an answer":   with(anAnswer(), func(m *Msg) { m.Tag = 0 }),
		"nobody's, with a Tag":  with(anAnswer(), func(m *Msg) { m.Writer = -1 }),
		"Stamp too long":        with(aWord(), func(m *Msg) { m.Stamp = count(20001) }),
		"Stamp far too long":    with(aRequest(), func(m *Msg) { m.Stamp = count(65536) }),
		"a write to the writer": with(aWrite(), func(m *Msg) { m.From, m.Writer = 3, 3 }),
	} {
		if Good(m) || Size(m) != 0 || len(Put(m)) != 0 {
			t.Errorf("P7.1: of %s: Good %v, Size %d", name, Good(m), Size(m))
		}
	}
}

// TestGetWrong reads what Put writes, but for one part, which may not be so.
func TestGetWrong(t *testing.T) {
	tagged := func(kind, v, writer, tag byte) []byte {
		return join([]byte{5, 7, 8, kind, v}, one, []byte{writer, tag, 0})
	}
	for _, b := range [][]byte{{5, 7, 8, 0, 0, 0}, tagged(1, 4, 6, 6), tagged(3, 4, 12, 6), tagged(3, 4, 0, 0), tagged(3, 15, 16, 6)} {
		if m, err := Get(b); err != api.OK || !bytes.Equal(Put(m), b) {
			t.Fatalf("P7.1: Get of %v: %+v, %d", b, m, err)
		}
	}
	for name, b := range map[string][]byte{
		"From 16":              {16, 7, 8, 0, 0, 0},
		"From -1":              join(num(math.MaxUint64), []byte{7, 8, 0, 0, 0}),
		"From 2^32 + 5":        join(num(1<<32+5), []byte{7, 8, 0, 0, 0}),
		"Num nought":           {5, 0, 8, 0, 0, 0},
		"To none":              {5, 7, 0, 0, 0, 0},
		"To 16":                join([]byte{5, 7}, num(1<<16|8), []byte{0, 0, 0}),
		"To 63":                join([]byte{5, 7}, num(1<<63|8), []byte{0, 0, 0}),
		"To with From":         {5, 7, 40, 0, 0, 0},
		"Kind 4":               {5, 7, 8, 4, 0, 0},
		"Kind 4, as an answer": tagged(4, 4, 12, 6),
		"Kind 2^32":            join([]byte{5, 7, 8}, num(1<<32), []byte{0, 0}),
		"Body too long":        join([]byte{5, 7, 8, 0}, sized(257), []byte{0}),
		"Body not there":       {5, 7, 8, 0, 2, 0},
		"Body of many":         join([]byte{5, 7, 8, 0}, num(math.MaxUint64), []byte{0}),
		"Var 16":               {5, 7, 8, 2, 16, 0},
		"Var 16 of a write":    tagged(1, 16, 6, 6),
		"Var 16 of an answer":  tagged(3, 16, 12, 6),
		"Writer another":       tagged(1, 4, 4, 6),
		"Writer nobody":        tagged(1, 4, 0, 6),
		"no Tag of a write":    tagged(1, 4, 6, 0),
		"Writer 16":            tagged(3, 4, 17, 6),
		"Writer 127":           tagged(3, 4, 127, 6),
		"nobody's, with a Tag": tagged(3, 4, 0, 6),
		"no Tag of an answer":  tagged(3, 4, 12, 0),
		"Stamp too long":       join([]byte{5, 7, 8, 0, 0}, sized(20001)),
		"Stamp not there":      {5, 7, 8, 0, 0, 2, 1},
		"one behind":           {5, 7, 8, 0, 0, 0, 0},
		"twice":                {5, 7, 8, 0, 0, 0, 5, 7, 8, 0, 0, 0},
		"a float that is none": join([]byte{5, 7, 8, 1, 4}, slices.Repeat([]byte{255}, 7), []byte{254, 6, 6, 0}),
		"a float of noughts":   join([]byte{5, 7, 8, 1, 4}, make([]byte, 8), []byte{6, 6, 0}),
		"nothing":              nil,
		"an empty list":        {},
		"noughts":              make([]byte, 30),
		"all ones":             slices.Repeat([]byte{255}, 300),
	} {
		refused(t, name, b)
	}
}

// TestGetLong writes each number in a byte more than it needs.
func TestGetLong(t *testing.T) {
	for _, c := range []struct {
		m      Msg
		places []int // where its numbers of one byte stand
	}{
		{Msg{From: 5, Num: 7, To: 8, Body: []byte("b"), Stamp: []byte{9}}, []int{0, 1, 2, 3, 4, 6}},
		{Msg{From: 5, Num: 7, To: 8, Kind: 1, Var: 4, Value: 1, Writer: 5, Tag: 6, Stamp: []byte{9}}, []int{0, 1, 2, 3, 4, 13, 14, 15}},
		{Msg{From: 5, Num: 7, To: 8, Kind: 2, Var: 4, Stamp: []byte{9}}, []int{0, 1, 2, 3, 4, 5}},
		{Msg{From: 5, Num: 7, To: 8, Kind: 3, Var: 4, Value: 1, Writer: 1, Tag: 6, Stamp: []byte{9}}, []int{0, 1, 2, 3, 4, 13, 14, 15}},
	} {
		b := Put(c.m)
		for _, i := range c.places {
			refused(t, "a number that is too long", join(b[:i], []byte{b[i] | 128, 0}, b[i+1:]))
		}
	}
}

// TestGetCut cuts off at each byte, and lays one behind.
func TestGetCut(t *testing.T) {
	for _, m := range append(bases(), Msg{From: 15, Num: math.MaxUint64, To: 32767, Body: count(256), Stamp: count(300)}) {
		b := Put(m)
		for size := range b {
			refused(t, "what is cut off", b[:size])
		}
		for _, more := range []byte{0, 1, 128, 255} {
			refused(t, "what has more behind", append(slices.Clone(b), more))
		}
	}
}

// plain reads a message by the library alone, whether it may be or not; false of bytes that are cut off, not as short as can be, or more.
func plain(b []byte) (m Msg, ok bool) {
	ok = true
	next := func() uint64 {
		n, size := binary.Uvarint(b)
		if size <= 0 || !bytes.Equal(b[:size], num(n)) {
			b, ok = nil, false
			return 0
		}
		b = b[size:]
		return n
	}
	some := func(size uint64) []byte {
		if size > uint64(len(b)) {
			b, ok = nil, false
			return nil
		}
		l := b[:size]
		b = b[size:]
		return l
	}
	// Of what is too great for an int any wrong number will do.
	small := func() int { return int(min(next(), 1<<32)) }
	m.From, m.Num, m.To, m.Kind = small(), next(), dset.Set(next()), small()
	if m.Kind == 0 {
		m.Body = some(next())
	} else {
		m.Var = small()
	}
	if m.Kind == 1 || m.Kind == 3 {
		l := some(8)
		if l == nil {
			return Msg{}, false
		}
		key := binary.BigEndian.Uint64(l)
		m.Value = math.Float64frombits(key ^ 1<<63)
		if key < 1<<63 {
			m.Value = math.Float64frombits(^key)
		}
		ok = ok && (m.Value == m.Value || key == math.MaxUint64)
		m.Writer, m.Tag = small()-1, next()
	}
	m.Stamp = some(next())
	return m, ok && len(b) == 0
}

// TestGetChanged changes each byte to each other one: Get tells what the library's own reading does.
func TestGetChanged(t *testing.T) {
	good, bad := 0, 0
	for _, m := range bases() {
		b := Put(m)
		for i := range b {
			for c := range 256 {
				other := slices.Clone(b)
				other[i] = byte(c)
				want, ok := plain(other)
				if !ok || !may(want) {
					bad++
					refused(t, "changed bytes", other)
					continue
				}
				good++
				if got, err := Get(other); err != api.OK || !alike(got, want) || !bytes.Equal(Put(got), other) {
					t.Errorf("P7.1: Get of %v: %+v, %d, want %+v", other, got, err, want)
				}
			}
		}
	}
	if good < 1000 || bad < 1000 {
		t.Errorf("P7.1: of changed bytes only %d are good, %d bad", good, bad)
	}
}

// TestGetKeepsNothing reads into memory of its own, and each list into its own.
func TestGetKeepsNothing(t *testing.T) {
	want := aWord()
	b := Put(want)
	room := append(slices.Clone(b), 77, 77, 77)
	before := slices.Clone(room)
	m, err := Get(room[:len(b)])
	if err != api.OK || !alike(m, want) || !bytes.Equal(room, before) {
		t.Fatalf("R4: Get: %+v, %d, of %v", m, err, room)
	}
	for i := range room {
		room[i] = 55
	}
	if !alike(m, want) {
		t.Errorf("R4: what Get told hangs on its argument: %+v", m)
	}
	for i := range m.Body[:cap(m.Body)] {
		m.Body[:cap(m.Body)][i] = 99
	}
	if !bytes.Equal(m.Stamp, want.Stamp) {
		t.Errorf("R4: Body and Stamp share memory: %v", m.Stamp)
	}
	for i := range m.Stamp[:cap(m.Stamp)] {
		m.Stamp[:cap(m.Stamp)][i] = 66
	}
	if !bytes.Equal(m.Body, slices.Repeat([]byte{99}, len(want.Body))) {
		t.Errorf("R4: Body and Stamp share memory: %v", m.Body)
	}
	if !bytes.Equal(room, slices.Repeat([]byte{55}, len(room))) {
		t.Errorf("R4: what Get told shares memory with its argument: %v", room)
	}
}

// TestPutKeepsNothing leaves Body and Stamp as they are, and writes into memory of its own.
func TestPutKeepsNothing(t *testing.T) {
	room := count(40)
	before := slices.Clone(room)
	m := with(aWord(), func(m *Msg) { m.Body, m.Stamp = room[:5], room[20:29] })
	a, b := Put(m), Put(m)
	if !Good(m) || Size(m) != len(a) || !bytes.Equal(room, before) {
		t.Errorf("R4: Body or Stamp changed: %v", room)
	}
	for i := range a[:cap(a)] {
		a[:cap(a)][i] = 99
	}
	if !bytes.Equal(room, before) || !bytes.Equal(b, Put(m)) {
		t.Errorf("R4: Put shares memory: %v, %v", room, b)
	}
}
