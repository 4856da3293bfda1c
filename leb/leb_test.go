package leb

import (
	"bytes"
	"math"
	"slices"
	"testing"
)

// row is a number and the bytes it is written in.
type row struct {
	n uint64
	b []byte
}

// long gives so many bytes, all but the last of them c.
func long(c byte, size int, last byte) []byte {
	return append(bytes.Repeat([]byte{c}, size-1), last)
}

// rows gives numbers, rising: small ones, ordinary ones, and both edges of each length.
func rows() []row {
	l := []row{
		{0, []byte{0}}, {1, []byte{1}}, {5, []byte{5}}, {300, []byte{172, 2}}, {624485, []byte{229, 142, 38}},
	}
	for size := 1; size < longest; size++ {
		first := uint64(1) << (7 * size)
		l = append(l, row{first - 1, long(255, size, 127)}, row{first, long(128, size+1, 1)})
	}
	l = append(l, row{math.MaxUint64 - 1, append([]byte{254}, long(255, 9, 1)...)}, row{math.MaxUint64, long(255, 10, 1)})
	slices.SortFunc(l, func(a, b row) int {
		if a.n < b.n {
			return -1
		}
		return 1
	})
	return l
}

// wrong gives bytes that begin with no number.
func wrong() [][]byte {
	l := [][]byte{
		nil, {}, {128}, {255}, {172}, {128, 128},
		{128, 0}, {172, 130, 0}, {255, 0}, {129, 128, 0}, {128, 128, 128, 0},
		long(255, 10, 0), long(128, 10, 0), long(128, 10, 2), long(128, 10, 3), long(255, 10, 2), long(255, 10, 3),
		long(255, 10, 127), long(128, 10, 64), long(128, 10, 65), long(255, 10, 128), long(255, 10, 129),
		long(255, 11, 0), long(128, 11, 0), long(128, 11, 1), long(255, 11, 1), append(long(128, 10, 129), 0),
		long(128, 20, 1), long(128, 300, 0), long(255, 300, 1),
	}
	for size := 2; size <= 12; size++ {
		l = append(l, long(128, size, 0), long(255, size, 0), long(255, size, 128), long(128, size, 128))
	}
	return l
}

// pattern gives a number that looks like chance, of any length, and is the same each time.
func pattern(i int) uint64 {
	z := uint64(i+1) * 0x9e3779b97f4a7c15
	z = (z ^ z>>30) * 0xbf58476d1ce4e5b9
	z = (z ^ z>>27) * 0x94d049bb133111eb
	return (z ^ z>>31) >> (uint(i) % 64)
}

// plain writes n by dividing, with no shift.
func plain(n uint64) []byte {
	if n < 128 {
		return []byte{byte(n)}
	}
	return append([]byte{byte(n%128 + 128)}, plain(n/128)...)
}

// begins tells what b begins with by trying each length, with no reading of groups.
func begins(b []byte) (uint64, int) {
	for size := 1; size <= min(len(b), longest); size++ {
		var n, place uint64 = 0, 1
		for _, c := range b[:size] {
			n += uint64(c%128) * place
			place *= 128
		}
		if bytes.Equal(plain(n), b[:size]) {
			return n, size
		}
	}
	return 0, 0
}

func TestPut(t *testing.T) {
	for _, r := range rows() {
		if b := Put(nil, r.n); !bytes.Equal(b, r.b) {
			t.Errorf("P3.1: Put(nil, %d): %v, want %v", r.n, b, r.b)
		}
		for _, ahead := range [][]byte{{}, {0}, {128}, {7, 255, 128}} {
			want := slices.Concat(ahead, r.b)
			if b := Put(ahead, r.n); !bytes.Equal(b, want) {
				t.Errorf("P3.1: Put(%v, %d): %v, want %v", ahead, r.n, b, want)
			}
		}
	}
}

func TestPutNewMemory(t *testing.T) {
	room := []byte{1, 2, 3, 4, 5, 6, 7, 8, 9, 10, 11, 12, 13, 14, 15}
	for _, n := range []uint64{0, 127, 300, math.MaxUint64} {
		given := room[:3]
		b := Put(given, n)
		if !bytes.Equal(room, []byte{1, 2, 3, 4, 5, 6, 7, 8, 9, 10, 11, 12, 13, 14, 15}) {
			t.Fatalf("P3.1: Put of %d changes what it was given: %v", n, room)
		}
		other := Put(given, n)
		for i := range b[:cap(b)] {
			b[:cap(b)][i] = 99
		}
		if room[0] != 1 || room[3] != 4 || !bytes.Equal(other, append([]byte{1, 2, 3}, plain(n)...)) {
			t.Errorf("P3.1: Put of %d shares memory: %v, %v", n, room, other)
		}
	}
}

func TestGet(t *testing.T) {
	for _, r := range rows() {
		for _, behind := range [][]byte{nil, {0}, {1}, {128}, {255, 255}, long(255, 12, 1)} {
			b := slices.Concat(r.b, behind)
			if n, size := Get(b); n != r.n || size != len(r.b) {
				t.Errorf("P3.1: Get(%v): %d, %d, want %d, %d", b, n, size, r.n, len(r.b))
			}
		}
		for size := range r.b {
			if n, got := Get(r.b[:size]); n != 0 || got != 0 {
				t.Errorf("P3.1: Get(%v), cut off: %d, %d, want 0, 0", r.b[:size], n, got)
			}
		}
	}
}

func TestGetWrong(t *testing.T) {
	for _, b := range wrong() {
		if n, size := Get(b); n != 0 || size != 0 {
			t.Errorf("P3.1: Get(%v): %d, %d, want 0, 0", b, n, size)
		}
	}
}

func TestSize(t *testing.T) {
	for _, r := range rows() {
		if size := Size(r.n); size != len(r.b) {
			t.Errorf("P3.1: Size(%d): %d, want %d", r.n, size, len(r.b))
		}
	}
}

func TestAll(t *testing.T) {
	for _, b := range [][]byte{nil, {}} {
		if l, ok := All(b); len(l) != 0 || !ok {
			t.Errorf("P3.1: All of nothing: %v, %v", l, ok)
		}
	}
	var b []byte
	var want []uint64
	for _, r := range rows() {
		b, want = append(b, r.b...), append(want, r.n)
		if l, ok := All(b); !slices.Equal(l, want) || !ok {
			t.Errorf("P3.1: All(%v): %v, %v, want %v", b, l, ok, want)
		}
	}
	if l, ok := All([]byte{0, 0, 0}); !slices.Equal(l, []uint64{0, 0, 0}) || !ok {
		t.Errorf("P3.1: All of three noughts: %v, %v", l, ok)
	}
}

func TestAllWrong(t *testing.T) {
	for _, bad := range wrong() {
		if len(bad) == 0 {
			continue
		}
		for _, ahead := range [][]byte{nil, {0}, {172, 2}, {1, 2, 3}} {
			b := slices.Concat(ahead, bad)
			if l, ok := All(b); l != nil || ok {
				t.Errorf("P3.1: All(%v): %v, %v, want none, false", b, l, ok)
			}
		}
	}
}

func TestAllAlone(t *testing.T) {
	b := []byte{1, 172, 2, 3}
	l, _ := All(b)
	other, _ := All(b)
	for i := range l[:cap(l)] {
		l[:cap(l)][i] = 99
	}
	if !slices.Equal(other, []uint64{1, 300, 3}) || !bytes.Equal(b, []byte{1, 172, 2, 3}) {
		t.Errorf("P3.1: All shares memory: %v, %v", other, b)
	}
}

// TestPatterns holds all calls against the plain way.
func TestPatterns(t *testing.T) {
	var b []byte
	var want []uint64
	for i := range 5000 {
		n := pattern(i)
		one := Put(nil, n)
		if !bytes.Equal(one, plain(n)) || Size(n) != len(one) {
			t.Fatalf("P3.1: Put(nil, %d): %v, Size %d, want %v", n, one, Size(n), plain(n))
		}
		if m, size := Get(one); m != n || size != len(one) {
			t.Fatalf("P3.1: Get(Put(nil, %d)): %d, %d", n, m, size)
		}
		b, want = Put(b, n), append(want, n)
	}
	if l, ok := All(b); !slices.Equal(l, want) || !ok {
		t.Errorf("P3.1: All of %d numbers: %d, %v", len(want), len(l), ok)
	}
}

// TestAnyBytes reads bytes of all kinds, those that go on and on among them.
func TestAnyBytes(t *testing.T) {
	for i := range 20000 {
		b := make([]byte, i%14)
		for k := range b {
			p := pattern(64 * (16*i + k))
			b[k] = byte(p >> 40)
			if p%4 != 0 {
				b[k] |= 128
			}
			if p%16 == 0 {
				b[k] &= 3
			}
		}
		want, length := begins(b)
		if n, size := Get(b); n != want || size != length {
			t.Fatalf("P3.1: Get(%v): %d, %d, want %d, %d", b, n, size, want, length)
		}
	}
}
