package frame

import (
	"bytes"
	"encoding/binary"
	"math"
	"slices"
	"testing"

	"shoal/api"
)

// most is how many bytes data can have.
const most = 30000

// join gives all, one behind the other.
func join(l ...[]byte) []byte { return slices.Concat(l...) }

// num gives a number as it is written.
func num(n uint64) []byte { return binary.AppendUvarint(nil, n) }

// count gives so many bytes, none of them like its neighbours.
func count(size int) []byte {
	b := make([]byte, size)
	for i := range b {
		b[i] = byte(7*i + 1)
	}
	return b
}

// sized gives bytes, and how many ahead of them.
func sized(b []byte) []byte { return join(num(uint64(len(b))), b) }

// alike tells whether two frames are the same, part by part.
func alike(a, b Frame) bool {
	return a.Ack == b.Ack && a.Num == b.Num && bytes.Equal(a.Body, b.Body)
}

// may tells which frames Put should write.
func may(f Frame) bool {
	return f.Ack && len(f.Body) == 0 || !f.Ack && f.Num > 0 && len(f.Body) <= most
}

// written gives what Put should write of those that may be.
func written(f Frame) []byte {
	if f.Ack {
		return join([]byte{1}, num(f.Num))
	}
	return join([]byte{0}, num(f.Num), sized(f.Body))
}

// check asks both calls of a frame: what may be is written, and read again; of what may not be there is nothing.
func check(t *testing.T, f Frame) {
	t.Helper()
	b := Put(f)
	if !may(f) {
		if len(b) != 0 {
			t.Errorf("P8.1: Put of Ack %v, Num %d, %d bytes of Body: %d bytes, want nothing", f.Ack, f.Num, len(f.Body), len(b))
		}
		return
	}
	if !bytes.Equal(b, written(f)) {
		t.Errorf("P8.1: Put of Ack %v, Num %d, %d bytes of Body: %d bytes, beginning with %v", f.Ack, f.Num, len(f.Body), len(b), b[:min(len(b), 20)])
	}
	if got, err := Get(written(f)); err != api.OK || !alike(got, f) {
		t.Errorf("P8.1: Get of Ack %v, Num %d, %d bytes of Body: %v, %d, %d bytes, %d", f.Ack, f.Num, len(f.Body), got.Ack, got.Num, len(got.Body), err)
	}
}

// refused asks Get of bytes that are Put of none.
func refused(t *testing.T, name string, b []byte) {
	t.Helper()
	if f, err := Get(b); err != api.EFORM || f.Ack || f.Num != 0 || len(f.Body) != 0 {
		t.Errorf("P8.1: Get of %s (%d bytes, beginning with %v): %v, %d, %d bytes, %d, want nothing, 2", name, len(b), b[:min(len(b), 20)], f.Ack, f.Num, len(f.Body), err)
	}
}

// nums gives numbers: ordinary ones, and the edges of each length.
func nums() []uint64 {
	l := []uint64{0, 1, 2, 3, 5, 99, 300, 30000, 30001, math.MaxInt64, math.MaxUint64 - 1, math.MaxUint64}
	for width := 7; width < 64; width += 7 {
		l = append(l, 1<<width-1, 1<<width, 1<<width+1)
	}
	return l
}

// sizes gives lengths at the edges of data's, and of how they are written.
func sizes() []int {
	return []int{0, 1, 2, 63, 127, 128, 129, 255, 256, 257, 16383, 16384, 20000, most - 1, most, most + 1, most + 2, 32768, 65536, 65537, 2*most + 1, 100000}
}

func TestExamples(t *testing.T) {
	f := Frame{Ack: true, Num: 5}
	if b := Put(f); !bytes.Equal(b, []byte{1, 5}) {
		t.Errorf("P8.1: Put of an Ack of 5: %v, want 1 5", b)
	}
	if got, err := Get([]byte{1, 5}); err != api.OK || !alike(got, f) {
		t.Errorf("P8.1: Get of 1 5: %+v, %d", got, err)
	}
}

func TestPut(t *testing.T) {
	for _, c := range []struct {
		f Frame
		b []byte
	}{
		{Frame{Ack: true}, []byte{1, 0}},
		{Frame{Ack: true, Num: 1}, []byte{1, 1}},
		{Frame{Ack: true, Num: 127}, []byte{1, 127}},
		{Frame{Ack: true, Num: 300}, []byte{1, 172, 2}},
		{Frame{Ack: true, Num: math.MaxUint64}, []byte{1, 255, 255, 255, 255, 255, 255, 255, 255, 255, 1}},
		{Frame{Ack: true, Num: 5, Body: []byte{}}, []byte{1, 5}},
		{Frame{Num: 1}, []byte{0, 1, 0}},
		{Frame{Num: 1, Body: []byte{}}, []byte{0, 1, 0}},
		{Frame{Num: 1, Body: []byte("a")}, []byte{0, 1, 1, 'a'}},
		{Frame{Num: 300, Body: []byte{0, 255, 128}}, []byte{0, 172, 2, 3, 0, 255, 128}},
		{Frame{Num: math.MaxUint64, Body: []byte("ab")}, []byte{0, 255, 255, 255, 255, 255, 255, 255, 255, 255, 1, 2, 'a', 'b'}},
		{Frame{Num: 2, Body: count(300)}, join([]byte{0, 2, 172, 2}, count(300))},
		{Frame{Num: 3, Body: count(30000)}, join([]byte{0, 3, 176, 234, 1}, count(30000))},
	} {
		if b := Put(c.f); !bytes.Equal(b, c.b) {
			t.Errorf("P8.1: Put of Ack %v, Num %d, %d bytes of Body: %v, want %v", c.f.Ack, c.f.Num, len(c.f.Body), b[:min(len(b), 20)], c.b[:min(len(c.b), 20)])
		}
		if f, err := Get(c.b); err != api.OK || !alike(f, c.f) {
			t.Errorf("P8.1: Get of %v: %v, %d, %d bytes, %d", c.b[:min(len(c.b), 20)], f.Ack, f.Num, len(f.Body), err)
		}
		check(t, c.f)
	}
}

// TestPutNone holds Put against plain answers, for each way in which a frame may not be.
func TestPutNone(t *testing.T) {
	for name, f := range map[string]Frame{
		"zero":                            {},
		"data with Num 0":                 {Body: []byte("a")},
		"data of one byte too many":       {Num: 1, Body: count(most + 1)},
		"data of far too many":            {Num: 1, Body: count(1 << 17)},
		"data with Num 0, of too many":    {Body: count(most + 1)},
		"an Ack with a Body":              {Ack: true, Num: 5, Body: []byte{0}},
		"an Ack with as long a Body":      {Ack: true, Num: 5, Body: count(most)},
		"an Ack with too long a Body":     {Ack: true, Num: 5, Body: count(most + 1)},
		"an Ack of nought, with a Body":   {Ack: true, Body: []byte("a")},
		"an Ack of the last, with a Body": {Ack: true, Num: math.MaxUint64, Body: []byte("a")},
	} {
		if b := Put(f); len(b) != 0 {
			t.Errorf("P8.1: Put of %s: %d bytes, want nothing", name, len(b))
		}
	}
}

// TestBoth writes and reads each kind, with each number and each length.
func TestBoth(t *testing.T) {
	for _, n := range nums() {
		for _, size := range sizes() {
			body := count(size)
			check(t, Frame{Num: n, Body: body})
			check(t, Frame{Ack: true, Num: n, Body: body})
		}
		check(t, Frame{Num: n, Body: nil})
		check(t, Frame{Ack: true, Num: n, Body: nil})
	}
}

// TestGetWrong reads what Put writes, but for one part, which may not be so.
func TestGetWrong(t *testing.T) {
	for name, b := range map[string][]byte{
		"nothing":                    nil,
		"an empty list":              {},
		"data alone":                 {0},
		"an Ack alone":               {1},
		"data with no Body":          {0, 1},
		"data with Num 0":            {0, 0, 1, 'a'},
		"data with Num 0, no byte":   {0, 0, 0},
		"data of one byte too many":  join([]byte{0, 1}, sized(count(most+1))),
		"data of far too many":       join([]byte{0, 1}, sized(count(1<<17))),
		"data of more than is there": {0, 1, 2, 'a'},
		"data of none that is there": {0, 1, 1},
		"data of all there could be": join([]byte{0, 1}, num(math.MaxUint64), []byte("a")),
		"data of 2^32 and 1":         join([]byte{0, 1}, num(1<<32+1), []byte("a")),
		"data, and one more":         {0, 1, 1, 'a', 'b'},
		"data, and a nought":         {0, 1, 0, 0},
		"data twice":                 {0, 1, 0, 0, 1, 0},
		"an Ack, and a nought":       {1, 5, 0},
		"an Ack with a Body":         {1, 5, 1, 'a'},
		"an Ack twice":               {1, 5, 1, 5},
		"number 2":                   {2, 5},
		"number 2, as data":          {2, 5, 1, 'a'},
		"number 127":                 {127, 5},
		"number 2^32":                join(num(1<<32), []byte{5}),
		"number 2^32 and 1":          join(num(1<<32+1), []byte{5}),
		"number 2^64 less 1":         join(num(math.MaxUint64), []byte{5}),
		"data, in two bytes":         {128, 0, 1, 1, 'a'},
		"an Ack, in two bytes":       {129, 0, 5},
		"Num of an Ack too long":     {1, 133, 0},
		"Num 0 of an Ack too long":   {1, 128, 0},
		"Num of data too long":       {0, 129, 0, 1, 'a'},
		"Body's length too long":     {0, 1, 129, 0, 'a'},
		"no Body's length too long":  {0, 1, 128, 0},
		"Num of an Ack too great":    {1, 255, 255, 255, 255, 255, 255, 255, 255, 255, 2},
		"Num of data too great":      {0, 255, 255, 255, 255, 255, 255, 255, 255, 255, 2, 0},
		"Num of an Ack cut off":      {1, 255, 255, 255, 255, 255, 255, 255, 255, 255},
		"noughts":                    make([]byte, 40),
		"all ones":                   slices.Repeat([]byte{255}, 40),
	} {
		refused(t, name, b)
	}
}

// TestGetCut cuts off at each byte, and lays one behind.
func TestGetCut(t *testing.T) {
	for _, f := range []Frame{
		{Ack: true}, {Ack: true, Num: 5}, {Ack: true, Num: math.MaxUint64}, {Num: 1}, {Num: 1, Body: []byte("a")},
		{Num: math.MaxUint64, Body: count(300)}, {Num: 300, Body: slices.Repeat([]byte{1}, 200)},
	} {
		b := Put(f)
		for size := range b {
			refused(t, "what is cut off", b[:size])
		}
		for _, more := range []byte{0, 1, 128, 255} {
			refused(t, "what has more behind", append(slices.Clone(b), more))
		}
	}
	long := Put(Frame{Num: 9, Body: count(most)})
	refused(t, "what is cut off", long[:len(long)-1])
	refused(t, "what has more behind", append(slices.Clone(long), 0))
}

// plain reads a frame by the library alone; false of bytes that are cut off, not as short as can be, more, or of what may not be.
func plain(b []byte) (Frame, bool) {
	var l []uint64
	for wanted := 2; len(l) < wanted; {
		n, size := binary.Uvarint(b)
		if size <= 0 || !bytes.Equal(b[:size], num(n)) {
			return Frame{}, false
		}
		b = b[size:]
		l = append(l, n)
		// Of data a third number tells how many bytes there are.
		if l[0] == 0 {
			wanted = 3
		}
	}
	f := Frame{Ack: l[0] == 1, Num: l[1], Body: b}
	ok := l[0] == 1 || l[0] == 0 && l[2] == uint64(len(b))
	return f, ok && may(f)
}

// against holds Get against plain, and tells whether the bytes are a frame.
func against(t *testing.T, b []byte) bool {
	t.Helper()
	want, ok := plain(b)
	if !ok {
		refused(t, "bytes that are none", b)
		return false
	}
	if f, err := Get(b); err != api.OK || !alike(f, want) || !bytes.Equal(Put(f), b) {
		t.Errorf("P8.1: Get of %v: %+v, %d, want %+v", b, f, err, want)
	}
	return true
}

// TestGetAny reads all short runs of bytes that frames are made of, or of edges.
func TestGetAny(t *testing.T) {
	good, all := 0, 0
	runs := [][]byte{nil}
	for range 6 {
		var longer [][]byte
		for _, b := range runs {
			for _, c := range []byte{0, 1, 2, 3, 127, 128, 129, 255} {
				longer = append(longer, join(b, []byte{c}))
			}
		}
		for _, b := range longer {
			all++
			if against(t, b) {
				good++
			}
		}
		runs = longer
	}
	if good < 1000 || all-good < 1000 {
		t.Errorf("P8.1: of all short runs %d are frames, of %d", good, all)
	}
}

// TestGetChanged changes each byte of a frame to each other one.
func TestGetChanged(t *testing.T) {
	good, all := 0, 0
	for _, f := range []Frame{{Ack: true, Num: 5}, {Ack: true, Num: 300}, {Num: 1, Body: []byte("some")}, {Num: 1 << 40, Body: count(130)}} {
		b := Put(f)
		for i := range b {
			for c := range 256 {
				other := slices.Clone(b)
				other[i] = byte(c)
				all++
				if against(t, other) {
					good++
				}
			}
		}
	}
	if good < 1000 || all-good < 1000 {
		t.Errorf("P8.1: of changed bytes %d are frames, of %d", good, all)
	}
}

// TestGetKeepsNothing reads into memory of its own.
func TestGetKeepsNothing(t *testing.T) {
	want := Frame{Num: 7, Body: []byte("some")}
	b := Put(want)
	room := append(slices.Clone(b), 77, 77, 77)
	before := slices.Clone(room)
	f, err := Get(room[:len(b)])
	if err != api.OK || !alike(f, want) || !bytes.Equal(room, before) {
		t.Fatalf("R4: Get: %+v, %d, of %v", f, err, room)
	}
	for i := range room {
		room[i] = 55
	}
	if !alike(f, want) {
		t.Errorf("R4: what Get told hangs on its argument: %+v", f)
	}
	spare := f.Body[:cap(f.Body)]
	for i := range spare {
		spare[i] = 99
	}
	if !bytes.Equal(room, slices.Repeat([]byte{55}, len(room))) {
		t.Errorf("R4: what Get told shares memory with its argument: %v", room)
	}
}

// TestPutKeepsNothing leaves the Body as it is, and writes into memory of its own.
func TestPutKeepsNothing(t *testing.T) {
	room := count(40)
	before := slices.Clone(room)
	f := Frame{Num: 7, Body: room[:5]}
	a, b := Put(f), Put(f)
	if !bytes.Equal(room, before) {
		t.Errorf("R4: the Body changed: %v", room)
	}
	spare := a[:cap(a)]
	for i := range spare {
		spare[i] = 99
	}
	if !bytes.Equal(room, before) || !bytes.Equal(b, written(f)) || !bytes.Equal(Put(f), written(f)) {
		t.Errorf("R4: Put shares memory: %v, %v", room, b)
	}
}
