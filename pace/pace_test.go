package pace

import (
	"math"
	"slices"
	"testing"

	"shoal/api"
)

// greatest is the most that a step can be.
const greatest = 1000

// state is all that can be asked of an alarm.
type state struct {
	left  int
	runs  bool
	step  int
	rings int64
}

// told asks an alarm all.
func told(p *Pace) state {
	var s state
	s.left, s.runs = p.Left()
	s.step, s.rings = p.Step(), p.Rings()
	return s
}

// is tells whether an alarm is so. It asks twice: to ask changes nothing.
func is(t *testing.T, name string, p *Pace, want state) {
	t.Helper()
	for range 2 {
		if got := told(p); got != want {
			t.Fatalf("P11.1: %s: %v, want %v", name, got, want)
		}
	}
}

// made gives an alarm that does not run.
func made(t *testing.T, first, most int) *Pace {
	t.Helper()
	p, e := New(first, most)
	if e != api.OK || p == nil {
		t.Fatalf("P11.1: New(%d, %d): %v, error %d", first, most, p, e)
	}
	return p
}

// started gives one that runs.
func started(t *testing.T, first, most int) *Pace {
	t.Helper()
	p := made(t, first, most)
	p.Start()
	return p
}

// rung does so many Ticks, and lists those at which it rang, from 1 on.
func rung(p *Pace, ticks int) []int {
	var at []int
	for i := 1; i <= ticks; i++ {
		if p.Tick() {
			at = append(at, i)
		}
	}
	return at
}

// silent does so many Ticks, at none of which it may ring.
func silent(t *testing.T, p *Pace, ticks int) {
	t.Helper()
	if at := rung(p, ticks); len(at) > 0 {
		t.Fatalf("P11.1: of %d Ticks it rang at %v", ticks, at)
	}
}

// rings does one Tick, at which it must ring.
func rings(t *testing.T, p *Pace) {
	t.Helper()
	if !p.Tick() {
		t.Fatalf("P11.1: it does not ring: %v", told(p))
	}
}

func TestExample(t *testing.T) {
	p := started(t, 1, 4)
	if at := rung(p, 12); !slices.Equal(at, []int{1, 3, 7, 11}) {
		t.Errorf("P11.1: New(1, 4), Start: it rang at %v", at)
	}
	is(t, "behind 12 Ticks", p, state{left: 3, runs: true, step: 4, rings: 4})
}

// TestNew asks for each first and each most, those that may be and those that may not.
func TestNew(t *testing.T) {
	for first := -2; first <= greatest+2; first++ {
		for most := -2; most <= greatest+2; most++ {
			may := first >= 1 && first <= most && most <= greatest
			p, e := New(first, most)
			if !may && (p != nil || e != api.EARG) || may && (p == nil || e != api.OK) {
				t.Fatalf("P11.1: New(%d, %d): %v, error %d", first, most, p, e)
			}
			if may && told(p) != (state{step: first}) {
				t.Fatalf("P11.1: New(%d, %d): %v", first, most, told(p))
			}
		}
	}
}

// TestNewFar asks for numbers far from all that may be.
func TestNewFar(t *testing.T) {
	far := []int{1 << 16, 1<<16 + 1, 1 << 32, 1<<32 + 1, math.MaxInt, -1 << 16, -1 << 32, 1 - 1<<32, math.MinInt + 1, math.MinInt}
	for _, n := range far {
		for _, c := range [][2]int{{n, 1}, {n, greatest}, {1, n}, {greatest, n}, {0, n}, {n, 0}, {n, n}} {
			if p, e := New(c[0], c[1]); p != nil || e != api.EARG {
				t.Errorf("P11.1: New(%d, %d): %v, error %d", c[0], c[1], p, e)
			}
		}
	}
}

// TestSteps has the steps of many alarms: each is twice the one ahead of it, until that is more than most.
func TestSteps(t *testing.T) {
	for _, c := range []struct {
		first, most int
		steps       []int
	}{
		{1, 1, []int{1, 1, 1, 1}},
		{1, 2, []int{1, 2, 2, 2}},
		{1, 3, []int{1, 2, 3, 3}},
		{2, 3, []int{2, 3, 3}},
		{3, 3, []int{3, 3, 3}},
		{2, 4, []int{2, 4, 4}},
		{3, 10, []int{3, 6, 10, 10}},
		{3, 11, []int{3, 6, 11, 11}},
		{3, 12, []int{3, 6, 12, 12}},
		{3, 13, []int{3, 6, 12, 13, 13}},
		{1, greatest, []int{1, 2, 4, 8, 16, 32, 64, 128, 256, 512, greatest, greatest}},
		{greatest / 2, greatest, []int{greatest / 2, greatest, greatest}},
		{greatest/2 - 1, greatest, []int{greatest/2 - 1, greatest - 2, greatest, greatest}},
		{greatest/2 + 1, greatest, []int{greatest/2 + 1, greatest, greatest}},
		{greatest - 1, greatest, []int{greatest - 1, greatest, greatest}},
		{greatest, greatest, []int{greatest, greatest, greatest}},
	} {
		p := started(t, c.first, c.most)
		for i, step := range c.steps {
			for gone := range step {
				is(t, "as it runs", p, state{left: step - gone, runs: true, step: step, rings: int64(i)})
				if p.Tick() != (gone == step-1) {
					t.Fatalf("P11.1: New(%d, %d): step number %d: Tick %d of %d is wrong", c.first, c.most, i, gone+1, step)
				}
			}
		}
	}
}

// TestIdle has one that does not run: no Tick is gone, and to stop it is nothing.
func TestIdle(t *testing.T) {
	p := made(t, 2, 8)
	is(t, "New", p, state{step: 2})
	silent(t, p, 20)
	is(t, "Ticks ahead of Start", p, state{step: 2})
	p.Stop()
	p.Stop()
	is(t, "Stop ahead of Start", p, state{step: 2})
	silent(t, p, 20)
	p.Start()
	is(t, "Start", p, state{left: 2, runs: true, step: 2})
	silent(t, p, 1)
	rings(t, p)
	is(t, "it rang", p, state{left: 4, runs: true, step: 4, rings: 1})
}

// TestStartAgain starts one that runs: at each place of its way that is nothing.
func TestStartAgain(t *testing.T) {
	for _, c := range [][2]int{{1, 1}, {1, 4}, {2, 5}, {3, 3}} {
		p, other := started(t, c[0], c[1]), started(t, c[0], c[1])
		for range 30 {
			p.Start()
			p.Start()
			is(t, "Start of one that runs", p, told(other))
			if p.Tick() != other.Tick() {
				t.Fatalf("P11.1: New(%d, %d): it rings at other Ticks where it is started as it runs", c[0], c[1])
			}
		}
	}
}

// TestStop stops one at each place of its way: its step is the first again, and the rings are counted on.
func TestStop(t *testing.T) {
	for ticks := range 30 {
		p := started(t, 2, 5)
		n := int64(len(rung(p, ticks)))
		p.Stop()
		is(t, "Stop", p, state{step: 2, rings: n})
		silent(t, p, 10)
		p.Stop()
		is(t, "Stop of one that does not run", p, state{step: 2, rings: n})
		p.Start()
		is(t, "Start behind Stop", p, state{left: 2, runs: true, step: 2, rings: n})
		if at := rung(p, 16); !slices.Equal(at, []int{2, 6, 11, 16}) {
			t.Errorf("P11.1: behind %d Ticks, Stop and Start: it rang at %v", ticks, at)
		}
		is(t, "it rang on", p, state{left: 5, runs: true, step: 5, rings: n + 4})
	}
}

// TestApart has two that know nothing of each other.
func TestApart(t *testing.T) {
	a, b := made(t, 1, 4), made(t, 2, 3)
	a.Start()
	is(t, "the other", b, state{step: 2})
	b.Start()
	rings(t, a)
	is(t, "the other", b, state{left: 2, runs: true, step: 2})
	silent(t, b, 1)
	a.Stop()
	is(t, "the other", b, state{left: 1, runs: true, step: 2})
	rings(t, b)
	is(t, "the one", a, state{step: 1, rings: 1})
}

// TestManyRings has one ring far more often than any list of rings would be kept for.
func TestManyRings(t *testing.T) {
	const many = 1 << 20
	p := started(t, 1, 1)
	for range many {
		p.Tick()
	}
	is(t, "a ring a Tick", p, state{left: 1, runs: true, step: 1, rings: many})
}

// watch is the other way of keeping an alarm: what was done since Start, and the Ticks at which it rings worked out anew each time.
type watch struct {
	first, most int
	runs        bool
	gone        int
	before      int64
}

// next tells when it rings next, how long that takes in all, and how often it has rung since Start.
func (w *watch) next() (at, step, times int) {
	step = w.first
	for at = step; at <= w.gone; at += step {
		step = min(step+step, w.most)
		times++
	}
	return at, step, times
}

// told tells all.
func (w *watch) told() state {
	if !w.runs {
		return state{step: w.first, rings: w.before}
	}
	at, step, times := w.next()
	return state{left: at - w.gone, runs: true, step: step, rings: w.before + int64(times)}
}

// start lets it run.
func (w *watch) start() {
	if !w.runs {
		w.runs, w.gone = true, 0
	}
}

// stop stops it.
func (w *watch) stop() {
	w.before = w.told().rings
	w.runs = false
}

// tick lets a tick go by.
func (w *watch) tick() bool {
	before := w.told().rings
	w.gone++
	return w.told().rings > before
}

// same does one thing to an alarm and to a watch, and holds them against each other: 0 starts, 1 stops, all else ticks.
func same(t *testing.T, p *Pace, w *watch, op int) {
	t.Helper()
	switch op {
	case 0:
		p.Start()
		w.start()
	case 1:
		p.Stop()
		w.stop()
	default:
		if got, want := p.Tick(), w.tick(); got != want {
			t.Fatalf("P11.1: first %d, most %d: Tick: %v, want %v", w.first, w.most, got, want)
		}
	}
	is(t, "held against a watch", p, w.told())
}

// TestAllShortRuns does all runs of eight things to small alarms.
func TestAllShortRuns(t *testing.T) {
	const all = 3 * 3 * 3 * 3 * 3 * 3 * 3 * 3
	for most := 1; most <= 4; most++ {
		for first := 1; first <= most; first++ {
			for run := range all {
				p, w := made(t, first, most), &watch{first: first, most: most}
				for left := all; left > 1; left /= 3 {
					same(t, p, w, run%3)
					run /= 3
				}
			}
		}
	}
}

// TestLongRuns does long runs, of which some are stopped often and some seldom.
func TestLongRuns(t *testing.T) {
	x := uint32(12345)
	for _, c := range [][2]int{{1, 1}, {1, 2}, {1, 7}, {3, 10}, {5, 64}, {1, greatest}, {greatest - 1, greatest}, {greatest, greatest}} {
		p, w := made(t, c[0], c[1]), &watch{first: c[0], most: c[1]}
		for _, seldom := range []int{5, 50, 500, 5000} {
			for range 10000 {
				x = x*1664525 + 1013904223
				same(t, p, w, int(x>>8)%seldom)
			}
		}
	}
}
