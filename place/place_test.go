package place

import (
	"math"
	"slices"
	"testing"

	"shoal/dset"
)

// base gives settings that may be, far from every edge: three processes, and of four variables each kept by others.
func base() Config {
	return Config{N: 3, Vars: []dset.Set{2, 6, 7, 4}, Window: 5, Queue: 9, First: 20, Most: 300, Body: 100, Engine: 2}
}

// with gives base, changed.
func with(change func(c *Config)) Config {
	c := base()
	change(&c)
	return c
}

// far gives numbers far beyond all limits, on both sides.
func far() []int {
	return []int{math.MinInt, math.MinInt + 1, -1 << 32, 1<<32 + 1, 1<<32 + 3, math.MaxInt - 1, math.MaxInt}
}

// ofAll gives so many variables that all of n keep.
func ofAll(count, n int) []dset.Set { return slices.Repeat([]dset.Set{1<<n - 1}, count) }

// wrong gives settings that may not be, one for each way in which they may not.
func wrong() map[string]Config {
	return map[string]Config{
		"zero":            {},
		"N below":         with(func(c *Config) { c.N, c.Vars = 0, nil }),
		"N above":         with(func(c *Config) { c.N = 17 }),
		"N negative":      with(func(c *Config) { c.N = -3 }),
		"too few for it":  with(func(c *Config) { c.N = 2 }),
		"too many Vars":   with(func(c *Config) { c.Vars = ofAll(17, 3) }),
		"one that none":   with(func(c *Config) { c.Vars[3] = 0 }),
		"one beyond":      with(func(c *Config) { c.Vars[2] = 8 }),
		"one far beyond":  with(func(c *Config) { c.Vars[0] |= 1 << 63 }),
		"Window below":    with(func(c *Config) { c.Window = 0 }),
		"Window above":    with(func(c *Config) { c.Window = 17 }),
		"Queue below":     with(func(c *Config) { c.Queue = 1 }),
		"Queue above":     with(func(c *Config) { c.Queue = 33 }),
		"First below":     with(func(c *Config) { c.First = 0 }),
		"First above":     with(func(c *Config) { c.First = 301 }),
		"Most above":      with(func(c *Config) { c.Most = 1001 }),
		"Most below":      with(func(c *Config) { c.Most = 19 }),
		"none from First": with(func(c *Config) { c.First, c.Most = 0, 0 }),
		"Body below":      with(func(c *Config) { c.Body = -1 }),
		"Body above":      with(func(c *Config) { c.Body = 257 }),
		"Engine below":    with(func(c *Config) { c.Engine = 0 }),
		"Engine above":    with(func(c *Config) { c.Engine = 3 }),
	}
}

func TestGoodNumbers(t *testing.T) {
	for _, f := range []struct {
		name        string
		least, most int
		set         func(c *Config, n int)
	}{
		{"N", 1, 16, func(c *Config, n int) { c.N, c.Vars = n, nil }},
		{"N of a var that 2 keeps", 3, 16, func(c *Config, n int) { c.N = n }},
		{"Window", 1, 16, func(c *Config, n int) { c.Window = n }},
		{"Queue", 2, 32, func(c *Config, n int) { c.Queue = n }},
		{"First", 1, 300, func(c *Config, n int) { c.First = n }},
		{"Most", 20, 1000, func(c *Config, n int) { c.Most = n }},
		{"First of most", 1, 1000, func(c *Config, n int) { c.First, c.Most = n, 1000 }},
		{"Most of least", 1, 1000, func(c *Config, n int) { c.First, c.Most = 1, n }},
		{"First and Most", 1, 1000, func(c *Config, n int) { c.First, c.Most = n, n }},
		{"Body", 0, 256, func(c *Config, n int) { c.Body = n }},
		{"Engine", 1, 2, func(c *Config, n int) { c.Engine = n }},
	} {
		list := far()
		for n := -70; n < 1100; n++ {
			list = append(list, n)
		}
		for _, n := range list {
			c := with(func(c *Config) { f.set(c, n) })
			if want := f.least <= n && n <= f.most; Good(c) != want {
				t.Errorf("P6.1: Good with %s %d: %v, want %v", f.name, n, !want, want)
			}
		}
	}
}

func TestGoodVars(t *testing.T) {
	for n := 1; n <= 16; n++ {
		for s := dset.Set(0); s < 1<<17; s += 1 + s>>5 {
			c := with(func(c *Config) { c.N, c.Vars = n, []dset.Set{1, s} })
			if want := s > 0 && s < 1<<n; Good(c) != want {
				t.Errorf("P6.1: Good of %d processes and the var %b: %v, want %v", n, s, !want, want)
			}
		}
		for p := range 64 {
			c := with(func(c *Config) { c.N, c.Vars = n, []dset.Set{1<<p | 1, 1} })
			if want := p < n; Good(c) != want {
				t.Errorf("P6.1: Good of %d processes and a var that %d keeps: %v, want %v", n, p, !want, want)
			}
		}
		for count := range 40 {
			c := with(func(c *Config) { c.N, c.Vars = n, ofAll(count, n) })
			if want := count <= 16; Good(c) != want {
				t.Errorf("P6.1: Good of %d processes and %d vars: %v, want %v", n, count, !want, want)
			}
		}
	}
	// Each place counts, the last one too; what lies behind the last does not.
	for v := range 16 {
		for _, s := range []dset.Set{0, 8, 15, math.MaxUint64} {
			if Good(with(func(c *Config) { c.Vars = ofAll(16, 3); c.Vars[v] = s })) {
				t.Errorf("P6.1: Good with %b as var %d: true, want false", s, v)
			}
			if v > 0 && !Good(with(func(c *Config) { c.Vars = ofAll(16, 3); c.Vars[v] = s; c.Vars = c.Vars[:v] })) {
				t.Errorf("P6.1: Good with %b behind its %d vars: false, want true", s, v)
			}
		}
	}
	if !Good(with(func(c *Config) { c.Vars = []dset.Set{} })) || !Good(with(func(c *Config) { c.Vars = nil })) {
		t.Error("P6.1: Good of no vars: false, want true")
	}
}

func TestGoodWrong(t *testing.T) {
	if !Good(base()) {
		t.Fatal("P6.1: Good of what may be: false, want true")
	}
	for name, c := range wrong() {
		if Good(c) {
			t.Errorf("P6.1: Good with %s: true, want false", name)
		}
	}
	all := Config{N: 16, Vars: ofAll(16, 16), Window: 16, Queue: 32, First: 1000, Most: 1000, Body: 256, Engine: 2}
	least := Config{N: 1, Window: 1, Queue: 2, First: 1, Most: 1, Engine: 1}
	if !Good(all) || !Good(least) {
		t.Errorf("P6.1: Good at all limits: %v, %v, want true", Good(all), Good(least))
	}
}

func TestKeeps(t *testing.T) {
	c := base()
	for v, want := range [][]bool{{false, true, false}, {false, true, true}, {true, true, true}, {false, false, true}} {
		for p := -70; p < 140; p++ {
			if want := p >= 0 && p < 3 && want[p]; Keeps(c, p, v) != want {
				t.Errorf("P6.1: Keeps of process %d, var %d: %v, want %v", p, v, !want, want)
			}
		}
		for _, p := range far() {
			if Keeps(c, p, v) {
				t.Errorf("P6.1: Keeps of process %d, var %d: true, want false", p, v)
			}
		}
	}
	for p := range 3 {
		for _, v := range append(far(), -64, -2, -1, 4, 5, 16, 64) {
			if Keeps(c, p, v) {
				t.Errorf("P6.1: Keeps of process %d, var %d: true, want false", p, v)
			}
		}
	}
}

func TestKeeper(t *testing.T) {
	c := base()
	for v, want := range []int{1, 1, 0, 2} {
		if p, ok := Keeper(c, v); p != want || !ok {
			t.Errorf("P6.1: Keeper of var %d: %d, %v, want %d", v, p, ok, want)
		}
	}
	for _, v := range append(far(), -64, -2, -1, 4, 5, 16, 64) {
		if p, ok := Keeper(c, v); p != 0 || ok {
			t.Errorf("P6.1: Keeper of var %d: %d, %v, want 0, false", v, p, ok)
		}
	}
	for p := range 16 {
		c := Config{N: 16, Vars: ofAll(16, 16), Window: 1, Queue: 2, First: 1, Most: 1, Engine: 1}
		c.Vars[15] = 1<<16 - 1<<p
		if q, ok := Keeper(c, 15); q != p || !ok || !Keeps(c, p, 15) || !Keeps(c, 15, 15) || p > 0 && Keeps(c, p-1, 15) {
			t.Errorf("P6.1: Keeper of what all from %d on keep: %d, %v", p, q, ok)
		}
	}
}

func TestMay(t *testing.T) {
	for n := 1; n <= 4; n++ {
		c := with(func(c *Config) { c.N, c.Vars = n, nil })
		for from := -70; from < 140; from++ {
			for to := range dset.Set(64) {
				// A process and its bit, told by halving.
				in := from >= 0 && from < n && to>>from%2 == 1
				want := from >= 0 && from < n && to > 0 && to < 1<<n && !in
				if May(c, from, to) != want {
					t.Errorf("P6.1: May of %d processes, %d to %b: %v, want %v", n, from, to, !want, want)
				}
			}
			for p := 6; p < 64; p++ {
				if May(c, from, 1<<p) || May(c, from, 1<<p|1) || May(c, from, 1<<p|2) {
					t.Errorf("P6.1: May of %d processes, %d to %d: true, want false", n, from, p)
				}
			}
		}
	}
	c := base()
	for _, from := range far() {
		if May(c, from, 1) || May(c, from, 7) || May(c, from, 0) {
			t.Errorf("P6.1: May from %d: true, want false", from)
		}
	}
}

func TestMayAllOthers(t *testing.T) {
	c := with(func(c *Config) { c.N = 16 })
	for from := range 16 {
		others := dset.Set(1<<16-1) - 1<<from
		if !May(c, from, others) || May(c, from, 1<<16-1) || May(c, from, others+1<<16) || May(c, from, 1<<from) {
			t.Errorf("P6.1: May from %d to all others, to all, to one beyond, to itself", from)
		}
	}
}

func TestWrongConfig(t *testing.T) {
	for name, c := range wrong() {
		for p := range 17 {
			for v := range 17 {
				if Keeps(c, p, v) {
					t.Errorf("P6.1: Keeps with %s: true, want false", name)
				}
			}
			for to := range dset.Set(8) {
				if May(c, p, to) {
					t.Errorf("P6.1: May with %s: true, want false", name)
				}
			}
			if q, ok := Keeper(c, p); q != 0 || ok {
				t.Errorf("P6.1: Keeper with %s: %d, %v, want 0, false", name, q, ok)
			}
		}
	}
}

// plain tells what Plain should, but for the Vars.
func plain(c Config, n, engine int) bool {
	return c.N == n && c.Window == 2 && c.Queue == 3 && c.First == 2 && c.Most == 8 && c.Body == 64 && c.Engine == engine
}

func TestPlain(t *testing.T) {
	list := far()
	for n := -70; n < 200; n++ {
		list = append(list, n)
	}
	for _, n := range list {
		var all dset.Set
		if n >= 0 && n <= 64 {
			for p := range n {
				all += 1 << p
			}
		}
		for _, engine := range append(far(), -1, 0, 1, 2, 3) {
			c := Plain(n, engine)
			if !plain(c, n, engine) || !slices.Equal(c.Vars, []dset.Set{all}) {
				t.Errorf("P6.1: Plain(%d, %d): %v", n, engine, c)
			}
			if want := n > 0 && n < 17 && engine > 0 && engine < 3; Good(c) != want {
				t.Errorf("P6.1: Good of Plain(%d, %d): %v, want %v", n, engine, !want, want)
			}
		}
	}
}

func TestPlainAlone(t *testing.T) {
	a, b := Plain(3, 1), Plain(3, 1)
	for i := range a.Vars[:cap(a.Vars)] {
		a.Vars[:cap(a.Vars)][i] = 99
	}
	if b.Vars[0] != 7 || Plain(3, 1).Vars[0] != 7 {
		t.Errorf("P6.1: Plain shares memory: %v", b.Vars)
	}
}

func TestExamples(t *testing.T) {
	if !May(Plain(3, 1), 0, 6) {
		t.Error("P6.1: May(Plain(3, 1), 0, {1,2}): false, want true")
	}
	if p, ok := Keeper(Plain(3, 1), 0); p != 0 || !ok || !Keeps(Plain(3, 1), 2, 0) || Keeps(Plain(3, 1), 3, 0) {
		t.Errorf("P6.1: Keeper of Plain(3, 1): %d, %v", p, ok)
	}
}

// TestLeavesVars asks all that takes a Config, of good ones and others: what is handed in stays as it is, spare room too.
func TestLeavesVars(t *testing.T) {
	room := []dset.Set{2, 6, 7, 4, 99, 98}
	before := slices.Clone(room)
	for n := range 5 {
		c := with(func(c *Config) { c.N, c.Vars = n, room[:4] })
		for range 2 {
			if Good(c) != (n > 2) || May(c, 1, 5) != (n > 2) || Keeps(c, 2, 3) != (n > 2) {
				t.Errorf("P6.1: of %d processes: %v, %v, %v", n, Good(c), May(c, 1, 5), Keeps(c, 2, 3))
			}
			if p, ok := Keeper(c, 3); ok != (n > 2) || p != 2 && ok {
				t.Errorf("P6.1: of %d processes: Keeper %d, %v", n, p, ok)
			}
		}
	}
	if !slices.Equal(room, before) {
		t.Errorf("P6.1: Vars changed: %v", room)
	}
}
