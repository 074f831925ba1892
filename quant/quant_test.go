package quant_test

import (
	"math"
	"slices"
	"strconv"
	"testing"

	"livery/api"
	"livery/quant"
	"livery/rle"
	"livery/sample"
	"livery/span"
)

const (
	top = sample.Top
	far = api.MaxTime // how far from 0 a function that is put in quanta may have runs
)

var (
	vec   = sample.Vec
	seg   = sample.Seg
	list  = sample.List
	box   = sample.Box
	long  = sample.Long
	value = sample.Value
	below = sample.Below
	spoil = sample.Spoil
	wrong = sample.Wrong()
)

// example is the function of the document's examples.
var example = list(seg(2, 3, 1), seg(7, 1, 5), seg(8, 0, 0))

// none are numbers that are no quanta.
var none = []int64{0, -1, 4097, -5, -4096, 5000, 1 << 32, 1<<32 + 1, top, math.MaxInt64, math.MinInt64}

// beyond are canonical functions with runs beyond 2^40.
var beyond = [][]api.Seg{
	list(seg(far+1, 1, 0)),
	list(seg(-far-1, 1, 0)),
	list(seg(0, 1, 0), seg(far+1, 0, 0)),
	list(seg(-far-1, 1, 0), seg(0, 0, 0)),
	list(seg(-far-1, 1, 0), seg(far+1, 0, 0)),
	list(seg(-far, 1, 0), seg(far, 2, 0), seg(far+1, 0, 0)),
	list(seg(top, 1, 0)),
	list(seg(-top, 1, 0)),
}

// plus returns a + b.
func plus(a, b api.Vec) api.Vec { return vec(a.Mem+b.Mem, a.Cores+b.Cores) }

// greater returns the greater components of a and b.
func greater(a, b api.Vec) api.Vec { return vec(max(a.Mem, b.Mem), max(a.Cores, b.Cores)) }

// same holds an answer against what is expected; without runs it must be nil.
func same(t *testing.T, call string, f []api.Seg, e api.Errno, want []api.Seg, we api.Errno) {
	t.Helper()
	if !slices.Equal(f, want) || e != we || len(f) == 0 && f != nil {
		t.Errorf("%s: %v, %d; want %v, %d", call, f, e, want, we)
	}
}

// bins holds an answer of Bins against what is expected.
func bins(t *testing.T, f []api.Seg, q, from int64, many int, want []api.Vec, we api.Errno) {
	t.Helper()
	l, e := quant.Bins(f, q, from, many)
	if !slices.Equal(l, want) || e != we || len(l) == 0 && l != nil {
		t.Errorf("Bins(%v, %d, %d, %d): %v, %d; want %v, %d", f, q, from, many, l, e, want, we)
	}
}

// begin returns the greatest multiple of q that is at most t, looked for one by one.
func begin(t, q int64) int64 {
	for t%q != 0 {
		t--
	}
	return t
}

// high returns the high of f in the quantum of t, time by time.
func high(f []api.Seg, q, t int64) api.Vec {
	at := begin(t, q)
	v := value(f, at)
	for i := at; i < at+q; i++ {
		v = greater(v, value(f, i))
	}
	return v
}

// sum returns the sum of the values of f from from on, up to to, time by time.
func sum(f []api.Seg, from, to int64) api.Vec {
	var v api.Vec
	for ; from < to; from++ {
		v = plus(v, value(f, from))
	}
	return v
}

// functions returns short functions, and some longer ones with several runs in one quantum.
func functions() [][]api.Seg {
	l := sample.Shorts([]int64{-3, 0, 1, 4}, vec(0, 0), vec(1, 0), vec(-1, 2))
	return append(l, example, long(5, 1), long(8, 2), long(12, 3), list(seg(-9, -1, -1)), box(-7, 9, vec(-2, -3)))
}

// P5.1
func TestRound(t *testing.T) {
	for _, x := range []struct {
		t, q, down, up int64
	}{
		{7, 5, 5, 10},
		{-1, 5, -5, 0},
		{10, 5, 10, 10},
		{9, 5, 5, 10},
		{11, 5, 10, 15},
		{-10, 5, -10, -10},
		{-9, 5, -10, -5},
		{-11, 5, -15, -10},
		{1, 5, 0, 5},
		{0, 5, 0, 0},
		{0, 1, 0, 0},
		{3, 1, 3, 3},
		{-3, 1, -3, -3},
		{top, 1, top, top},
		{-top, 1, -top, -top},
		{0, 4096, 0, 0},
		{1, 4096, 0, 4096},
		{-1, 4096, -4096, 0},
		{4095, 4096, 0, 4096},
		{4096, 4096, 4096, 4096},
		{4097, 4096, 4096, 8192},
		{-4095, 4096, -4096, 0},
		{-4096, 4096, -4096, -4096},
		{-4097, 4096, -8192, -4096},
		// The edges of times are multiples of 4096, and one beside multiples of 3.
		{top, 4096, top, top},
		{-top, 4096, -top, -top},
		{top - 1, 4096, top - 4096, top},
		{-top + 1, 4096, -top, -top + 4096},
		{top - 1, 3, top - 1, top - 1},
		{top - 2, 3, top - 4, top - 1},
		{-top + 1, 3, -top + 1, -top + 1},
		{-top + 2, 3, -top + 1, -top + 4},
	} {
		if at, e := quant.Down(x.t, x.q); at != x.down || e != api.OK {
			t.Errorf("Down(%d, %d): %d, %d; want %d", x.t, x.q, at, e, x.down)
		}
		if at, e := quant.Up(x.t, x.q); at != x.up || e != api.OK {
			t.Errorf("Up(%d, %d): %d, %d; want %d", x.t, x.q, at, e, x.up)
		}
	}
}

// P5.1: all small quanta and times, and multiples and one beside them, for all quanta.
func TestRoundAll(t *testing.T) {
	is := func(at, q, down, up int64) {
		a, ae := quant.Down(at, q)
		b, be := quant.Up(at, q)
		if a != down || b != up || ae != api.OK || be != api.OK {
			t.Fatal(at, q, a, ae, b, be, down, up)
		}
	}
	for q := int64(1); q < 30; q++ {
		for at := int64(-100); at < 100; at++ {
			is(at, q, begin(at, q), begin(at+q-1, q))
		}
	}
	for q := int64(2); q <= 4096; q++ {
		for _, n := range []int64{-top/q + 1, -far / q, -3, -1, 0, 1, 2, far / q, top/q - 1} {
			is(n*q, q, n*q, n*q)
			is(n*q+1, q, n*q, (n+1)*q)
			is(n*q-1, q, (n-1)*q, n*q)
		}
	}
}

// P5.1: times out of range, and times that would be rounded out of range.
func TestRoundWrong(t *testing.T) {
	type rounds func(t, q int64) (int64, api.Errno)
	is := func(call rounds, name string, at, q, want int64, we api.Errno) {
		t.Helper()
		if got, e := call(at, q); got != want || e != we {
			t.Errorf("%s(%d, %d): %d, %d; want %d, %d", name, at, q, got, e, want, we)
		}
	}
	for name, call := range map[string]rounds{"Down": quant.Down, "Up": quant.Up} {
		for _, q := range none {
			for _, at := range []int64{0, 5, -5, top, -top, top + 1, -top - 1, math.MaxInt64, math.MinInt64} {
				is(call, name, at, q, 0, api.ErrArg)
			}
		}
		for _, q := range []int64{1, 3, 4095, 4096} {
			for _, at := range []int64{top + 1, -top - 1, top + 4096, -top - 4096, math.MaxInt64, math.MinInt64} {
				is(call, name, at, q, 0, api.ErrRange)
			}
		}
	}
	is(quant.Down, "Down", top, 3, 1125899906842623, api.OK)
	is(quant.Up, "Up", top, 3, 0, api.ErrRange)
	is(quant.Down, "Down", -top, 3, 0, api.ErrRange)
	is(quant.Up, "Up", -top, 3, -top+1, api.OK)
	// One beyond, which would be rounded to a time that is in range.
	is(quant.Down, "Down", top+1, 4096, 0, api.ErrRange)
	is(quant.Up, "Up", -top-1, 4096, 0, api.ErrRange)
	// 2^50 divided by 4095 leaves 4.
	is(quant.Down, "Down", top, 4095, top-4, api.OK)
	is(quant.Down, "Down", top-5, 4095, top-4-4095, api.OK)
	is(quant.Up, "Up", top-5, 4095, top-4, api.OK)
	is(quant.Up, "Up", top-4, 4095, top-4, api.OK)
	is(quant.Up, "Up", top-3, 4095, 0, api.ErrRange)
	is(quant.Up, "Up", -top, 4095, -top+4, api.OK)
	is(quant.Down, "Down", -top+4, 4095, -top+4, api.OK)
	is(quant.Down, "Down", -top+3, 4095, 0, api.ErrRange)
}

// P5.2
func TestQuant(t *testing.T) {
	open := list(seg(2, 3, 1), seg(7, 1, 5))
	for i, x := range []struct {
		f    []api.Seg
		q    int64
		want []api.Seg
	}{
		{nil, 5, nil},
		{list(), 5, nil},
		{nil, 1, nil},
		{nil, 4096, nil},
		{example, 5, list(seg(0, 3, 1), seg(5, 3, 5), seg(10, 0, 0))},
		{append(example[:3:3], seg(21, 2, 2)), 5, list(seg(0, 3, 1), seg(5, 3, 5), seg(10, 0, 0), seg(20, 2, 2))},
		// All runs in one quantum.
		{example, 10, box(0, 10, vec(3, 5))},
		{example, 4096, box(0, 4096, vec(3, 5))},
		{example, 9, box(0, 9, vec(3, 5))},
		{example, 8, box(0, 8, vec(3, 5))},
		{list(seg(-3, 1, 9), seg(2, 9, 1), seg(3, 0, 0)), 4096, list(seg(-4096, 1, 9), seg(0, 9, 9), seg(4096, 0, 0))},
		// At a quantum's begin, and at its last time.
		{box(5, 10, vec(1, 2)), 5, box(5, 10, vec(1, 2))},
		{box(4, 10, vec(1, 2)), 5, box(0, 10, vec(1, 2))},
		{box(4, 5, vec(1, 2)), 5, box(0, 5, vec(1, 2))},
		{box(9, 11, vec(1, 2)), 5, box(5, 15, vec(1, 2))},
		{box(5, 6, vec(1, 2)), 5, box(5, 10, vec(1, 2))},
		{box(5, 9, vec(1, 2)), 5, box(5, 10, vec(1, 2))},
		{box(-5, 0, vec(1, 2)), 5, box(-5, 0, vec(1, 2))},
		{box(-6, -1, vec(1, 2)), 5, box(-10, 0, vec(1, 2))},
		{box(-1, 1, vec(1, 2)), 5, box(-5, 5, vec(1, 2))},
		{box(-4096, 0, vec(1, 2)), 4096, box(-4096, 0, vec(1, 2))},
		{box(-4097, -4096, vec(1, 2)), 4096, box(-8192, -4096, vec(1, 2))},
		// What is at a quantum's begin does not count what was ahead of it; a fall inside of it counts.
		{list(seg(0, 9, 9), seg(5, 1, 1), seg(6, 0, 0)), 5, list(seg(0, 9, 9), seg(5, 1, 1), seg(10, 0, 0))},
		{list(seg(0, 9, 9), seg(6, 1, 1), seg(7, 0, 0)), 5, list(seg(0, 9, 9), seg(10, 0, 0))},
		{list(seg(0, 1, 1), seg(4, 9, 9), seg(5, 1, 1)), 5, list(seg(0, 9, 9), seg(5, 1, 1))},
		{list(seg(0, 1, 1), seg(9, 9, 9), seg(11, 1, 1)), 5, list(seg(0, 1, 1), seg(5, 9, 9), seg(15, 1, 1))},
		// Each component of its own run, and of the value ahead of the runs.
		{list(seg(0, 1, 9), seg(6, 5, 2), seg(7, 2, 5), seg(8, 0, 0)), 5, list(seg(0, 1, 9), seg(5, 5, 9), seg(10, 0, 0))},
		{list(seg(1, 4, 0), seg(2, 0, 4), seg(3, 4, 0), seg(4, 0, 0)), 5, box(0, 5, vec(4, 4))},
		// Quanta in which nothing changes.
		{list(seg(3, 1, 1), seg(1003, 2, 2), seg(1000001, 0, 0)), 5, list(seg(0, 1, 1), seg(1000, 2, 2), seg(1000005, 0, 0))},
		{list(seg(3, 1, 1), seg(4, 0, 0), seg(1004, 2, 2), seg(1005, 0, 0)), 5, list(seg(0, 1, 1), seg(5, 0, 0), seg(1000, 2, 2), seg(1005, 0, 0))},
		// The function does not end.
		{open, 5, list(seg(0, 3, 1), seg(5, 3, 5), seg(10, 1, 5))},
		{open, 7, list(seg(0, 3, 1), seg(7, 1, 5))},
		{open, 4096, list(seg(0, 3, 5), seg(4096, 1, 5))},
		{list(seg(3, -1, 2)), 5, list(seg(0, 0, 2), seg(5, -1, 2))},
		// Values below zero: zero is the greater one, as long as the quantum has a time with it.
		{box(2, 8, vec(-3, -1)), 5, nil},
		{box(2, 13, vec(-3, -1)), 5, box(5, 10, vec(-3, -1))},
		{box(5, 15, vec(-3, -1)), 5, box(5, 15, vec(-3, -1))},
		{list(seg(0, -3, -1), seg(7, -1, -3)), 5, list(seg(0, -3, -1), seg(5, -1, -1), seg(10, -1, -3))},
		// The quantum 1.
		{example, 1, example},
		{open, 1, open},
		{list(seg(-far, 1, 1), seg(far, top, -top)), 1, list(seg(-far, 1, 1), seg(far, top, -top))},
		// The edges of times are multiples of 4096, and not of 3.
		{box(-far, far, vec(top, -top)), 4096, box(-far, far, vec(top, -top))},
		{box(-far, far, vec(1, 2)), 3, box(-far-2, far+2, vec(1, 2))},
		{box(-far, far, vec(-1, -2)), 3, box(-far+1, far-1, vec(-1, -2))},
		{list(seg(far, 1, 2)), 3, list(seg(far-1, 1, 2))},
		{list(seg(-far, 1, 2)), 3, list(seg(-far-2, 1, 2))},
		{list(seg(-far, -1, -2)), 3, list(seg(-far+1, -1, -2))},
		{list(seg(far, -1, -2)), 3, list(seg(far+2, -1, -2))},
		{list(seg(far, -1, -2)), 4096, list(seg(far, -1, -2))},
		{list(seg(far-1, 1, 2)), 4096, list(seg(far-4096, 1, 2))},
		// 2^40 divided by 4095 leaves 16.
		{box(far-1, far, vec(1, 2)), 4095, box(far-16, far-16+4095, vec(1, 2))},
	} {
		got, e := quant.Quant(x.f, x.q)
		same(t, "Quant "+strconv.Itoa(i), got, e, x.want, api.OK)
	}
}

// P5.2, P5.4: at each time the high of the quantum; at least the function, and with changes at multiples only; again; the quantum 1.
func TestQuantAll(t *testing.T) {
	for _, f := range functions() {
		for _, q := range []int64{1, 2, 3, 4, 5, 7, 16, 4096} {
			got, e := quant.Quant(f, q)
			if e != api.OK || !rle.May(got) || !quant.Is(got, q) || len(got) == 0 && got != nil {
				t.Fatalf("Quant(%v, %d): %v, %d", f, q, got, e)
			}
			for at := int64(-60); at < 80; at++ {
				if q > 50 && at%29 != 0 {
					continue
				}
				v := value(got, at)
				if v != high(f, q, at) || !below(value(f, at), v) {
					t.Fatalf("Quant(%v, %d): %v: %v at %d", f, q, got, v, at)
				}
			}
			for _, s := range got {
				if s.At%q != 0 {
					t.Fatalf("Quant(%v, %d): %v", f, q, got)
				}
			}
			again, e := quant.Quant(got, q)
			same(t, "again", again, e, got, api.OK)
			if q == 1 {
				same(t, "by 1", got, e, f, api.OK)
			}
		}
	}
}

// P5.4: a function in quanta can be put in quanta again if its runs are not beyond 2^40.
func TestQuantAgain(t *testing.T) {
	for _, q := range []int64{1, 2, 3, 4095, 4096} {
		for _, f := range [][]api.Seg{
			list(seg(far, 1, 2)),
			list(seg(-far, 1, 2)),
			list(seg(far, -1, -2)),
			list(seg(-far, -1, -2)),
			box(-far, far, vec(1, 2)),
			box(-far+1, far-1, vec(1, -2)),
			box(-far+5000, far-5000, vec(1, -2)),
		} {
			got, e := quant.Quant(f, q)
			if e != api.OK || !quant.Is(got, q) {
				t.Fatal(f, q, got, e)
			}
			want, we := got, api.OK
			if got[0].At < -far || got[len(got)-1].At > far {
				want, we = nil, api.ErrRange
			}
			again, e := quant.Quant(got, q)
			same(t, "again", again, e, want, we)
		}
	}
}

// P5.4: each function that changes at multiples only, and is at least the function, is at least the function in quanta.
func TestQuantLeast(t *testing.T) {
	atLeast := func(g, f []api.Seg) bool {
		for at := int64(-9); at < 15; at++ {
			if !below(value(f, at), value(g, at)) {
				return false
			}
		}
		return true
	}
	many := 0
	for _, f := range sample.Shorts([]int64{-2, 0, 1, 2, 5}, vec(0, 0), vec(1, 0), vec(-1, 2)) {
		got, e := quant.Quant(f, 3)
		if e != api.OK {
			t.Fatal(f, e)
		}
		for _, g := range sample.Shorts([]int64{-3, 0, 3, 6}, vec(0, 0), vec(1, 0), vec(0, 2), vec(1, 2)) {
			if atLeast(g, f) {
				many++
				if !atLeast(g, got) {
					t.Fatalf("%v is at least %v, but not %v", g, f, got)
				}
			}
		}
	}
	if many == 0 {
		t.Fatal("no function is at least another one")
	}
}

// P5.2
func TestQuantWrong(t *testing.T) {
	all := append([]int64{1, 5, 4096}, none...)
	for _, f := range wrong {
		for _, q := range all {
			got, e := quant.Quant(f, q)
			same(t, "Quant", got, e, nil, api.ErrForm)
		}
	}
	for _, q := range none {
		for _, f := range append(beyond, nil, list(), example) {
			got, e := quant.Quant(f, q)
			same(t, "Quant", got, e, nil, api.ErrArg)
		}
	}
	for _, q := range []int64{1, 3, 5, 4096} {
		for _, f := range beyond {
			got, e := quant.Quant(f, q)
			same(t, "Quant", got, e, nil, api.ErrRange)
		}
	}
}

// P5.2
func TestIs(t *testing.T) {
	for _, x := range []struct {
		f  []api.Seg
		q  int64
		is bool
	}{
		{nil, 1, true},
		{nil, 7, true},
		{list(), 4096, true},
		{example, 1, true},
		{example, 5, false},
		{example, 2, false},
		{list(seg(0, 3, 1), seg(5, 3, 5), seg(10, 0, 0)), 5, true},
		{list(seg(0, 3, 1), seg(5, 3, 5), seg(10, 0, 0)), 10, false},
		// One run alone is beside a multiple: the first, one in the midst, the last.
		{list(seg(1, 3, 1), seg(5, 3, 5), seg(10, 0, 0)), 5, false},
		{list(seg(0, 3, 1), seg(6, 3, 5), seg(10, 0, 0)), 5, false},
		{list(seg(0, 3, 1), seg(5, 3, 5), seg(9, 0, 0)), 5, false},
		{list(seg(-10, 3, 1), seg(-5, 3, 5), seg(0, 1, 1)), 5, true},
		{list(seg(-11, 3, 1)), 5, false},
		{list(seg(-9, 3, 1)), 5, false},
		{list(seg(-4096, 3, 1), seg(8192, 0, 0)), 4096, true},
		{list(seg(-4096, 3, 1), seg(8192, 0, 0)), 4095, false},
		// Runs beyond 2^40 too.
		{list(seg(-top, 1, 0), seg(top, 0, 0)), 4096, true},
		{list(seg(-top, 1, 0), seg(top, 0, 0)), 1, true},
		{list(seg(-top, 1, 0), seg(top, 0, 0)), 3, false},
		{list(seg(-top+1, 1, 0), seg(top-1, 0, 0)), 3, true},
		{list(seg(far+1, 1, 0)), 1, true},
	} {
		if is := quant.Is(x.f, x.q); is != x.is {
			t.Errorf("Is(%v, %d): %v", x.f, x.q, is)
		}
	}
	for _, q := range none {
		for _, f := range [][]api.Seg{nil, list(), example, list(seg(0, 1, 1))} {
			if quant.Is(f, q) {
				t.Errorf("Is(%v, %d)", f, q)
			}
		}
	}
	for _, f := range wrong {
		for _, q := range append([]int64{1, 2, 4096}, none...) {
			if quant.Is(f, q) {
				t.Errorf("Is(%v, %d)", f, q)
			}
		}
	}
	for q := int64(-10); q < 5000; q++ {
		if quant.Is(nil, q) != (1 <= q && q <= 4096) {
			t.Errorf("Is(nil, %d)", q)
		}
	}
}

// P5.3
func TestBins(t *testing.T) {
	gap := list(seg(2, 3, 1), seg(7, 1, 5), seg(8, 0, 0), seg(21, 2, -2))
	for _, x := range []struct {
		f       []api.Seg
		q, from int64
		many    int
		want    []api.Vec
	}{
		{example, 5, 3, 3, []api.Vec{vec(9, 3), vec(7, 7), vec(0, 0)}},
		{example, 5, -3, 3, []api.Vec{vec(0, 0), vec(9, 3), vec(7, 7)}},
		// From a quantum's begin, its midst, its last time.
		{example, 5, 0, 1, []api.Vec{vec(9, 3)}},
		{example, 5, 4, 1, []api.Vec{vec(9, 3)}},
		{example, 5, 5, 1, []api.Vec{vec(7, 7)}},
		{example, 5, 9, 1, []api.Vec{vec(7, 7)}},
		{example, 5, -1, 1, []api.Vec{vec(0, 0)}},
		{example, 5, 10, 2, []api.Vec{vec(0, 0), vec(0, 0)}},
		{example, 5, -11, 2, []api.Vec{vec(0, 0), vec(0, 0)}},
		// None, and without runs.
		{example, 5, 3, 0, nil},
		{nil, 5, 3, 0, nil},
		{list(), 5, 3, 2, []api.Vec{vec(0, 0), vec(0, 0)}},
		{nil, 4096, -far, 1, []api.Vec{vec(0, 0)}},
		// All of it in one quantum, and one time in each.
		{example, 4096, 4095, 1, []api.Vec{vec(16, 10)}},
		{example, 4096, -1, 2, []api.Vec{vec(0, 0), vec(16, 10)}},
		{example, 1, 1, 8, []api.Vec{vec(0, 0), vec(3, 1), vec(3, 1), vec(3, 1), vec(3, 1), vec(3, 1), vec(1, 5), vec(0, 0)}},
		// Quanta in which nothing changes, between runs and behind them, and a function that does not end.
		{gap, 5, 0, 7, []api.Vec{vec(9, 3), vec(7, 7), vec(0, 0), vec(0, 0), vec(8, -8), vec(10, -10), vec(10, -10)}},
		{gap, 5, 12, 2, []api.Vec{vec(0, 0), vec(0, 0)}},
		{gap, 5, 17, 2, []api.Vec{vec(0, 0), vec(8, -8)}},
		{gap, 5, 1000, 2, []api.Vec{vec(10, -10), vec(10, -10)}},
		{gap, 3, 0, 3, []api.Vec{vec(3, 1), vec(9, 3), vec(4, 6)}},
		{box(-12, 23, vec(1, -1)), 5, -15, 9, []api.Vec{vec(2, -2), vec(5, -5), vec(5, -5), vec(5, -5), vec(5, -5), vec(5, -5), vec(5, -5), vec(3, -3), vec(0, 0)}},
		{box(-12, 23, vec(1, -1)), 5, -3, 2, []api.Vec{vec(5, -5), vec(5, -5)}},
		// Runs at a quantum's begin and at its last time.
		{box(5, 10, vec(1, 2)), 5, 0, 3, []api.Vec{vec(0, 0), vec(5, 10), vec(0, 0)}},
		{box(4, 9, vec(1, 2)), 5, 0, 3, []api.Vec{vec(1, 2), vec(4, 8), vec(0, 0)}},
		{box(9, 11, vec(1, 2)), 5, 0, 3, []api.Vec{vec(0, 0), vec(1, 2), vec(1, 2)}},
		// The edges of times, in and beside multiples.
		{box(-far, far, vec(1, 2)), 4096, -far, 2, []api.Vec{vec(4096, 8192), vec(4096, 8192)}},
		{box(-far, far, vec(1, 2)), 4096, far, 2, []api.Vec{vec(0, 0), vec(0, 0)}},
		{box(-far, far, vec(1, 2)), 4096, far - 1, 2, []api.Vec{vec(4096, 8192), vec(0, 0)}},
		{box(-far, far, vec(1, 2)), 3, -far, 2, []api.Vec{vec(1, 2), vec(3, 6)}},
		{box(-far, far, vec(1, 2)), 3, far, 2, []api.Vec{vec(1, 2), vec(0, 0)}},
		{list(seg(far, 1, 2)), 3, far, 2, []api.Vec{vec(2, 4), vec(3, 6)}},
		{list(seg(far, 1, 2)), 1, far, 1, []api.Vec{vec(1, 2)}},
		{list(seg(-far, 1, 2)), 1, -far, 1, []api.Vec{vec(1, 2)}},
		// Integrals beyond MaxValue.
		{list(seg(-far, top, -top)), 4096, far, 2, []api.Vec{vec(4096*top, -4096*top), vec(4096*top, -4096*top)}},
		{list(seg(-far, top, -top)), 4096, -5, 1, []api.Vec{vec(4096*top, -4096*top)}},
		{box(0, 4096, vec(-top, top)), 4096, -1, 3, []api.Vec{vec(0, 0), vec(-4096*top, 4096*top), vec(0, 0)}},
		{box(1, 4096, vec(-top, top)), 4096, 1, 1, []api.Vec{vec(-4095*top, 4095*top)}},
	} {
		bins(t, x.f, x.q, x.from, x.many, x.want, api.OK)
	}
}

// P5.3: as many bins as there may be, of the greatest quantum.
func TestBinsMany(t *testing.T) {
	for _, x := range []struct {
		f       []api.Seg
		q, from int64
		v       api.Vec
	}{
		{nil, 1, 0, vec(0, 0)},
		{list(seg(-far, top, -1)), 4096, far, vec(4096*top, -4096)},
		{list(seg(-far, top, -1)), 4096, -far, vec(4096*top, -4096)},
		{list(seg(-far, top, -1)), 1, 0, vec(top, -1)},
	} {
		bins(t, x.f, x.q, x.from, 4096, slices.Repeat([]api.Vec{x.v}, 4096), api.OK)
	}
	l, e := quant.Bins(box(-3, 4096*4095+7, vec(1, 2)), 4096, 0, 4096)
	if e != api.OK || len(l) != 4096 || l[0] != vec(4096, 8192) || l[4094] != vec(4096, 8192) || l[4095] != vec(7, 14) {
		t.Error(len(l), e)
	}
}

// P5.3, P5.5: each bin time by time, and their sum.
func TestBinsAll(t *testing.T) {
	for _, f := range functions() {
		for _, q := range []int64{1, 2, 3, 5, 16} {
			for from := int64(-20); from < 30; from += 3 {
				for _, many := range []int{0, 1, 2, 7} {
					at := begin(from, q)
					to := at + int64(many)*q
					var want []api.Vec
					for i := at; i < to; i += q {
						want = append(want, sum(f, i, i+q))
					}
					bins(t, f, q, from, many, want, api.OK)
					whole(t, f, q, from, many, sum(f, at, to))
				}
			}
		}
	}
}

// whole holds the sum of the bins against what is expected.
func whole(t *testing.T, f []api.Seg, q, from int64, many int, want api.Vec) {
	t.Helper()
	l, e := quant.Bins(f, q, from, many)
	var got api.Vec
	for _, v := range l {
		got = plus(got, v)
	}
	if got != want || e != api.OK || len(l) != many {
		t.Errorf("the sum of Bins(%v, %d, %d, %d): %v, %d; want %v", f, q, from, many, got, e, want)
	}
}

// P5.5: the integral in the window that they form together.
func TestBinsSum(t *testing.T) {
	for _, f := range [][]api.Seg{nil, example, long(9, 1), long(500, 2), list(seg(-700, 3, top>>20)), box(-far, far, vec(-top>>20, 7))} {
		for _, q := range []int64{1, 7, 100, 333, 1000, 4000} {
			for from := int64(-2000); from < 2500; from += 271 {
				at, _ := quant.Down(from, q)
				for many := 1; int64(many)*q <= 8000 && many < 50; many += 3 {
					want, e := span.Sum(f, at, at+int64(many)*q)
					if e != api.OK {
						t.Fatal(e)
					}
					whole(t, f, q, from, many, want)
				}
			}
		}
	}
}

// P5.3
func TestBinsWrong(t *testing.T) {
	good := append(beyond, nil, list(), example)
	manys := []int{-1, 4097, -4096, math.MinInt64, math.MaxInt64}
	froms := []int64{far + 1, -far - 1, top, -top, top + 1, -top - 1, math.MaxInt64, math.MinInt64}
	for _, f := range good {
		for _, q := range none {
			bins(t, f, q, 0, 3, nil, api.ErrArg)
			bins(t, f, q, far+1, -1, nil, api.ErrArg)
		}
		for _, many := range manys {
			bins(t, f, 5, 0, many, nil, api.ErrArg)
			bins(t, f, 1, far, many, nil, api.ErrArg)
		}
		for _, from := range froms {
			bins(t, f, 5, from, 3, nil, api.ErrArg)
			bins(t, f, 4096, from, 0, nil, api.ErrArg)
		}
	}
	for _, f := range beyond {
		bins(t, f, 5, 0, 3, nil, api.ErrRange)
		bins(t, f, 1, 0, 0, nil, api.ErrRange)
		bins(t, f, 4096, far, 4096, nil, api.ErrRange)
		bins(t, f, 4096, -far, 1, nil, api.ErrRange)
	}
	for _, f := range wrong {
		bins(t, f, 5, 0, 3, nil, api.ErrForm)
		bins(t, f, 5, 0, 0, nil, api.ErrForm)
		bins(t, f, 0, 0, 3, nil, api.ErrForm)
		bins(t, f, 4097, far+1, 4097, nil, api.ErrForm)
		bins(t, f, 5, -far-1, 3, nil, api.ErrForm)
		bins(t, f, 5, 0, -1, nil, api.ErrForm)
	}
}

// P5.2, P5.3: many runs, far from each other and close together, without a look at each quantum between them.
func TestManyRuns(t *testing.T) {
	var f, want []api.Seg
	for i := range int64(100000) {
		f = append(f, seg(10000000*i+1, 1+i%3, 0), seg(10000000*i+2, 2+i%3, i), seg(10000000*i+4, 0, 0))
		want = append(want, seg(10000000*i, 2+i%3, i), seg(10000000*i+8, 0, 0))
	}
	got, e := quant.Quant(f, 8)
	if !slices.Equal(got, want) || e != api.OK {
		t.Error(len(got), e)
	}
	for _, i := range []int64{0, 777, 99999} {
		at := 10000000 * i
		bins(t, f, 8, at-1, 3, []api.Vec{vec(0, 0), vec(1+i%3+2*(2+i%3), 2*i), vec(0, 0)}, api.OK)
	}
	f = nil
	for i := range int64(200000) {
		f = append(f, seg(i-50000, i%5+1, top-i%2))
	}
	for _, q := range []int64{1, 2, 5, 4096} {
		got, e := quant.Quant(f, q)
		if e != api.OK || !quant.Is(got, q) {
			t.Fatal(q, len(got), e)
		}
		l, e := quant.Bins(f, q, -20000, 4096)
		for i, v := range l {
			at := begin(-20000, q) + int64(i)*q
			if at+q > 150000 {
				break
			}
			var want api.Vec
			for j := at; j < at+q; j++ {
				want = plus(want, f[j+50000].V)
			}
			if v != want {
				t.Fatal(q, i, v, want)
			}
		}
		if e != api.OK || len(l) != 4096 {
			t.Fatal(q, len(l), e)
		}
	}
}

// R5: arguments stay as they were, behind their length too, and what is answered is new memory.
func TestMemory(t *testing.T) {
	runs := list(seg(0, 3, 1), seg(5, 1, 5), seg(10, 0, 0), seg(7, 7, 7), seg(1, 1, 1))
	was := slices.Clone(runs)
	f := runs[:3]
	for name, call := range map[string]func() ([]api.Seg, api.Errno){
		"Quant":           func() ([]api.Seg, api.Errno) { return quant.Quant(f, 4) },
		"Quant by 1":      func() ([]api.Seg, api.Errno) { return quant.Quant(f, 1) },
		"Quant as it was": func() ([]api.Seg, api.Errno) { return quant.Quant(f, 5) },
		"Is": func() ([]api.Seg, api.Errno) {
			quant.Is(f, 5)
			return list(seg(0, 1, 1)), api.OK
		},
	} {
		got, e := call()
		other, _ := call()
		if e != api.OK || len(got) == 0 {
			t.Fatal(name, got, e)
		}
		kept := slices.Clone(other)
		spoil(got)
		if !slices.Equal(runs, was) {
			t.Fatalf("%s: an argument was changed: %v", name, runs)
		}
		spoil(runs)
		if !slices.Equal(other, kept) {
			t.Errorf("%s: an answer was changed through an argument, or through another answer", name)
		}
		copy(runs, was)
	}
}

// R5, for Bins.
func TestMemoryBins(t *testing.T) {
	runs := list(seg(0, 3, 1), seg(5, 1, 5), seg(10, 0, 0), seg(7, 7, 7), seg(1, 1, 1))
	was := slices.Clone(runs)
	got, _ := quant.Bins(runs[:3], 5, 0, 3)
	other, _ := quant.Bins(runs[:3], 5, 0, 3)
	if !slices.Equal(runs, was) {
		t.Fatal("an argument was changed", runs)
	}
	spoil(runs)
	for i := range got[:cap(got)] {
		got[:cap(got)][i] = vec(-8, -8)
	}
	if !slices.Equal(other, []api.Vec{vec(15, 5), vec(5, 25), vec(0, 0)}) {
		t.Error("an answer was changed through an argument, or through another answer", other)
	}
}

// R4: what is answered does not hang on earlier calls, with the same and with other quanta.
func TestTwice(t *testing.T) {
	for range 2 {
		for _, q := range []int64{5, 0, 4096, 4097, 5} {
			got, e := quant.Down(7, q)
			want, we := begin(7, max(q, 1)), api.OK
			if q < 1 || q > 4096 {
				want, we = 0, api.ErrArg
			}
			if got != want || e != we {
				t.Error(q, got, e)
			}
		}
	}
}
