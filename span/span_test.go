package span_test

import (
	"math"
	"slices"
	"strconv"
	"testing"

	"livery/api"
	"livery/rle"
	"livery/sample"
	"livery/span"
)

const (
	top  = sample.Top
	half = sample.Top / 2
)

var (
	vec   = sample.Vec
	seg   = sample.Seg
	list  = sample.List
	box   = sample.Box
	long  = sample.Long
	value = sample.Value
	below = sample.Below
	spoil = sample.Spoil
	wrong = sample.Wrong()
)

// bad are windows that can't be evaluated.
var bad = [][2]int64{
	{3, 3},
	{4, 3},
	{0, 8001},
	{-8001, 0},
	{-4001, 4000},
	{0, top},
	{-top, top},
	{-top - 1, -top},
	{-top - 1, -top + 1},
	{top - 1, top + 1},
	{top, top + 1},
	{-top, -top},
	{top, top},
	{top + 1, top + 2},
	{-top - 2, -top - 1},
	{math.MinInt64, math.MaxInt64},
	{math.MaxInt64, math.MinInt64},
	{math.MinInt64, math.MinInt64 + 1},
	{math.MaxInt64 - 1, math.MaxInt64},
	{math.MinInt64, math.MinInt64},
	{math.MinInt64, -1},
	{0, math.MaxInt64},
	{math.MaxInt64, 0},
}

// plus returns a + b.
func plus(a, b api.Vec) api.Vec { return vec(a.Mem+b.Mem, a.Cores+b.Cores) }

// shorts returns all canonical functions whose At are of 0, 2, 3 and 7, and whose V are of vs; zero is one of vs.
func shorts(vs ...api.Vec) [][]api.Seg { return sample.Shorts([]int64{0, 2, 3, 7}, vs...) }

// call is one of the calls that answer a vector, and how it puts the values of a window together.
type call struct {
	name string
	of   func(f []api.Seg, from, to int64) (api.Vec, api.Errno)
	op   func(a, b api.Vec) api.Vec
}

var calls = []call{
	{"Low", span.Low, func(a, b api.Vec) api.Vec { return vec(min(a.Mem, b.Mem), min(a.Cores, b.Cores)) }},
	{"High", span.High, func(a, b api.Vec) api.Vec { return vec(max(a.Mem, b.Mem), max(a.Cores, b.Cores)) }},
	{"Sum", span.Sum, plus},
}

// is holds an answer of a call against what is expected.
func (c call) is(t *testing.T, f []api.Seg, from, to int64, want api.Vec, we api.Errno) {
	t.Helper()
	if v, e := c.of(f, from, to); v != want || e != we {
		t.Errorf("%s(%v, %d, %d): %v, %d; want %v, %d", c.name, f, from, to, v, e, want, we)
	}
}

// same holds an answer against what is expected; without runs it must be nil.
func same(t *testing.T, call string, f []api.Seg, e api.Errno, want []api.Seg, we api.Errno) {
	t.Helper()
	if !slices.Equal(f, want) || e != we || len(f) == 0 && f != nil {
		t.Errorf("%s: %v, %d; want %v, %d", call, f, e, want, we)
	}
}

// P4.1
func TestWindows(t *testing.T) {
	f, open := box(2, 8, vec(3, 1)), list(seg(2, 3, 1), seg(5, -1, 4))
	gap := list(seg(-5, -2, 7), seg(-3, 0, 0), seg(1, 4, -1), seg(2, 4, 0), seg(6, 0, 0))
	for _, x := range []struct {
		f        []api.Seg
		from, to int64
		want     [3]api.Vec // of the calls, in their order
	}{
		{nil, 0, 5, [3]api.Vec{}},
		{list(), 0, 5, [3]api.Vec{}},
		{nil, -4000, 4000, [3]api.Vec{}},
		{f, 0, 9, [3]api.Vec{vec(0, 0), vec(3, 1), vec(18, 6)}},
		{f, 3, 5, [3]api.Vec{vec(3, 1), vec(3, 1), vec(6, 2)}},
		// The window begins and ends at a run, ahead of it, behind it.
		{f, 2, 8, [3]api.Vec{vec(3, 1), vec(3, 1), vec(18, 6)}},
		{f, 1, 8, [3]api.Vec{vec(0, 0), vec(3, 1), vec(18, 6)}},
		{f, 2, 9, [3]api.Vec{vec(0, 0), vec(3, 1), vec(18, 6)}},
		{f, 3, 8, [3]api.Vec{vec(3, 1), vec(3, 1), vec(15, 5)}},
		{f, 2, 7, [3]api.Vec{vec(3, 1), vec(3, 1), vec(15, 5)}},
		{f, 7, 9, [3]api.Vec{vec(0, 0), vec(3, 1), vec(3, 1)}},
		{f, 1, 3, [3]api.Vec{vec(0, 0), vec(3, 1), vec(3, 1)}},
		{f, -9, 2, [3]api.Vec{}},
		{f, 8, 100, [3]api.Vec{}},
		// One time.
		{f, 1, 2, [3]api.Vec{}},
		{f, 2, 3, [3]api.Vec{vec(3, 1), vec(3, 1), vec(3, 1)}},
		{f, 7, 8, [3]api.Vec{vec(3, 1), vec(3, 1), vec(3, 1)}},
		{f, 8, 9, [3]api.Vec{}},
		// The function does not end.
		{open, 0, 9, [3]api.Vec{vec(-1, 0), vec(3, 4), vec(5, 19)}},
		{open, 3, 9, [3]api.Vec{vec(-1, 1), vec(3, 4), vec(2, 18)}},
		{open, 5, 9, [3]api.Vec{vec(-1, 4), vec(-1, 4), vec(-4, 16)}},
		{open, 100, 8100, [3]api.Vec{vec(-1, 4), vec(-1, 4), vec(-8000, 32000)}},
		{open, top - 1, top, [3]api.Vec{vec(-1, 4), vec(-1, 4), vec(-1, 4)}},
		{open, -top, -top + 1, [3]api.Vec{}},
		// The low and the high are of each component alone, and zero is one of the values.
		{gap, -9, 9, [3]api.Vec{vec(-2, -1), vec(4, 7), vec(16, 13)}},
		{gap, -5, 2, [3]api.Vec{vec(-2, -1), vec(4, 7), vec(0, 13)}},
		{gap, -5, -3, [3]api.Vec{vec(-2, 7), vec(-2, 7), vec(-4, 14)}},
		{gap, -4, -2, [3]api.Vec{vec(-2, 0), vec(0, 7), vec(-2, 7)}},
		{gap, 1, 3, [3]api.Vec{vec(4, -1), vec(4, 0), vec(8, -1)}},
		{gap, 5, 7, [3]api.Vec{vec(0, 0), vec(4, 0), vec(4, 0)}},
		{box(-9, 9, vec(-3, -2)), -9, 9, [3]api.Vec{vec(-3, -2), vec(-3, -2), vec(-54, -36)}},
		{box(-9, 9, vec(-3, -2)), -9, 10, [3]api.Vec{vec(-3, -2), vec(0, 0), vec(-54, -36)}},
	} {
		for i, c := range calls {
			c.is(t, x.f, x.from, x.to, x.want[i], api.OK)
		}
	}
}

// P4.1: windows and values at the limits.
func TestWindowsLimits(t *testing.T) {
	for _, w := range [][2]int64{{0, 8000}, {-8000, 0}, {-4000, 4000}, {-top, -top + 8000}, {top - 8000, top}} {
		for _, v := range []api.Vec{vec(top, -top), vec(-top, top), vec(1, 0)} {
			sum := vec(8000*v.Mem, 8000*v.Cores)
			for _, f := range [][]api.Seg{list(api.Seg{At: -top, V: v}), box(w[0], w[1], v)} {
				calls[0].is(t, f, w[0], w[1], v, api.OK)
				calls[1].is(t, f, w[0], w[1], v, api.OK)
				calls[2].is(t, f, w[0], w[1], sum, api.OK)
			}
		}
	}
	edges := list(seg(-top, 5, 6), seg(-top+1, 7, 8), seg(top-1, 9, 1), seg(top, 2, 3))
	for i, want := range [][2]api.Vec{{vec(5, 6), vec(7, 1)}, {vec(7, 8), vec(9, 8)}, {vec(12, 14), vec(16, 9)}} {
		calls[i].is(t, edges, -top, -top+2, want[0], api.OK)
		calls[i].is(t, edges, top-2, top, want[1], api.OK)
	}
	// The greatest and the smallest value in one window.
	f := list(seg(0, top, -top), seg(4000, -top, top))
	calls[0].is(t, f, 0, 8000, vec(-top, -top), api.OK)
	calls[1].is(t, f, 0, 8000, vec(top, top), api.OK)
	calls[2].is(t, f, 0, 8000, vec(0, 0), api.OK)
	calls[2].is(t, f, 1, 8000, vec(-top, top), api.OK)
}

// P4.1, P4.4: short and long functions, all windows, time by time; the values are between the low and the high, and each component of both is attained.
func TestWindowsAll(t *testing.T) {
	l := append(shorts(vec(0, 0), vec(1, 0), vec(-1, 2)), long(4, 1), long(4, 2), long(5, 3))
	for _, f := range l {
		for from := int64(-6); from < 11; from++ {
			var want [3]api.Vec
			for to := from + 1; to < 12; to++ {
				for i, c := range calls {
					if v := value(f, to-1); to == from+1 {
						want[i] = v
					} else {
						want[i] = c.op(want[i], v)
					}
					c.is(t, f, from, to, want[i], api.OK)
				}
			}
		}
	}
}

// P4.1, P4.4: the integrals of windows that touch.
func TestSumParts(t *testing.T) {
	for _, f := range [][]api.Seg{nil, long(9, 1), long(60, 2), list(seg(3, top, -top)), box(-top, top, vec(-top, 7))} {
		for from := int64(-200); from < 200; from += 23 {
			for mid := from + 1; mid < from+300; mid += 17 {
				for to := mid + 1; to < from+400; to += 19 {
					a, ae := span.Sum(f, from, mid)
					b, be := span.Sum(f, mid, to)
					if ae != api.OK || be != api.OK {
						t.Fatal(from, mid, to, ae, be)
					}
					calls[2].is(t, f, from, to, plus(a, b), api.OK)
				}
			}
		}
	}
}

// P4.1
func TestWindowsWrong(t *testing.T) {
	for _, c := range calls {
		for _, w := range bad {
			for _, f := range [][]api.Seg{nil, list(), box(2, 8, vec(3, 1)), list(seg(-top, 3, 1)), list(seg(top, 3, 1))} {
				c.is(t, f, w[0], w[1], vec(0, 0), api.ErrArg)
			}
			for _, f := range wrong {
				c.is(t, f, w[0], w[1], vec(0, 0), api.ErrForm)
			}
		}
		for _, f := range wrong {
			c.is(t, f, 0, 5, vec(0, 0), api.ErrForm)
			c.is(t, f, -100, -90, vec(0, 0), api.ErrForm)
		}
	}
}

// P4.2
func TestCut(t *testing.T) {
	f, open := box(2, 8, vec(3, 1)), list(seg(2, 3, 1), seg(5, -1, 4))
	gap := list(seg(2, 3, 1), seg(4, 0, 0), seg(6, 3, 1), seg(7, 5, 5), seg(9, 0, 0))
	for i, x := range []struct {
		f        []api.Seg
		from, to int64
		want     []api.Seg
	}{
		{nil, 3, 7, nil},
		{list(), 3, 7, nil},
		{f, 4, 6, box(4, 6, vec(3, 1))},
		{f, 2, 8, f},
		{f, 0, 9, f},
		{f, 2, 7, box(2, 7, vec(3, 1))},
		{f, 3, 8, box(3, 8, vec(3, 1))},
		{f, 0, 3, box(2, 3, vec(3, 1))},
		{f, 7, 99, box(7, 8, vec(3, 1))},
		{f, -5, 2, nil},
		{f, 8, 12, nil},
		{f, 7, 8, box(7, 8, vec(3, 1))},
		// from = to.
		{f, 5, 5, nil},
		{f, 2, 2, nil},
		{f, 8, 8, nil},
		{nil, 0, 0, nil},
		{open, top, top, nil},
		{open, -top, -top, nil},
		// The function does not end, and has runs in the window.
		{open, 3, 9, list(seg(3, 3, 1), seg(5, -1, 4), seg(9, 0, 0))},
		{open, 5, 9, box(5, 9, vec(-1, 4))},
		{open, 0, 5, box(2, 5, vec(3, 1))},
		{open, 0, 6, list(seg(2, 3, 1), seg(5, -1, 4), seg(6, 0, 0))},
		{open, 100, 101, box(100, 101, vec(-1, 4))},
		{gap, 3, 7, list(seg(3, 3, 1), seg(4, 0, 0), seg(6, 3, 1), seg(7, 0, 0))},
		{gap, 4, 6, nil},
		{gap, 4, 8, list(seg(6, 3, 1), seg(7, 5, 5), seg(8, 0, 0))},
		{gap, 3, 5, box(3, 4, vec(3, 1))},
		// Windows of more than 8000 times, and the edges of times and values.
		{open, 0, 8001, list(seg(2, 3, 1), seg(5, -1, 4), seg(8001, 0, 0))},
		{open, -top, top, list(seg(2, 3, 1), seg(5, -1, 4), seg(top, 0, 0))},
		{f, -top, top, f},
		{nil, -top, top, nil},
		{list(seg(-top, top, -top)), -top, top, box(-top, top, vec(top, -top))},
		{list(seg(-top, 1, 0), seg(top, 2, 0)), -top, top, box(-top, top, vec(1, 0))},
		{list(seg(-top, 1, 0), seg(top, 2, 0)), top - 1, top, box(top-1, top, vec(1, 0))},
		{list(seg(-top, 1, 0), seg(top, 2, 0)), -top + 1, top - 1, box(-top+1, top-1, vec(1, 0))},
	} {
		got, e := span.Cut(x.f, x.from, x.to)
		same(t, "Cut "+strconv.Itoa(i), got, e, x.want, api.OK)
	}
}

// P4.2: short and long functions, all windows, time by time.
func TestCutAll(t *testing.T) {
	l := append(shorts(vec(0, 0), vec(1, 0), vec(-1, 2)), long(4, 1), long(4, 2), long(5, 3))
	for _, f := range l {
		for from := int64(-6); from < 12; from++ {
			for to := from; to < 12; to++ {
				got, e := span.Cut(f, from, to)
				if e != api.OK || !rle.May(got) || len(got) == 0 && got != nil {
					t.Fatalf("Cut(%v, %d, %d): %v, %d", f, from, to, got, e)
				}
				for at := int64(-8); at < 14; at++ {
					var want api.Vec
					if from <= at && at < to {
						want = value(f, at)
					}
					if value(got, at) != want {
						t.Fatalf("Cut(%v, %d, %d): %v: %v at %d", f, from, to, got, value(got, at), at)
					}
				}
			}
		}
	}
}

// P4.2
func TestCutWrong(t *testing.T) {
	for _, x := range []struct {
		from, to int64
		e        api.Errno
	}{
		{4, 3, api.ErrArg},
		{top, -top, api.ErrArg},
		{math.MaxInt64, math.MinInt64, api.ErrArg},
		{0, top + 1, api.ErrRange},
		{-top - 1, 0, api.ErrRange},
		{-top - 1, top + 1, api.ErrRange},
		{top, top + 1, api.ErrRange},
		{-top - 1, -top, api.ErrRange},
		{top + 1, top + 1, api.ErrRange},
		{-top - 1, -top - 1, api.ErrRange},
		{top + 1, top + 2, api.ErrRange},
		{-top - 2, -top - 1, api.ErrRange},
		{math.MinInt64, math.MaxInt64, api.ErrRange},
		{math.MinInt64, math.MinInt64, api.ErrRange},
		{math.MaxInt64, math.MaxInt64, api.ErrRange},
		// ErrArg comes ahead of ErrRange.
		{top + 2, top + 1, api.ErrArg},
		{-top - 1, -top - 2, api.ErrArg},
		{0, -top - 1, api.ErrArg},
		{top + 1, 0, api.ErrArg},
	} {
		for _, f := range [][]api.Seg{nil, list(), box(2, 8, vec(3, 1)), list(seg(-top, 1, 1)), list(seg(top, 1, 1)), box(-top, top, vec(1, 1))} {
			got, e := span.Cut(f, x.from, x.to)
			same(t, "Cut", got, e, nil, x.e)
		}
		for _, f := range wrong {
			got, e := span.Cut(f, x.from, x.to)
			same(t, "Cut", got, e, nil, api.ErrForm)
		}
	}
	for _, f := range wrong {
		for _, w := range [][2]int64{{0, 5}, {5, 5}, {-100, -90}, {-top, top}} {
			got, e := span.Cut(f, w[0], w[1])
			same(t, "Cut", got, e, nil, api.ErrForm)
		}
	}
}

// P4.2, P4.4: each shift, and back again.
func TestShift(t *testing.T) {
	f := box(2, 8, vec(3, 1))
	for i, x := range []struct {
		f    []api.Seg
		d    int64
		want []api.Seg
		e    api.Errno
	}{
		{nil, 0, nil, api.OK},
		{list(), 5, nil, api.OK},
		{nil, top, nil, api.OK},
		{list(), -top, nil, api.OK},
		{f, 0, f, api.OK},
		{f, -3, box(-1, 5, vec(3, 1)), api.OK},
		{f, 3, box(5, 11, vec(3, 1)), api.OK},
		{list(seg(-4, 1, 2), seg(0, 3, 4)), 7, list(seg(3, 1, 2), seg(7, 3, 4)), api.OK},
		// To the edges of times, and one beyond.
		{f, top - 8, box(top-6, top, vec(3, 1)), api.OK},
		{f, top - 7, nil, api.ErrRange},
		{f, -top - 2, nil, api.ErrRange},
		{f, -top, box(-top+2, -top+8, vec(3, 1)), api.OK},
		{box(-2, 8, vec(3, 1)), -top + 2, box(-top, -top+10, vec(3, 1)), api.OK},
		{box(-2, 8, vec(3, 1)), -top + 1, nil, api.ErrRange},
		{box(-2, 8, vec(3, 1)), -top, nil, api.ErrRange},
		{list(seg(0, 1, 0)), top, list(seg(top, 1, 0)), api.OK},
		{list(seg(0, 1, 0)), -top, list(seg(-top, 1, 0)), api.OK},
		{list(seg(1, 1, 0)), top, nil, api.ErrRange},
		{list(seg(-1, 1, 0)), -top, nil, api.ErrRange},
		{list(seg(-top, 1, 0)), top, list(seg(0, 1, 0)), api.OK},
		{list(seg(top, 1, 0)), -top, list(seg(0, 1, 0)), api.OK},
		{list(seg(top, top, -top)), 0, list(seg(top, top, -top)), api.OK},
		{list(seg(top, 1, 0)), 1, nil, api.ErrRange},
		{list(seg(-top, 1, 0)), -1, nil, api.ErrRange},
		{box(-top, top, vec(1, 0)), 1, nil, api.ErrRange},
		{box(-top, top, vec(1, 0)), -1, nil, api.ErrRange},
		{box(-top, top, vec(1, 0)), 0, box(-top, top, vec(1, 0)), api.OK},
		// A d that is out of range, even if the result would not be.
		{nil, top + 1, nil, api.ErrRange},
		{list(), -top - 1, nil, api.ErrRange},
		{list(seg(-top, 1, 0)), top + 1, nil, api.ErrRange},
		{list(seg(top, 1, 0)), -top - 1, nil, api.ErrRange},
		{f, top + 1, nil, api.ErrRange},
		{f, math.MinInt64, nil, api.ErrRange},
		{f, math.MaxInt64, nil, api.ErrRange},
	} {
		got, e := span.Shift(x.f, x.d)
		same(t, "Shift "+strconv.Itoa(i), got, e, x.want, x.e)
		if x.e == api.OK {
			back, e := span.Shift(got, -x.d)
			same(t, "Shift back "+strconv.Itoa(i), back, e, x.f, api.OK)
		}
	}
	for _, f := range wrong {
		for _, d := range []int64{0, 1, -5, top, -top, top + 1, -top - 1, math.MinInt64, math.MaxInt64} {
			got, e := span.Shift(f, d)
			same(t, "Shift", got, e, nil, api.ErrForm)
		}
	}
}

// P4.2, P4.4: at each time the value that the function had, and back again.
func TestShiftBack(t *testing.T) {
	l := append(shorts(vec(0, 0), vec(1, 0), vec(-1, 2)), long(40, 1), long(55, 2))
	for _, f := range l {
		for _, d := range []int64{0, 1, -1, 7, -29, top - 400, 400 - top} {
			got, e := span.Shift(f, d)
			if e != api.OK {
				t.Fatal(f, d, e)
			}
			for at := int64(-70); at < 200; at++ {
				if value(got, at+d) != value(f, at) {
					t.Fatalf("Shift(%v, %d): %v: %v at %d", f, d, got, value(got, at+d), at+d)
				}
			}
			back, e := span.Shift(got, -d)
			same(t, "Shift back", back, e, f, api.OK)
		}
	}
}

// asked is a call of Over that has no error, and what it answers.
type asked struct {
	f           []api.Seg
	from, width int64
	limit       api.Vec
	at          int64
	is          bool
}

// over holds an answer of Over against what is expected.
func over(t *testing.T, f []api.Seg, from, width int64, limit api.Vec, at int64, is bool, we api.Errno) {
	t.Helper()
	if a, i, e := span.Over(f, from, width, limit); a != at || i != is || e != we {
		t.Fatalf("Over(%v, %d, %d, %v): %d %v %d; want %d %v %d", f, from, width, limit, a, i, e, at, is, we)
	}
}

// P4.3
func TestOver(t *testing.T) {
	f, open := box(2, 8, vec(3, 1)), list(seg(2, 3, 1), seg(5, -1, 4))
	for _, x := range []asked{
		{nil, 0, 4, vec(0, 0), 0, false},
		{list(), -7, 4, vec(0, 0), 0, false},
		{nil, -7, 4, vec(0, -1), -7, true},
		{list(), 9, 4096, vec(-1, 0), 9, true},
		// The sum grows by 3 from -2 on, up to 12 at 2, and falls from 4 on, down to 0 at 8.
		{f, -5, 4, vec(8, 9), 1, true},
		{f, -5, 4, vec(9, 9), 2, true},
		{f, -5, 4, vec(12, 9), 0, false},
		{f, -5, 4, vec(0, 9), -1, true},
		{f, -5, 4, vec(2, 9), -1, true},
		{f, -5, 4, vec(3, 9), 0, true},
		{f, -5, 4, vec(6, 9), 1, true},
		{f, 0, 4, vec(3, 9), 0, true},
		{f, 1, 4, vec(3, 9), 1, true},
		// From a time on at which the sum stays, or falls.
		{f, 2, 4, vec(11, 9), 2, true},
		{f, 4, 4, vec(11, 9), 4, true},
		{f, 4, 4, vec(12, 9), 0, false},
		{f, 5, 4, vec(8, 9), 5, true},
		{f, 5, 4, vec(9, 9), 0, false},
		{f, 6, 4, vec(5, 9), 6, true},
		{f, 7, 4, vec(2, 9), 7, true},
		{f, 7, 4, vec(3, 9), 0, false},
		{f, 8, 4, vec(0, 0), 0, false},
		// By one component alone, by both, and by the one that is over first.
		{f, -5, 4, vec(99, 3), 2, true},
		{f, -5, 4, vec(99, 4), 0, false},
		{f, -5, 4, vec(8, 0), -1, true},
		{f, -5, 4, vec(0, 3), -1, true},
		{f, -5, 4, vec(8, 2), 1, true},
		{f, -5, 4, vec(5, 2), 0, true},
		// A width of one time, and of more than the function has.
		{f, -5, 1, vec(2, 9), 2, true},
		{f, -5, 1, vec(3, 1), 0, false},
		{f, -5, 1, vec(3, 0), 2, true},
		{f, 7, 1, vec(2, 9), 7, true},
		{f, 8, 1, vec(2, 9), 0, false},
		{f, -5000, 4096, vec(17, 9), 7 - 4095, true},
		{f, -5000, 4096, vec(0, 9), 2 - 4095, true},
		{f, -5000, 4096, vec(18, 6), 0, false},
		{f, 0, 4096, vec(17, 9), 0, true},
		{f, 2, 4096, vec(17, 9), 2, true},
		{f, 3, 4096, vec(15, 5), 0, false},
		// The first time is 0, which tells of itself nothing.
		{f, 0, 8, vec(17, 9), 0, true},
		{f, -5, 3, vec(2, 9), 0, true},
		// The function does not end: it is over in the end, and only then.
		{open, 0, 4, vec(12, 15), 5, true},
		{open, 0, 4, vec(12, 16), 0, false},
		{open, 0, 4096, vec(99, 16383), 5, true},
		{open, 5, 4, vec(0, 15), 5, true},
		{open, 1000, 4, vec(0, 15), 1000, true},
		{open, 1000, 4, vec(0, 16), 0, false},
		{open, 1000, 4, vec(-4, 16), 0, false},
		{open, 1000, 4, vec(-5, 16), 1000, true},
		{list(seg(100, 1, 0)), 0, 10, vec(9, 0), 100, true},
		{list(seg(100, 1, 0)), 0, 10, vec(4, 0), 95, true},
		{list(seg(100, 1, 0)), 0, 10, vec(10, 0), 0, false},
		// Only for a time ahead of the end of a run, or as long as one is wholly in the window.
		{list(seg(0, -5, 0), seg(10, 4, 0), seg(13, -9, 0)), 0, 4, vec(6, 0), 9, true},
		{list(seg(0, -5, 0), seg(10, 4, 0), seg(13, -9, 0)), 0, 4, vec(7, 0), 0, false},
		{list(seg(0, -5, 0), seg(10, 4, 0), seg(13, -9, 0)), 0, 3, vec(11, 0), 10, true},
		{list(seg(0, -5, 0), seg(10, 4, 0), seg(13, -9, 0)), 0, 3, vec(12, 0), 0, false},
		{list(seg(0, 1, 0), seg(10, 2, 0), seg(11, 0, 0)), 0, 4, vec(4, 0), 7, true},
		{list(seg(0, 1, 0), seg(10, 2, 0), seg(11, 0, 0)), 3, 1, vec(1, 0), 10, true},
		// Limits below zero.
		{f, -5, 4, vec(-1, 9), -5, true},
		{list(seg(0, -3, -3)), 0, 4, vec(-12, -12), 0, false},
		{list(seg(0, -3, -3)), 0, 4, vec(-12, -13), 0, true},
		{list(seg(0, -3, -3)), -9, 4, vec(0, 0), 0, false},
		{list(seg(0, -3, -3), seg(20, -2, -3)), 0, 4, vec(-11, -12), 18, true},
		{list(seg(0, -3, -3), seg(20, -3, -2)), 0, 4, vec(-12, -9), 20, true},
		{list(seg(0, -3, -3), seg(20, 0, 0)), 0, 4, vec(-1, -1), 20, true},
		{list(seg(0, -3, -3), seg(20, 0, 0)), 0, 4, vec(-5, -5), 19, true},
	} {
		over(t, x.f, x.from, x.width, x.limit, x.at, x.is, api.OK)
	}
}

// P4.3: times, widths and values at the limits.
func TestOverLimits(t *testing.T) {
	for _, x := range []asked{
		// Runs ahead of all times from which it is looked, and behind them.
		{nil, -half, 4096, vec(-1, 0), -half, true},
		{nil, half, 4096, vec(-1, 0), half, true},
		{list(seg(-top, 1, 0)), -half, 4096, vec(4095, 0), -half, true},
		{list(seg(-top, 1, 0)), -half, 4096, vec(4096, 0), 0, false},
		{list(seg(-top, 1, 0)), half, 4096, vec(4095, 0), half, true},
		{list(seg(-top, 1, 0)), half, 4096, vec(4096, 0), 0, false},
		{list(seg(top, 0, 1)), -half, 4096, vec(0, 0), top - 4095, true},
		{list(seg(top, 0, 1)), half, 4096, vec(0, 4094), top - 1, true},
		{list(seg(top, 0, 1)), half, 4096, vec(0, 4095), top, true},
		{list(seg(top, 0, 1)), half, 4096, vec(0, 4096), 0, false},
		{list(seg(top, 0, 1)), half, 1, vec(0, 0), top, true},
		{box(top-1, top, vec(0, 1)), -half, 1, vec(0, 0), top - 1, true},
		{box(-half, -half+1, vec(1, 0)), -half, 1, vec(0, 0), -half, true},
		{box(-half-1, -half, vec(1, 0)), -half, 1, vec(0, 0), 0, false},
		{box(half-1, half, vec(1, 0)), half, 4096, vec(0, 0), 0, false},
		{box(half-1, half, vec(1, 0)), half - 1, 4096, vec(0, 0), half - 1, true},
		// The greatest sums and slopes.
		{list(seg(0, top, top)), -5000, 4096, vec(top, top), -4094, true},
		{list(seg(0, top, top)), 0, 4096, vec(top, top), 0, true},
		{list(seg(0, top, top)), -5000, 1, vec(top, top), 0, false},
		{list(seg(0, top, top)), -5000, 1, vec(top, top-1), 0, true},
		{list(seg(0, -top, -top)), -5000, 4096, vec(-1, 0), -5000, true},
		{list(seg(0, -top, -top)), 0, 4096, vec(-top, -top), 0, false},
		{list(seg(0, -top, -top)), 0, 1, vec(-top, -top), 0, false},
		{list(seg(0, -top, -top), seg(9000, top, top)), 0, 4096, vec(-top, -top), 9000 - 2048, true},
		{list(seg(0, -top, -top), seg(9000, top, top)), 0, 4096, vec(0, top), 9000 - 2047, true},
		{list(seg(0, -top, -top), seg(9000, top, top)), 0, 4096, vec(top, top), 9000 - 2047, true},
		{list(seg(0, -top, top), seg(9000, top, -top)), 9000, 4096, vec(0, 0), 9000, true},
		{list(seg(0, -top, top), seg(9000, top, -top)), 0, 4096, vec(top, top), 0, true},
		{list(seg(0, -top, 0), seg(9000, 0, 0), seg(9001, -top, 0)), 0, 1, vec(-1, 0), 9000, true},
	} {
		over(t, x.f, x.from, x.width, x.limit, x.at, x.is, api.OK)
	}
}

// first returns the first time from from on, and up to behind, at which the sliding sum is over limit, added time by time; behind behind the runs of f are over.
func first(f []api.Seg, from, width int64, limit api.Vec, behind int64) (int64, bool) {
	for at := from; at <= behind; at++ {
		var sum api.Vec
		for t := at; t < at+width; t++ {
			sum = plus(sum, value(f, t))
		}
		if !below(sum, limit) {
			return at, true
		}
	}
	return 0, false
}

// P4.3, P4.5: all short functions, widths and limits; no sum ahead of the first time is over.
func TestOverAll(t *testing.T) {
	l := append(shorts(vec(0, 0), vec(1, 0), vec(-2, 3)), long(3, 1), long(4, 2))
	for _, f := range l {
		for from := int64(-9); from < 10; from += 2 {
			for _, width := range []int64{1, 2, 3, 5, 9} {
				for _, limit := range []api.Vec{vec(0, 0), vec(1, 9), vec(3, 99), vec(99, 2), vec(2, 6), vec(99, 11), vec(-1, 0), vec(-3, 99), vec(99, 99)} {
					at, is := first(f, from, width, limit, max(from, 12))
					over(t, f, from, width, limit, at, is, api.OK)
				}
			}
		}
	}
}

// P4.3, P4.5: long functions.
func TestOverLong(t *testing.T) {
	for seed := range int64(3) {
		f := long(50, seed)
		for from := int64(-70); from < 110; from += 9 {
			for _, width := range []int64{1, 4, 23, 200} {
				for mem := int64(-20); mem < 40; mem += 7 {
					for _, cores := range []int64{-9, 1, 5, 14, 60} {
						at, is := first(f, from, width, vec(mem, cores), 160)
						over(t, f, from, width, vec(mem, cores), at, is, api.OK)
					}
				}
			}
		}
	}
}

// P4.3: many runs, with the sum taken on from time to time.
func TestOverMany(t *testing.T) {
	var f []api.Seg
	line := make([]api.Vec, 300000)
	for i := range int64(100000) {
		f = append(f, seg(3*i, top-i%1000, i%7-3))
		for j := range int64(3) {
			line[3*i+j] = f[i].V
		}
	}
	for _, x := range []struct {
		width int64
		limit api.Vec
	}{{1, vec(top, 2)}, {1, vec(top, 3)}, {2, vec(top, 0)}, {4096, vec(top, 5)}} {
		// Behind the runs the last one goes on.
		l := slices.Concat(line, slices.Repeat(line[len(line)-1:], int(x.width)))
		var sum api.Vec
		for _, v := range l[:x.width] {
			sum = plus(sum, v)
		}
		at := int64(0)
		for ; at < int64(len(line)) && below(sum, x.limit); at++ {
			sum = plus(sum, vec(l[at+x.width].Mem-l[at].Mem, l[at+x.width].Cores-l[at].Cores))
		}
		is := at < int64(len(line))
		if !is {
			at = 0
		}
		over(t, f, 0, x.width, x.limit, at, is, api.OK)
	}
}

// P4.5: a greater limit is exceeded no sooner, and never if the smaller one is not.
func TestOverGreater(t *testing.T) {
	for seed := range int64(4) {
		f := long(30, seed)
		for _, width := range []int64{1, 3, 10, 50} {
			for _, more := range []api.Vec{vec(1, 0), vec(0, 1), vec(2, 3)} {
				last := int64(-40)
				limit := vec(-30, -30)
				for range 200 {
					at, is, e := span.Over(f, -40, width, limit)
					if e != api.OK || is && at < last || !is && at != 0 || is && last == math.MaxInt64 {
						t.Fatal(seed, width, limit, at, is, e, last)
					}
					if last = at; !is {
						last = math.MaxInt64
					}
					limit = plus(limit, more)
				}
			}
		}
	}
}

// P4.3
func TestOverWrong(t *testing.T) {
	good := vec(1, 1)
	for _, x := range []struct {
		from, width int64
		limit       api.Vec
		e           api.Errno
	}{
		{0, 0, good, api.ErrArg},
		{0, -1, good, api.ErrArg},
		{0, 4097, good, api.ErrArg},
		{0, math.MinInt64, good, api.ErrArg},
		{0, math.MaxInt64, good, api.ErrArg},
		{half + 1, 4, good, api.ErrArg},
		{-half - 1, 4, good, api.ErrArg},
		{top, 4, good, api.ErrArg},
		{-top, 4, good, api.ErrArg},
		{math.MinInt64, 4, good, api.ErrArg},
		{math.MaxInt64, 4, good, api.ErrArg},
		{math.MaxInt64, math.MaxInt64, good, api.ErrArg},
		{0, 4, vec(top+1, 0), api.ErrRange},
		{0, 4, vec(0, top+1), api.ErrRange},
		{0, 4, vec(-top-1, 0), api.ErrRange},
		{0, 4, vec(0, -top-1), api.ErrRange},
		{0, 4, vec(math.MinInt64, math.MaxInt64), api.ErrRange},
		{-half, 4096, vec(top+1, 0), api.ErrRange},
		{half, 1, vec(0, math.MinInt64), api.ErrRange},
		// ErrArg comes ahead of ErrRange.
		{0, 0, vec(top+1, 0), api.ErrArg},
		{0, 4097, vec(0, -top-1), api.ErrArg},
		{half + 1, 4, vec(0, top+1), api.ErrArg},
		{-half - 1, 4, vec(-top-1, 0), api.ErrArg},
	} {
		for _, f := range [][]api.Seg{nil, list(), box(2, 8, vec(3, 1)), list(seg(-top, 1, 1)), list(seg(top, top, top))} {
			over(t, f, x.from, x.width, x.limit, 0, false, x.e)
		}
		for _, f := range wrong {
			over(t, f, x.from, x.width, x.limit, 0, false, api.ErrForm)
		}
	}
	for _, f := range wrong {
		over(t, f, 0, 4, good, 0, false, api.ErrForm)
		over(t, f, -half, 4096, vec(-1, -1), 0, false, api.ErrForm)
	}
	// The limits that are still valid, in the same calls.
	for _, limit := range []api.Vec{vec(top, top), vec(-top, -top), vec(top, -top)} {
		over(t, box(2, 8, vec(-1, -1)), 0, 4096, limit, 0, limit.Cores < 0, api.OK)
	}
}

// R5: arguments stay as they were, behind their length too, and what is answered is new memory.
func TestMemory(t *testing.T) {
	whole := list(seg(2, 3, 1), seg(5, 1, 1), seg(8, 0, 0), seg(7, 7, 7), seg(1, 1, 1))
	was := slices.Clone(whole)
	f := whole[:3]
	for name, call := range map[string]func() ([]api.Seg, api.Errno){
		"Cut":             func() ([]api.Seg, api.Errno) { return span.Cut(f, 3, 7) },
		"Cut of all":      func() ([]api.Seg, api.Errno) { return span.Cut(f, -9, 9) },
		"Cut just of all": func() ([]api.Seg, api.Errno) { return span.Cut(f, 2, 8) },
		"Shift":           func() ([]api.Seg, api.Errno) { return span.Shift(f, 3) },
		"Shift by 0":      func() ([]api.Seg, api.Errno) { return span.Shift(f, 0) },
		"Low": func() ([]api.Seg, api.Errno) {
			v, e := span.Low(f, 0, 9)
			return list(seg(0, 1, 1), api.Seg{At: 1, V: v}), e
		},
		"High": func() ([]api.Seg, api.Errno) {
			v, e := span.High(f, 0, 9)
			return list(api.Seg{At: 1, V: v}), e
		},
		"Sum": func() ([]api.Seg, api.Errno) {
			v, e := span.Sum(f, 0, 9)
			return list(api.Seg{At: 1, V: v}), e
		},
		"Over": func() ([]api.Seg, api.Errno) {
			at, _, e := span.Over(f, -9, 4, vec(8, 9))
			return list(seg(at, 1, 1)), e
		},
	} {
		got, e := call()
		other, _ := call()
		if e != api.OK || len(got) == 0 {
			t.Fatal(name, got, e)
		}
		kept := slices.Clone(other)
		spoil(got)
		if !slices.Equal(whole, was) {
			t.Fatalf("%s: an argument was changed: %v", name, whole)
		}
		spoil(whole)
		if !slices.Equal(other, kept) {
			t.Errorf("%s: an answer was changed through an argument, or through another answer", name)
		}
		copy(whole, was)
	}
}
