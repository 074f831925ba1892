package cost_test

import (
	"cmp"
	"math"
	"slices"
	"testing"

	"livery/api"
	"livery/cost"
	"livery/rle"
	"livery/sample"
	"livery/slot"
)

const (
	top   = sample.Top
	late  = sample.Late
	span  = sample.Span
	great = int64(1 << 44) // the greatest component of a load
)

var (
	two   = sample.Vec
	seg   = sample.Seg
	list  = sample.List
	box   = sample.Box
	long  = sample.Long
	wrong = sample.Wrong()
	win   = sample.Win
	leg   = sample.Leg
	legs  = sample.Legs
)

// isGreat reports by the document's words whether a load has a component that is not from -2^44 to 2^44.
func isGreat(load []api.Seg) bool {
	for _, s := range load {
		for _, n := range []int64{s.V.Mem, s.V.Cores} {
			if n < -great || n > great {
				return true
			}
		}
	}
	return false
}

// values returns the sum of both components of what the load has at each time from from on, up to to.
func values(load []api.Seg, from, to int64) []int64 {
	var l []int64
	for t := from; t < to; t++ {
		v := rle.At(load, t)
		l = append(l, v.Mem+v.Cores)
	}
	return l
}

// sum returns the cost of the legs, the first of which starts where the first of the values is: each tick of each leg is added one by one.
func sum(values []int64, l []api.Leg) int64 {
	var c int64
	n := 0
	for _, x := range l {
		for range x.D {
			c += values[n]
			n++
		}
	}
	return c
}

// costFault returns by the document's words the error of Cost.
func costFault(load []api.Seg, at int64, l []api.Leg) api.Errno {
	switch {
	case !rle.May(load):
		return api.ErrForm
	case !sample.IsLegs(l):
		return api.ErrArg
	case at < -late || at > late || isGreat(load):
		return api.ErrRange
	}
	return api.OK
}

// costs returns what Cost answers, which is held against the document's words.
func costs(t *testing.T, load []api.Seg, at int64, l []api.Leg) (int64, api.Errno) {
	t.Helper()
	var want int64
	we := costFault(load, at, l)
	if we == api.OK {
		n, _ := slot.Length(l)
		want = sum(values(load, at, at+n), l)
	}
	c, e := cost.Cost(load, at, l)
	if c != want || e != we {
		t.Fatalf("Cost(%v, %d, %v): %d, %d; want %d, %d", load, at, l, c, e, want, we)
	}
	return c, e
}

// asked is what Cheapest and Best are asked.
type asked struct {
	load, f []api.Seg
	w       api.Win
	l       []api.Leg
}

// begin is a time, and what it costs to begin then.
type begin struct{ at, cost int64 }

// fault returns by the document's words the error of what is asked, if so many begins are asked for, but for ErrPlace.
func (a asked) fault(many int) api.Errno {
	e := sample.LegsFault(a.f, a.w, a.l)
	switch {
	case e == api.ErrForm || !rle.May(a.load):
		return api.ErrForm
	case e == api.ErrArg || many < 1 || many > 64:
		return api.ErrArg
	case e == api.ErrRange || isGreat(a.load):
		return api.ErrRange
	}
	return api.OK
}

// looked returns the begins of what is asked without an error, in increasing order, and what each of them costs.
func (a asked) looked() []begin {
	windows, _ := slot.Begins(a.f, a.w, a.l)
	all := values(a.load, a.w.From, a.w.To)
	var l []begin
	for _, w := range windows {
		for t := w.From; t < w.To; t++ {
			l = append(l, begin{t, sum(all[t-a.w.From:], a.l)})
		}
	}
	return l
}

// lowest returns the first of the begins with the lowest cost: each is tried.
func lowest(l []begin) begin {
	low := l[0]
	for _, b := range l {
		if b.cost < low.cost {
			low = b
		}
	}
	return low
}

// ranked returns the times of the begins, sorted by cost and then by time: the lowest is taken out, one after the other.
func ranked(l []begin) []int64 {
	rest := slices.Clone(l)
	var sorted []int64
	for len(rest) > 0 {
		low := lowest(rest)
		sorted = append(sorted, low.at)
		rest = slices.DeleteFunc(rest, func(b begin) bool { return b == low })
	}
	return sorted
}

// numbers are how many begins are asked for, such as are not valid too.
var numbers = []int{1, 2, 3, 5, 63, 64, 0, 65, -1, 128, -64, 1 << 32, math.MinInt, math.MaxInt}

// answers holds Cheapest, and Best for each of the numbers, against the document's words; it returns the begins sorted as Best is to sort them, and the error of Cheapest.
func (a asked) answers(t *testing.T) ([]int64, api.Errno) {
	t.Helper()
	var all []begin
	var low begin
	e := a.fault(1)
	if e == api.OK {
		if all = a.looked(); len(all) > 0 {
			low = lowest(all)
		} else {
			e = api.ErrPlace
		}
	}
	if at, c, ae := cost.Cheapest(a.load, a.f, a.w, a.l); (begin{at, c}) != low || ae != e {
		t.Fatalf("Cheapest(%v): %d, %d, %d; want %v, %d", a, at, c, ae, low, e)
	}
	sorted := ranked(all)
	for _, many := range numbers {
		we := a.fault(many)
		if we == api.OK {
			we = e
		}
		var want []int64
		if we == api.OK {
			want = sorted[:min(many, len(sorted))]
		}
		if b, be := cost.Best(a.load, a.f, a.w, a.l, many); !slices.Equal(b, want) || be != we || b != nil && we != api.OK {
			t.Fatalf("Best(%v, %d): %v, %d; want %v, %d", a, many, b, be, want, we)
		}
	}
	return sorted, e
}

// is holds the answers against the begins that are expected, the best ones first.
func (a asked) is(t *testing.T, want ...int64) {
	t.Helper()
	if b, e := a.answers(t); !slices.Equal(b, want) || e != api.OK {
		t.Errorf("%v: %v, %d; want %v", a, b, e, want)
	}
}

// refused holds the answers against the error that is expected.
func (a asked) refused(t *testing.T, want api.Errno) {
	t.Helper()
	if b, e := a.answers(t); e != want {
		t.Errorf("%v: %v, %d; want %d", a, b, e, want)
	}
}

// The function, the load and the leg of the chapter's examples.
func exampleF() []api.Seg { return box(0, 30, two(5, 5)) }
func exampleL() []api.Leg { return legs(leg(4, 1, 1)) }
func exampleLoad() []api.Seg {
	return list(seg(0, 3, 1), seg(8, 1, 0), seg(12, 4, 4), seg(20, 0, 0))
}

// TestExamples: the chapter's (P17.1, P17.2, P17.3).
func TestExamples(t *testing.T) {
	load, f, l := exampleLoad(), exampleF(), exampleL()
	type answer struct {
		at, cost int64
		e        api.Errno
	}
	got := [4]answer{}
	got[0].cost, got[0].e = cost.Cost(load, 0, l)
	got[1].cost, got[1].e = cost.Cost(load, 6, l)
	got[2].at, got[2].cost, got[2].e = cost.Cheapest(load, f, win(0, 30), l)
	got[3].at, got[3].cost, got[3].e = cost.Cheapest(load, f, win(0, 18), l)
	if want := [4]answer{{0, 16, 0}, {0, 10, 0}, {20, 0, 0}, {8, 4, 0}}; got != want {
		t.Error(got, want)
	}
	if b, e := cost.Best(load, f, win(0, 18), l, 3); !slices.Equal(b, []int64{8, 7, 6}) || e != api.OK {
		t.Error(b, e)
	}
	asked{load, f, win(0, 30), l}.answers(t)
	asked{load, f, win(0, 18), l}.is(t, 8, 7, 6, 9, 5, 0, 1, 2, 3, 4, 10, 11, 12, 13, 14)
}

// TestCost: answers that are written out (P17.1).
func TestCost(t *testing.T) {
	load := exampleLoad()
	for _, x := range []struct {
		load []api.Seg
		at   int64
		l    []api.Leg
		want int64
	}{
		{load, -1, exampleL(), 12},
		{load, -3, exampleL(), 4},
		{load, -4, exampleL(), 0},
		{load, -5, exampleL(), 0},
		{load, 7, legs(leg(1, 0, 0)), 4},
		{load, 8, legs(leg(1, 0, 0)), 1},
		{load, 7, legs(leg(2, 0, 0)), 5},
		{load, 11, legs(leg(2, 0, 0)), 9},
		{load, 19, legs(leg(1, 0, 0)), 8},
		{load, 19, legs(leg(1, 0, 0), leg(span, 0, 0)), 8},
		{load, 20, legs(leg(span, 0, 0)), 0},
		{load, -9, legs(leg(span, 0, 0)), 32 + 4 + 64},
		{load, -9, legs(leg(9, 0, 0), leg(8, 0, 0), leg(4, 0, 0), leg(8, 0, 0), leg(1, 0, 0)), 32 + 4 + 64},
		{load, 0, legs(leg(8, 0, 0), leg(4, 0, 0)), 36},
		// Beside nothing, and a load that does not end.
		{nil, 0, legs(leg(4, 1, 1)), 0},
		{list(), -late, slices.Repeat(legs(leg(span, 1, 1)), 16), 0},
		{list(seg(3, 2, 1)), 0, legs(leg(3, 0, 0)), 0},
		{list(seg(3, 2, 1)), 0, legs(leg(4, 0, 0)), 3},
		{list(seg(3, 2, 1)), 0, legs(leg(4, 0, 0), leg(10, 0, 0)), 33},
		{list(seg(3, 2, 1)), late, legs(leg(4, 0, 0)), 12},
		{list(seg(-top, 2, 1)), -late, legs(leg(4, 0, 0)), 12},
		{list(seg(top, 2, 1)), late, legs(leg(4, 0, 0)), 0},
		{list(seg(late+2, 2, 1)), late, legs(leg(4, 0, 0)), 6},
		{list(seg(late+2, 2, 1)), late, slices.Repeat(legs(leg(span, 0, 0)), 16), 3 * (16*span - 2)},
		// Loads below 0.
		{list(seg(3, -2, 1)), 0, legs(leg(5, 0, 0)), -2},
		{list(seg(3, -2, 2)), 0, legs(leg(5, 0, 0)), 0},
		{list(seg(3, -2, -1), seg(4, 7, 0), seg(5, 0, -3)), 0, legs(leg(6, 0, 0)), -3 + 7 - 3},
		// The greatest and the smallest cost.
		{list(seg(-top, great, great)), 7, legs(leg(1, 0, 0)), 1 << 45},
		{list(seg(-top, great, great)), 7, slices.Repeat(legs(leg(span, 0, 0)), 16), 1 << 61},
		{list(seg(-top, great, great)), late, slices.Repeat(legs(leg(span, 0, 0)), 16), 1 << 61},
		{list(seg(-top, -great, -great)), -late, slices.Repeat(legs(leg(span, 0, 0)), 16), -1 << 61},
		{list(seg(-top, great, -great)), 7, slices.Repeat(legs(leg(span, 0, 0)), 16), 0},
		{list(seg(0, great, great), seg(span, -great, -great)), 0, slices.Repeat(legs(leg(span, 0, 0)), 2), 0},
	} {
		if c, e := costs(t, x.load, x.at, x.l); c != x.want || e != api.OK {
			t.Errorf("Cost(%v, %d, %v): %d, %d; want %d", x.load, x.at, x.l, c, e, x.want)
		}
	}
}

// rows are lists of legs that are valid, and of vectors that have nothing to do with what they cost.
func rows() [][]api.Leg {
	return sample.Lists(3, leg(1, 0, 0), leg(2, 9, top), leg(3, -1, math.MaxInt64))[1:]
}

// TestCostAll: small loads, all times, all lists of up to three of some legs (P17.1).
func TestCostAll(t *testing.T) {
	for _, load := range append(sample.Shorts([]int64{0, 2, 3, 7}, two(0, 0), two(2, 1), two(-1, -3)), long(9, 1), long(9, 2)) {
		for at := int64(-10); at < 12; at++ {
			for _, l := range rows() {
				costs(t, load, at, l)
			}
		}
	}
}

// TestCostThrown: long loads, up to 16 legs (P17.1).
func TestCostThrown(t *testing.T) {
	d := sample.Dice(1)
	for i := range 2000 {
		load := d.Steps(20 + i%300)
		w, l := d.Legs(20 + i%300)
		costs(t, load, w.From, l)
		costs(t, load, w.To, l)
	}
	// The load changes at each tick of legs that are as long as they can be.
	load := long(1<<16, 3)
	n, l := int64(0), slices.Repeat(legs(leg(span, 1, 1)), 16)
	all := values(load[:100], load[0].At, load[99].At)
	for i := range all {
		n += all[i]
	}
	c, e := cost.Cost(load[:100], load[0].At, legs(leg(load[99].At-load[0].At, 1, 1)))
	if c != n || e != api.OK {
		t.Error(c, e, n)
	}
	n = 0
	for i, s := range load[:len(load)-1] {
		ticks := max(0, min(load[i+1].At, load[0].At+16*span)-s.At)
		n += ticks * (s.V.Mem + s.V.Cores)
	}
	if c, e := cost.Cost(load, load[0].At, l); c != n || e != api.OK {
		t.Error(c, e, n)
	}
}

// greats returns loads with a component that is too great, for one reason each, mostly where nothing is asked for.
func greats() [][]api.Seg {
	var l [][]api.Seg
	for _, n := range []int64{great + 1, -great - 1, top, -top} {
		for _, v := range []api.Vec{two(n, 0), two(0, n), two(n, -n), two(n, n), two(-great, n), two(n, great)} {
			for _, at := range []int64{-top, -late, -1, 0, 5, 100, 5000, late, top} {
				l = append(l, list(api.Seg{At: at, V: v}))
				if at > -top && at < top {
					l = append(l, list(seg(at-1, 1, 1), api.Seg{At: at, V: v}, seg(at+1, 0, 0)))
				}
			}
		}
	}
	return l
}

// TestLimits: loads, times and vectors at the limits and one beyond (P17.1, P17.2, P17.3).
func TestLimits(t *testing.T) {
	f, l := exampleF(), exampleL()
	for _, load := range greats() {
		if c, e := costs(t, load, 0, l); e != api.ErrRange {
			t.Error(load, c, e)
		}
		asked{load, f, win(0, 9), l}.refused(t, api.ErrRange)
	}
	for _, v := range []api.Vec{two(great, 0), two(0, great), two(-great, 0), two(0, -great), two(great, great), two(-great, -great), two(-great, great)} {
		for _, at := range []int64{-top, -late, -1, 0, 5, 100, late, top} {
			load := list(api.Seg{At: at, V: v})
			if _, e := costs(t, load, 0, l); e != api.OK {
				t.Error(load, e)
			}
			if b, e := (asked{load, f, win(0, 9), l}).answers(t); len(b) != 6 || e != api.OK {
				t.Error(load, b, e)
			}
		}
	}
	for _, at := range []int64{-late, late, -late + 1, late - 1} {
		if _, e := costs(t, exampleLoad(), at, l); e != api.OK {
			t.Error(at, e)
		}
	}
	for _, at := range []int64{-late - 1, late + 1, -top, top, math.MinInt64, math.MaxInt64} {
		if _, e := costs(t, exampleLoad(), at, l); e != api.ErrRange {
			t.Error(at, e)
		}
	}
	for _, v := range sample.WrongVectors() {
		x := legs(api.Leg{D: 4, V: v})
		if c, e := costs(t, exampleLoad(), 6, x); c != 10 || e != api.OK {
			t.Error(v, c, e)
		}
		asked{exampleLoad(), f, win(0, 9), x}.refused(t, api.ErrRange)
	}
}

// TestWindows: windows at the limits and one beyond (P17.2, P17.3).
func TestWindows(t *testing.T) {
	f, l := list(seg(-top, 2, 2)), legs(leg(4, 1, 1), leg(2, 0, 0))
	load := list(seg(-top, 3, 1), seg(-late+9, 2, 2), seg(-late+12, 1, 1), seg(5, 2, 1), seg(late-20, 0, 3), seg(late-7, 0, 2), seg(late, 9, 9))
	for _, w := range sample.WrongWindows() {
		asked{load, f, w, l}.refused(t, sample.LegsFault(f, w, l))
	}
	for _, at := range []int64{-late, -late + 1, -3000, 0, late - span - 1, late - span, late - 5000} {
		for _, n := range []int64{1, 5, 6, 7, 100} {
			asked{load, f, win(at, at+n), l}.answers(t)
		}
	}
	for _, w := range []api.Win{win(-late, -late+span), win(-3, span-3), win(late-span, late)} {
		if b, e := (asked{load, f, w, l}).answers(t); len(b) != int(span-5) || e != api.OK {
			t.Error(w, len(b), e)
		}
		asked{load, f, win(w.From-1, w.To), l}.refused(t, api.ErrArg)
		asked{load, f, win(w.From, w.To+1), l}.refused(t, api.ErrArg)
		asked{load, f, win(w.From, w.From), l}.refused(t, api.ErrArg)
	}
	asked{load, f, win(late-6, late), l}.is(t, late-6)
	asked{load, f, win(late-9, late), l}.is(t, late-7, late-6, late-8, late-9)
	asked{load, f, win(-late, -late+9), l}.is(t, -late, -late+1, -late+2, -late+3)
	asked{load, f, win(late-5, late), l}.refused(t, api.ErrPlace)
	asked{load, f, win(-late-1, -late+9), l}.refused(t, api.ErrRange)
	asked{load, f, win(late-9, late+1), l}.refused(t, api.ErrRange)
	asked{load, nil, win(0, 9), l}.refused(t, api.ErrPlace)
	asked{nil, f, win(0, 9), l}.is(t, 0, 1, 2, 3)
	asked{nil, list(), win(0, 9), legs(leg(6, 0, 0))}.is(t, 0, 1, 2, 3)
}

// TestGreatest: the greatest and the smallest costs of a begin, and the greatest between two (P17.2, P17.3).
func TestGreatest(t *testing.T) {
	f := list(seg(-top, 1, 1))
	half := legs(leg(span/2, 1, 1))
	for _, n := range []int64{great, -great} {
		load := list(seg(0, n, n))
		at, c, e := cost.Cheapest(load, f, win(0, span), legs(leg(span, 1, 1)))
		if at != 0 || c != n*2*span || e != api.OK {
			t.Error(at, c, e)
		}
		load = list(seg(-top, n, n), seg(0, -n, -n))
		want := int64(0)
		if n < 0 {
			want = -span / 2
		}
		at, c, e = cost.Cheapest(load, f, win(-span/2, span/2), half)
		if at != want || c != -great*span || e != api.OK {
			t.Error(at, c, e)
		}
		asked{load, f, win(-40, 40), legs(leg(40, 0, 0))}.answers(t)
	}
}

// TestBegins: begins that are written out (P17.2, P17.3).
func TestBegins(t *testing.T) {
	load, f := exampleLoad(), list(seg(0, 9, 9), seg(10, 1, 1), seg(14, 9, 9))
	asked{load, f, win(8, 17), legs(leg(3, 2, 2))}.is(t, 14)
	asked{load, f, win(8, 16), legs(leg(3, 2, 2))}.refused(t, api.ErrPlace)
	asked{load, f, win(6, 18), legs(leg(3, 2, 2))}.is(t, 7, 6, 14, 15)
	asked{load, f, win(6, 22), legs(leg(3, 2, 2))}.is(t, 7, 19, 6, 18, 14, 15, 16, 17)
	asked{load, f, win(6, 14), legs(leg(2, 2, 2), leg(2, 1, 1))}.is(t, 8, 7, 6)
	asked{load, f, win(-9, 3), legs(leg(2, 0, 0))}.is(t, -9, -8, -7, -6, -5, -4, -3, -2, -1, 0, 1)
	// Begins of the same cost, one with a lower one behind them, and one ahead of them.
	asked{list(seg(5, -1, 0), seg(6, 0, 0)), nil, win(0, 9), legs(leg(1, 0, 0))}.is(t, 5, 0, 1, 2, 3, 4, 6, 7, 8)
	asked{list(seg(0, 1, 0), seg(1, 2, 0)), nil, win(0, 5), legs(leg(1, 0, 0))}.is(t, 0, 1, 2, 3, 4)
	asked{list(seg(0, 2, 0), seg(1, 1, 1), seg(2, 0, 2), seg(3, 1, 0), seg(4, 0, 1)), nil, win(0, 5), legs(leg(1, 0, 0))}.is(t, 3, 4, 0, 1, 2)
	asked{list(seg(0, 3, 0), seg(1, 2, 0), seg(2, 1, 0), seg(3, 0, 0), seg(4, -1, 0)), nil, win(0, 5), legs(leg(1, 0, 0))}.is(t, 4, 3, 2, 1, 0)
}

// TestAll: small loads and functions, all windows, some legs (P17.2, P17.3).
func TestAll(t *testing.T) {
	l := sample.Lists(2, leg(1, 2, 1), leg(2, 1, 1), leg(3, 0, -1))
	functions := sample.Shorts([]int64{0, 2, 3}, two(0, 0), two(2, 1))
	for _, load := range sample.Shorts([]int64{0, 1, 4}, two(0, 0), two(2, -1), two(-1, 0), two(1, 2)) {
		for _, f := range functions {
			for from := int64(-1); from < 4; from += 2 {
				for to := from; to < 11; to += 3 {
					for _, x := range l {
						asked{load, f, win(from, to), x}.answers(t)
					}
				}
			}
		}
	}
}

// thrown returns something to ask for in a window of up to so many ticks.
func thrown(d *sample.Dice, most int) asked {
	a := asked{load: d.Steps(most), f: d.Steps(most)}
	a.w, a.l = d.Legs(most)
	return a
}

// TestThrown: long loads, functions and windows, up to 16 legs (P17.2, P17.3).
func TestThrown(t *testing.T) {
	d := sample.Dice(2)
	count := [4]int{}
	for i := range 5000 {
		b, _ := thrown(&d, 20+i%100).answers(t)
		count[min((len(b)+31)/32, 3)]++
	}
	if slices.Min(count[:]) < 50 {
		t.Error(count)
	}
	for range 4 {
		thrown(&d, 4096).answers(t)
	}
}

// TestMany: 64 begins, one fewer and one more of them than there are (P17.3).
func TestMany(t *testing.T) {
	l := legs(leg(1, 1, 1))
	load := list(seg(0, 1, 0), seg(20, 0, 0), seg(40, 2, 2), seg(70, 1, 0))
	for n := int64(62); n < 67; n++ {
		f := box(0, n, two(1, 1))
		b, e := cost.Best(load, f, win(-9, 99), l, 64)
		if len(b) != int(min(n, 64)) || e != api.OK || b[0] != 20 || b[19] != 39 || b[20] != 0 || b[40] != 40 {
			t.Error(n, b, e)
		}
		asked{load, f, win(-9, 99), l}.answers(t)
	}
}

// TestOrder: all that can be wrong together, so each pair too (P17.1, P17.2, P17.3, R2).
func TestOrder(t *testing.T) {
	ok := legs(leg(4, 1, 1))
	bad := legs(leg(4, top+1, 1))
	l := [][]api.Leg{ok, bad, nil, slices.Repeat(ok, 16), slices.Repeat(ok, 17), slices.Repeat(bad, 17), legs(leg(span, 1, 1)), legs(leg(span+1, 1, 1)), legs(leg(0, 1, 1)), legs(leg(0, top+1, 1))}
	loads := append(slices.Clone(wrong), nil, list(), exampleLoad(), list(seg(-9, great+1, 0)), list(seg(top, 0, -great-1)))
	functions := append(slices.Clone(wrong), nil, exampleF(), list(seg(-top, top, top)))
	for _, load := range loads {
		for _, x := range l {
			for _, at := range []int64{0, -late - 1, -late, late, late + 1, math.MinInt64, math.MaxInt64} {
				if n, e := slot.Length(x); n < 100 || e != api.OK {
					costs(t, load, at, x)
				}
			}
			for _, f := range functions {
				for _, w := range append(sample.WrongWindows(), win(0, 9)) {
					asked{load, f, w, x}.answers(t)
				}
			}
		}
	}
	for _, x := range sample.WrongLists() {
		if c, e := costs(t, exampleLoad(), 0, x); e != api.ErrArg {
			t.Error(x, c, e)
		}
		asked{exampleLoad(), exampleF(), win(0, 9), x}.refused(t, api.ErrArg)
	}
}

// plus returns the load that is greater by v from the first time on that a run can have.
func plus(load []api.Seg, v api.Vec) []api.Seg {
	raw := list(api.Seg{At: -top, V: v})
	for _, s := range load {
		raw = append(raw, seg(s.At, s.V.Mem+v.Mem, s.V.Cores+v.Cores))
	}
	f, _ := rle.Of(raw)
	return f
}

// TestAlong: the first begin of Best is the cheapest one, and costs do not decrease along it; the order stays if the load is greater by the same everywhere; without a load it is that of time (P17.4).
func TestAlong(t *testing.T) {
	d := sample.Dice(3)
	some := 0
	for i := range 3000 {
		a := thrown(&d, 10+i%90)
		b, e := cost.Best(a.load, a.f, a.w, a.l, 64)
		at, c, ce := cost.Cheapest(a.load, a.f, a.w, a.l)
		if e != ce {
			t.Fatal(a, e, ce)
		}
		if e != api.OK {
			continue
		}
		some++
		if b[0] != at {
			t.Fatal(a, b, at)
		}
		for _, begin := range b {
			n, ne := cost.Cost(a.load, begin, a.l)
			if n < c || ne != api.OK {
				t.Fatal(a, b, begin, n, c)
			}
			c = n
		}
		more := plus(a.load, two(int64(d.Below(40)-20), int64(d.Below(40)-20)))
		if m, me := cost.Best(more, a.f, a.w, a.l, 64); !slices.Equal(m, b) || me != api.OK {
			t.Fatal(a, more, b, m)
		}
		first, fe := slot.Earliest(a.f, a.w, a.l)
		if at, c, e := cost.Cheapest(nil, a.f, a.w, a.l); at != first || c != 0 || e != fe {
			t.Fatal(a, at, c, first)
		}
		free, _ := cost.Best(nil, a.f, a.w, a.l, 64)
		if !slices.IsSortedFunc(free, cmp.Compare[int64]) || len(free) != len(b) || free[0] != first {
			t.Fatal(a, free)
		}
	}
	if some < 1000 {
		t.Error(some)
	}
}

// TestParts: what a list of legs costs is what its legs do, each where it starts (P17.5).
func TestParts(t *testing.T) {
	d := sample.Dice(4)
	for i := range 3000 {
		load := d.Steps(10 + i%200)
		w, l := d.Legs(10 + i%200)
		at, parts := w.From, int64(0)
		for _, x := range l {
			c, e := cost.Cost(load, at, legs(x))
			if e != api.OK {
				t.Fatal(load, at, x, e)
			}
			parts += c
			at += x.D
		}
		if c, e := cost.Cost(load, w.From, l); c != parts || e != api.OK {
			t.Fatal(load, w, l, c, parts)
		}
	}
}

// TestSlow: the time does not grow with how often a begin and a run meet (P1).
func TestSlow(t *testing.T) {
	load := sample.Comb(-1<<19, 1<<20, 2, two(1, 2))
	for range 12 {
		b, e := cost.Best(load, load, win(0, span), legs(leg(1, 0, 0), leg(2, 0, 0)), 64)
		if e != api.OK || b[0] != 1 || b[1] != 3 || b[63] != 127 {
			t.Fatal(b, e)
		}
		at, c, e := cost.Cheapest(load, load, win(0, span), legs(leg(1, 1, 1), leg(1, 0, 0)))
		if at != 0 || c != 3 || e != api.OK {
			t.Fatal(at, c, e)
		}
		if c, e = cost.Cost(load, -100, slices.Repeat(legs(leg(span, 0, 0)), 16)); c != 3*8*span || e != api.OK {
			t.Fatal(c, e)
		}
	}
}

// TestArguments: what is handed in stays as it was, behind its length too, and is not kept; answers are new memory (P1, R5).
func TestArguments(t *testing.T) {
	whole := append(exampleLoad(), seg(7, 7, 7), seg(1, 1, 1))
	function := append(exampleF(), seg(7, 7, 7))
	row := legs(leg(2, 3, 3), leg(2, 1, 1), leg(1, 0, 0), leg(9, 9, 9))
	for n := range 5 {
		for k := range 4 {
			for _, w := range []api.Win{win(0, 30), win(3, 18), win(28, 31), win(7, 7), win(-9, 2)} {
				load, f, l := slices.Clone(whole), slices.Clone(function), slices.Clone(row)
				b, e := cost.Best(load[:n], f[:2], w, l[:k], 5)
				at, low, ce := cost.Cheapest(load[:n], f[:2], w, l[:k])
				c, oe := cost.Cost(load[:n], w.From, l[:k])
				if !slices.Equal(load, whole) || !slices.Equal(f, function) || !slices.Equal(l, row) {
					t.Fatal(n, k, w, load, f, l)
				}
				was := slices.Clone(b)
				all := b[:cap(b)]
				for i := range all {
					all[i] = -77
				}
				sample.Spoil(load)
				sample.Spoil(f)
				clear(l)
				b2, e2 := cost.Best(whole[:n], function[:2], w, row[:k], 5)
				at2, low2, ce2 := cost.Cheapest(whole[:n], function[:2], w, row[:k])
				c2, oe2 := cost.Cost(whole[:n], w.From, row[:k])
				if !slices.Equal(b2, was) || e2 != e || at2 != at || low2 != low || ce2 != ce || c2 != c || oe2 != oe {
					t.Fatal(n, k, w, was, b2)
				}
			}
		}
	}
}
