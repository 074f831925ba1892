package slot_test

import (
	"math"
	"slices"
	"testing"

	"livery/api"
	"livery/calc"
	"livery/fit"
	"livery/rle"
	"livery/sample"
	"livery/slot"
	"livery/vec"
)

const (
	top  = sample.Top
	late = sample.Late
	span = sample.Span
)

var (
	two   = sample.Vec
	seg   = sample.Seg
	list  = sample.List
	box   = sample.Box
	long  = sample.Long
	spoil = sample.Spoil
	wrong = sample.Wrong()
	win   = sample.Win
	leg   = sample.Leg
	legs  = sample.Legs
)

// asked is what the calls are asked.
type asked struct {
	f []api.Seg
	w api.Win
	l []api.Leg
}

// looked returns by the document's words the begins of what is asked without an error: each time of the window, each leg and each tick of it is looked at one by one.
func (a asked) looked() []api.Win {
	values := make([]api.Vec, 0, a.w.To-a.w.From)
	for t := a.w.From; t < a.w.To; t++ {
		values = append(values, rle.At(a.f, t))
	}
	var l []api.Win
	for i := range values {
		if !begins(values[i:], a.l) {
			continue
		}
		t := a.w.From + int64(i)
		if n := len(l); n > 0 && l[n-1].To == t {
			l[n-1].To++
		} else {
			l = append(l, win(t, t+1))
		}
	}
	return l
}

// begins reports whether the legs can begin where the first of the values is, behind the last of which they must not reach.
func begins(values []api.Vec, l []api.Leg) bool {
	n := 0
	for _, x := range l {
		for range x.D {
			if n == len(values) || !vec.LE(x.V, values[n]) {
				return false
			}
			n++
		}
	}
	return true
}

// begins returns what Begins answers; it is held against the document's words, Earliest and Latest against its first and its last time.
func (a asked) begins(t *testing.T) ([]api.Win, api.Errno) {
	t.Helper()
	we := sample.LegsFault(a.f, a.w, a.l)
	var want []api.Win
	if we == api.OK {
		want = a.looked()
	}
	b, e := slot.Begins(a.f, a.w, a.l)
	if !slices.Equal(b, want) || e != we || len(b) == 0 && b != nil {
		t.Fatalf("Begins(%v): %v, %d; want %v, %d", a, b, e, want, we)
	}
	var first, last int64
	if len(want) > 0 {
		first, last = want[0].From, want[len(want)-1].To-1
	} else if we == api.OK {
		we = api.ErrPlace
	}
	if at, e := slot.Earliest(a.f, a.w, a.l); at != first || e != we {
		t.Fatalf("Earliest(%v): %d, %d; want %d, %d", a, at, e, first, we)
	}
	if at, e := slot.Latest(a.f, a.w, a.l); at != last || e != we {
		t.Fatalf("Latest(%v): %d, %d; want %d, %d", a, at, e, last, we)
	}
	return b, e
}

// is holds the answers against what is expected.
func (a asked) is(t *testing.T, want ...api.Win) {
	t.Helper()
	if b, e := a.begins(t); !slices.Equal(b, want) || e != api.OK {
		t.Errorf("Begins(%v): %v, %d; want %v", a, b, e, want)
	}
}

// refused holds the answers against the error that is expected.
func (a asked) refused(t *testing.T, want api.Errno) {
	t.Helper()
	if b, e := a.begins(t); e != want {
		t.Errorf("Begins(%v): %v, %d; want %d", a, b, e, want)
	}
}

// example returns f of the chapter's examples.
func example() []api.Seg {
	return list(seg(0, 5, 5), seg(10, 2, 2), seg(12, 5, 5), seg(20, 0, 0))
}

// L and M of the chapter's examples.
func exampleL() []api.Leg { return legs(leg(4, 3, 3)) }
func exampleM() []api.Leg { return legs(leg(4, 3, 3), leg(2, 1, 1)) }

// TestExamples: the chapter's (P16.1, P16.2, P16.3).
func TestExamples(t *testing.T) {
	f := example()
	asked{f, win(0, 30), exampleL()}.is(t, win(0, 7), win(12, 17))
	asked{f, win(0, 30), exampleM()}.is(t, win(0, 7), win(12, 15))
	asked{f, win(7, 15), exampleL()}.is(t)
	asked{f, win(7, 7), exampleL()}.refused(t, api.ErrArg)
	type answer struct {
		n int64
		e api.Errno
	}
	got := [6]answer{}
	got[0].n, got[0].e = slot.Earliest(f, win(0, 30), exampleL())
	got[1].n, got[1].e = slot.Latest(f, win(0, 30), exampleL())
	got[2].n, got[2].e = slot.Earliest(f, win(7, 30), exampleL())
	got[3].n, got[3].e = slot.Length(exampleM())
	got[4].n, got[4].e = slot.Earliest(f, win(7, 15), exampleL())
	got[5].n, got[5].e = slot.Earliest(f, win(7, 7), exampleL())
	want := [6]answer{{0, 0}, {16, 0}, {12, 0}, {6, 0}, {0, api.ErrPlace}, {0, api.ErrArg}}
	if got != want {
		t.Error(got, want)
	}
}

// TestBegins: answers that are written out (P16.1, P16.2).
func TestBegins(t *testing.T) {
	f := example()
	small := list(seg(0, 1, 1), seg(1, 3, 3), seg(2, 0, 0), seg(4, 3, 3), seg(5, 1, 1), seg(6, 3, 3), seg(9, 1, 3), seg(11, 3, 1))
	for _, x := range []struct {
		a    asked
		want []api.Win
	}{
		// Begins that touch the window's ends, one of them, none.
		{asked{f, win(0, 4), exampleL()}, []api.Win{win(0, 1)}},
		{asked{f, win(2, 10), exampleL()}, []api.Win{win(2, 7)}},
		{asked{f, win(2, 9), exampleL()}, []api.Win{win(2, 6)}},
		{asked{f, win(2, 16), exampleL()}, []api.Win{win(2, 7), win(12, 13)}},
		{asked{f, win(6, 16), exampleL()}, []api.Win{win(6, 7), win(12, 13)}},
		{asked{f, win(7, 16), exampleL()}, []api.Win{win(12, 13)}},
		{asked{f, win(11, 20), exampleL()}, []api.Win{win(12, 17)}},
		{asked{f, win(-9, 25), exampleL()}, []api.Win{win(0, 7), win(12, 17)}},
		{asked{f, win(7, 15), exampleL()}, nil},
		{asked{f, win(-9, 3), exampleL()}, nil},
		{asked{f, win(17, 99), exampleL()}, nil},
		// What both runs have is enough across both.
		{asked{f, win(0, 30), legs(leg(4, 2, 2))}, []api.Win{win(0, 17)}},
		{asked{f, win(0, 30), legs(leg(20, 2, 2))}, []api.Win{win(0, 1)}},
		{asked{f, win(0, 30), legs(leg(21, 2, 2))}, nil},
		{asked{f, win(0, 30), legs(leg(2, 3, 2))}, []api.Win{win(0, 9), win(12, 19)}},
		{asked{f, win(0, 30), legs(leg(2, 2, 3))}, []api.Win{win(0, 9), win(12, 19)}},
		{asked{f, win(0, 30), legs(leg(2, 5, 5))}, []api.Win{win(0, 9), win(12, 19)}},
		{asked{f, win(0, 30), legs(leg(2, 5, 6))}, nil},
		{asked{f, win(0, 30), legs(leg(2, 6, 5))}, nil},
		// Several windows of one tick each, none of them adjacent.
		{asked{small, win(0, 9), legs(leg(1, 2, 2))}, []api.Win{win(1, 2), win(4, 5), win(6, 9)}},
		{asked{small, win(0, 20), legs(leg(1, 2, 0))}, []api.Win{win(1, 2), win(4, 5), win(6, 9), win(11, 20)}},
		{asked{small, win(0, 20), legs(leg(2, 2, 0))}, []api.Win{win(6, 8), win(11, 19)}},
		{asked{small, win(0, 20), legs(leg(2, 0, 2))}, []api.Win{win(6, 10)}},
		{asked{small, win(0, 20), legs(leg(1, 3, 3), leg(1, 0, 0))}, []api.Win{win(1, 2), win(4, 5), win(6, 9)}},
		{asked{small, win(0, 20), legs(leg(1, 0, 0), leg(1, 3, 3))}, []api.Win{win(0, 1), win(3, 4), win(5, 8)}},
		{asked{small, win(0, 20), legs(leg(1, 3, 3), leg(1, 1, 1), leg(1, 3, 3))}, []api.Win{win(4, 5), win(6, 7)}},
		{asked{small, win(1, 7), legs(leg(1, 3, 3), leg(1, 1, 1), leg(1, 3, 3))}, []api.Win{win(4, 5)}},
		{asked{small, win(1, 6), legs(leg(1, 3, 3), leg(1, 1, 1), leg(1, 3, 3))}, nil},
		{asked{small, win(0, 20), legs(leg(2, 1, 3), leg(2, 3, 1))}, []api.Win{win(9, 10)}},
		// The legs are together as long as the window, one tick longer, and longer than any window.
		{asked{f, win(3, 9), exampleM()}, []api.Win{win(3, 4)}},
		{asked{f, win(3, 8), exampleM()}, nil},
		{asked{nil, win(0, span), legs(leg(span, 0, 0))}, []api.Win{win(0, 1)}},
		{asked{nil, win(0, span), legs(leg(span-1, 0, 0))}, []api.Win{win(0, 2)}},
		{asked{nil, win(0, span-1), legs(leg(span, 0, 0))}, nil},
		{asked{nil, win(0, span), legs(leg(span, 0, 0), leg(1, 0, 0))}, nil},
		{asked{nil, win(0, span), legs(leg(span-1, 0, 0), leg(1, 0, 0))}, []api.Win{win(0, 1)}},
		{asked{nil, win(5, 6), slices.Repeat(legs(leg(span, 0, 0)), 16)}, nil},
		{asked{nil, win(5, 21), slices.Repeat(legs(leg(1, 0, 0)), 16)}, []api.Win{win(5, 6)}},
		{asked{nil, win(5, 20), slices.Repeat(legs(leg(1, 0, 0)), 16)}, nil},
		{asked{nil, win(5, 6), legs(leg(1, 0, 0))}, []api.Win{win(5, 6)}},
		// Where there is nothing, or less.
		{asked{nil, win(0, 9), legs(leg(2, 1, 0))}, nil},
		{asked{list(), win(0, 9), legs(leg(2, 0, 1))}, nil},
		{asked{list(), win(0, 9), legs(leg(2, -1, 0))}, []api.Win{win(0, 8)}},
		{asked{list(seg(3, -1, 1)), win(0, 9), legs(leg(2, 0, 0))}, []api.Win{win(0, 2)}},
		{asked{list(seg(3, -1, 1)), win(0, 9), legs(leg(2, -1, 0))}, []api.Win{win(0, 8)}},
		// Runs across the window's ends, and beside it.
		{asked{box(-top, top, two(3, 3)), win(-5, 5), legs(leg(2, 3, 3))}, []api.Win{win(-5, 4)}},
		{asked{box(-9, 2, two(3, 3)), win(-5, 5), legs(leg(2, 3, 3))}, []api.Win{win(-5, 1)}},
		{asked{box(2, 99, two(3, 3)), win(-5, 5), legs(leg(2, 3, 3))}, []api.Win{win(2, 4)}},
		{asked{box(5, 99, two(3, 3)), win(-5, 5), legs(leg(2, 3, 3))}, nil},
		{asked{box(-99, -5, two(3, 3)), win(-5, 5), legs(leg(2, 3, 3))}, nil},
		{asked{box(-99, -5, two(-3, -3)), win(-5, 5), legs(leg(2, 0, 0))}, []api.Win{win(-5, 4)}},
		{asked{list(seg(5, -3, -3)), win(-5, 5), legs(leg(2, 0, 0))}, []api.Win{win(-5, 4)}},
	} {
		x.a.is(t, x.want...)
	}
}

// TestAll: small functions, all windows, all lists of up to three of some legs, and none (P16.1, P16.2).
func TestAll(t *testing.T) {
	short := sample.Lists(3, leg(1, 2, 1), leg(2, 1, 1), leg(3, 0, -1), leg(2, -1, 2))
	for _, f := range append(sample.Shorts([]int64{0, 2, 3, 7}, two(0, 0), two(2, 1), two(-1, 3)), long(9, 1), long(9, 2)) {
		for from := int64(-2); from < 8; from += 2 {
			for to := from - 1; to < 11; to += 2 {
				for _, l := range short {
					asked{f, win(from, to), l}.begins(t)
				}
			}
		}
	}
}

// thrown returns something to ask for in a window of up to so many ticks.
func thrown(d *sample.Dice, most int) asked {
	a := asked{f: d.Steps(most)}
	a.w, a.l = d.Legs(most)
	return a
}

// TestThrown: long functions and windows, up to 16 legs (P16.1, P16.2).
func TestThrown(t *testing.T) {
	d := sample.Dice(1)
	count := [4]int{}
	for i := range 20000 {
		a := thrown(&d, 20+i%100)
		b, _ := a.begins(t)
		count[min(len(b), 3)]++
	}
	for range 40 {
		a := thrown(&d, 4096)
		b, _ := a.begins(t)
		count[min(len(b), 3)]++
	}
	if slices.Min(count[:]) < 400 {
		t.Error(count)
	}
}

// TestComb: as many windows of begins as there can be, and functions with many runs beside the window (P16.1, P16.2).
func TestComb(t *testing.T) {
	for _, width := range []int64{2, 3, 64} {
		for _, from := range []int64{0, -1} {
			f := sample.Comb(from, 5000, width, two(2, 2))
			for _, l := range [][]api.Leg{
				legs(leg(1, 2, 2)),
				legs(leg(1, 2, 2), leg(1, 0, 0)),
				legs(leg(1, 0, 0), leg(1, 1, 1)),
				legs(leg(1, 2, 2), leg(width-1, 0, 0), leg(1, 1, 2)),
				slices.Repeat(legs(leg(1, 1, 1), leg(width-1, 0, 0)), 8),
				slices.Repeat(legs(leg(1, 0, 1)), 2),
			} {
				for _, w := range []api.Win{win(0, span), win(1, 300), win(2, 301), win(-200, 7), win(4900, 5100)} {
					asked{f, w, l}.begins(t)
				}
			}
		}
	}
	b, e := slot.Begins(sample.Comb(0, 5000, 2, two(1, 1)), win(0, span), legs(leg(1, 1, 1)))
	if len(b) != 2048 || e != api.OK {
		t.Error(len(b), e)
	}
}

// TestSlow: the time does not grow with how often a leg, a run and a window of begins meet (P1).
func TestSlow(t *testing.T) {
	f := sample.Comb(-1<<19, 1<<20, 2, two(1, 1))
	for range 100 {
		if b, e := slot.Begins(f, win(0, span), slices.Repeat(legs(leg(1, 0, 0), leg(1, 0, 1)), 8)); len(b) != 2041-1 || e != api.OK {
			t.Fatal(len(b), e)
		}
	}
}

// TestWindows: windows, and times, at the limits and one beyond (P16.1, P16.2).
func TestWindows(t *testing.T) {
	one := legs(leg(1, 1, 1))
	functions := [][]api.Seg{nil, example(), list(seg(-top, 1, 1), seg(-late, 2, 2), seg(0, 0, 0), seg(late-9, 3, 3), seg(late, 0, 0), seg(top, 5, 5))}
	for _, f := range functions {
		for _, at := range []int64{-late - 1, -late, -late + 1, -1, 0, late - span, late - span + 1, late - 1, late, late + 1, -top, top, math.MinInt64, math.MinInt64 + 1, math.MaxInt64 - 1, math.MaxInt64} {
			for _, d := range []int64{0, 1, 2, span - 1, span, span + 1, -1, -span, top, -top, math.MaxInt64, math.MinInt64} {
				// Sums that are too great come out as windows of all kinds.
				asked{f, win(at, at+d), one}.begins(t)
				asked{f, win(at-d, at), one}.begins(t)
			}
		}
	}
	f := functions[2]
	asked{f, win(-late, -late+span), one}.is(t, win(-late, -late+span))
	asked{f, win(-late, -late+1), one}.is(t, win(-late, -late+1))
	asked{f, win(late-span, late), one}.is(t, win(late-9, late))
	asked{f, win(late-1, late), one}.is(t, win(late-1, late))
	asked{f, win(-late-1, -late), one}.refused(t, api.ErrRange)
	asked{f, win(-late-1, -late+span-1), one}.refused(t, api.ErrRange)
	asked{f, win(late-span+1, late+1), one}.refused(t, api.ErrRange)
	asked{f, win(late, late+1), one}.refused(t, api.ErrRange)
	asked{f, win(late+1, late+2), one}.refused(t, api.ErrRange)
	asked{f, win(-late-1, -late+span), one}.refused(t, api.ErrArg)
	asked{f, win(late-span, late+1), one}.refused(t, api.ErrArg)
	asked{f, win(0, span+1), one}.refused(t, api.ErrArg)
	asked{f, win(5, 5), one}.refused(t, api.ErrArg)
	asked{f, win(6, 5), one}.refused(t, api.ErrArg)
	asked{f, win(late+5, late+5), one}.refused(t, api.ErrArg)
	asked{f, win(math.MinInt64, math.MaxInt64), one}.refused(t, api.ErrArg)
	asked{f, win(-1, math.MaxInt64), one}.refused(t, api.ErrArg)
	asked{f, win(math.MaxInt64, math.MinInt64), one}.refused(t, api.ErrArg)
	asked{f, win(math.MaxInt64-span, math.MaxInt64), one}.refused(t, api.ErrRange)
	asked{f, win(math.MinInt64, math.MinInt64+span), one}.refused(t, api.ErrRange)
}

// TestLegs: lists of legs, and their vectors, at the limits and one beyond (P16.1, P16.2).
func TestLegs(t *testing.T) {
	f := list(seg(-top, top, 5), seg(3, 5, top), seg(6, top, top), seg(9, -top, -top))
	for _, l := range sample.WrongLists() {
		asked{f, win(0, 9), l}.refused(t, api.ErrArg)
	}
	for _, v := range sample.WrongVectors() {
		for n := range 16 {
			for at := range n + 1 {
				l := slices.Repeat(legs(leg(1, 0, 0)), n+1)
				l[at].V = v
				asked{f, win(0, 9), l}.refused(t, api.ErrRange)
				asked{nil, win(0, 1), l}.refused(t, api.ErrRange)
			}
		}
	}
	asked{f, win(-9, 20), legs(leg(1, top, top))}.is(t, win(6, 9))
	asked{f, win(-9, 20), legs(leg(1, top, 0))}.is(t, win(-9, 3), win(6, 9))
	asked{f, win(-9, 20), legs(leg(1, 0, top))}.is(t, win(3, 9))
	asked{f, win(-9, 20), legs(leg(1, -top, -top))}.is(t, win(-9, 20))
	asked{f, win(-9, 20), legs(leg(1, -top, 1-top))}.is(t, win(-9, 9))
	asked{f, win(-9, 20), legs(leg(1, 1-top, -top))}.is(t, win(-9, 9))
	asked{f, win(-9, 20), slices.Repeat(legs(leg(1, 1, 1)), 16)}.is(t, win(-9, -6))
	asked{f, win(0, span), legs(leg(span, -top, -top))}.is(t, win(0, 1))
}

// TestOrder: all that can be wrong together, so each pair too (P16.1, P16.2, R2).
func TestOrder(t *testing.T) {
	var all [][]api.Leg
	for _, l := range append(sample.WrongLists(), legs(leg(1, 1, 1)), legs(leg(4, 0, 0), leg(4096, 1, 1))) {
		all = append(all, l)
		if len(l) > 0 {
			bad := slices.Clone(l)
			bad[0].V = two(top+1, 0)
			all = append(all, bad)
		}
	}
	windows := append(sample.WrongWindows(), win(0, 9))
	for _, f := range append(slices.Clone(wrong), nil, list(), example(), list(seg(-top, top, top))) {
		for _, w := range windows {
			for _, l := range all {
				asked{f, w, l}.begins(t)
			}
		}
	}
}

// TestLength: the sum, for all lists, whatever else is wrong with their legs (P16.3).
func TestLength(t *testing.T) {
	for _, l := range sample.WrongLists() {
		if n, e := slot.Length(l); n != 0 || e != api.ErrArg {
			t.Error(l, n, e)
		}
	}
	is := func(l []api.Leg, want int64) {
		t.Helper()
		if n, e := slot.Length(l); n != want || e != api.OK {
			t.Error(l, n, e)
		}
	}
	is(legs(leg(1, 1, 1)), 1)
	is(legs(leg(span, 1, 1)), span)
	is(slices.Repeat(legs(leg(1, 1, 1)), 16), 16)
	is(slices.Repeat(legs(leg(span, 1, 1)), 16), 65536)
	for _, v := range append(sample.WrongVectors(), two(-1, -1), two(0, 0)) {
		is(legs(leg(3, 0, 0), api.Leg{D: 2, V: v}), 5)
	}
	d := sample.Dice(2)
	for range 1000 {
		var l []api.Leg
		var sum int64
		for range 1 + d.Below(16) {
			n := int64(1 + d.Below(4096))
			l = append(l, leg(n, 1, 1))
			sum += n
		}
		is(l, sum)
	}
}

// at reports whether t is one of the begins.
func at(begins []api.Win, t int64) bool {
	return slices.ContainsFunc(begins, func(w api.Win) bool { return w.From <= t && t < w.To })
}

// fits reports whether each leg fits where it is if the first one starts at t, and the last one ends in the window.
func (a asked) fits(t *testing.T, at int64) bool {
	t.Helper()
	all := true
	for _, x := range a.l {
		is, e := fit.Fits(a.f, at, x.D, x.V)
		if e != api.OK {
			t.Fatal(a, at, e)
		}
		all = all && is
		at += x.D
	}
	return all && at <= a.w.To
}

// TestFits: the legs can begin where each of them fits, and nowhere else (P16.4).
func TestFits(t *testing.T) {
	d := sample.Dice(3)
	count := [2]int{}
	for i := range 4000 {
		a := thrown(&d, 10+i%60)
		b, _ := a.begins(t)
		for time := a.w.From; time < a.w.To; time++ {
			is := at(b, time)
			if is != a.fits(t, time) {
				t.Fatal(a, b, time)
			}
			if is {
				count[1]++
			} else {
				count[0]++
			}
		}
	}
	if min(count[0], count[1]) < 10000 {
		t.Error(count)
	}
}

// contains holds begins, which others must be too, against the others.
func (a asked) contains(t *testing.T, begins []api.Win) {
	t.Helper()
	more, e := a.begins(t)
	for _, w := range begins {
		// As no two windows of begins are adjacent, one of them has all of w.
		if e != api.OK || !slices.ContainsFunc(more, func(v api.Win) bool { return v.From <= w.From && w.To <= v.To }) {
			t.Fatal(a, begins, more, e)
		}
	}
}

// TestStay: begins that stay begins (P16.4).
func TestStay(t *testing.T) {
	d := sample.Dice(5)
	some := 0
	for i := range 4000 {
		a := thrown(&d, 10+i%60)
		b, _ := a.begins(t)
		some += min(len(b), 1)
		wide := a
		wide.w.From -= int64(d.Below(9))
		wide.contains(t, b)
		wide.w.To += int64(d.Below(9))
		wide.contains(t, b)
		great := a
		great.f, _ = calc.Add(a.f, d.Amount())
		great.contains(t, b)
		short := a
		for len(short.l) > 1 {
			short.l = short.l[:len(short.l)-1]
			short.contains(t, b)
		}
	}
	if some < 1000 {
		t.Error(some)
	}
}

// TestArguments: what is handed in stays as it was, behind its length too, and is not kept; answers are new memory (P1, R5).
func TestArguments(t *testing.T) {
	whole := append(example(), seg(7, 7, 7), seg(1, 1, 1))
	row := legs(leg(2, 3, 3), leg(2, 1, 1), leg(1, 0, 0), leg(9, 9, 9))
	for n := range 5 {
		for k := range 4 {
			for _, w := range []api.Win{win(0, 30), win(3, 18), win(7, 15), win(7, 7), win(-9, 2)} {
				f, l := slices.Clone(whole), slices.Clone(row)
				b, e := slot.Begins(f[:n], w, l[:k])
				first, fe := slot.Earliest(f[:n], w, l[:k])
				last, le := slot.Latest(f[:n], w, l[:k])
				length, ne := slot.Length(l[:k])
				was := slices.Clone(b)
				all := b[:cap(b)]
				for i := range all {
					all[i] = win(-7, -7)
				}
				if !slices.Equal(f, whole) || !slices.Equal(l, row) {
					t.Fatal(n, k, w, f, l)
				}
				spoil(f)
				clear(l)
				again, ae := asked{whole[:n], w, row[:k]}.begins(t)
				if !slices.Equal(again, was) || ae != e {
					t.Fatal(n, k, w, was, again)
				}
				first2, fe2 := slot.Earliest(whole[:n], w, row[:k])
				last2, le2 := slot.Latest(whole[:n], w, row[:k])
				length2, ne2 := slot.Length(row[:k])
				if first2 != first || fe2 != fe || last2 != last || le2 != le || length2 != length || ne2 != ne {
					t.Fatal(n, k, w)
				}
			}
		}
	}
}
