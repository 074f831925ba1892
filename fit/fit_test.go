package fit_test

import (
	"math"
	"slices"
	"testing"

	"livery/api"
	"livery/calc"
	"livery/fit"
	"livery/policy"
	"livery/rle"
	"livery/sample"
)

const (
	top  = sample.Top
	late = int64(1 << 40)
	span = int64(4096)
)

var (
	vec     = sample.Vec
	seg     = sample.Seg
	list    = sample.List
	box     = sample.Box
	long    = sample.Long
	value   = sample.Value
	below   = sample.Below
	spoil   = sample.Spoil
	wrong   = sample.Wrong()
	commit  = sample.Commit
	bound   = sample.Bound
	average = sample.Average
)

// minus returns a - b.
func minus(a, b api.Vec) api.Vec { return vec(a.Mem-b.Mem, a.Cores-b.Cores) }

// may reports by the document's words whether v is valid.
func may(v api.Vec) bool { return below(vec(-top, -top), v) && below(v, vec(top, top)) }

// times returns t, the times at which a function of the list changes, and the times beside them: what is the same at all of these for two functions of the list is the same at every time.
func times(t int64, l ...[]api.Seg) []int64 {
	all := []int64{t - 1, t, t + 1}
	for _, f := range l {
		for _, s := range f {
			all = append(all, s.At-1, s.At, s.At+1)
		}
	}
	return all
}

// asked is what Free is asked.
type asked struct {
	capacity, load, own []api.Seg
	l                   []api.Policy
	from                int64
}

// value returns by the document's words the value of the free function at a time, and whether all differences of that time are valid.
func (a asked) value(at int64) (v api.Vec, is bool) {
	if at < a.from {
		return vec(0, 0), true
	}
	v, is = vec(top, top), true
	for _, x := range a.l {
		var left api.Vec
		switch x.Kind {
		case 0:
			left = minus(value(a.capacity, at), value(a.load, at))
		case 1:
			left = minus(x.Cap, value(a.own, at))
		default:
			continue
		}
		v = vec(min(v.Mem, left.Mem), min(v.Cores, left.Cores))
		is = is && may(left)
	}
	return v, is
}

// fault returns by the document's words the error of what is asked.
func (a asked) fault() api.Errno {
	if !rle.May(a.capacity) || !rle.May(a.load) || !rle.May(a.own) {
		return api.ErrForm
	}
	for _, x := range a.l {
		if x.Kind > 2 {
			return api.ErrArg
		}
	}
	for _, x := range a.l {
		if x.Kind == 1 && !may(x.Cap) {
			return api.ErrRange
		}
	}
	if a.from < -late || a.from > late {
		return api.ErrRange
	}
	for _, at := range times(a.from, a.capacity, a.load, a.own) {
		if _, is := a.value(at); !is {
			return api.ErrRange
		}
	}
	return api.OK
}

// free returns what Free answers, which is held against the document's words at every time.
func (a asked) free(t *testing.T) ([]api.Seg, api.Errno) {
	t.Helper()
	f, e := fit.Free(a.capacity, a.load, a.own, a.l, a.from)
	if e != a.fault() || e != api.OK && f != nil || !rle.May(f) || len(f) == 0 && f != nil {
		t.Fatalf("Free(%v): %v, %d; want %d", a, f, e, a.fault())
	}
	if e != api.OK {
		return nil, e
	}
	for _, at := range times(a.from, a.capacity, a.load, a.own, f) {
		if want, _ := a.value(at); value(f, at) != want {
			t.Fatalf("Free(%v): %v: %v at %d; want %v", a, f, value(f, at), at, want)
		}
	}
	return f, e
}

// is holds an answer of Free against what is expected.
func (a asked) is(t *testing.T, want []api.Seg, we api.Errno) {
	t.Helper()
	if f, e := a.free(t); !slices.Equal(f, want) || e != we {
		t.Errorf("Free(%v): %v, %d; want %v, %d", a, f, e, want, we)
	}
}

// window is where something is to fit: in a function, from when on, for how many ticks.
type window struct {
	f     []api.Seg
	at, d int64
}

// fault returns by the document's words the error of what is asked about a vector, or about a unit.
func (w window) fault(v api.Vec, unit bool) api.Errno {
	switch {
	case !rle.May(w.f):
		return api.ErrForm
	case w.d < 1 || w.d > 4096 || unit && (v.Mem < 1 || v.Cores < 1):
		return api.ErrArg
	case w.at < -late || w.at > late || !may(v):
		return api.ErrRange
	}
	return api.OK
}

// looked reports whether v fits into the window, whose ticks are looked at one by one.
func (w window) looked(v api.Vec) bool {
	for i := range w.d {
		if !below(v, value(w.f, w.at+i)) {
			return false
		}
	}
	return true
}

// fits returns what Fits answers, which is held against the document's words.
func (w window) fits(t *testing.T, v api.Vec) (bool, api.Errno) {
	t.Helper()
	we := w.fault(v, false)
	want := we == api.OK && w.looked(v)
	is, e := fit.Fits(w.f, w.at, w.d, v)
	if is != want || e != we {
		t.Fatalf("Fits(%v, %v): %t, %d; want %t, %d", w, v, is, e, want, we)
	}
	return is, e
}

// take returns what Take answers, which is held against the document's words at every time.
func (w window) take(t *testing.T, v api.Vec) ([]api.Seg, api.Errno) {
	t.Helper()
	we := w.fault(v, false)
	less := func(at int64) api.Vec {
		if at < w.at || at >= w.at+w.d {
			return value(w.f, at)
		}
		return minus(value(w.f, at), v)
	}
	f, e := fit.Take(w.f, w.at, w.d, v)
	all := append(times(w.at, w.f, f), w.at+w.d-1, w.at+w.d)
	for _, at := range all {
		if we == api.OK && !may(less(at)) {
			we = api.ErrRange
		}
	}
	if e != we || e != api.OK && f != nil || !rle.May(f) || len(f) == 0 && f != nil {
		t.Fatalf("Take(%v, %v): %v, %d; want %d", w, v, f, e, we)
	}
	for _, at := range all {
		if e == api.OK && value(f, at) != less(at) {
			t.Fatalf("Take(%v, %v): %v: %v at %d; want %v", w, v, f, value(f, at), at, less(at))
		}
	}
	return f, e
}

// most returns what Most answers, which is held against Fits: so many fit, unless none does, and one more does not.
func (w window) most(t *testing.T, unit api.Vec) (int64, api.Errno) {
	t.Helper()
	n, e := fit.Most(w.f, w.at, w.d, unit)
	if we := w.fault(unit, true); e != we || n < 0 || e != api.OK && n != 0 {
		t.Fatalf("Most(%v, %v): %d, %d; want %d", w, unit, n, e, we)
	}
	if e == api.OK && n > 0 && !w.holds(unit, n) || e == api.OK && w.holds(unit, n+1) {
		t.Fatalf("Most(%v, %v): %d", w, unit, n)
	}
	return n, e
}

// holds reports by Fits whether so many units fit, of which so many that they are no valid vector don't.
func (w window) holds(unit api.Vec, n int64) bool {
	is, _ := fit.Fits(w.f, w.at, w.d, vec(n*unit.Mem, n*unit.Cores))
	return is
}

// C, L and O of the chapter's examples.
func capacity() []api.Seg { return list(seg(0, 10, 10)) }
func load() []api.Seg     { return box(2, 8, vec(3, 1)) }

// TestExamples: the chapter's (P15.1, P15.2, P15.3).
func TestExamples(t *testing.T) {
	f := list(seg(0, 10, 10), seg(2, 7, 9), seg(8, 10, 10))
	asked{capacity(), load(), load(), []api.Policy{commit()}, 0}.is(t, f, api.OK)
	asked{capacity(), load(), load(), []api.Policy{bound(4, 4)}, 3}.is(t, list(seg(3, 1, 3), seg(8, 4, 4)), api.OK)
	if is, e := (window{f, 1, 3}).fits(t, vec(7, 9)); !is || e != api.OK {
		t.Error(is, e)
	}
	if is, e := (window{f, 1, 2}).fits(t, vec(8, 1)); is || e != api.OK {
		t.Error(is, e)
	}
	if n, e := (window{f, 0, 9}).most(t, vec(2, 2)); n != 3 || e != api.OK {
		t.Error(n, e)
	}
	if g, e := (window{f, 0, 2}).take(t, vec(10, 10)); !slices.Equal(g, list(seg(2, 7, 9), seg(8, 10, 10))) || e != api.OK {
		t.Error(g, e)
	}
}

// rows returns lists of policies: none, each kind alone, beside others, several of a kind, and such with fields that matter to layer 13 alone.
func rows() [][]api.Policy {
	return [][]api.Policy{
		nil,
		{},
		{commit()},
		{commit(), commit()},
		{bound(2, 2)},
		{bound(-1, 1)},
		{bound(0, 3), bound(3, 0)},
		{bound(3, 1), bound(1, 1), bound(2, 5)},
		{average(3, 1, 1)},
		{average(3, 1, 1), average(9, 0, 0)},
		{average(1, 0, 0), commit()},
		{bound(2, 3), average(4, 1, 2)},
		{commit(), bound(1, 2)},
		{bound(1, 2), commit()},
		{bound(1, 2), average(2, 2, 2), commit(), bound(3, 1), commit()},
		{{Kind: 0, Cap: vec(-5, -5), Win: -5}, {Kind: 1, Cap: vec(1, 1), Win: 7}, {Kind: 2, Cap: vec(-9, -9), Win: -1}},
	}
}

// TestFree: answers that are written out (P15.1).
func TestFree(t *testing.T) {
	rest := list(seg(0, 10, 10), seg(2, 7, 9), seg(8, 10, 10))
	most := list(seg(0, top, top))
	open := list(seg(2, 3, 1), seg(5, 12, 1))
	for _, x := range []struct {
		capacity, load, own []api.Seg
		l                   []api.Policy
		from                int64
		want                []api.Seg
	}{
		// Nothing bounds the user, or only an average, but for the greatest value.
		{capacity(), load(), load(), nil, 0, most},
		{capacity(), load(), load(), []api.Policy{average(3, 1, 1)}, 0, most},
		{nil, nil, nil, nil, -5, list(seg(-5, top, top))},
		{nil, nil, nil, []api.Policy{average(4096, 0, 0), average(1, 0, 0)}, 7, list(seg(7, top, top))},
		// The empty function as each of the three.
		{nil, nil, nil, []api.Policy{commit()}, 0, nil},
		{list(), list(), list(), []api.Policy{commit(), bound(0, 0)}, 0, nil},
		{capacity(), nil, nil, []api.Policy{commit()}, -1, capacity()},
		{nil, load(), nil, []api.Policy{commit()}, 0, box(2, 8, vec(-3, -1))},
		{nil, nil, nil, []api.Policy{bound(3, 4)}, 0, list(seg(0, 3, 4))},
		{nil, nil, load(), []api.Policy{bound(3, 4)}, 0, list(seg(0, 3, 4), seg(2, 0, 3), seg(8, 3, 4))},
		// The time is before every run, at a run's begin, between two, at the last one and beyond it.
		{capacity(), load(), load(), []api.Policy{commit()}, -9, rest},
		{capacity(), load(), load(), []api.Policy{commit()}, 0, rest},
		{capacity(), load(), load(), []api.Policy{commit()}, 1, list(seg(1, 10, 10), seg(2, 7, 9), seg(8, 10, 10))},
		{capacity(), load(), load(), []api.Policy{commit()}, 2, list(seg(2, 7, 9), seg(8, 10, 10))},
		{capacity(), load(), load(), []api.Policy{commit()}, 7, list(seg(7, 7, 9), seg(8, 10, 10))},
		{capacity(), load(), load(), []api.Policy{commit()}, 8, list(seg(8, 10, 10))},
		{capacity(), load(), load(), []api.Policy{commit()}, 100, list(seg(100, 10, 10))},
		{box(0, 5, vec(4, 4)), nil, nil, []api.Policy{commit()}, 5, nil},
		{box(0, 5, vec(4, 4)), nil, nil, []api.Policy{commit()}, 9, nil},
		// Each policy once, and several times.
		{capacity(), load(), load(), []api.Policy{commit(), commit()}, 0, rest},
		{capacity(), load(), load(), []api.Policy{average(2, 0, 0), commit(), average(2, 0, 0)}, 0, rest},
		{capacity(), load(), load(), []api.Policy{bound(5, 9), bound(9, 5)}, 0, list(seg(0, 5, 5), seg(2, 2, 4), seg(8, 5, 5))},
		{capacity(), load(), load(), []api.Policy{bound(6, 6), bound(5, 5), bound(7, 7)}, 0, list(seg(0, 5, 5), seg(2, 2, 4), seg(8, 5, 5))},
		{capacity(), load(), load(), []api.Policy{commit(), bound(12, 4)}, 0, list(seg(0, 10, 4), seg(2, 7, 3), seg(8, 10, 4))},
		{capacity(), load(), load(), []api.Policy{bound(12, 4), average(5, 1, 1), commit()}, 0, list(seg(0, 10, 4), seg(2, 7, 3), seg(8, 10, 4))},
		// The load is of others too, the user's own load is not the load; of the components each is bounded by another policy.
		{capacity(), box(1, 9, vec(8, 2)), load(), []api.Policy{commit(), bound(5, 5)}, 0, list(seg(0, 5, 5), seg(1, 2, 5), seg(2, 2, 4), seg(8, 2, 5), seg(9, 5, 5))},
		{capacity(), box(1, 9, vec(2, 8)), box(1, 9, vec(4, 1)), []api.Policy{commit(), bound(5, 5)}, 1, list(seg(1, 1, 2), seg(9, 5, 5))},
		// Functions that do not end, values below 0.
		{capacity(), open, open, []api.Policy{commit(), bound(9, 3)}, 0, list(seg(0, 9, 3), seg(2, 6, 2), seg(5, -3, 2))},
		{box(0, 9, vec(-2, 5)), box(3, 6, vec(5, -2)), nil, []api.Policy{commit()}, 0, list(seg(0, -2, 5), seg(3, -7, 7), seg(6, -2, 5), seg(9, 0, 0))},
		{nil, nil, box(3, 6, vec(5, -2)), []api.Policy{bound(-1, -2)}, 0, list(seg(0, -1, -2), seg(3, -6, 0), seg(6, -1, -2))},
		// What another bound hides makes no run.
		{capacity(), load(), box(4, 5, vec(1, 1)), []api.Policy{commit(), bound(11, 11)}, 0, rest},
		{capacity(), box(0, 9, vec(10, 10)), nil, []api.Policy{commit()}, 0, list(seg(9, 10, 10))},
		// Fields of a policy that have nothing to do with it.
		{capacity(), load(), load(), []api.Policy{{Kind: 0, Cap: vec(-1, -1), Win: 5}, {Kind: 2, Cap: vec(0, 0)}}, 0, rest},
		{capacity(), load(), load(), []api.Policy{{Kind: 1, Cap: vec(4, 4), Win: -3}}, 3, list(seg(3, 1, 3), seg(8, 4, 4))},
	} {
		asked{x.capacity, x.load, x.own, x.l, x.from}.is(t, x.want, api.OK)
	}
}

// TestFreeAll: all small functions, time by time (P15.1).
func TestFreeAll(t *testing.T) {
	shorts := sample.Shorts([]int64{0, 3}, vec(0, 0), vec(2, 1), vec(-1, 3))
	for _, l := range rows() {
		for _, c := range shorts {
			for _, load := range shorts {
				for _, own := range shorts {
					for _, from := range []int64{-4, 0, 1, 3, 9} {
						asked{c, load, own, l, from}.free(t)
					}
				}
			}
		}
	}
}

// thrown returns what Free can be asked, with a few policies.
func thrown(d *sample.Dice) asked {
	pick := func() []api.Seg {
		if d.Below(2) == 0 {
			return d.Amount()
		}
		return long(int64(1+d.Below(30)), int64(d.Below(50)))
	}
	a := asked{capacity: pick(), load: pick(), own: pick(), from: int64(d.Below(60) - 30)}
	for range d.Below(5) {
		x := api.Policy{Kind: uint8(d.Below(3)), Cap: vec(int64(d.Below(12)-3), int64(d.Below(12)-3))}
		a.l = append(a.l, x)
	}
	return a
}

// TestFreeThrown: thrown functions and policies, time by time (P15.1).
func TestFreeThrown(t *testing.T) {
	d := sample.Dice(15)
	for range 5000 {
		thrown(&d).free(t)
	}
}

// TestFreeTimes: times at the limits and one beyond, with functions that begin and end at theirs (P15.1).
func TestFreeTimes(t *testing.T) {
	l := []api.Policy{commit(), bound(9, 9)}
	far := list(seg(-top, 5, 5), seg(-late, 6, 6), seg(late, 7, 7), seg(late+1, 4, 4), seg(top, 3, 3))
	for _, x := range []struct {
		from int64
		want []api.Seg
	}{
		{-late, list(seg(-late, 6, 6), seg(late, 7, 7), seg(late+1, 4, 4), seg(top, 3, 3))},
		{-late + 1, list(seg(-late+1, 6, 6), seg(late, 7, 7), seg(late+1, 4, 4), seg(top, 3, 3))},
		{late - 1, list(seg(late-1, 6, 6), seg(late, 7, 7), seg(late+1, 4, 4), seg(top, 3, 3))},
		{late, list(seg(late, 7, 7), seg(late+1, 4, 4), seg(top, 3, 3))},
	} {
		asked{far, nil, nil, l, x.from}.is(t, x.want, api.OK)
		// As a load, and as a user's own load, they are subtracted from then on, up to the last run.
		asked{nil, far, nil, []api.Policy{commit()}, x.from}.free(t)
		asked{nil, nil, far, []api.Policy{bound(9, 9)}, x.from}.free(t)
		asked{far, far, far, l, x.from}.is(t, nil, api.OK)
	}
	last := list(seg(top, 2, 3))
	asked{last, nil, nil, l, 0}.is(t, last, api.OK)
	asked{nil, last, nil, l, 0}.is(t, list(seg(top, -2, -3)), api.OK)
	asked{nil, nil, last, l[1:], 0}.is(t, list(seg(0, 9, 9), seg(top, 7, 6)), api.OK)
	for _, from := range sample.WrongTimes() {
		for _, l := range rows() {
			asked{far, nil, nil, l, from}.is(t, nil, api.ErrRange)
			asked{nil, nil, nil, l, from}.is(t, nil, api.ErrRange)
		}
	}
}

// TestFreeCaps: limits at the greatest and the smallest valid value, and one beyond, in each kind of policy (P15.1).
func TestFreeCaps(t *testing.T) {
	for _, n := range []int64{top, top - 1, 1<<30 + 1, -1, -top + 1, -top} {
		asked{nil, nil, nil, []api.Policy{bound(n, 3)}, 0}.is(t, list(seg(0, n, 3)), api.OK)
		asked{nil, nil, nil, []api.Policy{bound(3, n)}, 0}.is(t, list(seg(0, 3, n)), api.OK)
	}
	rest := list(seg(0, 10, 10), seg(2, 7, 9), seg(8, 10, 10))
	for _, n := range []int64{top + 1, -top - 1, math.MaxInt64, math.MinInt64, 1 << 62} {
		for _, v := range []api.Vec{vec(n, 3), vec(3, n), vec(n, n), vec(n, -n)} {
			x := bound(v.Mem, v.Cores)
			for _, l := range [][]api.Policy{{x}, {commit(), x}, {x, bound(1, 1)}, {bound(1, 1), x, bound(9, 9)}, {bound(1, 1), average(1, 1, 1), x}} {
				asked{capacity(), load(), load(), l, 0}.is(t, nil, api.ErrRange)
				asked{nil, nil, nil, l, 0}.is(t, nil, api.ErrRange)
			}
			// Nowhere is it said that the limits of other kinds must be valid.
			asked{capacity(), load(), load(), []api.Policy{{Kind: 0, Cap: v}}, 0}.is(t, rest, api.OK)
			asked{capacity(), load(), load(), []api.Policy{{Kind: 2, Cap: v, Win: 3}}, 0}.is(t, list(seg(0, top, top)), api.OK)
			asked{capacity(), load(), load(), []api.Policy{{Kind: 2, Cap: v}, {Kind: 0, Cap: v}}, 0}.is(t, rest, api.OK)
		}
	}
}

// TestFreeRange: differences that are not valid, of each policy and component, from the time on and before (P15.1).
func TestFreeRange(t *testing.T) {
	for _, x := range []struct {
		capacity, load, own []api.Seg // which are not valid at 5 and 6 together
		l                   []api.Policy
	}{
		{box(5, 9, vec(top, 0)), box(3, 7, vec(-1, 0)), nil, []api.Policy{commit()}},
		{box(5, 9, vec(0, top)), box(3, 7, vec(0, -1)), nil, []api.Policy{commit()}},
		{box(5, 7, vec(-1, 0)), box(2, 9, vec(top, 0)), nil, []api.Policy{commit()}},
		{box(5, 7, vec(0, -1)), box(2, 9, vec(0, top)), nil, []api.Policy{commit()}},
		{box(5, 7, vec(top, -top)), box(5, 7, vec(-top, top)), nil, []api.Policy{commit()}},
		{nil, nil, box(5, 7, vec(-1, 0)), []api.Policy{bound(top, 0)}},
		{nil, nil, box(5, 7, vec(0, -1)), []api.Policy{bound(0, top)}},
		{nil, nil, box(5, 7, vec(1, 0)), []api.Policy{bound(-top, 0)}},
		{nil, nil, box(5, 7, vec(0, 1)), []api.Policy{bound(0, -top)}},
		{nil, nil, box(5, 7, vec(-top, top)), []api.Policy{bound(top, -top)}},
		{nil, nil, box(5, 7, vec(-top+3, 0)), []api.Policy{bound(4, 0)}},
		{nil, nil, box(5, 7, vec(0, top-3)), []api.Policy{bound(0, -4)}},
	} {
		// Another value is smaller, or greater; there are other policies, ahead of it and behind it.
		for _, l := range [][]api.Policy{x.l, append(x.l[:1:1], bound(0, 0)), append([]api.Policy{bound(-9, -9), average(3, 1, 1)}, x.l...), append([]api.Policy{bound(1, 1), bound(9, 9)}, append(x.l[:1:1], bound(5, 5), x.l[0])...)} {
			for from := int64(-2); from < 12; from++ {
				want := api.OK
				if from < 7 {
					want = api.ErrRange
				}
				if _, e := (asked{x.capacity, x.load, x.own, l, from}).free(t); e != want {
					t.Errorf("%v, %v, %d: %d", x, l, from, e)
				}
			}
		}
		// Without the policy nothing is subtracted.
		if x.own == nil {
			asked{x.capacity, x.load, x.own, []api.Policy{bound(1, 1), average(2, 2, 2)}, 0}.is(t, list(seg(0, 1, 1)), api.OK)
		} else {
			asked{x.capacity, x.load, x.own, []api.Policy{commit(), average(2, 2, 2)}, 0}.is(t, nil, api.OK)
		}
	}
	// The greatest and the smallest values that are valid.
	asked{box(0, 5, vec(top, -top)), nil, nil, []api.Policy{commit()}, 0}.is(t, box(0, 5, vec(top, -top)), api.OK)
	asked{nil, box(0, 5, vec(top, -top)), nil, []api.Policy{commit()}, 0}.is(t, box(0, 5, vec(-top, top)), api.OK)
	asked{box(0, 5, vec(top-1, 1-top)), box(0, 5, vec(-1, 1)), nil, []api.Policy{commit()}, 0}.is(t, box(0, 5, vec(top, -top)), api.OK)
	asked{nil, nil, list(seg(0, -1, 1)), []api.Policy{bound(top-1, 1-top)}, 0}.is(t, list(seg(0, top, -top)), api.OK)
	asked{nil, nil, list(seg(0, top, -top)), []api.Policy{bound(0, 0)}, 3}.is(t, list(seg(3, -top, top)), api.OK)
	asked{nil, nil, list(seg(0, top, top)), []api.Policy{bound(top, top)}, 3}.is(t, nil, api.OK)
	// It is not valid in the end only, or at the last time at which a function changes.
	asked{nil, nil, list(seg(9, -1, 0)), []api.Policy{bound(top, 0)}, 0}.is(t, nil, api.ErrRange)
	asked{nil, nil, list(seg(top, -1, 0)), []api.Policy{bound(top, 0)}, -late}.is(t, nil, api.ErrRange)
	asked{nil, nil, list(seg(top, -1, 0)), []api.Policy{bound(top, 0)}, late}.is(t, nil, api.ErrRange)
	asked{nil, nil, box(-top, -late, vec(-1, 0)), []api.Policy{bound(top, 0)}, -late}.is(t, list(seg(-late, top, 0)), api.OK)
	// Of several limits the greatest, or the smallest, alone is too great, or too small, in one component.
	for i := range 5 {
		for _, x := range []struct{ many, one, own api.Vec }{
			{vec(3, 3), vec(3, 4), vec(0, 3-top)},
			{vec(3, 3), vec(4, 0), vec(3-top, 0)},
			{vec(-3, -3), vec(-4, -3), vec(top-3, 0)},
			{vec(-3, -3), vec(0, -4), vec(0, top-3)},
		} {
			l := slices.Repeat([]api.Policy{bound(x.many.Mem, x.many.Cores)}, 5)
			if _, e := (asked{nil, nil, box(0, 5, x.own), l, 0}).free(t); e != api.OK {
				t.Error(x, e)
			}
			l[i] = bound(x.one.Mem, x.one.Cores)
			asked{nil, nil, box(0, 5, x.own), l, 0}.is(t, nil, api.ErrRange)
			if _, e := (asked{nil, nil, box(0, 5, x.own), l, 5}).free(t); e != api.OK {
				t.Error(x, e)
			}
		}
	}
}

// TestFreeForm: functions that are not canonical, in each place, under each list of policies (P15.1).
func TestFreeForm(t *testing.T) {
	for _, l := range append(rows(), []api.Policy{{Kind: 3}}, []api.Policy{bound(top+1, 0)}) {
		for _, f := range wrong {
			for _, from := range []int64{-late - 1, 0, 100, late} {
				asked{f, nil, nil, l, from}.is(t, nil, api.ErrForm)
				asked{capacity(), f, load(), l, from}.is(t, nil, api.ErrForm)
				asked{capacity(), load(), f, l, from}.is(t, nil, api.ErrForm)
				asked{f, f, f, l, from}.is(t, nil, api.ErrForm)
			}
		}
	}
}

// TestFreeKinds: a kind that there is not, in each place of each list of policies (P15.1).
func TestFreeKinds(t *testing.T) {
	for _, l := range rows() {
		for i := range len(l) + 1 {
			for _, kind := range []uint8{3, 4, 127, 128, 255} {
				for _, from := range []int64{-late - 1, 0, late + 1} {
					x := slices.Insert(slices.Clone(l), i, api.Policy{Kind: kind, Cap: vec(1, 1)})
					asked{capacity(), load(), load(), x, from}.is(t, nil, api.ErrArg)
				}
			}
		}
	}
}

// TestFreeOrder: all that can be wrong together, so each pair too (P15.1, R2).
func TestFreeOrder(t *testing.T) {
	for i := range 1 << 6 {
		has := func(k int) bool { return i>>k&1 == 1 }
		a := asked{capacity: capacity(), load: load(), own: load(), l: []api.Policy{commit(), bound(4, 4)}}
		want := api.OK
		if has(0) {
			a.from, want = late+1, api.ErrRange
		}
		if has(1) {
			a.l = append(a.l, bound(1, top+1))
			want = api.ErrRange
		}
		if has(2) {
			a.capacity, a.load, want = box(3, 5, vec(top, 0)), box(3, 5, vec(-1, 0)), api.ErrRange
		}
		if has(3) {
			a.own, want = box(3, 5, vec(-top, 0)), api.ErrRange
		}
		if has(4) {
			a.l = append(a.l, api.Policy{Kind: 3})
			want = api.ErrArg
		}
		if has(5) {
			want = api.ErrForm
		}
		for k := range 3 {
			b := a
			if has(5) {
				*[]*[]api.Seg{&b.capacity, &b.load, &b.own}[k] = list(seg(0, 0, 0))
			}
			if _, e := b.free(t); e != want {
				t.Errorf("%v: %d; want %d", b, e, want)
			}
			slices.Reverse(b.l)
			if _, e := b.free(t); e != want {
				t.Errorf("%v: %d; want %d", b, e, want)
			}
		}
	}
}

// TestFreeMany: many policies with long functions, of which it can't take each by itself (P15.1, R1).
func TestFreeMany(t *testing.T) {
	var l []api.Policy
	for i := range int64(1 << 17) {
		l = append(l, bound(20+(i*7)%1000, 20+(i*13)%1000), commit(), average(3, 0, 0))
	}
	a := asked{long(20000, 1), long(20000, 2), long(20000, 3), l, -9000}
	f, e := fit.Free(a.capacity, a.load, a.own, a.l, a.from)
	if e != api.OK || !rle.May(f) || len(f) < 10000 {
		t.Fatal(len(f), e)
	}
	a.l = []api.Policy{commit(), bound(20, 20)}
	for at := int64(-9001); at < 30000; at += 97 {
		if want, _ := a.value(at); value(f, at) != want {
			t.Fatal(at, value(f, at), want)
		}
	}
}

// windows returns windows in f that begin and end at, ahead of and behind runs.
func windows(f []api.Seg) []window {
	var l []window
	for at := int64(-2); at < 12; at++ {
		for d := int64(1); d < 12; d++ {
			l = append(l, window{f, at, d})
		}
	}
	return l
}

// TestFits: answers that are written out (P15.2).
func TestFits(t *testing.T) {
	f := list(seg(2, 5, 9), seg(6, 9, 3), seg(8, 0, 0), seg(10, -2, -3))
	for _, x := range []struct {
		at, d int64
		v     api.Vec
		is    bool
	}{
		// The window is one tick, ends at a run's begin, spans several runs.
		{2, 1, vec(5, 9), true},
		{2, 1, vec(6, 9), false},
		{2, 1, vec(5, 10), false},
		{5, 1, vec(5, 9), true},
		{6, 1, vec(9, 3), true},
		{2, 4, vec(5, 9), true},
		{2, 5, vec(5, 9), false},
		{2, 6, vec(5, 3), true},
		{2, 6, vec(6, 3), false},
		{2, 6, vec(5, 4), false},
		{6, 2, vec(9, 3), true},
		{6, 3, vec(9, 3), false},
		{6, 3, vec(0, 0), true},
		{3, 7, vec(0, 0), true},
		{3, 8, vec(0, 0), false},
		{3, 8, vec(-2, -3), true},
		// It begins before the first run, ends there, lies before all of them, or beyond.
		{1, 2, vec(0, 0), true},
		{1, 2, vec(1, 0), false},
		{1, 1, vec(0, 0), true},
		{-4, 6, vec(0, 0), true},
		{-4, 6, vec(0, 1), false},
		{-100, 4096, vec(0, 0), false},
		{-5000, 4096, vec(0, 0), true},
		{100, 4096, vec(-2, -3), true},
		{100, 4096, vec(-1, -3), false},
		{100, 1, vec(-2, -2), false},
		{10, 1, vec(-2, -3), true},
		{9, 2, vec(-2, -3), true},
		{9, 1, vec(0, 0), true},
	} {
		if is, e := (window{f, x.at, x.d}).fits(t, x.v); is != x.is || e != api.OK {
			t.Error(x, is, e)
		}
	}
	for _, v := range []api.Vec{vec(0, 0), vec(1, 0), vec(0, 1), vec(-1, 0), vec(1, -1)} {
		for _, f := range [][]api.Seg{nil, list()} {
			if is, e := (window{f, 3, 5}).fits(t, v); is != (v.Mem <= 0 && v.Cores <= 0) || e != api.OK {
				t.Error(v, is, e)
			}
		}
	}
}

// vectors returns small vectors, above 0 and below.
func vectors() []api.Vec {
	var l []api.Vec
	for mem := int64(-2); mem < 4; mem++ {
		for cores := int64(-2); cores < 4; cores++ {
			l = append(l, vec(mem, cores))
		}
	}
	return l
}

// TestWindowsAll: small functions, all windows, tick by tick; Most is held against each number of units, too (P15.2, P15.3).
func TestWindowsAll(t *testing.T) {
	for _, f := range append(sample.Shorts([]int64{0, 2, 7}, vec(0, 0), vec(2, 1), vec(-1, 3), vec(3, 3)), long(6, 1), long(7, 2)) {
		for _, w := range windows(f) {
			for _, v := range vectors() {
				w.fits(t, v)
				w.take(t, v)
				if n, e := w.most(t, v); e == api.OK {
					w.tried(t, v, n)
				}
			}
		}
	}
}

// tried holds an answer of Most against Fits, which is asked for each number of units: all up to n fit (but 0 may be too much where there is less than nothing), and none from there on.
func (w window) tried(t *testing.T, unit api.Vec, n int64) {
	t.Helper()
	for k := int64(1); k < n+5; k++ {
		if w.holds(unit, k) != (k <= n) {
			t.Fatalf("Most(%v, %v): %d; %d", w, unit, n, k)
		}
	}
}

// TestWindowsThrown: long functions, windows of all lengths, tick by tick (P15.2, P15.3).
func TestWindowsThrown(t *testing.T) {
	d := sample.Dice(4)
	for range 3000 {
		f := long(int64(d.Below(40)), int64(d.Below(50)))
		w := window{f, int64(d.Below(200) - 100), int64(1 + d.Below(60))}
		if d.Below(20) == 0 {
			w.d = 4000 + int64(d.Below(97))
		}
		more := vec(int64(d.Below(30)), int64(d.Below(30)))
		for i := range f {
			f[i].V = minus(f[i].V, minus(vec(0, 0), more))
		}
		if w.f, _ = rle.Of(f); !rle.May(w.f) {
			t.Fatal(w)
		}
		v := vec(int64(d.Below(20)-5), int64(d.Below(20)-5))
		w.fits(t, v)
		w.take(t, v)
		if n, e := w.most(t, v); e == api.OK {
			w.tried(t, v, n)
		}
	}
}

// TestTake: answers that are written out, whether it fits or not (P15.2).
func TestTake(t *testing.T) {
	f := box(2, 8, vec(3, 1))
	open := list(seg(2, 3, 1), seg(5, -1, 4))
	for _, x := range []struct {
		f     []api.Seg
		at, d int64
		v     api.Vec
		want  []api.Seg
	}{
		{f, 2, 6, vec(3, 1), nil},
		{f, 2, 6, vec(1, 1), box(2, 8, vec(2, 0))},
		{f, 2, 6, vec(4, 2), box(2, 8, vec(-1, -1))},
		{f, 2, 6, vec(-1, -2), box(2, 8, vec(4, 3))},
		{f, 2, 6, vec(0, 0), f},
		{f, -100, 4096, vec(0, 0), f},
		{f, 2, 3, vec(3, 1), box(5, 8, vec(3, 1))},
		{f, 5, 3, vec(3, 1), box(2, 5, vec(3, 1))},
		{f, 4, 2, vec(3, 1), list(seg(2, 3, 1), seg(4, 0, 0), seg(6, 3, 1), seg(8, 0, 0))},
		{f, 4, 1, vec(1, 0), list(seg(2, 3, 1), seg(4, 2, 1), seg(5, 3, 1), seg(8, 0, 0))},
		{f, 0, 2, vec(1, 1), list(seg(0, -1, -1), seg(2, 3, 1), seg(8, 0, 0))},
		{f, 8, 2, vec(1, 1), list(seg(2, 3, 1), seg(8, -1, -1), seg(10, 0, 0))},
		{f, 8, 2, vec(-3, -1), box(2, 10, vec(3, 1))},
		{f, 0, 2, vec(-3, -1), box(0, 8, vec(3, 1))},
		{f, 0, 10, vec(1, 1), list(seg(0, -1, -1), seg(2, 2, 0), seg(8, -1, -1), seg(10, 0, 0))},
		{f, 7, 2, vec(1, 1), list(seg(2, 3, 1), seg(7, 2, 0), seg(8, -1, -1), seg(9, 0, 0))},
		{open, 2, 3, vec(4, -3), list(seg(2, -1, 4))},
		{open, 100, 4096, vec(-1, 4), list(seg(2, 3, 1), seg(5, -1, 4), seg(100, 0, 0), seg(4196, -1, 4))},
		{nil, 3, 2, vec(1, 2), box(3, 5, vec(-1, -2))},
		{list(), 3, 2, vec(-1, 0), box(3, 5, vec(1, 0))},
		{nil, 3, 2, vec(0, 0), nil},
		{list(), 3, 2, vec(0, 0), nil},
	} {
		if g, e := (window{x.f, x.at, x.d}).take(t, x.v); !slices.Equal(g, x.want) || e != api.OK {
			t.Error(x, g, e)
		}
	}
}

// TestTakeRange: values that Take would make not valid, in the window and beside it (P15.2).
func TestTakeRange(t *testing.T) {
	for _, x := range []struct {
		have, v api.Vec
		want    api.Errno
	}{
		{vec(top, 0), vec(-1, 0), api.ErrRange},
		{vec(0, top), vec(0, -1), api.ErrRange},
		{vec(-top, 0), vec(1, 0), api.ErrRange},
		{vec(0, -top), vec(0, 1), api.ErrRange},
		{vec(1, 1), vec(top, top), api.OK},
		{vec(-1, 1), vec(top, top), api.ErrRange},
		{vec(1, -1), vec(top, top), api.ErrRange},
		{vec(-1, -1), vec(-top, -top), api.OK},
		{vec(1, -1), vec(-top, -top), api.ErrRange},
		{vec(-1, 1), vec(-top, -top), api.ErrRange},
		{vec(top, top), vec(top, top), api.OK},
		{vec(-top, -top), vec(-top, -top), api.OK},
		{vec(top, -top), vec(-top, top), api.ErrRange},
		{vec(1, top), vec(top, 0), api.OK},
	} {
		for _, w := range []window{{at: 4, d: 4}, {at: 0, d: 5}, {at: 7, d: 5}, {at: 0, d: 20}, {at: 5, d: 1}} {
			w.f = box(4, 8, x.have)
			if _, e := w.take(t, x.v); e != x.want {
				t.Error(w, x, e)
			}
		}
		// Beside the window it doesn't matter.
		for _, w := range []window{{at: 0, d: 4}, {at: 8, d: 4096}, {at: -4096, d: 4096}} {
			w.f = box(4, 8, x.have)
			if _, e := w.take(t, x.v); e != api.OK {
				t.Error(w, x, e)
			}
		}
	}
}

// TestMost: answers that are written out (P15.3).
func TestMost(t *testing.T) {
	f := list(seg(2, 5, 9), seg(6, 9, 3), seg(8, 0, 0), seg(10, -2, 30))
	for _, x := range []struct {
		at, d int64
		unit  api.Vec
		n     int64
	}{
		{2, 4, vec(1, 1), 5},
		{2, 4, vec(1, 2), 4},
		{2, 4, vec(5, 9), 1},
		{2, 4, vec(5, 10), 0},
		{2, 4, vec(6, 1), 0},
		{2, 5, vec(1, 1), 3},
		{2, 6, vec(2, 2), 1},
		{6, 2, vec(3, 1), 3},
		{6, 2, vec(2, 1), 3},
		{6, 3, vec(1, 1), 0},
		{1, 2, vec(1, 1), 0},
		{-9, 4, vec(1, 1), 0},
		{10, 1, vec(1, 1), 0},
		{9, 2, vec(1, 1), 0},
		{100, 4096, vec(1, 1), 0},
	} {
		if n, e := (window{f, x.at, x.d}).most(t, x.unit); n != x.n || e != api.OK {
			t.Error(x, n, e)
		}
	}
	for _, f := range [][]api.Seg{nil, list(), box(0, 9, vec(-5, -5)), box(0, 9, vec(-top, top))} {
		if n, e := (window{f, 0, 9}).most(t, vec(1, 1)); n != 0 || e != api.OK {
			t.Error(f, n, e)
		}
	}
	// The greatest values.
	all := list(seg(-top, top, top))
	for _, x := range []struct {
		unit api.Vec
		n    int64
	}{{vec(1, 1), top}, {vec(2, 1), top / 2}, {vec(1, 3), top / 3}, {vec(top, top), 1}, {vec(top, 1), 1}, {vec(1, top-1), 1}, {vec(top/2+1, 1), 1}, {vec(top/2, 7), 2}} {
		if n, e := (window{all, 0, 4096}).most(t, x.unit); n != x.n || e != api.OK {
			t.Error(x, n, e)
		}
	}
}

// calls returns what Fits, Take and Most answer, each of which is held against the document's words.
func (w window) calls(t *testing.T, v api.Vec) [3]api.Errno {
	t.Helper()
	_, a := w.fits(t, v)
	_, b := w.take(t, v)
	_, c := w.most(t, v)
	return [3]api.Errno{a, b, c}
}

// TestWindowLimits: numbers of ticks, times and vectors at the limits and one beyond (P15.2, P15.3).
func TestWindowLimits(t *testing.T) {
	alike := func(e api.Errno) [3]api.Errno { return [3]api.Errno{e, e, e} }
	functions := [][]api.Seg{nil, load(), list(seg(-top, 1, 1), seg(-late, 2, 2), seg(late, 3, 3), seg(late+4096, 0, 0), seg(top, 5, 5))}
	for _, f := range functions {
		for _, d := range []int64{1, 2, span - 1, span} {
			for _, at := range []int64{-late, -late + 1, -1, 0, 1, late - 1, late} {
				if got := (window{f, at, d}).calls(t, vec(1, 1)); got != alike(api.OK) {
					t.Error(f, at, d, got)
				}
			}
			for _, at := range sample.WrongTimes() {
				if got := (window{f, at, d}).calls(t, vec(1, 1)); got != alike(api.ErrRange) {
					t.Error(f, at, d, got)
				}
			}
		}
		for _, d := range []int64{0, -1, span + 1, -span, 8000, 8001, 1<<32 + 1, top, math.MaxInt64, math.MinInt64} {
			for _, at := range append(sample.WrongTimes(), -late, 0, late) {
				if got := (window{f, at, d}).calls(t, vec(1, 1)); got != alike(api.ErrArg) {
					t.Error(f, at, d, got)
				}
			}
		}
		for _, n := range []int64{top + 1, 1 << 62, math.MaxInt64} {
			for _, v := range []api.Vec{vec(n, 1), vec(1, n), vec(n, n)} {
				if got := (window{f, 0, 1}).calls(t, v); got != alike(api.ErrRange) {
					t.Error(f, v, got)
				}
			}
			for _, v := range []api.Vec{vec(-n, 1), vec(1, -n), vec(n, -n), vec(-n, -n), vec(math.MinInt64, 1), vec(n, 0), vec(0, n)} {
				if got := (window{f, 0, 1}).calls(t, v); got != [3]api.Errno{api.ErrRange, api.ErrRange, api.ErrArg} {
					t.Error(f, v, got)
				}
			}
		}
		for _, n := range []int64{top, top - 1} {
			for _, v := range []api.Vec{vec(n, 1), vec(1, n), vec(n, n)} {
				if got := (window{f, -9, 1}).calls(t, v); got != alike(api.OK) {
					t.Error(f, v, got)
				}
			}
		}
		for _, v := range []api.Vec{vec(0, 1), vec(1, 0), vec(0, 0), vec(-1, 1), vec(1, -1), vec(-top, 1), vec(top, -top), vec(-top, -top)} {
			if got := (window{f, -9, 1}).calls(t, v); got[0] != api.OK || got[1] != api.OK && f == nil || got[2] != api.ErrArg {
				t.Error(f, v, got)
			}
		}
	}
}

// TestWindowOrder: all that can be wrong together, so each pair too (P15.2, P15.3, R2).
func TestWindowOrder(t *testing.T) {
	for _, f := range append(slices.Clone(wrong), nil, load(), list(seg(-top, top, top)), list(seg(-top, -top, -top))) {
		for _, d := range []int64{math.MinInt64, -1, 0, 1, 5, span, span + 1, math.MaxInt64} {
			for _, at := range append(sample.WrongTimes(), -late, 0, late) {
				for _, v := range []api.Vec{vec(1, 1), vec(0, 1), vec(1, 0), vec(-1, -1), vec(top+1, 1), vec(1, top+1), vec(top+1, 0), vec(-top-1, 1), vec(1, math.MinInt64), vec(math.MaxInt64, math.MaxInt64)} {
					window{f, at, d}.calls(t, v)
				}
			}
		}
	}
}

// bounded reports by the document's words whether what is asked about leaves room for v at a time: whether with it the load is at most the capacity, and the user's own load at most each limit.
func (a asked) bounded(at int64, v api.Vec) bool {
	with := func(f []api.Seg) api.Vec { return minus(value(f, at), minus(vec(0, 0), v)) }
	for _, x := range a.l {
		if x.Kind == 0 && !below(with(a.load), value(a.capacity, at)) || x.Kind == 1 && !below(with(a.own), x.Cap) {
			return false
		}
	}
	return true
}

// TestUsed: what fits into the free function satisfies the bounds at each of its times, what does not fit violates one of them (P15.4).
func TestUsed(t *testing.T) {
	d := sample.Dice(7)
	count := [2]int{}
	for range 3000 {
		a := thrown(&d)
		f, _ := a.free(t)
		for range 8 {
			w := window{f, a.from + int64(d.Below(25)), int64(1 + d.Below(9))}
			v := vec(int64(d.Below(9)-4), int64(d.Below(9)-4))
			fits, _ := w.fits(t, v)
			is := true
			for i := range w.d {
				is = is && a.bounded(w.at+i, v)
			}
			if fits != is {
				t.Fatal(a, w, v, fits, is)
			}
			if is {
				count[1]++
			} else {
				count[0]++
			}
		}
	}
	if min(count[0], count[1]) < 5000 {
		t.Error(count)
	}
}

// held reports whether all policies hold for what is asked about, from its time on.
func (a asked) held(t *testing.T) bool {
	t.Helper()
	for _, x := range a.l {
		_, is, e := policy.Check(x, a.from, [3][]api.Seg{a.load, a.capacity, a.own})
		if e != api.OK {
			t.Fatal(a, e)
		}
		if !is {
			return false
		}
	}
	return true
}

// TestPolicies: where the policies hold, they hold with what fits, and don't hold with what does not (P15.4).
func TestPolicies(t *testing.T) {
	d := sample.Dice(8)
	count := [2]int{}
	for range 6000 {
		a := asked{capacity: list(seg(-50, 7, 7), seg(3, 5, 9), seg(9, 6, 6)), from: int64(d.Below(9) - 3)}
		a.load, a.own = d.Amount(), d.Amount()
		a.l = [][]api.Policy{{commit()}, {bound(4, 4)}, {bound(3, 6), commit()}, {bound(3, 5), bound(6, 2)}}[d.Below(4)]
		if !a.held(t) {
			continue
		}
		f, _ := a.free(t)
		w := window{f, a.from + int64(d.Below(15)), int64(1 + d.Below(6))}
		v := vec(int64(d.Below(6)), int64(d.Below(6)))
		fits, _ := w.fits(t, v)
		b := a
		b.load, _ = calc.Range(a.load, w.at, w.at+w.d, v)
		b.own, _ = calc.Range(a.own, w.at, w.at+w.d, v)
		if b.held(t) != fits {
			t.Fatal(a, w, v, fits)
		}
		// The free function is what it was, with this taken.
		g, e := b.free(t)
		want, _ := w.take(t, v)
		if e != api.OK || !slices.Equal(g, want) {
			t.Fatal(a, w, v, g, want)
		}
		if fits {
			count[1]++
		} else {
			count[0]++
		}
	}
	if min(count[0], count[1]) < 500 {
		t.Error(count)
	}
}

// TestNotGreater: more policies, more load, less capacity (P15.4).
func TestNotGreater(t *testing.T) {
	d := sample.Dice(9)
	for range 1500 {
		a := thrown(&d)
		f, _ := a.free(t)
		more := d.Amount()
		b := [4]asked{a, a, a, a}
		b[0].l = slices.Insert(slices.Clone(a.l), d.Below(1+len(a.l)), api.Policy{Kind: uint8(d.Below(3)), Cap: vec(int64(d.Below(9)-2), int64(d.Below(9)-2))})
		b[1].load, _ = calc.Add(a.load, more)
		b[2].own, _ = calc.Add(a.own, more)
		b[3].capacity, _ = calc.Sub(a.capacity, more)
		for i := range b {
			g, e := b[i].free(t)
			if e != api.OK {
				t.Fatal(b[i], e)
			}
			if at, is, e := calc.LE(g, f, -200); !is || e != api.OK {
				t.Fatal(i, a, b[i], at, e)
			}
		}
	}
}

// given holds what was taken, and is given back by taking its negative, against what there was.
func (w window) given(t *testing.T, v api.Vec) {
	t.Helper()
	g, e := w.take(t, v)
	if e != api.OK {
		return
	}
	if h, e := (window{g, w.at, w.d}).take(t, minus(vec(0, 0), v)); e != api.OK || !slices.Equal(h, w.f) {
		t.Fatal(w, v, g, h, e)
	}
}

// TestBack: what was taken is given back, whether it fitted or not (P15.5).
func TestBack(t *testing.T) {
	for _, f := range sample.Shorts([]int64{0, 2, 7}, vec(0, 0), vec(2, 1), vec(-1, 3)) {
		for _, w := range windows(f) {
			for _, v := range vectors() {
				w.given(t, v)
			}
		}
	}
	for _, f := range [][]api.Seg{long(60, 1), list(seg(0, top, top)), list(seg(-top, -top, 5), seg(top, 1, top))} {
		for _, at := range []int64{-late, -5, 0, late} {
			for _, d := range []int64{1, 9, span} {
				for _, v := range []api.Vec{vec(top, 1), vec(-1, top), vec(-top, -top), vec(5, 3), vec(0, -1)} {
					window{f, at, d}.given(t, v)
				}
			}
		}
	}
}

// TestUnits: as many units as Most returns can be taken, and leave room for no other one; one more does not fit (P15.5).
func TestUnits(t *testing.T) {
	d := sample.Dice(10)
	some := 0
	for range 4000 {
		var raw []api.Seg
		for at := int64(0); at < 20; at += int64(1 + d.Below(5)) {
			raw = append(raw, seg(at, int64(d.Below(40)), int64(d.Below(40))))
		}
		f, _ := rle.Of(raw)
		w := window{f, int64(d.Below(22) - 1), int64(1 + d.Below(12))}
		unit := vec(int64(1+d.Below(9)), int64(1+d.Below(9)))
		n, e := w.most(t, unit)
		if e != api.OK || !w.holds(unit, n) || w.holds(unit, n+1) {
			t.Fatal(w, unit, n, e)
		}
		g, e := w.take(t, vec(n*unit.Mem, n*unit.Cores))
		rest := window{g, w.at, w.d}
		if is, _ := rest.fits(t, vec(0, 0)); e != api.OK || !is {
			t.Fatal(w, unit, n, e)
		}
		if m, e := rest.most(t, unit); m != 0 || e != api.OK {
			t.Fatal(w, unit, n, m, e)
		}
		if g, _ := w.take(t, vec((n+1)*unit.Mem, (n+1)*unit.Cores)); (window{g, w.at, w.d}).looked(vec(0, 0)) {
			t.Fatal(w, unit, n)
		}
		if n > 0 {
			some++
		}
	}
	if some < 1000 {
		t.Error(some)
	}
}

// TestArguments: what is handed in stays as it was, behind its length too, and is not kept; answers are new memory (P1, R5).
func TestArguments(t *testing.T) {
	whole := list(seg(2, 3, 1), seg(5, 1, 1), seg(8, 0, 0), seg(7, 7, 7), seg(1, 1, 1))
	policies := []api.Policy{commit(), bound(4, 4), average(2, 2, 2), {Kind: 7, Win: 7}}
	for n := range 4 {
		for _, from := range []int64{-5, 2, 3, 9, late + 1} {
			for k := range 5 {
				one, two, three := slices.Clone(whole), slices.Clone(whole), slices.Clone(whole)
				l := slices.Clone(policies)
				f, e := fit.Free(one[:3], two[:n], three[:2], l[:k], from)
				was := slices.Clone(f)
				spoil(f)
				if !slices.Equal(one, whole) || !slices.Equal(two, whole) || !slices.Equal(three, whole) || !slices.Equal(l, policies) {
					t.Fatal(n, from, k, one, two, three, l)
				}
				spoil(one)
				spoil(two)
				spoil(three)
				clear(l)
				asked{whole[:3], whole[:n], whole[:2], policies[:k], from}.is(t, was, e)
			}
		}
		for _, v := range []api.Vec{vec(0, 0), vec(1, 1), vec(-1, 0), vec(0, top+1)} {
			for _, w := range []window{{whole[:n], 2, 6}, {whole[:n], 0, 2}, {whole[:n], 3, 4}, {whole[:n], 8, 4}, {whole[:n], 8, 0}} {
				f := slices.Clone(whole)
				mine := window{f[:n], w.at, w.d}
				is, e := mine.fits(t, v)
				g, ge := mine.take(t, v)
				m, me := mine.most(t, v)
				was := slices.Clone(g)
				spoil(g)
				if !slices.Equal(f, whole) {
					t.Fatal(n, v, f)
				}
				spoil(f)
				again, ae := w.fits(t, v)
				h, he := w.take(t, v)
				k, ke := w.most(t, v)
				if again != is || ae != e || !slices.Equal(h, was) || he != ge || k != m || ke != me {
					t.Fatal(n, v, w)
				}
			}
		}
	}
}

// TestAlike: one list as all three functions, and answers as arguments (P1, R5).
func TestAlike(t *testing.T) {
	f := load()
	l := []api.Policy{commit(), bound(3, 1)}
	asked{f, f, f, l, 0}.is(t, nil, api.OK)
	asked{f, f, f, l[1:], 0}.is(t, list(seg(0, 3, 1), seg(2, 0, 0), seg(8, 3, 1)), api.OK)
	g, _ := asked{f, nil, nil, l[:1], 0}.free(t)
	if !slices.Equal(g, f) || &g[0] == &f[0] {
		t.Error(g)
	}
	h, _ := window{g, 0, 9}.take(t, vec(0, 0))
	if !slices.Equal(h, f) || &h[0] == &g[0] {
		t.Error(h)
	}
}
