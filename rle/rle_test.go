package rle_test

import (
	"math"
	"slices"
	"testing"

	"livery/api"
	"livery/rle"
	"livery/sample"
)

const top = sample.Top

var (
	vec  = sample.Vec
	seg  = sample.Seg
	list = sample.List
)

// wrong are runs that are out of range, each by one number.
var wrong = []api.Seg{
	seg(top+1, 1, 1), seg(-top-1, 1, 1), seg(math.MaxInt64, 1, 1), seg(math.MinInt64, 1, 1),
	seg(0, top+1, 0), seg(0, -top-1, 0), seg(0, 0, top+1), seg(0, 0, -top-1),
	seg(0, math.MinInt64, 0), seg(0, 0, math.MaxInt64),
}

// lists calls see with every list of at most most runs whose At are of ats, and whose V are of vs.
func lists(most int, ats []int64, vs []api.Vec, see func(l []api.Seg)) {
	var more func(l []api.Seg)
	more = func(l []api.Seg) {
		see(l)
		if len(l) == most {
			return
		}
		for _, at := range ats {
			for _, v := range vs {
				more(append(slices.Clone(l), api.Seg{At: at, V: v}))
			}
		}
	}
	more(nil)
}

// value returns the value of the function of raw runs at t, as the words say it: the last one in the list of those with the greatest At up to t.
func value(raw []api.Seg, t int64) api.Vec {
	var v api.Vec
	at := int64(math.MinInt64)
	for _, s := range raw {
		if s.At <= t && s.At >= at {
			at, v = s.At, s.V
		}
	}
	return v
}

// same holds f against what is expected; without runs it must be nil.
func same(t *testing.T, call string, f []api.Seg, e api.Errno, want []api.Seg, we api.Errno) {
	t.Helper()
	if !slices.Equal(f, want) || e != we || len(f) == 0 && f != nil {
		t.Errorf("%s: %#v, %d; want %#v, %d", call, f, e, want, we)
	}
}

// P2.1
func TestMay(t *testing.T) {
	for i, f := range [][]api.Seg{
		nil,
		{},
		list(seg(0, 1, 0)),
		list(seg(0, 0, 1)),
		list(seg(0, -1, 0), seg(1, 0, 0)),
		list(seg(2, 3, 3), seg(5, 2, 2)),
		list(seg(2, 3, 3), seg(5, 3, 2), seg(6, 3, 3)),
		list(seg(2, 3, 3), seg(5, 0, 0), seg(6, 3, 3), seg(7, 0, 0)),
		list(seg(-top, top, -top), seg(top, -top, top)),
	} {
		if !rle.May(f) {
			t.Errorf("%d: %v is canonical", i, f)
		}
	}
	for i, f := range [][]api.Seg{
		list(seg(0, 0, 0)),
		list(seg(0, 0, 0), seg(1, 1, 1)),
		list(seg(0, 1, 1), seg(1, 1, 1)),
		list(seg(0, 1, 1), seg(1, 0, 0), seg(2, 0, 0)),
		list(seg(0, 1, 1), seg(0, 2, 2)),
		list(seg(1, 1, 1), seg(0, 2, 2)),
		list(seg(0, 1, 1), seg(5, 2, 2), seg(4, 3, 3)),
		list(seg(0, 1, 1), seg(5, 2, 2), seg(5, 3, 3)),
	} {
		if rle.May(f) {
			t.Errorf("%d: %v is not canonical", i, f)
		}
	}
	for _, s := range wrong {
		if rle.May(list(s)) {
			t.Errorf("%v is not canonical", s)
		}
		if rle.May(list(seg(-1, 5, 5), api.Seg{V: s.V}, seg(1, 6, 6))) && s.At == 0 {
			t.Errorf("%v between others is not canonical", s)
		}
	}
	if rle.May(list(seg(0, 1, 1), seg(top+1, 0, 0))) || rle.May(list(seg(-top-1, 1, 1), seg(0, 0, 0))) {
		t.Error("an At beyond 2^50 is not canonical")
	}
}

// P2.1
func TestOf(t *testing.T) {
	for i, x := range []struct{ raw, want []api.Seg }{
		{nil, nil},
		{list(), nil},
		{list(seg(0, 0, 0)), nil},
		{list(seg(3, 0, 0), seg(1, 0, 0), seg(3, 0, 0)), nil},
		{list(seg(0, 1, 2)), list(seg(0, 1, 2))},
		{list(seg(5, 1, 1), seg(2, 3, 3), seg(5, 2, 2), seg(9, 2, 2)), list(seg(2, 3, 3), seg(5, 2, 2))},
		// The first runs are zero.
		{list(seg(1, 0, 0), seg(2, 0, 0), seg(3, 0, 7), seg(4, 0, 0), seg(5, 0, 0)), list(seg(3, 0, 7), seg(4, 0, 0))},
		// Several runs with the same At: the last one in the list counts, wherever the others are.
		{list(seg(4, 1, 0), seg(4, 2, 0), seg(4, 3, 0)), list(seg(4, 3, 0))},
		{list(seg(4, 3, 0), seg(9, 8, 0), seg(4, 1, 0), seg(0, 7, 0), seg(4, 2, 0)), list(seg(0, 7, 0), seg(4, 2, 0), seg(9, 8, 0))},
		{list(seg(4, 3, 0), seg(4, 0, 0)), nil},
		{list(seg(4, 0, 0), seg(4, 3, 0)), list(seg(4, 3, 0))},
		// What counts not is not in the way of the run behind it.
		{list(seg(1, 5, 0), seg(2, 6, 0), seg(2, 5, 0), seg(3, 6, 0)), list(seg(1, 5, 0), seg(3, 6, 0))},
		// Runs that are equal to their predecessor, in one component and in both.
		{list(seg(1, 5, 0), seg(2, 5, 1), seg(3, 5, 1), seg(4, 5, 1), seg(5, 4, 1)), list(seg(1, 5, 0), seg(2, 5, 1), seg(5, 4, 1))},
		{list(seg(1, 5, 0), seg(2, 0, 0), seg(3, 5, 0)), list(seg(1, 5, 0), seg(2, 0, 0), seg(3, 5, 0))},
		// The edges of what is in range.
		{list(seg(top, top, top), seg(-top, -top, -top)), list(seg(-top, -top, -top), seg(top, top, top))},
		{list(seg(top, 0, 0), seg(-top, 0, 0)), nil},
	} {
		f, e := rle.Of(x.raw)
		same(t, "Of "+string(rune('a'+i)), f, e, x.want, api.OK)
	}
}

// P2.1: a run that is out of range is refused wherever it is, even if another run takes its place.
func TestOfWrong(t *testing.T) {
	for _, s := range wrong {
		for _, raw := range [][]api.Seg{
			list(s),
			list(s, seg(1, 2, 3)),
			list(seg(1, 2, 3), s),
			list(seg(-3, 2, 3), s, seg(2, 2, 3)),
			list(s, api.Seg{At: s.At, V: vec(1, 1)}),
			list(s, s),
		} {
			f, e := rle.Of(raw)
			same(t, "Of", f, e, nil, api.ErrRange)
		}
	}
	for _, at := range []int64{top + 1, -top - 1} {
		f, e := rle.Of(list(seg(0, 1, 1), seg(at, 0, 0)))
		same(t, "Of", f, e, nil, api.ErrRange)
	}
}

// P2.1, P2.4: of every short list Of makes a canonical function with the values that the words ask for; a canonical one stays as it is.
func TestOfAll(t *testing.T) {
	ats := []int64{-1, 0, 1, 2}
	vs := []api.Vec{{}, vec(1, 0), vec(0, 1)}
	lists(4, ats, vs, func(raw []api.Seg) {
		f, e := rle.Of(raw)
		if e != api.OK || !rle.May(f) || len(f) == 0 && f != nil {
			t.Fatalf("Of(%v): %v, %d", raw, f, e)
		}
		for at := int64(-3); at < 5; at++ {
			if v := rle.At(f, at); v != value(raw, at) {
				t.Fatalf("Of(%v): %v: %v at %d; want %v", raw, f, v, at, value(raw, at))
			}
		}
		if rle.May(raw) != slices.Equal(f, raw) {
			t.Fatalf("May(%v): %v; Of: %v", raw, rle.May(raw), f)
		}
	})
}

// P2.1: a long list with many runs of the same At, where a sort that is not stable would take another one of them.
func TestOfLong(t *testing.T) {
	var raw []api.Seg
	for i := range int64(3000) {
		raw = append(raw, seg(i*7919%101, i%13-6, i%5))
	}
	f, e := rle.Of(raw)
	if e != api.OK || !rle.May(f) {
		t.Fatal(f, e)
	}
	for at := int64(-2); at < 104; at++ {
		if v := rle.At(f, at); v != value(raw, at) {
			t.Errorf("%v at %d; want %v", v, at, value(raw, at))
		}
	}
}

// P2.2
func TestAt(t *testing.T) {
	f := list(seg(2, 3, 3), seg(5, 2, 2), seg(12, 0, 0), seg(13, -1, 4))
	for _, x := range []struct {
		f  []api.Seg
		at int64
		v  api.Vec
	}{
		{nil, 0, vec(0, 0)},
		{list(), math.MaxInt64, vec(0, 0)},
		{nil, math.MinInt64, vec(0, 0)},
		{f, 1, vec(0, 0)},
		{f, 2, vec(3, 3)},
		{f, 4, vec(3, 3)},
		{f, 5, vec(2, 2)},
		{f, 11, vec(2, 2)},
		{f, 12, vec(0, 0)},
		{f, 13, vec(-1, 4)},
		{f, 100, vec(-1, 4)},
		{f, math.MinInt64, vec(0, 0)},
		{f, math.MaxInt64, vec(-1, 4)},
		{list(seg(-top, 1, 0), seg(top, 2, 0)), -top - 1, vec(0, 0)},
		{list(seg(-top, 1, 0), seg(top, 2, 0)), -top, vec(1, 0)},
		{list(seg(-top, 1, 0), seg(top, 2, 0)), top - 1, vec(1, 0)},
		{list(seg(-top, 1, 0), seg(top, 2, 0)), top, vec(2, 0)},
		// These are not canonical.
		{list(seg(5, 1, 0), seg(2, 9, 0)), 7, vec(9, 0)},
		{list(seg(5, 1, 0), seg(2, 9, 0)), 5, vec(9, 0)},
		{list(seg(5, 1, 0), seg(2, 9, 0)), 2, vec(9, 0)},
		{list(seg(5, 1, 0), seg(2, 9, 0)), 1, vec(0, 0)},
		{list(seg(2, 1, 0), seg(9, 2, 0), seg(5, 3, 0)), 2, vec(1, 0)},
		{list(seg(2, 1, 0), seg(9, 2, 0), seg(5, 3, 0)), 6, vec(3, 0)},
		{list(seg(4, 1, 0), seg(4, 2, 0)), 4, vec(2, 0)},
		{list(seg(4, 1, 0), seg(4, 0, 0)), 4, vec(0, 0)},
		{list(seg(4, top+1, 0)), 4, vec(top+1, 0)},
		{list(seg(math.MinInt64, 1, 0), seg(math.MaxInt64, 2, 0)), math.MinInt64, vec(1, 0)},
		{list(seg(math.MinInt64, 1, 0), seg(math.MaxInt64, 2, 0)), math.MaxInt64 - 1, vec(1, 0)},
		{list(seg(math.MinInt64, 1, 0), seg(math.MaxInt64, 2, 0)), math.MaxInt64, vec(2, 0)},
		{list(seg(math.MaxInt64, 1, 0), seg(math.MinInt64, 2, 0)), math.MaxInt64, vec(2, 0)},
	} {
		if v := rle.At(x.f, x.at); v != x.v {
			t.Errorf("At(%v, %d): %v; want %v", x.f, x.at, v, x.v)
		}
	}
}

// P2.2: At of every short list, canonical or not.
func TestAtAll(t *testing.T) {
	lists(5, []int64{0, 1, 2}, []api.Vec{vec(1, 0), vec(0, 2)}, func(l []api.Seg) {
		for at := int64(-1); at < 4; at++ {
			var want api.Vec
			for _, s := range l {
				if s.At <= at {
					want = s.V
				}
			}
			if v := rle.At(l, at); v != want {
				t.Fatalf("At(%v, %d): %v; want %v", l, at, v, want)
			}
		}
	})
}

// P2.2: At of functions of every length up to some, at, ahead of and behind each of their runs.
func TestAtLong(t *testing.T) {
	var f []api.Seg
	for n := range int64(70) {
		f = append(f, seg(10*n, n+1, -n))
		for i := range n + 1 {
			for at, want := range map[int64]api.Vec{10*i - 1: vec(i, 1-i), 10 * i: vec(i+1, -i), 10*i + 9: vec(i+1, -i)} {
				if i == 0 && at < 0 {
					want = vec(0, 0)
				}
				if v := rle.At(f, at); v != want {
					t.Fatalf("%d runs, at %d: %v; want %v", n+1, at, v, want)
				}
			}
		}
	}
}

// P2.2
func TestSame(t *testing.T) {
	f := list(seg(2, 3, 3), seg(5, 2, 2))
	for i, g := range [][]api.Seg{
		nil,
		list(),
		list(seg(2, 3, 3)),
		list(seg(2, 3, 3), seg(5, 2, 2), seg(6, 0, 0)),
		list(seg(2, 3, 3), seg(6, 2, 2)),
		list(seg(2, 3, 3), seg(5, 1, 2)),
		list(seg(2, 3, 3), seg(5, 2, 1)),
		list(seg(1, 3, 3), seg(5, 2, 2)),
		// These have the same values, but not the same runs.
		list(seg(2, 3, 3), seg(3, 3, 3), seg(5, 2, 2)),
		list(seg(5, 2, 2), seg(2, 3, 3)),
		list(seg(1, 0, 0), seg(2, 3, 3), seg(5, 2, 2)),
	} {
		if rle.Same(f, g) || rle.Same(g, f) {
			t.Errorf("%d: %v and %v are not equal", i, f, g)
		}
		if !rle.Same(g, slices.Clone(g)) {
			t.Errorf("%d: %v is equal to itself", i, g)
		}
	}
	if !rle.Same(nil, list()) || !rle.Same(list(), nil) || !rle.Same(nil, nil) {
		t.Error("nil and empty are equal")
	}
	if rle.Same(list(seg(1, 0, 0)), nil) || rle.Same(nil, list(seg(1, 0, 0))) {
		t.Error("a run of zero is a run")
	}
	if !rle.Same(wrong, slices.Clone(wrong)) {
		t.Error("what is not canonical is equal to itself")
	}
}

// P2.2
func TestEnds(t *testing.T) {
	for _, x := range []struct {
		f          []api.Seg
		begin, end int64
		ends       bool
	}{
		{nil, 0, 0, true},
		{list(), 0, 0, true},
		{list(seg(2, 3, 3), seg(5, 2, 2)), 2, 5, false},
		{list(seg(3, 1, 0), seg(7, 0, 0)), 3, 7, true},
		{list(seg(3, 1, 0), seg(7, 1, 1), seg(8, 0, 0)), 3, 8, true},
		{list(seg(3, 1, 0), seg(7, 0, 1)), 3, 7, false},
		{list(seg(3, 1, 0), seg(7, 1, 1)), 3, 7, false},
		{list(seg(3, 1, 0), seg(7, 2, 0)), 3, 7, false},
		{list(seg(4, 0, -1)), 4, 4, false},
		{list(seg(-top, 1, 0), seg(top, 0, 0)), -top, top, true},
		// These are not canonical.
		{list(seg(4, 0, 0)), 4, 4, true},
		{list(seg(9, 0, 0), seg(2, 1, 1)), 9, 2, false},
		{list(seg(9, 1, 1), seg(20, 1, 1), seg(2, 0, 0)), 9, 2, true},
		{list(seg(math.MinInt64, 1, 0), seg(math.MaxInt64, 0, 0)), math.MinInt64, math.MaxInt64, true},
	} {
		begin, end, ends := rle.Ends(x.f)
		if begin != x.begin || end != x.end || ends != x.ends {
			t.Errorf("Ends(%v): %d %d %v; want %d %d %v", x.f, begin, end, ends, x.begin, x.end, x.ends)
		}
	}
}

// P2.3
func TestBox(t *testing.T) {
	for _, x := range []struct {
		from, to int64
		v        api.Vec
		f        []api.Seg
		e        api.Errno
	}{
		{3, 7, vec(1, 0), list(seg(3, 1, 0), seg(7, 0, 0)), api.OK},
		{-3, 0, vec(0, -4), list(seg(-3, 0, -4), seg(0, 0, 0)), api.OK},
		{3, 4, vec(1, 2), list(seg(3, 1, 2), seg(4, 0, 0)), api.OK},
		{-top, top, vec(top, -top), list(seg(-top, top, -top), seg(top, 0, 0)), api.OK},
		// Nothing is v, or v is nothing.
		{3, 3, vec(1, 0), nil, api.OK},
		{top, top, vec(top, top), nil, api.OK},
		{-top, -top, vec(1, 1), nil, api.OK},
		{3, 7, vec(0, 0), nil, api.OK},
		{3, 3, vec(0, 0), nil, api.OK},
		{4, 3, vec(1, 0), nil, api.ErrArg},
		{4, 3, vec(0, 0), nil, api.ErrArg},
		{math.MaxInt64, math.MinInt64, vec(1, 0), nil, api.ErrArg},
		{0, top + 1, vec(1, 0), nil, api.ErrRange},
		{-top - 1, 0, vec(1, 0), nil, api.ErrRange},
		{-top - 1, 0, vec(0, 0), nil, api.ErrRange},
		{top + 1, top + 1, vec(1, 0), nil, api.ErrRange},
		{-top - 1, -top - 1, vec(1, 0), nil, api.ErrRange},
		{math.MinInt64, math.MaxInt64, vec(1, 0), nil, api.ErrRange},
		{3, 7, vec(top+1, 0), nil, api.ErrRange},
		{3, 7, vec(0, -top-1), nil, api.ErrRange},
		{3, 7, vec(math.MinInt64, math.MaxInt64), nil, api.ErrRange},
		{3, 3, vec(top+1, 0), nil, api.ErrRange},
		// ErrArg comes first.
		{top + 2, top + 1, vec(1, 0), nil, api.ErrArg},
		{0, -top - 1, vec(1, 0), nil, api.ErrArg},
		{4, 3, vec(top+1, 0), nil, api.ErrArg},
	} {
		f, e := rle.Box(x.from, x.to, x.v)
		same(t, "Box", f, e, x.f, x.e)
	}
}

// P2.3: the values of a box, and that it is canonical.
func TestBoxValues(t *testing.T) {
	for from := int64(-3); from < 4; from++ {
		for to := from; to < 5; to++ {
			for _, v := range []api.Vec{vec(0, 0), vec(2, 0), vec(0, -2)} {
				f, e := rle.Box(from, to, v)
				if e != api.OK || !rle.May(f) {
					t.Fatalf("Box(%d, %d, %v): %v, %d", from, to, v, f, e)
				}
				for at := int64(-5); at < 7; at++ {
					want := vec(0, 0)
					if from <= at && at < to {
						want = v
					}
					if got := rle.At(f, at); got != want {
						t.Fatalf("Box(%d, %d, %v) at %d: %v", from, to, v, at, got)
					}
				}
			}
		}
	}
}

// P2.4: no two canonical functions have the same value at every time; Of leaves each as it is.
func TestCanonical(t *testing.T) {
	seen := map[[6]api.Vec][]api.Seg{}
	lists(4, []int64{0, 1, 2, 3}, []api.Vec{{}, vec(1, 0), vec(0, 1)}, func(f []api.Seg) {
		if !rle.May(f) {
			return
		}
		var values [6]api.Vec
		for i := range values {
			values[i] = rle.At(f, int64(i)-1)
		}
		if g, ok := seen[values]; ok && !rle.Same(f, g) {
			t.Fatalf("%v and %v have the same values", f, g)
		}
		seen[values] = f
		if g, e := rle.Of(f); !rle.Same(f, g) || e != api.OK {
			t.Fatalf("Of(%v): %v, %d", f, g, e)
		}
	})
	if len(seen) != 81 { // one of each row of four values
		t.Error(len(seen))
	}
}

// R5: arguments stay as they were, behind their length too, and what is answered is new memory.
func TestMemory(t *testing.T) {
	all := list(seg(5, 1, 1), seg(2, 3, 3), seg(5, 2, 2), seg(9, 2, 2), seg(7, 7, 7), seg(1, 1, 1))
	canonical := list(seg(2, 3, 3), seg(5, 2, 2), seg(9, 0, 0), seg(7, 7, 7), seg(1, 1, 1))
	for _, whole := range [][]api.Seg{all, canonical} {
		was := slices.Clone(whole)
		raw := whole[:len(whole)-2]
		f, e := rle.Of(raw)
		if e != api.OK || len(f) == 0 {
			t.Fatal(f, e)
		}
		rle.May(raw)
		rle.At(raw, 6)
		rle.Same(raw, raw)
		rle.Ends(raw)
		f = f[:cap(f)]
		for i := range f {
			f[i] = seg(-8, -8, -8)
		}
		if !slices.Equal(whole, was) {
			t.Errorf("the argument was %v, and is %v", was, whole)
		}
		g, _ := rle.Of(raw)
		h := slices.Clone(g)
		for i := range raw {
			raw[i] = seg(-9, -9, -9)
		}
		if !slices.Equal(g, h) {
			t.Errorf("the answer was %v, and is %v", h, g)
		}
	}
	f, _ := rle.Box(3, 7, vec(1, 1))
	g, _ := rle.Box(3, 7, vec(1, 1))
	f[0] = seg(-8, -8, -8)
	if !slices.Equal(g, list(seg(3, 1, 1), seg(7, 0, 0))) {
		t.Errorf("a box was changed through another one: %v", g)
	}
}
