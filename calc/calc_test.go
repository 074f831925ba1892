package calc_test

import (
	"math"
	"slices"
	"testing"

	"livery/api"
	"livery/calc"
	"livery/rle"
	"livery/sample"
)

const top = sample.Top

var (
	vec   = sample.Vec
	seg   = sample.Seg
	list  = sample.List
	box   = sample.Box
	long  = sample.Long
	value = sample.Value
	below = sample.Below
	spoil = sample.Spoil
	wrong = sample.Wrong()
)

// shorts returns all canonical functions whose At are of 0, 1 and 2, and whose V are of vs; zero is one of vs.
func shorts(vs ...api.Vec) [][]api.Seg { return sample.Shorts([]int64{0, 1, 2}, vs...) }

// same holds an answer against what is expected; without runs it must be nil.
func same(t *testing.T, call string, f []api.Seg, e api.Errno, want []api.Seg, we api.Errno) {
	t.Helper()
	if !slices.Equal(f, want) || e != we || len(f) == 0 && f != nil {
		t.Errorf("%s: %v, %d; want %v, %d", call, f, e, want, we)
	}
}

// made holds an answer without an error, which must be canonical, against the value that it must have at each time from from on, up to to.
func made(t *testing.T, call string, f []api.Seg, e api.Errno, from, to int64, want func(at int64) api.Vec) {
	t.Helper()
	if e != api.OK || !rle.May(f) || len(f) == 0 && f != nil {
		t.Fatalf("%s: %v, %d", call, f, e)
	}
	for at := from; at < to; at++ {
		if value(f, at) != want(at) {
			t.Fatalf("%s: %v: %v at %d; want %v", call, f, value(f, at), at, want(at))
		}
	}
}

// operation is a call of two functions, and what it does with two values.
type operation struct {
	name string
	call func(f, g []api.Seg) ([]api.Seg, api.Errno)
	op   func(a, b api.Vec) api.Vec
}

var operations = []operation{
	{
		"Add",
		func(f, g []api.Seg) ([]api.Seg, api.Errno) { return calc.Add(f, g) },
		func(a, b api.Vec) api.Vec { return vec(a.Mem+b.Mem, a.Cores+b.Cores) },
	},
	{"Sub", calc.Sub, func(a, b api.Vec) api.Vec { return vec(a.Mem-b.Mem, a.Cores-b.Cores) }},
	{"Min", calc.Min, func(a, b api.Vec) api.Vec { return vec(min(a.Mem, b.Mem), min(a.Cores, b.Cores)) }},
	{"Max", calc.Max, func(a, b api.Vec) api.Vec { return vec(max(a.Mem, b.Mem), max(a.Cores, b.Cores)) }},
}

// P3.1
func TestOperations(t *testing.T) {
	f, g := box(2, 8, vec(3, 1)), box(5, 9, vec(1, 1))
	open, rest := list(seg(2, 3, 1)), list(seg(5, -1, 4))
	for i, x := range []struct {
		f, g []api.Seg
		want [4][]api.Seg // of the operations, in their order
	}{
		{nil, nil, [4][]api.Seg{}},
		{list(), nil, [4][]api.Seg{}},
		{nil, list(), [4][]api.Seg{}},
		{list(), list(), [4][]api.Seg{}},
		{f, nil, [4][]api.Seg{f, f, nil, f}},
		{nil, f, [4][]api.Seg{f, box(2, 8, vec(-3, -1)), nil, f}},
		{list(), f, [4][]api.Seg{f, box(2, 8, vec(-3, -1)), nil, f}},
		{box(2, 8, vec(-3, -1)), list(), [4][]api.Seg{box(2, 8, vec(-3, -1)), box(2, 8, vec(-3, -1)), box(2, 8, vec(-3, -1)), nil}},
		{f, f, [4][]api.Seg{box(2, 8, vec(6, 2)), nil, f, f}},
		{f, g, [4][]api.Seg{
			list(seg(2, 3, 1), seg(5, 4, 2), seg(8, 1, 1), seg(9, 0, 0)),
			list(seg(2, 3, 1), seg(5, 2, 0), seg(8, -1, -1), seg(9, 0, 0)),
			box(5, 8, vec(1, 1)),
			list(seg(2, 3, 1), seg(8, 1, 1), seg(9, 0, 0)),
		}},
		// They begin, or end, at the same time.
		{f, box(2, 5, vec(1, 2)), [4][]api.Seg{
			list(seg(2, 4, 3), seg(5, 3, 1), seg(8, 0, 0)),
			list(seg(2, 2, -1), seg(5, 3, 1), seg(8, 0, 0)),
			box(2, 5, vec(1, 1)),
			list(seg(2, 3, 2), seg(5, 3, 1), seg(8, 0, 0)),
		}},
		{f, box(4, 8, vec(1, 2)), [4][]api.Seg{
			list(seg(2, 3, 1), seg(4, 4, 3), seg(8, 0, 0)),
			list(seg(2, 3, 1), seg(4, 2, -1), seg(8, 0, 0)),
			box(4, 8, vec(1, 1)),
			list(seg(2, 3, 1), seg(4, 3, 2), seg(8, 0, 0)),
		}},
		// One begins where the other one ends, with another value and with the same one.
		{f, box(8, 9, vec(1, 1)), [4][]api.Seg{
			list(seg(2, 3, 1), seg(8, 1, 1), seg(9, 0, 0)),
			list(seg(2, 3, 1), seg(8, -1, -1), seg(9, 0, 0)),
			nil,
			list(seg(2, 3, 1), seg(8, 1, 1), seg(9, 0, 0)),
		}},
		{f, box(8, 11, vec(3, 1)), [4][]api.Seg{
			box(2, 11, vec(3, 1)),
			list(seg(2, 3, 1), seg(8, -3, -1), seg(11, 0, 0)),
			nil,
			box(2, 11, vec(3, 1)),
		}},
		{f, box(0, 2, vec(3, 1)), [4][]api.Seg{
			box(0, 8, vec(3, 1)),
			list(seg(0, -3, -1), seg(2, 3, 1), seg(8, 0, 0)),
			nil,
			box(0, 8, vec(3, 1)),
		}},
		// They do not end, or one of them does.
		{open, rest, [4][]api.Seg{
			list(seg(2, 3, 1), seg(5, 2, 5)),
			list(seg(2, 3, 1), seg(5, 4, -3)),
			list(seg(5, -1, 1)),
			list(seg(2, 3, 1), seg(5, 3, 4)),
		}},
		{open, f, [4][]api.Seg{list(seg(2, 6, 2), seg(8, 3, 1)), list(seg(8, 3, 1)), f, open}},
		{rest, f, [4][]api.Seg{
			list(seg(2, 3, 1), seg(5, 2, 5), seg(8, -1, 4)),
			list(seg(2, -3, -1), seg(5, -4, 3), seg(8, -1, 4)),
			list(seg(5, -1, 1), seg(8, -1, 0)),
			list(seg(2, 3, 1), seg(5, 3, 4), seg(8, 0, 4)),
		}},
		{open, open, [4][]api.Seg{list(seg(2, 6, 2)), nil, open, open}},
		// The components have nothing to do with one another.
		{box(0, 9, vec(-2, 5)), box(3, 6, vec(5, -2)), [4][]api.Seg{
			list(seg(0, -2, 5), seg(3, 3, 3), seg(6, -2, 5), seg(9, 0, 0)),
			list(seg(0, -2, 5), seg(3, -7, 7), seg(6, -2, 5), seg(9, 0, 0)),
			list(seg(0, -2, 0), seg(3, -2, -2), seg(6, -2, 0), seg(9, 0, 0)),
			list(seg(0, 0, 5), seg(3, 5, 5), seg(6, 0, 5), seg(9, 0, 0)),
		}},
	} {
		for k, o := range operations {
			got, e := o.call(x.f, x.g)
			same(t, o.name+" "+string(rune('a'+i)), got, e, x.want[k], api.OK)
		}
	}
}

// P3.1: all pairs of short functions.
func TestOperationsAll(t *testing.T) {
	l := shorts(vec(0, 0), vec(1, 0), vec(0, 1), vec(2, -1))
	for _, f := range l {
		for _, g := range l {
			for _, o := range operations {
				got, e := o.call(f, g)
				made(t, o.name, got, e, -2, 5, func(at int64) api.Vec { return o.op(value(f, at), value(g, at)) })
			}
		}
	}
}

// P3.1
func TestOperationsLong(t *testing.T) {
	for _, n := range []int64{1, 2, 17, 90} {
		for seed := range int64(6) {
			f, g := long(n, seed), long(n+seed*3, seed+1)
			for _, o := range operations {
				got, e := o.call(f, g)
				made(t, o.name, got, e, -130, 400, func(at int64) api.Vec { return o.op(value(f, at), value(g, at)) })
			}
		}
	}
}

// P3.1
func TestAdd(t *testing.T) {
	f, open := box(2, 8, vec(3, 1)), list(seg(5, -1, 4))
	for i, x := range []struct {
		l    [][]api.Seg
		want []api.Seg
	}{
		{nil, nil},
		{[][]api.Seg{}, nil},
		{[][]api.Seg{nil}, nil},
		{[][]api.Seg{{}}, nil},
		{[][]api.Seg{nil, {}, nil}, nil},
		{[][]api.Seg{f}, f},
		{[][]api.Seg{open}, open},
		{[][]api.Seg{nil, f, {}}, f},
		{[][]api.Seg{f, f, f}, box(2, 8, vec(9, 3))},
		{[][]api.Seg{f, open, f}, list(seg(2, 6, 2), seg(5, 5, 6), seg(8, -1, 4))},
		{[][]api.Seg{f, open, box(2, 8, vec(-3, -1)), list(seg(5, 1, -4))}, nil},
	} {
		got, e := calc.Add(x.l...)
		same(t, "Add "+string(rune('a'+i)), got, e, x.want, api.OK)
	}
}

// P3.1: a sum of many functions.
func TestAddMany(t *testing.T) {
	var l [][]api.Seg
	for i := range int64(300) {
		l = append(l, box(i*7%101, i*7%101+1+i%23, vec(i%9-4, 1+i%5)), nil)
		if i%10 == 0 {
			l = append(l, long(i, i), list(seg(i, -i, 1)))
		}
	}
	got, e := calc.Add(l...)
	made(t, "Add", got, e, -310, 700, func(at int64) api.Vec {
		var sum api.Vec
		for _, f := range l {
			sum = operations[0].op(sum, value(f, at))
		}
		return sum
	})
}

// P3.1: values at the limit, and one beyond it.
func TestOperationsRange(t *testing.T) {
	for _, v := range []struct{ most, one api.Vec }{
		{vec(top, 0), vec(1, 0)},
		{vec(0, top), vec(0, 1)},
		{vec(-top, 0), vec(-1, 0)},
		{vec(0, -top), vec(0, -1)},
		{vec(top, -top), vec(1, 0)},
		{vec(top, -top), vec(0, -1)},
	} {
		most, back := box(0, 10, v.most), vec(-v.one.Mem, -v.one.Cores)
		less := vec(v.most.Mem-v.one.Mem, v.most.Cores-v.one.Cores)
		none := func(call string, f []api.Seg, e api.Errno) {
			t.Helper()
			same(t, call, f, e, nil, api.ErrRange)
		}
		for _, w := range [][2]int64{{0, 10}, {0, 1}, {9, 10}, {4, 5}, {-5, 1}, {9, 20}, {-5, 20}} {
			one, minus := box(w[0], w[1], v.one), box(w[0], w[1], back)
			sum, e := calc.Add(most, one)
			none("Add", sum, e)
			sum, e = calc.Add(one, most)
			none("Add", sum, e)
			difference, e := calc.Sub(most, minus)
			none("Sub", difference, e)
			more, e := calc.Range(most, w[0], w[1], v.one)
			none("Range", more, e)
			// The other way it is within the limit.
			sum, e = calc.Add(most, minus)
			difference, de := calc.Sub(most, one)
			more, me := calc.Range(most, w[0], w[1], back)
			if e != api.OK || de != api.OK || me != api.OK || !rle.Same(sum, difference) || !rle.Same(sum, more) {
				t.Error(v, w, sum, e, difference, de, more, me)
			}
			// Min and Max have no value that is not valid.
			for _, o := range operations[2:] {
				got, e := o.call(most, one)
				made(t, o.name, got, e, -7, 22, func(at int64) api.Vec { return o.op(value(most, at), value(one, at)) })
			}
		}
		// Exactly the limit, and what is beside it without meeting it.
		got, e := calc.Add(box(0, 10, less), box(0, 10, v.one))
		same(t, "Add", got, e, most, api.OK)
		got, e = calc.Sub(box(0, 10, less), box(0, 10, back))
		same(t, "Sub", got, e, most, api.OK)
		got, e = calc.Range(box(0, 10, less), 0, 10, v.one)
		same(t, "Range", got, e, most, api.OK)
		got, e = calc.Add(most, box(10, 20, v.one))
		same(t, "Add", got, e, list(api.Seg{At: 0, V: v.most}, api.Seg{At: 10, V: v.one}, seg(20, 0, 0)), api.OK)
		got, e = calc.Sub(most, box(-5, 0, back))
		same(t, "Sub", got, e, list(api.Seg{At: -5, V: v.one}, api.Seg{At: 0, V: v.most}, seg(10, 0, 0)), api.OK)
		got, e = calc.Range(most, 10, 20, v.one)
		same(t, "Range", got, e, list(api.Seg{At: 0, V: v.most}, api.Seg{At: 10, V: v.one}, seg(20, 0, 0)), api.OK)
	}
	got, e := calc.Sub(box(0, 9, vec(top, -top)), box(0, 9, vec(-top, top)))
	same(t, "Sub", got, e, nil, api.ErrRange)
	got, e = calc.Sub(nil, box(0, 9, vec(-top, top)))
	same(t, "Sub", got, e, box(0, 9, vec(top, -top)), api.OK)
}

// P3.1: the sum of the first few functions counts too.
func TestAddFirstFew(t *testing.T) {
	most, one, less := box(0, 10, vec(top, -top)), box(4, 5, vec(1, 0)), box(0, 20, vec(-5, 5))
	under := box(4, 5, vec(0, -1))
	for i, x := range []struct {
		l [][]api.Seg
		e api.Errno
	}{
		{[][]api.Seg{most, one, less}, api.ErrRange},
		{[][]api.Seg{one, most, less}, api.ErrRange},
		{[][]api.Seg{nil, most, nil, one, less, nil}, api.ErrRange},
		{[][]api.Seg{most, under, less}, api.ErrRange},
		{[][]api.Seg{most, less, one}, api.OK},
		{[][]api.Seg{less, under, most, one}, api.OK},
		{[][]api.Seg{one, less, most}, api.OK},
		{[][]api.Seg{most, less, less, one, one, under, most}, api.ErrRange},
	} {
		got, e := calc.Add(x.l...)
		if e != x.e {
			t.Errorf("%d: %d", i, e)
		}
		if e != api.OK && got != nil {
			t.Errorf("%d: %v beside an error", i, got)
		}
	}
	// So many of the greatest that a sum of 64 bits would be back at a valid one.
	var l [][]api.Seg
	for range 1 << 14 {
		l = append(l, list(seg(0, top, 0)))
	}
	got, e := calc.Add(l...)
	same(t, "Add", got, e, nil, api.ErrRange)
}

// P3.1, P3.2: times at the limit.
func TestTimes(t *testing.T) {
	f, g := list(seg(-top, 1, 0), seg(top, 0, 0)), list(seg(-top, 0, 2), seg(top, 5, 5))
	for i, o := range operations {
		got, e := o.call(f, g)
		want := [][]api.Seg{
			list(seg(-top, 1, 2), seg(top, 5, 5)),
			list(seg(-top, 1, -2), seg(top, -5, -5)),
			nil,
			list(seg(-top, 1, 2), seg(top, 5, 5)),
		}[i]
		same(t, o.name, got, e, want, api.OK)
	}
	got, e := calc.Range(g, -top, top, vec(0, -2))
	same(t, "Range", got, e, list(seg(top, 5, 5)), api.OK)
	got, e = calc.Range(nil, -top, top, vec(top, -top))
	same(t, "Range", got, e, box(-top, top, vec(top, -top)), api.OK)
	for _, at := range []int64{-top, top} {
		got, e = calc.Range(f, at, at, vec(1, 1))
		same(t, "Range", got, e, f, api.OK)
	}
}

// P3.1: a function that is not canonical, wherever it is, and whatever else is wrong.
func TestOperationsForm(t *testing.T) {
	most := box(0, 10, vec(top, -top))
	for _, w := range wrong {
		for _, g := range [][]api.Seg{nil, box(2, 8, vec(3, 1)), most, w} {
			for _, o := range operations {
				got, e := o.call(w, g)
				same(t, o.name, got, e, nil, api.ErrForm)
				got, e = o.call(g, w)
				same(t, o.name, got, e, nil, api.ErrForm)
			}
		}
		for _, l := range [][][]api.Seg{{w}, {w, w, w}, {w, most, most}, {most, w, most}, {most, most, w}, {most, most, nil, nil, w, nil}} {
			got, e := calc.Add(l...)
			same(t, "Add", got, e, nil, api.ErrForm)
		}
	}
}

// P3.2
func TestRange(t *testing.T) {
	f := list(seg(2, 3, 1), seg(5, 7, 7), seg(8, 0, 0))
	for i, x := range []struct {
		f        []api.Seg
		from, to int64
		v        api.Vec
		want     []api.Seg
	}{
		{nil, 3, 7, vec(1, -1), box(3, 7, vec(1, -1))},
		{list(), 3, 7, vec(1, -1), box(3, 7, vec(1, -1))},
		{box(2, 8, vec(3, 1)), 4, 8, vec(-3, -1), box(2, 4, vec(3, 1))},
		{box(2, 8, vec(3, 1)), 2, 8, vec(-3, -1), nil},
		{box(2, 8, vec(3, 1)), 8, 9, vec(3, 1), box(2, 9, vec(3, 1))},
		{box(2, 8, vec(3, 1)), 0, 2, vec(3, 1), box(0, 8, vec(3, 1))},
		{f, 3, 6, vec(1, 0), list(seg(2, 3, 1), seg(3, 4, 1), seg(5, 8, 7), seg(6, 7, 7), seg(8, 0, 0))},
		{f, 2, 5, vec(4, 6), box(2, 8, vec(7, 7))},
		{f, 5, 8, vec(-4, -6), box(2, 8, vec(3, 1))},
		{f, -9, 99, vec(0, 1), list(seg(-9, 0, 1), seg(2, 3, 2), seg(5, 7, 8), seg(8, 0, 1), seg(99, 0, 0))},
		{list(seg(2, 3, 1)), 5, 6, vec(-3, -1), list(seg(2, 3, 1), seg(5, 0, 0), seg(6, 3, 1))},
		{list(seg(2, 3, 1)), 0, 9, vec(-3, -1), list(seg(0, -3, -1), seg(2, 0, 0), seg(9, 3, 1))},
		// The window is empty, or there is nothing to add.
		{f, 5, 5, vec(9, 9), f},
		{f, 4, 4, vec(9, 9), f},
		{f, 100, 100, vec(9, 9), f},
		{nil, 0, 0, vec(9, 9), nil},
		{f, 3, 7, vec(0, 0), f},
		{f, 5, 5, vec(0, 0), f},
		{nil, 3, 7, vec(0, 0), nil},
		{box(2, 8, vec(top, top)), 5, 5, vec(1, 1), box(2, 8, vec(top, top))},
	} {
		got, e := calc.Range(x.f, x.from, x.to, x.v)
		same(t, "Range "+string(rune('a'+i)), got, e, x.want, api.OK)
	}
}

// P3.2
func TestRangeWrong(t *testing.T) {
	f := box(2, 8, vec(3, 1))
	for _, x := range []struct {
		from, to int64
		v        api.Vec
		e        api.Errno
	}{
		{4, 3, vec(1, 0), api.ErrArg},
		{4, 3, vec(0, 0), api.ErrArg},
		{math.MaxInt64, math.MinInt64, vec(1, 0), api.ErrArg},
		{0, top + 1, vec(1, 0), api.ErrRange},
		{-top - 1, 0, vec(1, 0), api.ErrRange},
		{math.MinInt64, math.MaxInt64, vec(1, 0), api.ErrRange},
		{0, top + 1, vec(0, 0), api.ErrRange},
		{-top - 1, 0, vec(0, 0), api.ErrRange},
		{top + 1, top + 1, vec(1, 0), api.ErrRange},
		{-top - 1, -top - 1, vec(0, 0), api.ErrRange},
		{3, 7, vec(top+1, 0), api.ErrRange},
		{3, 7, vec(0, -top-1), api.ErrRange},
		{3, 7, vec(0, math.MinInt64), api.ErrRange},
		{3, 7, vec(math.MaxInt64, 0), api.ErrRange},
		{3, 3, vec(top+1, 0), api.ErrRange},
		{3, 3, vec(0, -top-1), api.ErrRange},
		// The vector is not valid, but the sum would be.
		{3, 7, vec(-top-2, 0), api.ErrRange},
		// ErrArg comes ahead of ErrRange.
		{top + 2, top + 1, vec(1, 0), api.ErrArg},
		{0, -top - 1, vec(1, 0), api.ErrArg},
		{4, 3, vec(top+1, 0), api.ErrArg},
		{8, 2, vec(top, top), api.ErrArg},
	} {
		got, e := calc.Range(f, x.from, x.to, x.v)
		same(t, "Range", got, e, nil, x.e)
		for _, w := range wrong {
			got, e = calc.Range(w, x.from, x.to, x.v)
			same(t, "Range", got, e, nil, api.ErrForm)
		}
	}
	for _, w := range wrong {
		got, e := calc.Range(w, 3, 7, vec(1, 1))
		same(t, "Range", got, e, nil, api.ErrForm)
		got, e = calc.Range(w, 3, 3, vec(0, 0))
		same(t, "Range", got, e, nil, api.ErrForm)
	}
}

// P3.2, P3.4: short and long functions, all windows; and back again.
func TestRangeAll(t *testing.T) {
	l := append(shorts(vec(0, 0), vec(1, 0), vec(0, 1)), long(4, 1), long(4, 2), long(5, 3))
	for _, f := range l {
		for from := int64(-6); from < 9; from++ {
			for to := from; to < 9; to++ {
				for _, v := range []api.Vec{vec(0, 0), vec(1, 0), vec(-1, 1)} {
					got, e := calc.Range(f, from, to, v)
					made(t, "Range", got, e, -8, 12, func(at int64) api.Vec {
						if at < from || at >= to {
							return value(f, at)
						}
						return operations[0].op(value(f, at), v)
					})
					back, e := calc.Range(got, from, to, vec(-v.Mem, -v.Cores))
					same(t, "Range back", back, e, f, api.OK)
				}
			}
		}
	}
}

// le holds an answer of LE against what is expected.
func le(t *testing.T, f, g []api.Seg, from, at int64, is bool, we api.Errno) {
	t.Helper()
	if a, i, e := calc.LE(f, g, from); a != at || i != is || e != we {
		t.Fatalf("LE(%v, %v, %d): %d %v %d; want %d %v %d", f, g, from, a, i, e, at, is, we)
	}
}

// P3.3
func TestLE(t *testing.T) {
	f, g := box(2, 8, vec(3, 1)), box(5, 9, vec(1, 1))
	open := list(seg(3, 1, 1))
	for _, x := range []struct {
		f, g     []api.Seg
		from, at int64
		is       bool
	}{
		{nil, nil, 0, 0, true},
		{list(), nil, 5, 0, true},
		{nil, list(), math.MinInt64, 0, true},
		{nil, f, math.MinInt64, 0, true},
		{f, nil, math.MinInt64, 2, false},
		{f, list(), 3, 3, false},
		{f, f, math.MinInt64, 0, true},
		{g, f, 0, 8, false},
		{g, f, 6, 8, false},
		{g, f, 7, 8, false},
		{g, f, 8, 8, false},
		{g, f, 9, 0, true},
		{f, g, math.MinInt64, 2, false},
		{f, g, 1, 2, false},
		{f, g, 2, 2, false},
		{f, g, 4, 4, false},
		{f, g, 7, 7, false},
		{f, g, 8, 0, true},
		{f, g, math.MaxInt64, 0, true},
		// From every time on, also where a function does not end.
		{open, nil, math.MinInt64, 3, false},
		{open, nil, 100, 100, false},
		{open, nil, math.MaxInt64, math.MaxInt64, false},
		{nil, list(seg(3, 0, -1)), math.MaxInt64, math.MaxInt64, false},
		{nil, open, math.MaxInt64, 0, true},
		{open, open, math.MaxInt64, 0, true},
		// One component is enough.
		{box(2, 8, vec(3, 2)), f, 0, 2, false},
		{box(2, 8, vec(4, 1)), f, 0, 2, false},
		{box(2, 8, vec(9, 0)), f, 0, 2, false},
		{box(2, 8, vec(0, 9)), f, 0, 2, false},
		{box(2, 8, vec(3, -9)), f, 0, 0, true},
		// A gap of g, and a fall of g below zero ahead of f.
		{box(2, 8, vec(1, 1)), list(seg(2, 1, 1), seg(4, 0, 0), seg(5, 1, 1)), 0, 4, false},
		{box(2, 8, vec(1, 1)), list(seg(2, 1, 1), seg(4, 0, 0), seg(5, 1, 1)), 5, 0, true},
		{f, list(seg(-7, -1, 0), seg(1, 5, 5)), math.MinInt64, -7, false},
		{f, list(seg(-7, -1, 0), seg(1, 5, 5)), 0, 0, false},
		{f, list(seg(-7, -1, 0), seg(1, 5, 5)), -1, -1, false},
		{f, list(seg(-7, -1, 0), seg(1, 5, 5)), 1, 0, true},
		// The first time is 0, which tells of itself nothing.
		{box(0, 1, vec(1, 1)), nil, -5, 0, false},
		// The edges of times and values; the difference would not be valid.
		{box(-top, top, vec(top, top)), box(-top, top, vec(-top, -top)), math.MinInt64, -top, false},
		{box(-top, top, vec(-top, -top)), box(-top, top, vec(top, top)), math.MinInt64, 0, true},
		{list(seg(top, 1, 0)), nil, math.MinInt64, top, false},
		{list(seg(top, 1, 0)), nil, top - 1, top, false},
		{list(seg(top, 1, 0)), nil, top + 1, top + 1, false},
		{box(-top, top, vec(top, 0)), box(-top, top, vec(top-1, 0)), top - 1, top - 1, false},
		{box(-top, top, vec(top, 0)), box(-top, top, vec(top-1, 0)), top, 0, true},
	} {
		le(t, x.f, x.g, x.from, x.at, x.is, api.OK)
	}
}

// first returns the first time from from on at which f is not at most g, looked for time by time from low on up to high, between which all their runs are.
func first(f, g []api.Seg, from, low, high int64) (int64, bool) {
	if !below(value(f, from), value(g, from)) {
		return from, false
	}
	for at := low; at < high; at++ {
		if at > from && !below(value(f, at), value(g, at)) {
			return at, false
		}
	}
	return 0, true
}

// P3.3: all pairs of short functions, from a time at, ahead of and behind each run, and from the ends of an int64.
func TestLEAll(t *testing.T) {
	l := shorts(vec(0, 0), vec(1, 0), vec(0, 1), vec(1, 1), vec(-1, 0))
	for _, f := range l {
		for _, g := range l {
			for _, from := range []int64{math.MinInt64, -top - 1, -1, 0, 1, 2, 3, top + 1, math.MaxInt64} {
				at, is := first(f, g, from, -2, 5)
				le(t, f, g, from, at, is, api.OK)
			}
		}
	}
}

// P3.3: long functions, of which one is brought below the other one but for a stretch.
func TestLELong(t *testing.T) {
	for seed := range int64(4) {
		f, g := long(60, seed), long(70, seed+1)
		high, _ := calc.Max(f, g)
		for at := int64(-90); at < 260; at += 11 {
			h, _ := calc.Range(f, at, at+3, vec(at%2, 40-at%2))
			for from := int64(-95); from < 270; from++ {
				want, is := first(h, high, from, -100, 300)
				le(t, h, high, from, want, is, api.OK)
				want, is = first(f, g, from, -100, 300)
				le(t, f, g, from, want, is, api.OK)
			}
		}
	}
}

// P3.3
func TestLEForm(t *testing.T) {
	for _, w := range wrong {
		for _, from := range []int64{math.MinInt64, -5, 0, 1, math.MaxInt64} {
			for _, g := range [][]api.Seg{nil, box(2, 8, vec(3, 1)), w} {
				le(t, w, g, from, 0, false, api.ErrForm)
				le(t, g, w, from, 0, false, api.ErrForm)
			}
		}
	}
}

// P3.4, P3.5: of all pairs of short functions, and of long ones.
func TestLaws(t *testing.T) {
	l := append(shorts(vec(0, 0), vec(1, 0), vec(0, 1), vec(2, -1)), long(40, 1), long(40, 2), long(55, 3))
	for _, f := range l {
		for _, g := range l {
			difference, e := calc.Sub(f, g)
			if e != api.OK {
				t.Fatal(f, g, e)
			}
			sum, e := calc.Add(g, difference)
			same(t, "Add(g, f - g)", sum, e, f, api.OK)
			low, _ := calc.Min(f, g)
			high, _ := calc.Max(f, g)
			for _, x := range [][]api.Seg{f, g} {
				le(t, low, x, math.MinInt64, 0, true, api.OK)
				le(t, x, high, math.MinInt64, 0, true, api.OK)
			}
			for _, from := range []int64{math.MinInt64, 0, 1, 5, 60} {
				at, is, _ := calc.LE(difference, nil, from)
				le(t, f, g, from, at, is, api.OK)
			}
		}
	}
}

// P3.5
func TestTransitive(t *testing.T) {
	l := shorts(vec(0, 0), vec(1, 0), vec(0, 1), vec(1, 1))
	var is [64][64]bool
	for i, f := range l {
		for j, g := range l {
			_, is[i][j], _ = calc.LE(f, g, math.MinInt64)
		}
		if !is[i][i] {
			t.Errorf("%v is at most itself", f)
		}
	}
	for i := range l {
		for j := range l {
			for k := range l {
				if is[i][j] && is[j][k] && !is[i][k] {
					t.Errorf("%v, %v, %v", l[i], l[j], l[k])
				}
			}
		}
	}
}

// R5: arguments stay as they were, behind their length too, and what is answered is new memory.
func TestMemory(t *testing.T) {
	wholeF := list(seg(2, 3, 1), seg(8, 0, 0), seg(7, 7, 7), seg(1, 1, 1))
	wholeG := list(seg(5, 1, 1), seg(9, 0, 0), seg(6, 6, 6))
	wholeL := [][]api.Seg{wholeF[:2], nil, wholeG[:2], wholeF}
	f, g, l := wholeF[:2], wholeG[:2], wholeL[:3]
	wasF, wasG := slices.Clone(wholeF), slices.Clone(wholeG)
	wasL := [][]api.Seg{wasF[:2], nil, wasG[:2], wasF}
	calls := map[string]func() ([]api.Seg, api.Errno){
		"Add of one":      func() ([]api.Seg, api.Errno) { return calc.Add(f) },
		"Add":             func() ([]api.Seg, api.Errno) { return calc.Add(l...) },
		"Sub":             func() ([]api.Seg, api.Errno) { return calc.Sub(f, g) },
		"Sub of nothing":  func() ([]api.Seg, api.Errno) { return calc.Sub(f, nil) },
		"Min":             func() ([]api.Seg, api.Errno) { return calc.Min(f, g) },
		"Min of the same": func() ([]api.Seg, api.Errno) { return calc.Min(f, f) },
		"Max":             func() ([]api.Seg, api.Errno) { return calc.Max(f, g) },
		"Max of nothing":  func() ([]api.Seg, api.Errno) { return calc.Max(nil, f) },
		"Range":           func() ([]api.Seg, api.Errno) { return calc.Range(f, 3, 4, vec(1, 1)) },
		"Range, empty":    func() ([]api.Seg, api.Errno) { return calc.Range(f, 3, 3, vec(1, 1)) },
		"Range of zero":   func() ([]api.Seg, api.Errno) { return calc.Range(f, 3, 9, vec(0, 0)) },
		"LE": func() ([]api.Seg, api.Errno) {
			_, _, e := calc.LE(g, f, 0)
			return list(seg(1, 1, 1)), e
		},
	}
	for name, call := range calls {
		got, e := call()
		other, _ := call()
		if e != api.OK || len(got) == 0 {
			t.Fatal(name, got, e)
		}
		was := slices.Clone(other)
		spoil(got)
		if !slices.Equal(wholeF, wasF) || !slices.Equal(wholeG, wasG) || !slices.EqualFunc(wholeL, wasL, slices.Equal) {
			t.Fatalf("%s: an argument was changed: %v %v %v", name, wholeF, wholeG, wholeL)
		}
		if !slices.Equal(other, was) {
			t.Errorf("%s: an answer was changed through another one", name)
		}
		spoil(wholeF)
		spoil(wholeG)
		if !slices.Equal(other, was) {
			t.Errorf("%s: an answer was changed through an argument", name)
		}
		copy(wholeF, wasF)
		copy(wholeG, wasG)
	}
}
