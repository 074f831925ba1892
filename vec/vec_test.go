package vec_test

import (
	"math"
	"math/big"
	"slices"
	"testing"

	"livery/api"
	"livery/vec"
)

const top = api.MaxValue

// numbers are components around every edge: zero, the limit, what an int64 can hold.
var numbers = []int64{
	math.MinInt64, math.MinInt64 + 1, -top - 1, -top, -top + 1, -7, -2, -1,
	0, 1, 2, 3, 7, 1 << 49, top - 1, top, top + 1, math.MaxInt64 - 1, math.MaxInt64,
}

func of(mem, cores int64) api.Vec { return api.Vec{Mem: mem, Cores: cores} }

// vectors returns all pairs of numbers.
func vectors() []api.Vec {
	var l []api.Vec
	for _, m := range numbers {
		for _, c := range numbers {
			l = append(l, of(m, c))
		}
	}
	return l
}

func inRange(n int64) bool { return -top <= n && n <= top }

// want holds an answer of Add, Sub or Scale against what is expected; with an error the vector must be zero.
func want(t *testing.T, call string, got api.Vec, e api.Errno, v api.Vec, we api.Errno) {
	t.Helper()
	if got != v || e != we {
		t.Errorf("%s: %v, %d; want %v, %d", call, got, e, v, we)
	}
}

// P1.1
func TestMay(t *testing.T) {
	for _, n := range numbers {
		if got := vec.May(of(n, 0)); got != inRange(n) {
			t.Errorf("May(%d 0): %v", n, got)
		}
		if got := vec.May(of(0, n)); got != inRange(n) {
			t.Errorf("May(0 %d): %v", n, got)
		}
	}
	for _, v := range vectors() {
		if got := vec.May(v); got != (inRange(v.Mem) && inRange(v.Cores)) {
			t.Errorf("May(%v): %v", v, got)
		}
	}
}

// P1.1
func TestMinMaxLE(t *testing.T) {
	if v := vec.Min(of(1, 5), of(3, 2)); v != of(1, 2) {
		t.Error("Min", v)
	}
	if v := vec.Max(of(1, 5), of(3, 2)); v != of(3, 5) {
		t.Error("Max", v)
	}
	if v := vec.Min(of(math.MinInt64, math.MaxInt64), of(0, 0)); v != of(math.MinInt64, 0) {
		t.Error("Min", v)
	}
	if v := vec.Max(of(math.MinInt64, math.MaxInt64), of(0, 0)); v != of(0, math.MaxInt64) {
		t.Error("Max", v)
	}
	for _, x := range []struct {
		a, b api.Vec
		is   bool
	}{
		{of(1, 2), of(1, 3), true},
		{of(1, 4), of(2, 3), false},
		{of(2, 3), of(1, 4), false},
		{of(5, 5), of(5, 5), true},
		{of(6, 5), of(5, 5), false},
		{of(5, 6), of(5, 5), false},
		{of(math.MinInt64, math.MinInt64), of(math.MaxInt64, math.MaxInt64), true},
		{of(math.MaxInt64, math.MinInt64), of(math.MinInt64, math.MaxInt64), false},
	} {
		if got := vec.LE(x.a, x.b); got != x.is {
			t.Errorf("LE(%v, %v): %v", x.a, x.b, got)
		}
	}
}

// P1.2
func TestAdd(t *testing.T) {
	for _, x := range []struct {
		l []api.Vec
		v api.Vec
		e api.Errno
	}{
		{nil, of(0, 0), api.OK},
		{[]api.Vec{}, of(0, 0), api.OK},
		{[]api.Vec{of(4, -9)}, of(4, -9), api.OK},
		{[]api.Vec{of(1, 2), of(3, -5)}, of(4, -3), api.OK},
		{[]api.Vec{of(1, 2), of(3, -5), of(10, 10), of(-20, 1)}, of(-6, 8), api.OK},
		{[]api.Vec{of(top, -top)}, of(top, -top), api.OK},
		{[]api.Vec{of(top-1, 1-top), of(1, -1)}, of(top, -top), api.OK},
		{[]api.Vec{of(top, -top), of(-top, top)}, of(0, 0), api.OK},
		{[]api.Vec{of(top, 0), of(1, 0)}, of(0, 0), api.ErrRange},
		{[]api.Vec{of(0, top), of(0, 1)}, of(0, 0), api.ErrRange},
		{[]api.Vec{of(-top, 0), of(-1, 0)}, of(0, 0), api.ErrRange},
		{[]api.Vec{of(0, -top), of(0, -1)}, of(0, 0), api.ErrRange},
		{[]api.Vec{of(top+1, 0)}, of(0, 0), api.ErrRange},
		{[]api.Vec{of(0, -top-1)}, of(0, 0), api.ErrRange},
		// The whole sum is valid, but one on the way, or an argument, is not.
		{[]api.Vec{of(top, 0), of(1, 0), of(-5, 0)}, of(0, 0), api.ErrRange},
		{[]api.Vec{of(0, -top), of(0, -1), of(0, 5)}, of(0, 0), api.ErrRange},
		{[]api.Vec{of(-5, 0), of(top, 0), of(1, 0)}, of(top-4, 0), api.OK},
		{[]api.Vec{of(-1, 0), of(top+1, 0)}, of(0, 0), api.ErrRange},
		{[]api.Vec{of(1, 1), of(math.MaxInt64, 0), of(math.MinInt64, 0)}, of(0, 0), api.ErrRange},
		// Two of these wrap round to a valid sum.
		{[]api.Vec{of(math.MinInt64, 0), of(math.MinInt64, 0)}, of(0, 0), api.ErrRange},
		{[]api.Vec{of(math.MaxInt64, 0), of(math.MaxInt64, 0), of(2, 0)}, of(0, 0), api.ErrRange},
	} {
		v, e := vec.Add(x.l...)
		want(t, "Add", v, e, x.v, x.e)
	}
}

// P1.2: a long list is summed whole, and stays as it was (R5).
func TestAddLong(t *testing.T) {
	var l []api.Vec
	for i := int64(1); i <= 1000; i++ {
		l = append(l, of(i, -2*i))
	}
	was := slices.Clone(l)
	v, e := vec.Add(l...)
	want(t, "Add", v, e, of(500500, -1001000), api.OK)
	if !slices.Equal(l, was) {
		t.Error("Add changed its arguments")
	}
}

// P1.2
func TestSub(t *testing.T) {
	for _, x := range []struct {
		a, b, v api.Vec
		e       api.Errno
	}{
		{of(1, 2), of(3, -5), of(-2, 7), api.OK},
		{of(3, -5), of(1, 2), of(2, -7), api.OK},
		{of(top, -top), of(top, -top), of(0, 0), api.OK},
		{of(0, 0), of(top, -top), of(-top, top), api.OK},
		{of(top-1, 1-top), of(-1, 1), of(top, -top), api.OK},
		{of(top, 0), of(-1, 0), of(0, 0), api.ErrRange},
		{of(0, -top), of(0, 1), of(0, 0), api.ErrRange},
		{of(top+1, 0), of(1, 0), of(0, 0), api.ErrRange},
		{of(0, -1), of(0, -top-1), of(0, 0), api.ErrRange},
		{of(math.MinInt64, 0), of(math.MinInt64, 0), of(0, 0), api.ErrRange},
		{of(0, 0), of(0, math.MinInt64), of(0, 0), api.ErrRange},
		{of(math.MinInt64, 0), of(math.MaxInt64, 0), of(0, 0), api.ErrRange},
	} {
		v, e := vec.Sub(x.a, x.b)
		want(t, "Sub", v, e, x.v, x.e)
	}
}

// P1.2
func TestScale(t *testing.T) {
	for _, x := range []struct {
		v api.Vec
		n int64
		w api.Vec
		e api.Errno
	}{
		{of(2, -3), 4, of(8, -12), api.OK},
		{of(2, -3), -4, of(-8, 12), api.OK},
		{of(2, -3), 0, of(0, 0), api.OK},
		{of(1<<49, -1), 2, of(top, -2), api.OK},
		{of(1<<49, 1), -2, of(-top, -2), api.OK},
		{of(top, -top), 1, of(top, -top), api.OK},
		{of(top, -top), -1, of(-top, top), api.OK},
		{of(1, -1), top, of(top, -top), api.OK},
		{of(0, 0), math.MaxInt64, of(0, 0), api.OK},
		{of(0, 0), math.MinInt64, of(0, 0), api.OK},
		{of(1<<49, 0), 3, of(0, 0), api.ErrRange},
		{of(0, 1<<49), -3, of(0, 0), api.ErrRange},
		{of(1, 1), top + 1, of(0, 0), api.ErrRange},
		{of(0, -1), top + 1, of(0, 0), api.ErrRange},
		{of(1, 0), math.MinInt64, of(0, 0), api.ErrRange},
		{of(0, -1), math.MinInt64, of(0, 0), api.ErrRange},
		{of(2, 0), math.MinInt64, of(0, 0), api.ErrRange}, // wraps round to 0
		{of(1<<32, 0), 1 << 32, of(0, 0), api.ErrRange},   // wraps round to 0
		{of(top+1, 0), 0, of(0, 0), api.ErrRange},
		{of(0, math.MinInt64), 0, of(0, 0), api.ErrRange},
		{of(math.MinInt64, 1), -1, of(0, 0), api.ErrRange},
	} {
		v, e := vec.Scale(x.v, x.n)
		want(t, "Scale", v, e, x.w, x.e)
	}
}

// exact returns the vector that op makes of a and b, worked out in whole numbers of any size, or ErrRange.
func exact(a, b api.Vec, op func(z, x, y *big.Int) *big.Int) (api.Vec, api.Errno) {
	mem := op(new(big.Int), big.NewInt(a.Mem), big.NewInt(b.Mem))
	cores := op(new(big.Int), big.NewInt(a.Cores), big.NewInt(b.Cores))
	if !mem.IsInt64() || !cores.IsInt64() || !inRange(mem.Int64()) || !inRange(cores.Int64()) {
		return api.Vec{}, api.ErrRange
	}
	return of(mem.Int64(), cores.Int64()), api.OK
}

// P1.2: held against whole numbers of any size, at all the edges.
func TestExact(t *testing.T) {
	for _, a := range vectors() {
		for _, n := range numbers {
			v, e := vec.Scale(a, n)
			w, we := exact(a, of(n, n), (*big.Int).Mul)
			if !vec.May(a) {
				w, we = api.Vec{}, api.ErrRange
			}
			want(t, "Scale", v, e, w, we)
		}
		for _, b := range vectors() {
			v, e := vec.Add(a, b)
			w, we := exact(a, b, (*big.Int).Add)
			d, de := vec.Sub(a, b)
			x, xe := exact(a, b, (*big.Int).Sub)
			if !vec.May(a) || !vec.May(b) {
				w, we, x, xe = api.Vec{}, api.ErrRange, api.Vec{}, api.ErrRange
			}
			want(t, "Add", v, e, w, we)
			want(t, "Sub", d, de, x, xe)
		}
	}
}

// P1.3
func TestUnits(t *testing.T) {
	for _, x := range []struct {
		v, unit api.Vec
		n       int64
		e       api.Errno
	}{
		{of(10, 7), of(3, 2), 3, api.OK},
		{of(100, 7), of(3, 2), 3, api.OK},
		{of(10, 700), of(3, 2), 3, api.OK},
		{of(9, 6), of(3, 2), 3, api.OK},
		{of(8, 6), of(3, 2), 2, api.OK},
		{of(9, 5), of(3, 2), 2, api.OK},
		{of(2, 7), of(3, 2), 0, api.OK},
		{of(0, 0), of(1, 1), 0, api.OK},
		{of(-1, 9), of(1, 1), 0, api.OK},
		{of(9, -1), of(1, 1), 0, api.OK},
		{of(-10, -7), of(3, 2), 0, api.OK},
		{of(-top, -top), of(1, 1), 0, api.OK},
		{of(top, top), of(1, 1), top, api.OK},
		{of(top, top), of(top, top), 1, api.OK},
		{of(top, top), of(1, top), 1, api.OK},
		{of(top-1, top), of(top, 1), 0, api.OK},
		{of(1, 1), of(0, 1), 0, api.ErrArg},
		{of(1, 1), of(1, 0), 0, api.ErrArg},
		{of(1, 1), of(-1, 1), 0, api.ErrArg},
		{of(-6, -6), of(-2, -2), 0, api.ErrArg},
		{of(1, 1), of(math.MinInt64, math.MinInt64), 0, api.ErrArg},
		{of(top+1, 1), of(1, 1), 0, api.ErrRange},
		{of(1, -top-1), of(1, 1), 0, api.ErrRange},
		{of(math.MinInt64, math.MaxInt64), of(1, 1), 0, api.ErrRange},
		{of(1, 1), of(top+1, 1), 0, api.ErrRange},
		{of(1, 1), of(1, math.MaxInt64), 0, api.ErrRange},
		// ErrArg comes first.
		{of(top+1, 7), of(3, 0), 0, api.ErrArg},
		{of(1, math.MinInt64), of(0, 3), 0, api.ErrArg},
		{of(1, 1), of(top+1, 0), 0, api.ErrArg},
		{of(1, 1), of(math.MinInt64, math.MaxInt64), 0, api.ErrArg},
	} {
		n, e := vec.Units(x.v, x.unit)
		if n != x.n || e != x.e {
			t.Errorf("Units(%v, %v): %d, %d; want %d, %d", x.v, x.unit, n, e, x.n, x.e)
		}
	}
}

// P1.4: what was added can be subtracted again.
func TestAddSub(t *testing.T) {
	for _, a := range vectors() {
		for _, b := range vectors() {
			sum, e := vec.Add(a, b)
			if e != api.OK {
				continue
			}
			if v, e := vec.Sub(sum, b); v != a || e != api.OK {
				t.Fatalf("%v + %v - %v: %v, %d", a, b, b, v, e)
			}
		}
	}
}

// P1.4: Min is the greatest of what is at most both, Max the least of what both are at most.
func TestBounds(t *testing.T) {
	var l []api.Vec
	for _, m := range []int64{math.MinInt64, -top, -1, 0, 1, 2, top, math.MaxInt64} {
		for _, c := range []int64{math.MinInt64, -1, 0, 3, top + 1, math.MaxInt64} {
			l = append(l, of(m, c))
		}
	}
	for _, a := range l {
		for _, b := range l {
			low, high := vec.Min(a, b), vec.Max(a, b)
			if !vec.LE(low, a) || !vec.LE(low, b) || !vec.LE(a, high) || !vec.LE(b, high) {
				t.Fatalf("%v, %v: Min %v, Max %v", a, b, low, high)
			}
			for _, x := range l {
				if vec.LE(x, a) && vec.LE(x, b) && !vec.LE(x, low) {
					t.Fatalf("%v: Min(%v, %v) is %v", x, a, b, low)
				}
				if vec.LE(a, x) && vec.LE(b, x) && !vec.LE(high, x) {
					t.Fatalf("%v: Max(%v, %v) is %v", x, a, b, high)
				}
			}
		}
	}
}

// P1.4: as many units as Units says fit into the vector, and one more does not.
func TestUnitsFit(t *testing.T) {
	fits := func(n int64, unit, v api.Vec) bool {
		w, e := vec.Scale(unit, n)
		return e == api.OK && vec.LE(w, v)
	}
	zero := of(0, 0)
	for _, v := range vectors() {
		for _, unit := range vectors() {
			n, e := vec.Units(v, unit)
			if e != api.OK {
				if n != 0 {
					t.Fatalf("Units(%v, %v): %d beside %d", v, unit, n, e)
				}
				continue
			}
			if vec.LE(zero, v) && !fits(n, unit, v) || !vec.LE(zero, v) && n != 0 || fits(n+1, unit, v) {
				t.Fatalf("Units(%v, %v): %d", v, unit, n)
			}
		}
	}
}
