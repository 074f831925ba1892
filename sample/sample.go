// Package sample makes vectors, step functions, definitions, witnesses, reservations, plans, policies and legs for the tests of the packages that work with them; the program itself does not call it.
package sample

import (
	"math"

	"livery/api"
	"livery/rle"
)

// Top is the greatest time and value of a step function.
const Top = api.MaxValue

// Vec returns the vector of two components.
func Vec(mem, cores int64) api.Vec { return api.Vec{Mem: mem, Cores: cores} }

// Seg returns the run from at on.
func Seg(at, mem, cores int64) api.Seg { return api.Seg{At: at, V: Vec(mem, cores)} }

// List returns the list of its arguments.
func List(l ...api.Seg) []api.Seg { return l }

// Box returns the runs of v from from on, up to to.
func Box(from, to int64, v api.Vec) []api.Seg {
	return List(api.Seg{At: from, V: v}, api.Seg{At: to})
}

// Wrong returns lists that are not canonical, for one reason each.
func Wrong() [][]api.Seg {
	return [][]api.Seg{
		List(Seg(2, 0, 0)),
		List(Seg(0, 0, 0), Seg(1, 1, 1)),
		List(Seg(0, 1, 1), Seg(1, 1, 1)),
		List(Seg(0, 1, 1), Seg(1, 0, 0), Seg(2, 0, 0)),
		List(Seg(0, 1, 1), Seg(0, 2, 2)),
		List(Seg(1, 1, 1), Seg(0, 2, 2)),
		List(Seg(0, 1, 1), Seg(Top+1, 0, 0)),
		List(Seg(-Top-1, 1, 1), Seg(0, 0, 0)),
		List(Seg(math.MinInt64, 1, 1)),
		List(Seg(math.MaxInt64, 1, 1)),
		List(Seg(0, Top+1, 0)),
		List(Seg(0, 0, -Top-1)),
		List(Seg(0, math.MinInt64, 0), Seg(1, 0, 0)),
		List(Seg(0, 1, math.MaxInt64), Seg(1, 0, 0)),
	}
}

// Long returns a function of up to n runs that goes up and down; those of different seeds share some of their At.
func Long(n, seed int64) []api.Seg {
	var raw []api.Seg
	at := -n
	for i := range n {
		at += 1 + (i*i+seed*7)%4
		raw = append(raw, Seg(at, (i*31+seed*17)%11-5, (i*13+seed*5)%7-3))
	}
	f, _ := rle.Of(raw)
	return f
}

// Shorts returns all canonical functions whose At are of ats, and whose V are of vs; zero is one of vs.
func Shorts(ats []int64, vs ...api.Vec) [][]api.Seg {
	l := [][]api.Seg{nil}
	for _, at := range ats {
		var more [][]api.Seg
		for _, raw := range l {
			for _, v := range vs {
				more = append(more, append(raw[:len(raw):len(raw)], api.Seg{At: at, V: v}))
			}
		}
		l = more
	}
	for i, raw := range l {
		l[i], _ = rle.Of(raw)
	}
	return l
}

// Value returns the value of f at t, looked for run by run.
func Value(f []api.Seg, t int64) api.Vec {
	var v api.Vec
	for _, s := range f {
		if s.At <= t {
			v = s.V
		}
	}
	return v
}

// Below reports whether a is at most b.
func Below(a, b api.Vec) bool { return a.Mem <= b.Mem && a.Cores <= b.Cores }

// Spoil writes over all of an answer, its spare capacity too.
func Spoil(f []api.Seg) {
	f = f[:cap(f)]
	for i := range f {
		f[i] = Seg(-8, -8, -8)
	}
}
