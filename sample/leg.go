package sample

import (
	"math"
	"slices"

	"livery/api"
	"livery/rle"
	"livery/vec"
)

// Late and Span are the greatest time and the greatest length of a window, and of a leg.
const (
	Late = int64(1 << 40)
	Span = int64(4096)
)

// Win returns the window of two times.
func Win(from, to int64) api.Win { return api.Win{From: from, To: to} }

// Leg returns the leg of so many ticks.
func Leg(d, mem, cores int64) api.Leg { return api.Leg{D: d, V: Vec(mem, cores)} }

// Legs returns the list of its arguments.
func Legs(l ...api.Leg) []api.Leg { return l }

// Lists returns all lists of up to so many of the legs.
func Lists(most int, of ...api.Leg) [][]api.Leg {
	all := [][]api.Leg{nil}
	begin := 0
	for range most {
		end := len(all)
		for _, l := range all[begin:end] {
			for _, x := range of {
				all = append(all, append(l[:len(l):len(l)], x))
			}
		}
		begin = end
	}
	return all
}

// WrongLists returns lists that are not lists of legs, for one reason each.
func WrongLists() [][]api.Leg {
	one := Leg(1, 1, 1)
	all := [][]api.Leg{nil, {}, slices.Repeat(Legs(one), 17), slices.Repeat(Legs(one), 100)}
	for _, d := range []int64{0, -1, Span + 1, -Span, 2 * Span, 1<<32 + 1, Top, math.MinInt64, math.MaxInt64} {
		x := Leg(d, 1, 1)
		all = append(all, Legs(x), Legs(x, one), Legs(one, x), append(slices.Repeat(Legs(one), 15), x), Legs(x, x))
	}
	return append(all, Legs(Leg(1<<62, 1, 1), Leg(1<<62, 1, 1), Leg(1<<62, 1, 1), Leg(1<<62+1, 1, 1)))
}

// WrongVectors returns vectors that are not valid, for one reason each.
func WrongVectors() []api.Vec {
	var l []api.Vec
	for _, n := range []int64{Top + 1, -Top - 1, 1 << 62, math.MaxInt64, math.MinInt64} {
		l = append(l, Vec(n, 1), Vec(1, n), Vec(n, -Top), Vec(0, n))
	}
	return l
}

// WrongWindows returns windows that are not valid for legs, for one reason each or for several.
func WrongWindows() []api.Win {
	return []api.Win{Win(0, 0), Win(5, 4), Win(0, Span+1), Win(-Late-1, 0), Win(-Late-1, -Late), Win(Late, Late+1), Win(Late+1, Late+1), Win(Late, Late+Span+1),
		Win(math.MinInt64, math.MaxInt64), Win(math.MaxInt64, math.MinInt64), Win(math.MinInt64, math.MinInt64+1), Win(math.MaxInt64-1, math.MaxInt64)}
}

// IsLegs reports by the document's words whether l is a list of legs.
func IsLegs(l []api.Leg) bool {
	for _, x := range l {
		if x.D < 1 || x.D > 4096 {
			return false
		}
	}
	return len(l) >= 1 && len(l) <= 16
}

// isLong reports whether a window, whose From is below its To, is longer than 4096 ticks.
func isLong(w api.Win) bool {
	return w.From <= math.MaxInt64-Span && w.From+Span < w.To
}

// WindowFault returns by the document's words why nothing can be asked about legs, or stages, in the window.
func WindowFault(w api.Win) api.Errno {
	switch {
	case w.From >= w.To || isLong(w):
		return api.ErrArg
	case w.From < -Late || w.To > Late:
		return api.ErrRange
	}
	return api.OK
}

// LegsFault returns by the document's words why it can't be asked when the legs can begin on f in the window.
func LegsFault(f []api.Seg, w api.Win, l []api.Leg) api.Errno {
	e := WindowFault(w)
	switch {
	case !rle.May(f):
		return api.ErrForm
	case e == api.ErrArg || !IsLegs(l):
		return api.ErrArg
	case e != api.OK:
		return e
	}
	for _, x := range l {
		if !vec.May(x.V) {
			return api.ErrRange
		}
	}
	return api.OK
}

// Comb returns the function that is v in each width-th tick of so many from from on, and zero in the others.
func Comb(from, ticks, width int64, v api.Vec) []api.Seg {
	var f []api.Seg
	for at := from; at < from+ticks; at += width {
		f = append(f, api.Seg{At: at, V: v}, Seg(at+1, 0, 0))
	}
	return f
}

// Steps returns a function that changes up to most, from a time close to 0 on.
func (d *Dice) Steps(most int) []api.Seg {
	var raw []api.Seg
	for at := int64(-d.Below(10)); at < int64(most); at += int64(1 + d.Below(1+most/4)) {
		raw = append(raw, Seg(at, int64(d.Below(7)-1), int64(d.Below(7)-1)))
	}
	f, _ := rle.Of(raw)
	return f
}

// Legs returns a window of up to so many ticks, and legs that may find a begin in it.
func (d *Dice) Legs(most int) (w api.Win, l []api.Leg) {
	w.From = int64(d.Below(20) - 10)
	w.To = w.From + int64(1+d.Below(most))
	for range 1 + d.Below(1+d.Below(16)) {
		ticks := int64(1 + d.Below(1+most/20))
		mem := int64(d.Below(4) - 1)
		l = append(l, Leg(ticks, mem, int64(d.Below(4)-1)))
	}
	return w, l
}
