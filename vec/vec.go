// Package vec computes with resource vectors of two components, memory and cores.
package vec

import "livery/api"

// May reports whether v is valid: each component is from -MaxValue to MaxValue.
func May(v api.Vec) bool {
	return LE(alike(-api.MaxValue), v) && LE(v, alike(api.MaxValue))
}

// Add returns the sum of its arguments, each of which, and each sum on the way, must be valid.
func Add(l ...api.Vec) (api.Vec, api.Errno) {
	var sum api.Vec
	for _, v := range l {
		var e api.Errno
		sum, e = valid(sum, v, func(x, y int64) int64 { return x + y })
		if e != api.OK {
			return api.Vec{}, e
		}
	}
	return sum, api.OK
}

// Sub returns a - b.
func Sub(a, b api.Vec) (api.Vec, api.Errno) {
	return valid(a, b, func(x, y int64) int64 { return x - y })
}

// Scale returns n times v; n may be any number, as long as the product is valid.
func Scale(v api.Vec, n int64) (api.Vec, api.Errno) {
	return valid(v, v, func(x, _ int64) int64 { return times(x, n) })
}

// Min returns the vector of the smaller components.
func Min(a, b api.Vec) api.Vec {
	return of(both(a, b, func(x, y int64) int64 { return min(x, y) }))
}

// Max returns the vector of the greater components.
func Max(a, b api.Vec) api.Vec {
	return of(both(a, b, func(x, y int64) int64 { return max(x, y) }))
}

// LE reports whether a is at most b, component by component.
func LE(a, b api.Vec) bool {
	mem, cores := both(a, b, func(x, y int64) bool { return x <= y })
	return mem && cores
}

// Units returns how many times unit fits into v: 0 if it does not fit once.
func Units(v, unit api.Vec) (int64, api.Errno) {
	if !LE(alike(1), unit) {
		return 0, api.ErrArg
	}
	if !May(v) || !May(unit) {
		return 0, api.ErrRange
	}
	mem, cores := both(v, unit, func(x, y int64) int64 { return x / y })
	return max(0, min(mem, cores)), api.OK
}

// both applies op to the memories and to the cores of a and b.
func both[T any](a, b api.Vec, op func(x, y int64) T) (mem, cores T) {
	return op(a.Mem, b.Mem), op(a.Cores, b.Cores)
}

// of returns the vector of two components.
func of(mem, cores int64) api.Vec {
	return api.Vec{Mem: mem, Cores: cores}
}

// alike returns the vector whose components are both n.
func alike(n int64) api.Vec {
	return of(n, n)
}

// valid returns what op makes of a and b, or ErrRange if one of the three is not valid.
func valid(a, b api.Vec, op func(x, y int64) int64) (api.Vec, api.Errno) {
	if !May(a) || !May(b) {
		return api.Vec{}, api.ErrRange
	}
	v := of(both(a, b, op))
	if !May(v) {
		return api.Vec{}, api.ErrRange
	}
	return v, api.OK
}

// times returns x times n for a valid x. A product that is not valid may be too great for an int64, so another number that is not valid stands for it.
func times(x, n int64) int64 {
	if x == 0 {
		return 0
	}
	most := api.MaxValue / max(x, -x)
	if n < -most || n > most {
		return api.MaxValue + 1
	}
	return x * n
}
