package sample

import (
	"math"

	"livery/api"
)

// Commit returns the policy that the load is at most the capacity.
func Commit() api.Policy { return api.Policy{Kind: 0} }

// Bound returns the policy that a user has at most so much at each time.
func Bound(mem, cores int64) api.Policy { return api.Policy{Kind: 1, Cap: Vec(mem, cores)} }

// Average returns the policy that a user has at most so much on an average over so many times.
func Average(win, mem, cores int64) api.Policy {
	return api.Policy{Kind: 2, Cap: Vec(mem, cores), Win: win}
}

// WrongPolicies returns policies that are not valid, most of them for one reason.
func WrongPolicies() []api.Policy {
	const most = api.MaxRes
	l := []api.Policy{{Kind: 0, Win: 1}, {Kind: 0, Win: -1}, {Kind: 0, Cap: Vec(1, 0)}, {Kind: 0, Cap: Vec(0, 1)}, {Kind: 0, Cap: Vec(-1, 0)}, {Kind: 0, Cap: Vec(0, most)}}
	for _, kind := range []uint8{3, 4, 128, 254, 255} {
		l = append(l, api.Policy{Kind: kind}, api.Policy{Kind: kind, Cap: Vec(1, 1)}, api.Policy{Kind: kind, Cap: Vec(1, 1), Win: 1})
	}
	for _, n := range []int64{math.MinInt64, -most, -1, most + 1, Top, math.MaxInt64} {
		l = append(l, Bound(n, 1), Bound(1, n), Average(4, n, 1), Average(4, 1, n))
	}
	for _, win := range []int64{math.MinInt64, -4096, -1, 0, 4097, 1<<32 + 1, math.MaxInt64} {
		l = append(l, Average(win, 1, 1))
		if win != 0 {
			l = append(l, api.Policy{Kind: 1, Cap: Vec(1, 1), Win: win})
		}
	}
	return append(l, api.Policy{Kind: 1, Cap: Vec(1, 1), Win: 1})
}

// WrongTimes returns times from which on no policy can be asked.
func WrongTimes() []int64 {
	const late = api.MaxTime
	return []int64{-late - 1, late + 1, 1 << 41, -Top, Top, -1 << 62, math.MinInt64, math.MaxInt64}
}

// Violation returns the first violation from now on of a policy by f (a load, a capacity and a user's load), and whether there is none, looked for at each time up to the last run of f, behind which nothing changes.
func Violation(x api.Policy, now int64, f [3][]api.Seg) (at int64, holds bool) {
	last := now
	for _, g := range f {
		if len(g) > 0 {
			last = max(last, g[len(g)-1].At)
		}
	}
	for at := now; at <= last; at++ {
		if !kept(x, at, f) {
			return at, false
		}
	}
	return 0, true
}

// kept reports by the document's words whether what x asks for is so at a time.
func kept(x api.Policy, at int64, f [3][]api.Seg) bool {
	switch x.Kind {
	case 0:
		return Below(Value(f[0], at), Value(f[1], at))
	case 1:
		return Below(Value(f[2], at), x.Cap)
	}
	var sum api.Vec
	for i := range x.Win {
		v := Value(f[2], at+i)
		sum = Vec(sum.Mem+v.Mem, sum.Cores+v.Cores)
	}
	return Below(sum, Vec(x.Win*x.Cap.Mem, x.Win*x.Cap.Cores))
}
