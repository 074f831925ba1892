package policy_test

import (
	"math"
	"slices"
	"strconv"
	"testing"

	"livery/api"
	"livery/calc"
	"livery/plan"
	"livery/policy"
	"livery/sample"
)

const (
	top  = sample.Top
	late = 1 << 40 // the greatest time from which on a policy is looked at
	most = 1 << 30 // the greatest component of a limit
)

var (
	vec   = sample.Vec
	seg   = sample.Seg
	list  = sample.List
	box   = sample.Box
	rsv   = sample.Rsv
	long  = sample.Long
	wrong = sample.Wrong()

	commit        = sample.Commit
	bound         = sample.Bound
	average       = sample.Average
	wrongPolicies = sample.WrongPolicies
	wrongTimes    = sample.WrongTimes
)

// three are a load, a capacity and a user's load.
type three = [3][]api.Seg

// own returns the functions of which only a user's load has runs.
func own(f []api.Seg) three { return three{2: f} }

// answers holds an answer of Check against what is expected.
func answers(t *testing.T, x api.Policy, now int64, f three, at int64, holds bool, we api.Errno) {
	t.Helper()
	if a, is, e := policy.Check(x, now, f); a != at || is != holds || e != we {
		t.Fatalf("Check(%v, %d, %v): %d, %t, %d; want %d, %t, %d", x, now, f, a, is, e, at, holds, we)
	}
}

// looked holds an answer of Check against looking at each time one by one, and returns it.
func looked(t *testing.T, x api.Policy, now int64, f three) (at int64, holds bool) {
	t.Helper()
	at, holds = sample.Violation(x, now, f)
	answers(t, x, now, f, at, holds, api.OK)
	return at, holds
}

// TestExamples: the document's examples, the first one on policies of the whole document among them (P13.1).
func TestExamples(t *testing.T) {
	f := box(2, 8, vec(3, 1))
	all := three{f, list(seg(0, 4, 1), seg(5, 2, 1)), f}
	for _, x := range []struct {
		p     api.Policy
		now   int64
		at    int64
		holds bool
	}{
		{commit(), 0, 5, false},
		{commit(), 8, 0, true},
		{bound(3, 1), 0, 0, true},
		{bound(2, 9), 4, 4, false},
		{average(4, 2, 9), 0, 1, false},
		{average(4, 2, 9), 6, 0, true},
	} {
		answers(t, x.p, x.now, all, x.at, x.holds, api.OK)
		looked(t, x.p, x.now, all)
	}
	for _, x := range []api.Policy{{Kind: 1, Cap: vec(3, 1), Win: 1}, {Kind: 0, Cap: vec(1, 0)}} {
		if policy.May(x) {
			t.Error(x)
		}
	}
	// At most 2 on an average over 4 ticks: 8 in any 4 ticks, but 3 for 6 ticks is too much from one tick ahead of its begin on.
	two := average(4, 2, 2)
	for _, f := range [][]api.Seg{box(20, 21, vec(8, 8)), box(20, 22, vec(4, 4)), box(20, 24, vec(2, 2)), box(20, 90, vec(2, 2)), list(seg(20, 5, 3), seg(21, 3, 5), seg(22, 0, 0), seg(25, 8, 8), seg(26, 0, 0))} {
		answers(t, two, 0, own(f), 0, true, api.OK)
	}
	for _, begin := range []int64{20, 5, 1, 0, -7} {
		answers(t, two, -90, own(box(begin, begin+6, vec(3, 0))), begin-1, false, api.OK)
		answers(t, two, -90, own(box(begin, begin+6, vec(0, 3))), begin-1, false, api.OK)
		answers(t, two, begin, own(box(begin, begin+6, vec(3, 3))), begin, false, api.OK)
		answers(t, two, begin+3, own(box(begin, begin+6, vec(3, 3))), begin+3, false, api.OK)
		answers(t, two, begin+4, own(box(begin, begin+6, vec(3, 3))), 0, true, api.OK)
	}
}

// TestMay: every kind with limits and windows around the greatest and the smallest ones; what is not valid is refused by Check and Holds too, and nothing else is (P13.1, P13.2).
func TestMay(t *testing.T) {
	sizes := []int64{math.MinInt64, -most, -1, 0, 1, most - 1, most, most + 1, top, math.MaxInt64}
	wins := []int64{math.MinInt64, -1, 0, 1, 2, 4095, 4096, 4097, 1 << 32, 1<<32 + 1, math.MaxInt64}
	fits := func(n int64) bool { return n >= 0 && n <= most }
	p := sample.Plan(nil)
	for kind := range 256 {
		for _, mem := range sizes {
			for _, cores := range sizes {
				for _, win := range wins {
					x := api.Policy{Kind: uint8(kind), Cap: vec(mem, cores), Win: win}
					want := false
					switch kind {
					case 0:
						want = mem == 0 && cores == 0 && win == 0
					case 1:
						want = fits(mem) && fits(cores) && win == 0
					case 2:
						want = fits(mem) && fits(cores) && win > 0 && win < 4097
					}
					we := api.ErrArg
					if want {
						we = api.OK
					}
					if policy.May(x) != want {
						t.Errorf("May(%v): %t", x, !want)
					}
					answers(t, x, 0, three{}, 0, want, we)
					tells(t, x, 0, p, "", 0, want, we)
				}
			}
		}
	}
	for _, x := range wrongPolicies() {
		if policy.May(x) {
			t.Error(x)
		}
	}
}

// TestCommit: the load and the capacity, each of which may be empty, or be nonzero ahead of the time, at it and for ever (P13.1).
func TestCommit(t *testing.T) {
	open := list(seg(2, 3, 1))
	f := box(2, 8, vec(3, 1))
	for _, x := range []struct {
		load, capacity []api.Seg
		now, at        int64
		holds          bool
	}{
		{nil, nil, 0, 0, true},
		{list(), list(), 0, 0, true},
		{nil, open, 5, 0, true},
		{nil, box(4, 6, vec(0, -1)), 0, 4, false},
		{nil, list(seg(4, 0, -1)), 9, 9, false},
		{open, nil, 0, 2, false},
		{open, nil, 2, 2, false},
		{open, nil, 100, 100, false},
		{open, open, -9, 0, true},
		{f, f, -9, 0, true},
		// The capacity begins later, or ends ahead of the load.
		{open, list(seg(3, 3, 1)), 0, 2, false},
		{open, list(seg(3, 3, 1)), 2, 2, false},
		{open, list(seg(3, 3, 1)), 3, 0, true},
		{open, f, 0, 8, false},
		{open, f, 9, 9, false},
		{f, box(2, 7, vec(3, 1)), 0, 7, false},
		{f, box(2, 7, vec(3, 1)), 8, 0, true},
		{f, box(1, 9, vec(3, 1)), 0, 0, true},
		// One component is enough.
		{f, list(seg(0, 2, 9)), 0, 2, false},
		{f, list(seg(0, 9, 0)), 7, 7, false},
		{f, list(seg(0, 3, 1)), 0, 0, true},
		{f, list(seg(0, 3, 1), seg(5, 9, 0), seg(6, 3, 1)), 0, 5, false},
		{f, list(seg(0, 3, 1), seg(5, 9, 0), seg(6, 3, 1)), 6, 0, true},
		// The load is too much already at the time, and again later.
		{list(seg(0, 9, 9), seg(3, 1, 1), seg(5, 9, 9), seg(6, 0, 0)), list(seg(0, 2, 2)), 2, 2, false},
		{list(seg(0, 9, 9), seg(3, 1, 1), seg(5, 9, 9), seg(6, 0, 0)), list(seg(0, 2, 2)), 3, 5, false},
		{list(seg(0, 9, 9), seg(3, 1, 1), seg(5, 9, 9), seg(6, 0, 0)), list(seg(0, 2, 2)), 6, 0, true},
	} {
		// A user's load is nothing to it.
		for _, g := range [][]api.Seg{nil, f, list(seg(-top, top, top))} {
			answers(t, commit(), x.now, three{x.load, x.capacity, g}, x.at, x.holds, api.OK)
		}
		looked(t, commit(), x.now, three{x.load, x.capacity, nil})
	}
}

// TestBound: a user's load that is empty, or is nonzero ahead of the time, at it and for ever (P13.1).
func TestBound(t *testing.T) {
	open := list(seg(2, 3, 1))
	f := box(2, 8, vec(3, 1))
	again := list(seg(0, 9, 0), seg(3, 1, 1), seg(5, 0, 9), seg(6, 0, 0))
	for _, x := range []struct {
		f          []api.Seg
		mem, cores int64
		now, at    int64
		holds      bool
	}{
		{nil, 0, 0, 0, 0, true},
		{list(), 0, 0, -5, 0, true},
		{open, 0, 0, 0, 2, false},
		{open, 0, 0, 2, 2, false},
		{open, 3, 0, 100, 100, false},
		{open, 2, 1, 3, 3, false},
		{open, 3, 1, 0, 0, true},
		{f, 3, 1, -9, 0, true},
		{f, 2, 9, -9, 2, false},
		{f, 9, 0, -9, 2, false},
		{f, 0, 0, 7, 7, false},
		{f, 0, 0, 8, 0, true},
		{again, 2, 2, 0, 0, false},
		{again, 2, 2, 2, 2, false},
		{again, 2, 2, 3, 5, false},
		{again, 2, 2, 6, 0, true},
		{again, 2, 9, 3, 0, true},
		{list(seg(-9, -1, -1)), 0, 0, 0, 0, true},
		{list(seg(-9, -1, 1)), 0, 0, 0, 0, false},
	} {
		// The load and the capacity are nothing to it.
		for _, g := range []three{{}, {f, open, x.f}, {list(seg(-top, top, top)), nil, x.f}} {
			g[2] = x.f
			answers(t, bound(x.mem, x.cores), x.now, g, x.at, x.holds, api.OK)
		}
		looked(t, bound(x.mem, x.cores), x.now, own(x.f))
	}
}

// TestAverage: windows that begin ahead of a run, end within it, are longer than it; sums at so many times the limit, and one above (P13.1).
func TestAverage(t *testing.T) {
	open := list(seg(2, 3, 1))
	f := box(2, 8, vec(3, 1))
	for _, x := range []struct {
		f               []api.Seg
		win, mem, cores int64
		now, at         int64
		holds           bool
	}{
		{nil, 1, 0, 0, 0, 0, true},
		{list(), 4096, 0, 0, 0, 0, true},
		{open, 4, 0, 9, -9, -1, false},
		{open, 4, 1, 9, -9, 0, false},
		{open, 4, 2, 9, -9, 1, false},
		{open, 4, 3, 9, -9, 0, true},
		{open, 4, 2, 9, 100, 100, false},
		{open, 4, 3, 1, 100, 0, true},
		{open, 4, 9, 0, -9, -1, false},
		{open, 4096, 2, 9, -9999, 2 - 4096 + 2731, false},
		// The window ends within the runs, is as long as they are, and longer.
		{f, 1, 2, 9, -9, 2, false},
		{f, 2, 2, 9, -9, 2, false},
		{f, 3, 2, 9, -9, 2, false},
		{f, 6, 2, 9, -9, 1, false},
		{f, 7, 2, 9, -9, 0, false},
		{f, 8, 2, 9, -9, 0, false},
		{f, 9, 2, 9, -9, 0, true},
		{f, 6, 3, 1, -9, 0, true},
		{f, 6, 2, 1, 2, 2, false},
		{f, 7, 2, 1, 2, 2, false},
		{f, 10, 0, 9, -9, -7, false},
		{f, 10, 0, 9, -7, -7, false},
		{f, 10, 0, 9, 7, 7, false},
		{f, 10, 0, 9, 8, 0, true},
		// The sum is just so much, or one above, in either component.
		{list(seg(5, 12, 0), seg(6, 0, 0)), 4, 3, 0, 0, 0, true},
		{list(seg(5, 13, 0), seg(6, 0, 0)), 4, 3, 0, 0, 2, false},
		{list(seg(5, 0, 12), seg(6, 0, 0)), 4, 0, 3, 0, 0, true},
		{list(seg(5, 0, 13), seg(6, 0, 0)), 4, 0, 3, 0, 2, false},
		{list(seg(5, 4, 0), seg(6, 8, 0), seg(7, 0, 0)), 4, 3, 0, 0, 0, true},
		{list(seg(5, 4, 0), seg(6, 9, 0), seg(7, 0, 0)), 4, 3, 0, 0, 3, false},
		{list(seg(5, 4, 0), seg(8, 0, 0)), 4, 3, 0, 0, 0, true},
		{list(seg(5, 4, 0), seg(8, 1, 0), seg(9, 0, 0)), 4, 3, 0, 0, 5, false},
		{list(seg(5, 4, 0), seg(8, 0, 0), seg(9, 1, 0), seg(10, 0, 0)), 4, 3, 0, 0, 0, true},
		// Values below 0 count too.
		{list(seg(5, 13, 0), seg(6, -1, 0), seg(7, 0, 0)), 4, 3, 0, 0, 2, false},
		{list(seg(5, -1, 0), seg(6, 13, 0), seg(7, 0, 0)), 4, 3, 0, 0, 6, false},
		{list(seg(5, -1, 0), seg(6, 13, 0), seg(7, -1, 0), seg(8, 0, 0)), 2, 6, 0, 0, 0, true},
		{list(seg(-9, -1, -1)), 4, 0, 0, 0, 0, true},
		// It is too much already at the time, and again later.
		{list(seg(0, 9, 0), seg(3, 1, 1), seg(8, 0, 9), seg(9, 0, 0)), 2, 2, 2, -5, -1, false},
		{list(seg(0, 9, 0), seg(3, 1, 1), seg(8, 0, 9), seg(9, 0, 0)), 2, 2, 2, 2, 2, false},
		{list(seg(0, 9, 0), seg(3, 1, 1), seg(8, 0, 9), seg(9, 0, 0)), 2, 2, 2, 3, 7, false},
		{list(seg(0, 9, 0), seg(3, 1, 1), seg(8, 0, 9), seg(9, 0, 0)), 2, 2, 2, 8, 8, false},
		{list(seg(0, 9, 0), seg(3, 1, 1), seg(8, 0, 9), seg(9, 0, 0)), 2, 2, 2, 9, 0, true},
	} {
		p := average(x.win, x.mem, x.cores)
		// The load and the capacity are nothing to it.
		for _, g := range []three{{}, {f, open, x.f}, {list(seg(-top, top, top)), nil, x.f}} {
			g[2] = x.f
			answers(t, p, x.now, g, x.at, x.holds, api.OK)
		}
		if x.win < 4096 {
			looked(t, p, x.now, own(x.f))
		}
	}
}

// TestLimits: the greatest times, windows, limits, values and runs (P13.1).
func TestLimits(t *testing.T) {
	const all = 4096 * most // the greatest sum of a window
	for _, x := range []struct {
		p     api.Policy
		now   int64
		f     three
		at    int64
		holds bool
	}{
		{commit(), -late, three{box(-late, -late+1, vec(1, 0))}, -late, false},
		{commit(), -late, three{box(-late-1, -late, vec(1, 0))}, 0, true},
		{commit(), late, three{box(late, late+1, vec(0, 1))}, late, false},
		{commit(), late, three{box(late-1, late, vec(0, 1))}, 0, true},
		{commit(), -late, three{list(seg(top, 0, 1))}, top, false},
		{commit(), late, three{box(top-1, top, vec(0, 1))}, top - 1, false},
		{commit(), late, three{list(seg(-top, 1, 0))}, late, false},
		{commit(), -late, three{list(seg(-top, top, top)), list(seg(-top, top, top))}, 0, true},
		{commit(), -late, three{list(seg(-top, top, top)), list(seg(-top, top, top), seg(top, top, top-1))}, top, false},
		{commit(), -late, three{list(seg(-top, top, -top)), list(seg(-top, -top, top))}, -late, false},
		{commit(), -late, three{list(seg(-top, -top, -top)), list(seg(-top, top, top), seg(7, -top, -top))}, 0, true},
		{commit(), -late, three{nil, list(seg(-top, top, top), seg(7, -top, 0))}, 7, false},

		{bound(0, 0), -late, own(box(-late, -late+1, vec(1, 0))), -late, false},
		{bound(0, 0), -late, own(box(-late-1, -late, vec(1, 0))), 0, true},
		{bound(0, 0), late, own(box(late, late+1, vec(0, 1))), late, false},
		{bound(0, 0), late, own(box(late-1, late, vec(0, 1))), 0, true},
		{bound(0, 0), -late, own(list(seg(top, 0, 1))), top, false},
		{bound(0, 0), -late, own(list(seg(-top, -top, -top))), 0, true},
		{bound(most, most), -late, own(list(seg(-top, most, most))), 0, true},
		{bound(most, most), -late, own(list(seg(-top, most+1, most))), -late, false},
		{bound(most, most), late, own(list(seg(-top, most, most+1))), late, false},
		{bound(most, most), -late, own(list(seg(-top, most, most), seg(5, most, top))), 5, false},
		{bound(most, 0), 0, own(list(seg(-top, top, 0), seg(-1, -top, -top), seg(4, top, 0))), 4, false},

		{average(4096, 0, 0), -late, own(box(-late, -late+1, vec(1, 0))), -late, false},
		{average(4096, 0, 0), -late, own(box(-late+4095, -late+4096, vec(1, 0))), -late, false},
		{average(4096, 0, 0), -late, own(box(-late+4096, -late+4097, vec(1, 0))), -late + 1, false},
		{average(4096, 0, 0), -late, own(box(-late-1, -late, vec(1, 0))), 0, true},
		{average(4096, 0, 0), late, own(box(late, late+1, vec(0, 1))), late, false},
		{average(4096, 0, 0), late, own(box(late-1, late, vec(0, 1))), 0, true},
		{average(4096, 0, 0), late, own(list(seg(late+4096, 0, 1))), late + 1, false},
		{average(4096, 0, 0), -late, own(list(seg(top, 0, 1))), top - 4095, false},
		{average(4096, 0, 0), late, own(list(seg(-top, 1, 0))), late, false},
		{average(4096, most, most), -late, own(list(seg(-top, most, most))), 0, true},
		{average(4096, most, most), -late, own(list(seg(-top, most+1, most))), -late, false},
		{average(4096, most, most), -late, own(list(seg(0, most, most+1))), 0, false},
		{average(4096, most, most), -late, own(list(seg(0, most, most), seg(9000, most, most+1))), 9000 - 4095, false},
		{average(4096, most, most), -late, own(list(seg(top, most, most+1))), top, false},
		{average(4096, most, most), -late, own(box(0, 1, vec(all, all))), 0, true},
		{average(4096, most, most), -late, own(box(0, 1, vec(all, all+1))), -4095, false},
		{average(4096, most, 0), -late, own(list(seg(0, all-1, 0), seg(1, 0, 0), seg(4095, 1, 0), seg(4096, 0, 0))), 0, true},
		{average(4096, most, 0), -late, own(list(seg(0, all, 0), seg(1, 0, 0), seg(4095, 1, 0), seg(4096, 0, 0))), 0, false},
		{average(4096, most, 0), -late, own(list(seg(0, all, 0), seg(1, 0, 0), seg(4096, 1, 0), seg(4097, 0, 0))), 0, true},
		{average(4096, most, most), -late, own(list(seg(0, top, top))), -4095, false},
		{average(4096, most, most), 0, own(list(seg(-top, top, top))), 0, false},
		{average(4096, 0, 0), -late, own(list(seg(-top, -top, -top))), 0, true},
		{average(4096, 0, 0), -late, own(list(seg(-top, -top, -top), seg(9000, top, top))), 9000 - 2047, false},
		{average(4096, most, most), 0, own(list(seg(-top, top, 0), seg(0, -top, 0), seg(1, 0, 0))), 0, true},
		{average(1, most, most), -late, own(list(seg(-late+5, most, most+1))), -late + 5, false},
		{average(1, most, most), late, own(list(seg(late, most, most))), 0, true},
	} {
		answers(t, x.p, x.now, x.f, x.at, x.holds, api.OK)
	}
}

// times returns the times around the small functions at which it is looked at them.
func times() []int64 { return []int64{-12, -5, -1, 0, 1, 2, 3, 4, 6, 7, 8, 11} }

// shorts returns small functions.
func shorts() [][]api.Seg {
	return sample.Shorts([]int64{0, 2, 3, 7}, vec(0, 0), vec(1, 0), vec(-1, 2))
}

// TestCommitAll: all small loads and capacities (P13.1).
func TestCommitAll(t *testing.T) {
	var d sample.Dice
	l := shorts()
	for _, load := range l {
		for _, capacity := range l {
			for _, now := range times() {
				looked(t, commit(), now, three{load, capacity, l[d.Below(len(l))]})
			}
		}
	}
}

// TestUserAll: all small loads of a user, with small limits and windows (P13.1).
func TestUserAll(t *testing.T) {
	var d sample.Dice
	l := shorts()
	for _, f := range l {
		for mem := range int64(3) {
			for cores := range int64(4) {
				for _, now := range times() {
					all := three{l[d.Below(len(l))], l[d.Below(len(l))], f}
					looked(t, bound(mem, cores), now, all)
					for _, win := range []int64{1, 2, 3, 4, 5, 8, 12} {
						looked(t, average(win, mem, cores), now, all)
					}
				}
			}
		}
	}
}

// TestLong: functions of many runs (P13.1).
func TestLong(t *testing.T) {
	for seed := range int64(4) {
		all := three{long(60, seed), long(40, seed+1), long(50, seed+2)}
		raised, e := calc.Range(all[1], -60, 160-40*seed, vec(9, 6))
		if e != api.OK {
			t.Fatal(e)
		}
		for now := int64(-70); now < 150; now += 7 {
			looked(t, commit(), now, all)
			looked(t, commit(), now, three{all[0], raised, all[2]})
			for _, n := range []int64{0, 1, 2, 3, 5} {
				looked(t, bound(n, 3), now, all)
				looked(t, bound(5, n), now, all)
				for _, win := range []int64{1, 2, 7, 23, 100} {
					looked(t, average(win, n, 3), now, all)
					looked(t, average(win, 5, n), now, all)
				}
			}
		}
	}
}

// TestMost: a function of very many runs (P13.1).
func TestMost(t *testing.T) {
	const n = 200000
	f := sample.Saw(n)
	last := slices.Clone(f)
	last[n-3].V = vec(2, 3)
	for _, x := range []struct {
		p     api.Policy
		f     three
		at    int64
		holds bool
	}{
		{commit(), three{f, f}, 0, true},
		{commit(), three{last, f}, n - 3, false},
		{bound(2, 2), own(f), 0, true},
		{bound(2, 2), own(last), n - 3, false},
		{average(4096, 2, 2), own(f), 0, true},
		{average(2, 1, 2), own(f), 0, false},
		{average(2, 2, 1), own(f), 0, false},
		{average(2, 2, 2), own(last), n - 4, false},
	} {
		answers(t, x.p, 0, x.f, x.at, x.holds, api.OK)
	}
}

// TestErrors: which errors there are, and which comes first (P13.1, P1).
func TestErrors(t *testing.T) {
	f := box(2, 8, vec(3, 1))
	right := []api.Policy{commit(), bound(9, 9), bound(0, 0), average(4, 9, 9), average(1, 0, 0)}
	for _, x := range right {
		for _, w := range wrong {
			// Each of the functions alone, whether the policy depends on it or not, and all of them.
			for _, all := range []three{{w, f, f}, {f, w, f}, {f, f, w}, {w, nil, nil}, {nil, w, nil}, {nil, nil, w}, {w, w, w}, {wrong[0], w, nil}} {
				for _, now := range []int64{-late, 0, 5, late} {
					answers(t, x, now, all, 0, false, api.ErrForm)
				}
				for _, now := range wrongTimes() {
					answers(t, x, now, all, 0, false, api.ErrArg)
				}
				answers(t, api.Policy{Kind: 3}, 0, all, 0, false, api.ErrArg)
			}
		}
		for _, now := range wrongTimes() {
			answers(t, x, now, three{}, 0, false, api.ErrArg)
			answers(t, x, now, three{f, f, f}, 0, false, api.ErrArg)
		}
		for _, now := range []int64{-late, late} {
			answers(t, x, now, three{}, 0, true, api.OK)
		}
	}
	for _, x := range wrongPolicies() {
		for _, now := range append(wrongTimes(), -late, 0, 5, late) {
			answers(t, x, now, three{}, 0, false, api.ErrArg)
			answers(t, x, now, three{f, nil, f}, 0, false, api.ErrArg)
			answers(t, x, now, three{wrong[0], wrong[1], wrong[2]}, 0, false, api.ErrArg)
		}
	}
}

// tells holds an answer of Holds against what is expected.
func tells(t *testing.T, x api.Policy, now int64, p *plan.Plan, user string, at int64, holds bool, we api.Errno) {
	t.Helper()
	if u, a, is, e := policy.Holds(x, now, p); u != user || a != at || is != holds || e != we {
		t.Fatalf("Holds(%v, %d, %v, %v): %q, %d, %t, %d; want %q, %d, %t, %d", x, now, p.Cap(), p.List(), u, a, is, e, user, at, holds, we)
	}
}

// asked holds an answer of Holds against looking at the load of each user one by one, and against Check.
func asked(t *testing.T, x api.Policy, now int64, p *plan.Plan) {
	t.Helper()
	users := p.Users()
	if x.Kind == 0 {
		users = []string{""}
	}
	for _, user := range users {
		if at, holds := looked(t, x, now, three{p.Load(), p.Cap(), p.User(user)}); !holds {
			tells(t, x, now, p, user, at, false, api.OK)
			return
		}
	}
	tells(t, x, now, p, "", 0, true, api.OK)
}

// TestHolds: the first user in increasing order, the empty string for what depends on no user, and plans without users (P13.2).
func TestHolds(t *testing.T) {
	a, b := box(5, 9, vec(3, 1)), box(2, 8, vec(2, 2))
	capacity := list(seg(0, 4, 9), seg(8, 2, 9))
	for _, x := range []struct {
		p     api.Policy
		now   int64
		l     []api.Rsv
		user  string
		at    int64
		holds bool
	}{
		{commit(), 0, nil, "", 0, true},
		{bound(0, 0), 0, nil, "", 0, true},
		{average(9, 0, 0), 0, nil, "", 0, true},
		{bound(0, 0), 0, []api.Rsv{rsv(1, 1, "a")}, "", 0, true},
		{average(9, 0, 0), 0, []api.Rsv{rsv(1, 1, "a")}, "", 0, true},
		{commit(), 0, []api.Rsv{rsv(1, 1, "a")}, "", 0, true},
		// One user, alone and behind another one whose load is small.
		{bound(2, 9), 0, []api.Rsv{rsv(1, 1, "a", a...)}, "a", 5, false},
		{bound(2, 9), 0, []api.Rsv{rsv(1, 1, "a", b...), rsv(2, 2, "b", a...)}, "b", 5, false},
		{bound(2, 2), 0, []api.Rsv{rsv(1, 1, "a", b...), rsv(2, 2, "b", a...)}, "b", 5, false},
		{bound(3, 2), 0, []api.Rsv{rsv(1, 1, "a", b...), rsv(2, 2, "b", a...)}, "", 0, true},
		{average(2, 2, 9), 0, []api.Rsv{rsv(1, 1, "a", b...), rsv(2, 2, "b", a...)}, "b", 5, false},
		{average(2, 1, 9), 0, []api.Rsv{rsv(1, 1, "a", b...), rsv(2, 2, "b", a...)}, "a", 2, false},
		// The first of two in increasing order, though it comes later in time and in the plan.
		{bound(1, 9), 0, []api.Rsv{rsv(1, 1, "b", b...), rsv(2, 2, "a", a...)}, "a", 5, false},
		{bound(1, 9), 8, []api.Rsv{rsv(1, 1, "b", b...), rsv(2, 2, "a", a...)}, "a", 8, false},
		{bound(1, 9), 9, []api.Rsv{rsv(1, 1, "b", b...), rsv(2, 2, "a", a...)}, "", 0, true},
		{average(4, 1, 9), 0, []api.Rsv{rsv(1, 1, "b", b...), rsv(2, 2, "a", a...)}, "a", 3, false},
		{bound(1, 9), 0, []api.Rsv{rsv(1, 1, "b", b...), rsv(2, 2, "ab", b...), rsv(3, 0, "aa", b...), rsv(4, 9, "a0", a...)}, "a0", 5, false},
		{bound(1, 9), 0, []api.Rsv{rsv(1, 1, "a", a...), rsv(2, 2, "9", a...), rsv(3, 0, "10", a...), rsv(4, 9, "ann", a...)}, "10", 5, false},
		// What a user's reservations have together.
		{bound(4, 3), 0, []api.Rsv{rsv(1, 1, "a", a...), rsv(2, 2, "a", b...)}, "a", 5, false},
		{bound(5, 2), 0, []api.Rsv{rsv(1, 1, "a", a...), rsv(2, 2, "a", b...)}, "a", 5, false},
		{bound(5, 3), 0, []api.Rsv{rsv(1, 1, "a", a...), rsv(2, 2, "a", b...)}, "", 0, true},
		{bound(4, 2), 0, []api.Rsv{rsv(1, 1, "a", a...), rsv(2, 2, "b", b...)}, "", 0, true},
		// What all reservations have together, whoever has them.
		{commit(), 0, []api.Rsv{rsv(1, 1, "a", a...), rsv(2, 2, "b", b...)}, "", 5, false},
		{commit(), 0, []api.Rsv{rsv(1, 1, "a", a...), rsv(2, 2, "a", b...)}, "", 5, false},
		{commit(), 7, []api.Rsv{rsv(1, 1, "a", a...), rsv(2, 2, "b", b...)}, "", 7, false},
		{commit(), 0, []api.Rsv{rsv(1, 1, "a", a...)}, "", 8, false},
		{commit(), 9, []api.Rsv{rsv(1, 1, "a", a...), rsv(2, 2, "b", b...)}, "", 0, true},
		{commit(), 0, []api.Rsv{rsv(1, 1, "a", b...)}, "", 0, true},
	} {
		p := sample.Plan(capacity, x.l...)
		tells(t, x.p, x.now, p, x.user, x.at, x.holds, api.OK)
		asked(t, x.p, x.now, p)
	}
	// The greatest and the smallest times; a plan without a capacity has none.
	p := sample.Plan(nil, rsv(1, 1, "a", box(0, late, vec(1, 1))...), rsv(2, 2, "b", box(late-1, late, vec(2, 0))...))
	for _, x := range []struct {
		p     api.Policy
		now   int64
		user  string
		at    int64
		holds bool
	}{
		{commit(), -late, "", 0, false},
		{commit(), late - 1, "", late - 1, false},
		{commit(), late, "", 0, true},
		{bound(0, 9), -late, "a", 0, false},
		{bound(1, 9), -late, "b", late - 1, false},
		{bound(1, 9), late, "", 0, true},
		{average(4096, 0, 9), -late, "a", -4095, false},
		{average(4096, 1, 1), -late, "", 0, true},
		{average(2, 1, 0), -late, "a", -1, false},
		{average(4096, 0, 1), late - 1, "a", late - 1, false},
		{average(4096, 0, 0), late, "", 0, true},
	} {
		tells(t, x.p, x.now, p, x.user, x.at, x.holds, api.OK)
	}
}

// TestHoldsAll: thrown plans, which are looked at before and behind a change too (P13.2).
func TestHoldsAll(t *testing.T) {
	var d sample.Dice
	users := []string{"b", "a", "ab", "9", "zz", "a0"}
	for range 400 {
		var l []api.Rsv
		for i := range d.Below(8) {
			l = append(l, rsv(uint32(i+1), uint32(d.Below(5)), users[d.Below(len(users))], d.Amount()...))
		}
		var capacity []api.Seg
		if d.Below(5) > 0 {
			capacity = list(seg(int64(d.Below(9)-6), 1+int64(d.Below(6)), int64(d.Below(6))), seg(6, 9, 1+int64(d.Below(5))))
		}
		p := sample.Plan(capacity, l...)
		for range 3 {
			for _, now := range []int64{-9, 0, 3, 5, int64(d.Below(20))} {
				asked(t, commit(), now, p)
				mem, cores := int64(d.Below(4)), int64(d.Below(4))
				asked(t, bound(mem, cores), now, p)
				asked(t, bound(mem, 9), now, p)
				for _, win := range []int64{1, 3, 8} {
					asked(t, average(win, mem, cores), now, p)
				}
			}
			if e := p.SetCap(list(seg(0, int64(d.Below(3)), 4))); e != api.OK {
				t.Fatal(e)
			}
			if len(l) > 0 {
				p.Do([]api.Change{{Kind: api.ChDelete, R: l[d.Below(len(l))]}})
			}
		}
	}
}

// TestHoldsMany: as many users as there can be, and functions of as many runs (P13.2).
func TestHoldsMany(t *testing.T) {
	var l []api.Rsv
	for i := range 128 {
		l = append(l, rsv(uint32(i+1), 1, "u"+strconv.Itoa(100+i), sample.Saw(1024)...))
	}
	l[127].A[1000].V = vec(9, 9)
	p := sample.Plan(list(seg(0, 256, 256)), l...)
	for _, x := range []struct {
		p     api.Policy
		user  string
		at    int64
		holds bool
	}{
		{commit(), "", 1000, false},
		{bound(2, 2), "u227", 1000, false},
		{bound(1, 2), "u100", 1, false},
		{bound(9, 9), "", 0, true},
		{average(2, 2, 2), "u227", 999, false},
		{average(4096, 2, 2), "", 0, true},
		{average(4, 1, 9), "u100", 0, false},
	} {
		tells(t, x.p, 0, p, x.user, x.at, x.holds, api.OK)
	}
	if e := p.SetCap(list(seg(0, 263, 264))); e != api.OK {
		t.Fatal(e)
	}
	tells(t, commit(), 0, p, "", 0, true, api.OK)
}

// TestHoldsErrors: no plan comes first, then what else is not valid, with users and without (P13.2, P1).
func TestHoldsErrors(t *testing.T) {
	right := []api.Policy{commit(), bound(0, 0), average(4, 0, 0)}
	for _, p := range []*plan.Plan{nil, new(plan.Plan)} {
		for _, x := range append(wrongPolicies(), right...) {
			for _, now := range append(wrongTimes(), 0) {
				tells(t, x, now, p, "", 0, false, api.ErrNil)
			}
		}
	}
	for _, l := range [][]api.Rsv{nil, {rsv(1, 1, "a")}, {rsv(1, 1, "a", box(2, 8, vec(3, 1))...)}} {
		p := sample.Plan(nil, l...)
		for _, x := range wrongPolicies() {
			for _, now := range append(wrongTimes(), -late, 0, late) {
				tells(t, x, now, p, "", 0, false, api.ErrArg)
			}
		}
		for _, x := range right {
			for _, now := range wrongTimes() {
				tells(t, x, now, p, "", 0, false, api.ErrArg)
			}
			tells(t, x, late, p, "", 0, true, api.OK)
		}
	}
}

// TestLeast: no policies, such as are not valid or of other kinds, and several whose components differ (P13.3).
func TestLeast(t *testing.T) {
	for _, x := range []struct {
		l    []api.Policy
		want api.Policy
	}{
		{nil, bound(most, most)},
		{[]api.Policy{}, bound(most, most)},
		{[]api.Policy{commit(), commit()}, bound(most, most)},
		{[]api.Policy{average(1, 2, 3), average(4096, 0, 0), commit()}, bound(most, most)},
		{wrongPolicies(), bound(most, most)},
		{[]api.Policy{bound(most, most)}, bound(most, most)},
		{[]api.Policy{bound(3, 4)}, bound(3, 4)},
		{[]api.Policy{bound(0, 0)}, bound(0, 0)},
		{[]api.Policy{bound(most, 0)}, bound(most, 0)},
		{[]api.Policy{bound(3, 4), bound(5, 2)}, bound(3, 2)},
		{[]api.Policy{bound(5, 2), bound(3, 4)}, bound(3, 2)},
		{[]api.Policy{bound(5, 2), bound(4, 4), bound(7, 9)}, bound(4, 2)},
		{[]api.Policy{bound(5, 9), bound(4, 8), bound(6, 7)}, bound(4, 7)},
		{[]api.Policy{commit(), bound(5, 9), average(3, 1, 1), bound(4, 10)}, bound(4, 9)},
		{append(wrongPolicies(), bound(5, 9)), bound(5, 9)},
		{append([]api.Policy{bound(5, 9)}, wrongPolicies()...), bound(5, 9)},
		{[]api.Policy{bound(5, -1), bound(-1, 5), bound(5, most+1), bound(most+1, 5), {Kind: 1, Cap: vec(1, 1), Win: 1}, bound(9, 8)}, bound(9, 8)},
		// Lists of more policies than a system has.
		{slices.Repeat([]api.Policy{bound(5, 9), bound(9, 5)}, 50), bound(5, 5)},
	} {
		for range 2 {
			if got := policy.Least(x.l); got != x.want {
				t.Errorf("Least(%v): %v, want %v", x.l, got, x.want)
			}
			l := slices.Clone(x.l)
			slices.Reverse(l)
			x.l = l
		}
	}
}

// questions returns policies of each kind with functions of each sort, for what follows from the promises.
func questions() ([]api.Policy, []three) {
	l := []api.Policy{commit(), bound(0, 0), bound(1, 2), bound(2, 1), bound(4, 3)}
	for _, win := range []int64{1, 2, 5, 40} {
		l = append(l, average(win, 0, 0), average(win, 1, 9), average(win, 9, 1), average(win, 2, 2))
	}
	d := sample.Dice(5)
	var all []three
	for range 40 {
		all = append(all, three{d.Amount(), d.Amount(), d.Amount()})
	}
	for seed := range int64(6) {
		all = append(all, three{long(20, seed), long(30, seed+1), long(25, seed+2)})
	}
	return append(l, average(4096, 0, 1)), all
}

// TestLater: a policy that holds from a time on holds from every later time on; up to its first violation that stays the first one (P13.4).
func TestLater(t *testing.T) {
	policies, all := questions()
	for _, x := range policies {
		for _, f := range all {
			at, holds, e := policy.Check(x, -50, f)
			if e != api.OK {
				t.Fatal(x, e)
			}
			for now := int64(-49); now < 80; now++ {
				switch a, is, e := policy.Check(x, now, f); {
				case e != api.OK:
					t.Fatal(x, now, f, e)
				case holds && !is, !holds && now <= at && (is || a != at), !is && a < now:
					t.Fatal(x, now, f, at, holds, a, is)
				case !holds && now > at:
					at, holds = a, is
				}
			}
		}
	}
}

// TestGreater: at the first violation a policy does not hold, nor for any greater load that it depends on; of the others it depends on none (P13.4).
func TestGreater(t *testing.T) {
	policies, all := questions()
	d := sample.Dice(3)
	for _, x := range policies {
		for _, f := range all {
			at, holds, e := policy.Check(x, -50, f)
			if e != api.OK {
				t.Fatal(x, f, e)
			}
			for range 5 {
				more := d.Amount()
				if d.Below(3) == 0 {
					more = list(seg(-top, int64(d.Below(2)), 1))
				}
				greater, other := f, f
				for i := range f {
					sum, e := calc.Add(f[i], more)
					if e != api.OK {
						t.Fatal(e)
					}
					if i == 0 && x.Kind == 0 || i == 2 && x.Kind > 0 {
						greater[i] = sum
					} else if i != 1 || x.Kind > 0 {
						other[i] = sum
					}
				}
				answers(t, x, -50, other, at, holds, api.OK)
				if holds {
					continue
				}
				answers(t, x, at, f, at, false, api.OK)
				answers(t, x, at, greater, at, false, api.OK)
				if a, is, e := policy.Check(x, -50, greater); a > at || is || e != api.OK {
					t.Fatal(x, greater, a, is, e, at)
				}
			}
		}
	}
}

// TestOne: an average over one tick is a limit at each time (P13.5).
func TestOne(t *testing.T) {
	for _, f := range slices.Concat(shorts(), [][]api.Seg{long(40, 1), long(60, 2), list(seg(-top, top, -top)), list(seg(top, -top, most+1)), box(-late, late, vec(most, most)), box(late, top, vec(most, most+1))}) {
		for _, limit := range []api.Vec{vec(0, 0), vec(1, 0), vec(0, 1), vec(1, 1), vec(2, 2), vec(most, 1), vec(5, most), vec(most, most)} {
			for _, now := range append(times(), -late, -50, 20, 90, late-1, late) {
				at, holds, e := policy.Check(bound(limit.Mem, limit.Cores), now, own(f))
				if e != api.OK {
					t.Fatal(f, limit, now, e)
				}
				answers(t, average(1, limit.Mem, limit.Cores), now, own(f), at, holds, api.OK)
			}
		}
	}
}

// TestEvery: where a limit holds at each time, it holds as an average over any window (P13.5).
func TestEvery(t *testing.T) {
	held := 0
	for _, f := range slices.Concat(shorts(), [][]api.Seg{long(40, 1), long(60, 2), list(seg(-top, most, -top)), list(seg(-top, 1, 1), seg(0, most, most), seg(late, 2, 2)), box(-late, late, vec(most, 1)), nil}) {
		for _, limit := range []api.Vec{vec(0, 0), vec(1, 2), vec(5, 3), vec(most, 1), vec(most, most)} {
			for _, now := range append(times(), -late, 90, late) {
				if _, holds, e := policy.Check(bound(limit.Mem, limit.Cores), now, own(f)); e != api.OK || !holds {
					continue
				}
				held++
				for _, win := range []int64{1, 2, 3, 4, 7, 64, 4095, 4096} {
					answers(t, average(win, limit.Mem, limit.Cores), now, own(f), 0, true, api.OK)
				}
			}
		}
	}
	if held < 1000 {
		t.Error(held)
	}
}

// TestArguments: what is handed in stays as it was, behind its length too, and is not kept (P1, R5).
func TestArguments(t *testing.T) {
	policies := []api.Policy{commit(), bound(2, 2), bound(9, 9), average(2, 2, 2), average(4096, 9, 9)}
	whole := list(seg(2, 3, 1), seg(5, 1, 1), seg(8, 0, 0), seg(7, 7, 7), seg(1, 1, 1))
	for _, x := range policies {
		all := three{slices.Clone(whole)[:3], slices.Clone(whole)[:2], slices.Clone(whole)[:3]}
		at, holds, e := policy.Check(x, 0, all)
		for i, f := range all {
			if !slices.Equal(f[:5], whole) {
				t.Error(x, i, f[:5])
			}
			sample.Spoil(f)
		}
		answers(t, x, 0, three{whole[:3], whole[:2], whole[:3]}, at, holds, e)
	}
	l := slices.Concat(policies, []api.Policy{{Kind: 7, Win: 7}})
	was := slices.Clone(l)
	if got := policy.Least(l[:5]); got != bound(2, 2) || !slices.Equal(l, was) {
		t.Error(got, l)
	}
}

// TestPlan: a plan that is looked at stays as it was (P1, R5).
func TestPlan(t *testing.T) {
	l := []api.Rsv{sample.RichRsv(2, 1, "bob"), sample.RichRsv(1, 2, "ann"), sample.RichRsv(3, 3, "bob")}
	capacity := list(seg(0, 9, 9), seg(5, 2, 2))
	p := sample.Plan(capacity, l...)
	for _, x := range []api.Policy{commit(), bound(3, 3), bound(9, 9), average(2, 2, 2), average(4096, 9, 9), {Kind: 9}} {
		for range 2 {
			_, _, _, e := policy.Holds(x, 0, p)
			if (e == api.OK) != (x.Kind < 3) || !slices.Equal(p.Cap(), capacity) || !slices.EqualFunc(p.List(), l, sample.SameRsv) {
				t.Error(x, e, p.Cap(), p.List())
			}
		}
	}
	// A plan that has changed is looked at as it is now, its copy as that is.
	tells(t, bound(3, 3), 0, p, "bob", 2, false, api.OK)
	q := p.Copy()
	if e := p.Do([]api.Change{{Kind: api.ChDelete, R: l[0]}}); e != api.OK {
		t.Fatal(e)
	}
	tells(t, bound(3, 3), 0, p, "", 0, true, api.OK)
	tells(t, bound(3, 3), 0, q, "bob", 2, false, api.OK)
}
