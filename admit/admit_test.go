package admit_test

import (
	"math"
	"slices"
	"strconv"
	"testing"

	"livery/admit"
	"livery/api"
	"livery/plan"
	"livery/policy"
	"livery/rle"
	"livery/sample"
)

const (
	top  = sample.Top
	late = 1 << 40 // the greatest time from which on policies can be asked
	most = 1 << 30 // the greatest component of a limit
)

var (
	vec  = sample.Vec
	seg  = sample.Seg
	list = sample.List
	box  = sample.Box
	rsv  = sample.Rsv

	commit  = sample.Commit
	bound   = sample.Bound
	average = sample.Average
)

// verdict is an answer of Ask and of Put.
type verdict struct {
	which int
	at    int64
	e     api.Errno
}

var admitted = verdict{-1, 0, api.OK}

// refused returns the verdict that the policy of that index refuses.
func refused(which int, at int64) verdict { return verdict{which, at, api.ErrPolicy} }

// fails returns the verdict that there is an error.
func fails(e api.Errno) verdict { return verdict{0, 0, e} }

// same reports whether two plans are equal.
func same(p, q *plan.Plan) bool {
	return slices.Equal(p.Cap(), q.Cap()) && slices.EqualFunc(p.List(), q.List(), sample.SameRsv)
}

// keeps holds that p is equal to was.
func keeps(t *testing.T, p, was *plan.Plan) {
	t.Helper()
	if !same(p, was) {
		t.Fatalf("the plan is now %v, %v; want %v, %v", p.Cap(), p.List(), was.Cap(), was.List())
	}
}

// changed returns the plan with r by the document's words, and layer 11's error of the change: a reservation that has its Id is looked for in the list.
func changed(p *plan.Plan, r api.Rsv) (*plan.Plan, api.Errno) {
	c := api.Change{Kind: 0, R: r}
	for _, old := range p.List() {
		if old.Id == r.Id {
			c.Kind = 1
		}
	}
	next := p.Copy()
	e := next.Do([]api.Change{c})
	if e != api.OK {
		return nil, e
	}
	return next, api.OK
}

// judged returns by the document's words the first policy of l that does not hold for p, the user and the first violation: each user's load is looked at at each time one by one. All of it is zero, but the index -1, if there is none.
func judged(p *plan.Plan, l []api.Policy, now int64) (which int, user string, at int64) {
	for i, x := range l {
		users := p.Users()
		if x.Kind == 0 {
			users = []string{""}
		}
		for _, user := range users {
			if at, holds := sample.Violation(x, now, [3][]api.Seg{p.Load(), p.Cap(), p.User(user)}); !holds {
				return i, user, at
			}
		}
	}
	return -1, "", 0
}

// asks holds an answer of Ask against what is expected; p stays as it was.
func asks(t *testing.T, p *plan.Plan, l []api.Policy, now int64, r api.Rsv, want verdict) {
	t.Helper()
	was := p.Copy()
	if which, at, e := admit.Ask(p, l, now, r); (verdict{which, at, e}) != want {
		t.Fatalf("Ask(%v, %v, %v, %d, %v): %d, %d, %d; want %v", p.Cap(), p.List(), l, now, r, which, at, e, want)
	}
	keeps(t, p, was)
}

// puts holds an answer of Put, and the plan behind it, against what is expected.
func puts(t *testing.T, p *plan.Plan, l []api.Policy, now int64, r api.Rsv, want verdict) {
	t.Helper()
	next := p.Copy()
	if want == admitted {
		next, _ = changed(p, r)
	}
	if which, at, e := admit.Put(p, l, now, r); (verdict{which, at, e}) != want {
		t.Fatalf("Put(%v, %v, %v, %d, %v): %d, %d, %d; want %v", p.Cap(), p.List(), l, now, r, which, at, e, want)
	}
	keeps(t, p, next)
}

// tells holds answers of Ask, and of Put to a copy, against what is expected; p stays as it was.
func tells(t *testing.T, p *plan.Plan, l []api.Policy, now int64, r api.Rsv, want verdict) {
	t.Helper()
	asks(t, p, l, now, r, want)
	puts(t, p.Copy(), l, now, r, want)
}

// all holds an answer of All against what is expected; p stays as it was.
func all(t *testing.T, p *plan.Plan, l []api.Policy, now int64, which int, user string, at int64, we api.Errno) {
	t.Helper()
	was := p.Copy()
	if i, u, a, e := admit.All(p, l, now); i != which || u != user || a != at || e != we {
		t.Fatalf("All(%v, %v, %v, %d): %d, %q, %d, %d; want %d, %q, %d, %d", p.Cap(), p.List(), l, now, i, u, a, e, which, user, at, we)
	}
	keeps(t, p, was)
}

// with holds an answer of With against what is expected, and against the change on a copy; p stays as it was.
func with(t *testing.T, p *plan.Plan, r api.Rsv, we api.Errno) {
	t.Helper()
	was := p.Copy()
	want, e := changed(p, r)
	next, got := admit.With(p, r)
	if got != we || e != we {
		t.Fatalf("With(%v, %v): %d; the change: %d, want %d", p.List(), r, got, e, we)
	}
	if we == api.OK {
		keeps(t, next, want)
	} else if next != nil {
		t.Fatal(next, we)
	}
	keeps(t, p, was)
}

// The document's policies, plan and reservation.
func row() []api.Policy { return []api.Policy{commit(), bound(3, 3)} }

func small() *plan.Plan {
	return sample.Plan(list(seg(0, 4, 4)), rsv(1, 0, "ann", box(2, 8, vec(3, 1))...))
}

// TestExamples: the document's examples (P14.2, P14.3, P14.4).
func TestExamples(t *testing.T) {
	p, l := small(), row()
	asks(t, p, l, 0, rsv(2, 0, "bob", box(5, 9, vec(2, 1))...), refused(0, 5))
	asks(t, p, l, 0, rsv(2, 0, "ann", box(4, 6, vec(1, 1))...), refused(1, 4))
	puts(t, p, l, 0, rsv(1, 0, "ann", box(5, 9, vec(2, 1))...), admitted)
	all(t, p, l, 0, -1, "", 0, api.OK)
	if r, e := p.Get(1); e != api.OK || !slices.Equal(r.A, box(5, 9, vec(2, 1))) || len(p.List()) != 1 {
		t.Error(p.List())
	}
}

// rows returns lists of policies that are not valid.
func rows() [][]api.Policy {
	l := [][]api.Policy{make([]api.Policy, 9), make([]api.Policy, 200), slices.Repeat(row(), 5)}
	for i, x := range sample.WrongPolicies() {
		// Alone, and at each place of a list of eight.
		eight := slices.Repeat(row(), 4)
		eight[i%8] = x
		l = append(l, []api.Policy{x}, eight)
	}
	return l
}

// TestRow: lists of no policies, of some, of 8 and of 9, and such as have one that is not valid (P14.1).
func TestRow(t *testing.T) {
	for n := range 9 {
		for _, x := range []api.Policy{commit(), bound(0, 0), bound(most, most), average(1, 0, 0), average(4096, most, most)} {
			l := slices.Repeat([]api.Policy{x}, n)
			if !admit.Row(l) {
				t.Error(l)
			}
			for i := range l {
				wrong := slices.Clone(l)
				wrong[i].Win += 4096
				if admit.Row(wrong) {
					t.Error(wrong)
				}
			}
		}
	}
	if !admit.Row(nil) || !admit.Row([]api.Policy{}) || !admit.Row(row()) || !admit.Row(make([]api.Policy, 8, 9)) {
		t.Error("valid")
	}
	for _, l := range rows() {
		if admit.Row(l) {
			t.Error(l)
		}
	}
}

// TestNil: no plan comes ahead of all other errors (P14.1, P14.2, P14.3, P14.4).
func TestNil(t *testing.T) {
	for _, p := range []*plan.Plan{nil, new(plan.Plan)} {
		for _, r := range append(sample.WrongRsvs(), api.Rsv{}, rsv(1, 1, "ann"), rsv(1, 1, "ann", box(2, 8, vec(3, 1))...)) {
			for _, l := range append(rows()[:5], nil, row()) {
				for _, now := range append(sample.WrongTimes(), 0) {
					tells(t, p, l, now, r, fails(api.ErrNil))
					all(t, p, l, now, 0, "", 0, api.ErrNil)
				}
			}
			if next, e := admit.With(p, r); next != nil || e != api.ErrNil {
				t.Error(next, e)
			}
		}
	}
}

// full returns a plan with 128 reservations, all of them of ann, that together have almost as much as there can be at the time 100.
func full() *plan.Plan {
	l := []api.Rsv{rsv(1, 0, "ann", box(100, 101, vec(top-1, top-1))...)}
	for i := range 127 {
		l = append(l, rsv(uint32(i+2), 0, "ann", box(200, 201, vec(1, 0))...))
	}
	return sample.Plan(list(seg(0, 200, 200), seg(100, top, top), seg(101, 200, 200)), l...)
}

// TestOrder: all combinations of errors; the first of them counts (P14.1, P14.2, P14.3, P14.4, R2).
func TestOrder(t *testing.T) {
	some := sample.Plan(list(seg(0, top, top)), rsv(1, 0, "ann", box(100, 101, vec(top-1, top-1))...))
	for faults := range 1 << 6 {
		at := func(bit int) bool { return faults>>bit&1 > 0 }
		p, l, now, r := some, []api.Policy{commit()}, int64(0), rsv(500, 0, "bob", box(5, 6, vec(1, 1))...)
		var own, change []api.Errno // the errors in the document's order: of what is asked, and layer 11's
		if at(0) {
			l, own = make([]api.Policy, 9), append(own, api.ErrArg)
		}
		if at(1) {
			now, own = late+1, append(own, api.ErrArg)
		}
		if at(2) {
			r.User, change = "Bob", append(change, api.ErrForm)
		}
		if at(3) {
			p, change = full(), append(change, api.ErrFull)
		}
		if at(4) {
			r.A, change = box(100, 101, vec(2, 0)), append(change, api.ErrRange)
		}
		want, whole := admitted, verdict{-1, 0, api.OK}
		if at(5) {
			l = append([]api.Policy{bound(0, 1)}, l...)
			want, whole = refused(0, 100), refused(0, 100)
		}
		if len(own) > 0 {
			whole = fails(own[0])
		}
		if errors := append(own, change...); len(errors) > 0 {
			want = fails(errors[0])
		}
		tells(t, p, l, now, r, want)
		user := ""
		if whole.e == api.ErrPolicy {
			user = "ann"
		}
		all(t, p, l, now, whole.which, user, whole.at, whole.e)
		with(t, p, r, append(change, api.OK)[0])
	}
}

// TestArg: lists of policies and times that are not valid, each alone and together, with reservations that are not valid too (P14.2, P14.3, P14.4).
func TestArg(t *testing.T) {
	right := rsv(2, 0, "bob", box(9, 10, vec(1, 1))...)
	for _, p := range []*plan.Plan{small(), sample.Plan(nil), full()} {
		for _, r := range []api.Rsv{right, {}, sample.WrongRsvs()[7]} {
			for _, l := range rows() {
				for _, now := range []int64{-late - 1, -late, 0, late, math.MaxInt64} {
					tells(t, p, l, now, r, fails(api.ErrArg))
					all(t, p, l, now, 0, "", 0, api.ErrArg)
				}
			}
			for _, l := range [][]api.Policy{nil, row(), make([]api.Policy, 8)} {
				for _, now := range sample.WrongTimes() {
					tells(t, p, l, now, r, fails(api.ErrArg))
					all(t, p, l, now, 0, "", 0, api.ErrArg)
				}
			}
		}
	}
}

// TestForm: reservations that are not valid, new ones and such as would replace another one, whatever the policies are (P14.1, P14.2, P14.3).
func TestForm(t *testing.T) {
	for _, p := range []*plan.Plan{small(), sample.Plan(nil), full()} {
		for _, r := range sample.WrongRsvs() {
			for _, id := range []uint32{1, 999} {
				if r.Id != 0 {
					r.Id = id
				}
				with(t, p, r, api.ErrForm)
				for _, l := range [][]api.Policy{nil, row(), {bound(0, 0)}} {
					tells(t, p, l, 0, r, fails(api.ErrForm))
				}
			}
		}
	}
	// The definition and the witness are not looked at.
	r := rsv(2, 0, "bob", box(8, 9, vec(1, 1))...)
	r.Def, r.W = api.Def{From: 9, To: -9, T: []api.Part{{Kind: 77}}}, []api.Piece{{Part: -1, At: -1}}
	with(t, small(), r, api.OK)
	tells(t, small(), row(), 0, r, admitted)
}

// TestFull: a plan with 128 reservations has no room for one more, but one can replace another one there; in one with 127 there is room (P14.1, P14.2, P14.3).
func TestFull(t *testing.T) {
	p := full()
	for _, id := range []uint32{129, 7000, math.MaxUint32} {
		for _, a := range [][]api.Seg{nil, box(5, 6, vec(1, 1)), box(100, 101, vec(2, 0))} {
			with(t, p, rsv(id, 0, "bob", a...), api.ErrFull)
			tells(t, p, nil, 0, rsv(id, 0, "bob", a...), fails(api.ErrFull))
			tells(t, p, []api.Policy{bound(0, 0)}, 0, rsv(id, 0, "bob", a...), fails(api.ErrFull))
		}
	}
	for _, id := range []uint32{1, 2, 64, 128} {
		for _, user := range []string{"ann", "bob"} {
			r := rsv(id, 9, user, box(5, 6, vec(1, 1))...)
			with(t, p, r, api.OK)
			tells(t, p, []api.Policy{commit()}, 0, r, admitted)
			tells(t, p, []api.Policy{commit(), bound(most, 0)}, 150, r, admitted)
		}
	}
	if e := p.Do([]api.Change{{Kind: api.ChDelete, R: rsv(77, 0, "")}}); e != api.OK {
		t.Fatal(e)
	}
	for _, id := range []uint32{77, 129} {
		with(t, p, rsv(id, 0, "bob"), api.OK)
		tells(t, p, []api.Policy{commit()}, 0, rsv(id, 0, "bob"), admitted)
	}
}

// TestRange: a load that is out of range; what is replaced does not count (P14.1, P14.2, P14.3).
func TestRange(t *testing.T) {
	p := sample.Plan(list(seg(0, top, top)), rsv(1, 0, "ann", box(2, 8, vec(top-5, 1))...), rsv(2, 0, "bob", box(4, 6, vec(1, top-1))...))
	for _, x := range []struct {
		r    api.Rsv
		want api.Errno
	}{
		{rsv(3, 0, "cid", box(4, 5, vec(4, 0))...), api.OK},
		{rsv(3, 0, "cid", box(4, 5, vec(5, 0))...), api.ErrRange},
		{rsv(3, 0, "cid", box(5, 6, vec(0, 1))...), api.ErrRange},
		{rsv(3, 0, "cid", box(6, 7, vec(5, top-1))...), api.OK},
		{rsv(3, 0, "cid", box(3, 4, vec(6, 0))...), api.ErrRange},
		{rsv(3, 0, "cid", box(0, 9, vec(top, top))...), api.ErrRange},
		{rsv(1, 0, "ann", box(2, 8, vec(top-1, 1))...), api.OK},
		{rsv(1, 0, "cid", box(2, 8, vec(top-1, 1))...), api.OK},
		{rsv(1, 0, "ann", box(2, 8, vec(top, 1))...), api.ErrRange},
		{rsv(1, 0, "cid", box(2, 8, vec(0, 2))...), api.ErrRange},
		{rsv(2, 0, "bob", box(0, 9, vec(5, top-1))...), api.OK},
		{rsv(2, 0, "ann", box(0, 9, vec(6, 0))...), api.ErrRange},
	} {
		with(t, p, x.r, x.want)
		for _, now := range []int64{-late, 0, 9, late} {
			want := admitted
			if x.want != api.OK {
				want = fails(x.want)
			}
			tells(t, p, nil, now, x.r, want)
			tells(t, p, []api.Policy{commit()}, now, x.r, want)
			if want != admitted {
				// Whether a policy would refuse it does not count.
				tells(t, p, []api.Policy{bound(0, 0)}, now, x.r, want)
			}
		}
	}
}

// TestTimes: the greatest and the smallest times from which on policies can be asked, and what is ahead of them (P14.2, P14.3, P14.4).
func TestTimes(t *testing.T) {
	last := rsv(2, 0, "bob", box(late-1, late, vec(1, 0))...)
	p := sample.Plan(list(seg(-top, 1, 1)), rsv(1, 0, "ann", box(late-2, late, vec(0, 1))...))
	for _, x := range []struct {
		x    api.Policy
		now  int64
		want verdict
	}{
		{commit(), -late, admitted},
		{bound(0, 1), -late, refused(0, late-1)},
		{bound(1, 0), -late, refused(0, late-2)},
		{bound(0, 1), late - 1, refused(0, late-1)},
		{bound(0, 1), late, admitted},
		{bound(0, 0), late, admitted},
		{average(4096, 0, 1), -late, refused(0, late-4096)},
		{average(4096, 0, 1), late - 1, refused(0, late-1)},
		{average(4096, 0, 0), late, admitted},
		{commit(), -late - 1, fails(api.ErrArg)},
		{commit(), late, admitted},
		{commit(), late + 1, fails(api.ErrArg)},
		{bound(0, 0), -late - 1, fails(api.ErrArg)},
		{bound(0, 0), late + 1, fails(api.ErrArg)},
	} {
		tells(t, p, []api.Policy{x.x}, x.now, last, x.want)
	}
	for _, now := range []int64{-late, 0, late} {
		all(t, p, nil, now, -1, "", 0, api.OK)
		tells(t, p, nil, now, last, admitted)
	}
	for _, now := range []int64{-late - 1, late + 1} {
		all(t, p, nil, now, 0, "", 0, api.ErrArg)
		tells(t, p, nil, now, last, fails(api.ErrArg))
	}
	all(t, p, []api.Policy{bound(0, 0)}, late, -1, "", 0, api.OK)
	all(t, p, []api.Policy{bound(0, 0)}, late-1, 0, "ann", late-1, api.ErrPolicy)
	all(t, p, []api.Policy{bound(0, 0)}, -late, 0, "ann", late-2, api.ErrPolicy)
	// A policy may be violated behind those times: by the capacity, which need not end.
	if e := p.SetCap(list(seg(-top, 1, 1), seg(late-1, 0, 1))); e != api.OK {
		t.Fatal(e)
	}
	tells(t, p, []api.Policy{commit()}, 0, last, refused(0, late-1))
	tells(t, p, []api.Policy{commit()}, late, last, admitted)
	// The first violation of an average may lie ahead of the time 0.
	p = sample.Plan(list(seg(0, 9, 9)))
	tells(t, p, []api.Policy{average(10, 2, 2)}, -late, rsv(1, 0, "ann", box(0, 8, vec(3, 0))...), refused(0, -3))
	tells(t, p, []api.Policy{average(4096, 0, 2)}, -late, rsv(1, 0, "ann", box(0, 8, vec(3, 0))...), refused(0, -4095))
}

// TestFirst: of several policies that refuse, the first one of the list does, with its own first violation, also if that of another one is earlier; those ahead of it hold (P14.2, P14.3, P14.4).
func TestFirst(t *testing.T) {
	p := sample.Plan(list(seg(0, 9, 9), seg(6, 3, 3)), rsv(1, 0, "bob", box(2, 4, vec(2, 2))...), rsv(2, 0, "cid", box(0, 1, vec(3, 3))...))
	r := rsv(3, 0, "ann", box(1, 8, vec(4, 1))...)
	for _, x := range []struct {
		l    []api.Policy
		want verdict
		user string
	}{
		{nil, admitted, ""},
		{[]api.Policy{commit()}, refused(0, 6), ""},
		{[]api.Policy{commit(), bound(2, 9)}, refused(0, 6), ""},
		{[]api.Policy{bound(2, 9), commit()}, refused(0, 1), "ann"},
		{[]api.Policy{bound(9, 9), average(9, 9, 9), commit(), bound(2, 9)}, refused(2, 6), ""},
		{[]api.Policy{bound(4, 9), bound(3, 9), bound(2, 9), bound(1, 9)}, refused(1, 1), "ann"},
		{[]api.Policy{bound(4, 9), bound(9, 1), bound(2, 9), bound(1, 9)}, refused(1, 2), "bob"},
		{[]api.Policy{bound(4, 3), average(4, 3, 3), commit(), average(2, 9, 0)}, refused(1, 1), "ann"},
		{[]api.Policy{average(4, 4, 0), average(4, 3, 3), commit(), average(2, 9, 0)}, refused(0, -2), "ann"},
		{slices.Repeat([]api.Policy{bound(4, 3)}, 8), admitted, ""},
		{append(slices.Repeat([]api.Policy{bound(4, 3)}, 7), commit()), refused(7, 6), ""},
		{append(slices.Repeat([]api.Policy{bound(4, 3)}, 7), bound(3, 3)), refused(7, 1), "ann"},
		// The first user for whom it does not hold, not the earliest time.
		{[]api.Policy{bound(1, 0)}, refused(0, 1), "ann"},
		{[]api.Policy{bound(9, 1)}, refused(0, 2), "bob"},
		{[]api.Policy{bound(9, 2)}, refused(0, 0), "cid"},
	} {
		tells(t, p, x.l, -9, r, x.want)
		next, e := admit.With(p, r)
		if e != api.OK {
			t.Fatal(e)
		}
		if which, user, at := judged(next, x.l, -9); which != x.want.which || user != x.user || at != x.want.at {
			t.Error(x.l, which, user, at)
		}
		all(t, next, x.l, -9, x.want.which, x.user, x.want.at, x.want.e)
	}
}

// TestReplace: what a reservation replaces does not count any more, neither for its user nor for all; the new one may be another user's (P14.1, P14.2, P14.3).
func TestReplace(t *testing.T) {
	p := sample.Plan(list(seg(0, 4, 4)), rsv(1, 0, "ann", box(2, 8, vec(3, 1))...), rsv(2, 1, "bob", box(4, 6, vec(1, 2))...))
	l := row()
	a := box(2, 8, vec(3, 1))
	for _, x := range []struct {
		r    api.Rsv
		want verdict
	}{
		{rsv(1, 0, "ann", a...), admitted},
		{rsv(1, 7, "ann", box(2, 8, vec(3, 2))...), admitted},
		{rsv(1, 0, "ann", box(2, 8, vec(3, 3))...), refused(0, 4)},
		{rsv(1, 0, "ann", box(2, 8, vec(4, 1))...), refused(0, 4)},
		{rsv(1, 0, "ann", box(7, 8, vec(4, 1))...), refused(1, 7)},
		{rsv(1, 0, "bob", box(2, 8, vec(2, 1))...), admitted},
		{rsv(1, 0, "bob", a...), refused(1, 4)},
		{rsv(1, 0, "cid", a...), admitted},
		{rsv(2, 0, "ann", box(4, 6, vec(1, 2))...), refused(1, 4)},
		{rsv(2, 0, "ann", box(8, 9, vec(1, 2))...), admitted},
		{rsv(2, 0, "cid", box(4, 6, vec(1, 3))...), admitted},
		{rsv(3, 0, "cid", box(4, 6, vec(0, 1))...), admitted},
		{rsv(3, 0, "cid", box(4, 6, vec(0, 2))...), refused(0, 4)},
		{rsv(3, 0, "cid", box(5, 6, vec(1, 0))...), refused(0, 5)},
		{rsv(3, 0, "ann"), admitted},
		{rsv(1, 0, "zed"), admitted},
	} {
		with(t, p, x.r, api.OK)
		tells(t, p, l, 0, x.r, x.want)
		// With the same Id twice: the second one replaces the first one.
		q := p.Copy()
		if x.want == admitted {
			puts(t, q, l, 0, x.r, admitted)
			tells(t, q, l, 0, x.r, admitted)
			x.r.User = "dan"
			puts(t, q, l, 0, x.r, admitted)
			if r, e := q.Get(x.r.Id); e != api.OK || r.User != "dan" || len(q.List()) > 3 {
				t.Error(q.List())
			}
		}
	}
}

// TestOthers: policies that do not hold for the plan already refuse what has nothing to do with it, and a reservation that replaces the cause is admitted (P14.2, P14.3, P14.4).
func TestOthers(t *testing.T) {
	p := sample.Plan(list(seg(0, 4, 4), seg(5, 2, 2)), rsv(1, 0, "bob", box(2, 8, vec(3, 1))...))
	for _, x := range []struct {
		x    api.Policy
		user string
		at   int64
	}{{commit(), "", 5}, {bound(2, 2), "bob", 2}, {average(6, 2, 2), "bob", 1}} {
		l := []api.Policy{bound(9, 9), x.x}
		all(t, p, l, 0, 1, x.user, x.at, api.ErrPolicy)
		for _, r := range []api.Rsv{rsv(2, 0, "ann"), rsv(2, 0, "ann", box(20, 30, vec(1, 1))...), rsv(2, 0, "zed", box(0, 1, vec(1, 1))...), rsv(1, 0, "bob", box(2, 8, vec(3, 1))...)} {
			tells(t, p, l, 0, r, refused(1, x.at))
			tells(t, p, l, 8, r, admitted)
		}
		for _, r := range []api.Rsv{rsv(1, 0, "bob"), rsv(1, 0, "ann", box(20, 30, vec(1, 1))...), rsv(1, 0, "bob", box(2, 8, vec(2, 1))...)} {
			tells(t, p, l, 0, r, admitted)
			q, e := admit.With(p, r)
			if e != api.OK {
				t.Fatal(e)
			}
			all(t, q, l, 0, -1, "", 0, api.OK)
		}
	}
}

// users are some users.
func users() []string { return []string{"b", "a", "ab", "9", "zz"} }

// thrown returns a reservation of one of the users, with one of some Ids.
func thrown(d *sample.Dice) api.Rsv {
	id, seq, user := d.Below(7)+1, d.Below(4), d.Below(5)
	return rsv(uint32(id), uint32(seq), users()[user], d.Amount()...)
}

// thrownRow returns a list of up to 8 policies, mostly such as are not often violated.
func thrownRow(d *sample.Dice) []api.Policy {
	var l []api.Policy
	for range d.Below(9) {
		win, mem, cores := int64(d.Below(9)+1), int64(d.Below(4)+1), int64(d.Below(4)+1)
		l = append(l, []api.Policy{commit(), bound(mem, cores), average(win, mem, cores)}[d.Below(3)])
	}
	return l
}

// thrownPlan returns a plan of a few reservations.
func thrownPlan(d *sample.Dice) *plan.Plan {
	mem, cores := int64(d.Below(7)), int64(d.Below(7))
	capacity, _ := rle.Of(list(seg(int64(d.Below(9)-6), 1+mem, 1+cores), seg(9, 1+cores, 1+mem), seg(15, 9, 0)))
	p := sample.Plan(capacity)
	for range d.Below(6) {
		if next, e := changed(p, thrown(d)); e == api.OK {
			p = next
		}
	}
	return p
}

// throws calls a function with thrown plans, lists of policies, times and reservations.
func throws(seed sample.Dice, n int, f func(p *plan.Plan, l []api.Policy, now int64, r api.Rsv)) {
	d := &seed
	for range n {
		p := thrownPlan(d)
		l := thrownRow(d)
		now := int64(d.Below(22) - 6)
		f(p, l, now, thrown(d))
	}
}

// TestThrown: Ask, Put and All against looking at each policy, each user and each time one by one, With against the change on a copy (P14.1, P14.2, P14.3, P14.4).
func TestThrown(t *testing.T) {
	var n [10]int // of which policies refused
	throws(1, 4000, func(p *plan.Plan, l []api.Policy, now int64, r api.Rsv) {
		with(t, p, r, api.OK)
		which, user, at := judged(p, l, now)
		if which < 0 {
			all(t, p, l, now, -1, "", 0, api.OK)
		} else {
			all(t, p, l, now, which, user, at, api.ErrPolicy)
		}
		next, e := changed(p, r)
		if e != api.OK {
			t.Fatal(e)
		}
		which, _, at = judged(next, l, now)
		n[which+1]++
		if which < 0 {
			tells(t, p, l, now, r, admitted)
		} else {
			tells(t, p, l, now, r, refused(which, at))
		}
	})
	for i, count := range n[:5] {
		if count < 50 {
			t.Error(i-1, count)
		}
	}
}

// TestHolds: All against layer 13's Holds for each policy one by one (P14.4).
func TestHolds(t *testing.T) {
	throws(2, 4000, func(p *plan.Plan, l []api.Policy, now int64, _ api.Rsv) {
		for i, x := range l {
			if user, at, holds, e := policy.Holds(x, now, p); e != api.OK || !holds {
				all(t, p, l, now, i, user, at, api.ErrPolicy)
				return
			}
		}
		all(t, p, l, now, -1, "", 0, api.OK)
	})
}

// TestAfter: all policies hold after each Put that succeeds, if they held before, and after each removal; a Put that is refused changes nothing (P14.5).
func TestAfter(t *testing.T) {
	done, refusals := 0, 0
	throws(3, 300, func(p *plan.Plan, l []api.Policy, now int64, r api.Rsv) {
		if _, _, _, e := admit.All(p, l, now); e != api.OK {
			p = sample.Plan(p.Cap())
		}
		d := sample.Dice(r.Seq)
		for range 12 {
			was := p.Copy()
			switch _, _, e := admit.Put(p, l, now, r); e {
			case api.OK:
				done++
				if s, e := p.Get(r.Id); e != api.OK || !sample.SameRsv(s, r) {
					t.Fatal(s, e, r)
				}
			case api.ErrPolicy:
				refusals++
				keeps(t, p, was)
			default:
				t.Fatal(e)
			}
			all(t, p, l, now, -1, "", 0, api.OK)
			r = thrown(&d)
		}
		for _, r := range p.List() {
			if e := p.Do([]api.Change{{Kind: api.ChDelete, R: r}}); e != api.OK {
				t.Fatal(e)
			}
			all(t, p, l, now, -1, "", 0, api.OK)
		}
	})
	if done < 500 || refusals < 500 {
		t.Error(done, refusals)
	}
}

// TestFewer: a reservation that is admitted is so under any of the policies, in any order, and from any later time on (P14.6).
func TestFewer(t *testing.T) {
	n := 0
	throws(4, 1500, func(p *plan.Plan, l []api.Policy, now int64, r api.Rsv) {
		if _, _, e := admit.Ask(p, l, now, r); e != api.OK {
			return
		}
		n++
		for some := range 1 << len(l) {
			var fewer []api.Policy
			for i, x := range l {
				if some>>i&1 > 0 {
					fewer = append(fewer, x)
				}
			}
			if some%2 > 0 {
				slices.Reverse(fewer)
			}
			asks(t, p, fewer, now, r, admitted)
		}
		for later := now; later < now+40; later++ {
			tells(t, p, l, later, r, admitted)
		}
		tells(t, p, l, late, r, admitted)
	})
	if n < 300 {
		t.Error(n)
	}
}

// TestMany: as many users, policies and runs as there can be (P14.1, P14.2, P14.3, P14.4).
func TestMany(t *testing.T) {
	var l []api.Rsv
	for i := range 127 {
		l = append(l, rsv(uint32(i+1), uint32(i), "u"+strconv.Itoa(100+i), sample.Saw(1024)...))
	}
	p := sample.Plan(list(seg(0, 256, 256)), l...)
	policies := slices.Concat(slices.Repeat([]api.Policy{commit()}, 2), slices.Repeat([]api.Policy{bound(3, 3)}, 2), slices.Repeat([]api.Policy{average(4096, 2, 2)}, 3), []api.Policy{average(2, 2, 2)})
	r := rsv(128, 128, "u163", sample.Saw(1024)...)
	tells(t, p, policies, 0, r, refused(2, 0))
	r.User = "v"
	puts(t, p, policies, 0, r, admitted)
	all(t, p, policies, 0, -1, "", 0, api.OK)
	r.A[1000].V = vec(3, 3)
	tells(t, p, policies, 0, r, refused(0, 1000))
	tells(t, p, policies[2:], 0, r, refused(5, 999))
	tells(t, p, policies[2:], 1001, r, admitted)
	r.Id = 129
	with(t, p, r, api.ErrFull)
	tells(t, p, policies, 0, r, fails(api.ErrFull))
}

// TestArguments: what is handed in stays as it was, behind its length too, and is not kept; what With returns shares nothing with the plan (P14.1, P14.2, P14.3, R5).
func TestArguments(t *testing.T) {
	old := sample.RichRsv(1, 1, "ann")
	for _, id := range []uint32{1, 2} {
		p := sample.Plan(list(seg(0, 9, 9)), old)
		was := p.Copy()
		r, twin := sample.RichRsv(id, 5, "bob"), sample.RichRsv(id, 5, "bob")
		policies := []api.Policy{commit(), bound(3, 3), average(3, 3, 3), {Kind: 9}, {Kind: 8}}[:3]
		row := slices.Clone(policies[:5])
		unchanged := func() {
			t.Helper()
			if !slices.Equal(policies[:5], row) || !sample.SameRsv(r, twin) || !slices.Equal(r.A[:5], twin.A[:5]) ||
				!slices.Equal(r.W[:3], twin.W[:3]) || !slices.Equal(r.Def.T[:5], twin.Def.T[:5]) {
				t.Error(policies[:5], r)
			}
		}
		next, e := admit.With(p, r)
		unchanged()
		if e != api.OK {
			t.Fatal(e)
		}
		asks(t, p, policies, 0, r, admitted)
		all(t, p, policies, 0, -1, "", 0, api.OK)
		asks(t, p, []api.Policy{bound(0, 0)}, 0, r, refused(0, 2))
		unchanged()
		keeps(t, p, was)
		puts(t, p, policies, 0, r, admitted)
		unchanged()
		want := next.Copy()
		sample.SpoilRsv(&r)
		keeps(t, next, want)
		keeps(t, p, want)
		// What is made from the plan and the plan go their own ways.
		if e := next.Do([]api.Change{{Kind: api.ChDelete, R: old}}); e != api.OK {
			t.Fatal(e)
		}
		if e := next.SetCap(nil); e != api.OK {
			t.Fatal(e)
		}
		keeps(t, p, want)
		again, e := admit.With(p, twin)
		if e != api.OK {
			t.Fatal(e)
		}
		if e := p.Do([]api.Change{{Kind: api.ChDelete, R: old}}); e != api.OK {
			t.Fatal(e)
		}
		keeps(t, again, want)
	}
}

// TestKeep: a reservation is put into the plan as it is: all its fields, in the plan's order (P14.1, P14.3).
func TestKeep(t *testing.T) {
	p := sample.Plan(list(seg(0, 9, 9)))
	for i, seq := range []uint32{5, 3, 9, math.MaxUint32, 0} {
		r := sample.RichRsv(uint32(i+1), seq, "u"+strconv.Itoa(i))
		r.A = box(int64(10*i), int64(10*i+5), vec(1, 1))
		puts(t, p, row(), 0, r, admitted)
		if s, e := p.Get(r.Id); e != api.OK || !sample.SameRsv(s, r) {
			t.Error(s, e)
		}
	}
	var ids []uint32
	for _, r := range p.List() {
		ids = append(ids, r.Id)
	}
	if !slices.Equal(ids, []uint32{5, 2, 1, 3, 4}) {
		t.Error(ids)
	}
}
