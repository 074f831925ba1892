package past_test

import (
	"math"
	"math/big"
	"slices"
	"strconv"
	"strings"
	"testing"

	"livery/api"
	"livery/past"
	"livery/plan"
	"livery/rle"
	"livery/sample"
)

const (
	top  = sample.Top
	late = 1 << 40 // the greatest time
	most = 1 << 62 // the greatest component of a total usage
)

var (
	vec  = sample.Vec
	seg  = sample.Seg
	list = sample.List
	box  = sample.Box
	same = sample.SameRsv
)

// due returns the reservation of a user that is over at to, and has the function a.
func due(id, seq uint32, user string, to int64, a ...api.Seg) api.Rsv {
	r := sample.Rsv(id, seq, user, a...)
	r.Def.To = to
	return r
}

// shelf is an archive by the document's words: its quantum, and the reservations that have been archived.
type shelf struct {
	quantum int64
	l       []api.Rsv
}

// of returns the reservations of the user.
func (s shelf) of(user string) []api.Rsv {
	var l []api.Rsv
	for _, r := range s.l {
		if r.User == user {
			l = append(l, r)
		}
	}
	return l
}

// with returns the shelf with more reservations.
func (s shelf) with(l []api.Rsv) shelf {
	return shelf{s.quantum, slices.Concat(s.l, l)}
}

// used returns the total usage of a user.
func (s shelf) used(user string) api.Vec {
	mem, cores := new(big.Int), new(big.Int)
	for _, r := range s.of(user) {
		for i, run := range r.A {
			if i+1 == len(r.A) {
				break
			}
			ticks := big.NewInt(r.A[i+1].At - run.At)
			mem.Add(mem, new(big.Int).Mul(big.NewInt(run.V.Mem), ticks))
			cores.Add(cores, new(big.Int).Mul(big.NewInt(run.V.Cores), ticks))
		}
	}
	return vec(bounded(mem), bounded(cores))
}

// bounded returns n, or 2^62 if n is greater.
func bounded(n *big.Int) int64 {
	if n.Cmp(big.NewInt(most)) > 0 {
		return most
	}
	return n.Int64()
}

// begin returns when the quantum that contains t begins.
func begin(t, quantum int64) int64 {
	return t - (t%quantum+quantum)%quantum
}

// high returns the greatest components of f in the quantum that contains t.
func high(f []api.Seg, t, quantum int64) api.Vec {
	from := begin(t, quantum)
	v := sample.Value(f, from)
	for _, s := range f {
		if from <= s.At && s.At < from+quantum {
			v = vec(max(v.Mem, s.V.Mem), max(v.Cores, s.V.Cores))
		}
	}
	return v
}

// at returns what the usage line of a user has at t.
func (s shelf) at(user string, t int64) api.Vec {
	var v api.Vec
	for _, r := range s.of(user) {
		w := high(r.A, t, s.quantum)
		v = vec(v.Mem+w.Mem, v.Cores+w.Cores)
	}
	return v
}

// times returns the times at which the usage line of a user can change, and those around them.
func (s shelf) times(user string) []int64 {
	var l []int64
	for _, r := range s.of(user) {
		for _, run := range r.A {
			from := begin(run.At, s.quantum)
			l = append(l, from-1, from, run.At, from+s.quantum-1, from+s.quantum)
		}
	}
	slices.Sort(l)
	return slices.Compact(l)
}

// users returns the users, in increasing order.
func (s shelf) users() []string {
	var l []string
	for _, r := range s.l {
		l = append(l, r.User)
	}
	slices.Sort(l)
	return slices.Compact(l)
}

// fits reports whether no usage line has a value above MaxValue.
func (s shelf) fits() bool {
	for _, user := range s.users() {
		for _, t := range s.times(user) {
			if !sample.Below(s.at(user, t), vec(top, top)) {
				return false
			}
		}
	}
	return true
}

// lined holds a usage line against the document's words.
func lined(t *testing.T, f []api.Seg, s shelf, user string) {
	t.Helper()
	if _, _, ends := rle.Ends(f); !rle.May(f) || !ends || len(f) == 0 && f != nil {
		t.Fatalf("Line(%q): %v", user, f)
	}
	times := s.times(user)
	for _, run := range f {
		if run.At%s.quantum != 0 {
			t.Fatalf("Line(%q): %v, with the quantum %d", user, f, s.quantum)
		}
		times = append(times, run.At-1, run.At)
	}
	for _, at := range times {
		if v, w := sample.Value(f, at), s.at(user, at); v != w {
			t.Fatalf("Line(%q): %v has %v at %d, expected %v", user, f, v, at, w)
		}
	}
}

// alike reports whether two lists of what is kept are equal.
func alike(a, b []api.Kept) bool {
	return slices.EqualFunc(a, b, func(k, l api.Kept) bool {
		return k.User == l.User && k.Used == l.Used && k.Count == l.Count && slices.Equal(k.Line, l.Line)
	})
}

// holds holds all that an archive answers against the document's words, and that it can be loaded.
func holds(t *testing.T, x *past.Past, s shelf) {
	t.Helper()
	users := s.users()
	if l := x.Users(); !slices.Equal(l, users) || len(l) == 0 && l != nil {
		t.Fatalf("Users: %q, expected %q", l, users)
	}
	var want []api.Kept
	for _, user := range users {
		used, count := x.Used(user)
		if used != s.used(user) || count != len(s.of(user)) {
			t.Fatalf("Used(%q): %v, %d, expected %v, %d", user, used, count, s.used(user), len(s.of(user)))
		}
		f := x.Line(user)
		lined(t, f, s, user)
		want = append(want, api.Kept{User: user, Used: used, Count: count, Line: f})
	}
	for _, user := range []string{"", "nobody", "an", "annn", "Ann", "\xff"} {
		if used, count := x.Used(user); used != vec(0, 0) || count != 0 || x.Line(user) != nil {
			t.Fatal(user, used, count, x.Line(user))
		}
	}
	l := x.Kept()
	if !alike(l, want) || len(l) == 0 && l != nil {
		t.Fatalf("Kept: %v, expected %v", l, want)
	}
	y, e := past.Load(s.quantum, l)
	if e != api.OK || !alike(y.Kept(), l) {
		t.Fatalf("Load(%d, %v): %d", s.quantum, l, e)
	}
}

// begun returns an archive without users, and its shelf.
func begun(t *testing.T, quantum int64) (*past.Past, shelf) {
	t.Helper()
	x, e := past.New(quantum)
	if e != api.OK || x == nil {
		t.Fatal(quantum, x, e)
	}
	s := shelf{quantum: quantum}
	holds(t, x, s)
	return x, s
}

// capacity is what the plans have; nothing hangs on it.
func capacity() []api.Seg { return list(seg(-7, 9, 9), seg(5, 0, 2)) }

// planned returns a plan with these reservations.
func planned(t *testing.T, l ...api.Rsv) *plan.Plan {
	t.Helper()
	p := sample.Plan(capacity(), l...)
	if p == nil {
		t.Fatal(l)
	}
	return p
}

// stays holds that a plan has these reservations, and its capacity.
func stays(t *testing.T, p *plan.Plan, l []api.Rsv) {
	t.Helper()
	if got := p.List(); !slices.EqualFunc(got, l, same) || !slices.Equal(p.Cap(), capacity()) {
		t.Fatalf("the plan: %v, %v, expected %v", got, p.Cap(), l)
	}
}

// parted returns the reservations of l that are over, their Ids, and the others.
func parted(l []api.Rsv, now int64) (over []api.Rsv, ids []uint32, rest []api.Rsv) {
	for _, r := range l {
		if r.Def.To > now {
			rest = append(rest, r)
			continue
		}
		over = append(over, r)
		ids = append(ids, r.Id)
	}
	return over, ids, rest
}

// take archives a plan at a time, holds what is answered, the archive and the plan against the document's words, and returns the shelf after that.
func take(t *testing.T, x *past.Past, s shelf, p *plan.Plan, now int64) shelf {
	t.Helper()
	before := p.List()
	over, ids, rest := parted(before, now)
	next := s.with(over)
	if !next.fits() {
		fails(t, x, s, p, now, api.ErrRange)
		return s
	}
	for range 2 { // archiving it again archives nothing
		l, e := x.Take(p, now)
		if e != api.OK || !slices.Equal(l, ids) || len(l) == 0 && l != nil {
			t.Fatalf("Take(%v, %d): %v, %d, expected %v", before, now, l, e, ids)
		}
		stays(t, p, rest)
		holds(t, x, next)
		ids = nil
	}
	return next
}

// fails holds the error of Take, and that nothing is archived.
func fails(t *testing.T, x *past.Past, s shelf, p *plan.Plan, now int64, want api.Errno) {
	t.Helper()
	before := p.List()
	if l, e := x.Take(p, now); e != want || l != nil {
		t.Fatalf("Take(%v, %d): %v, %d, expected %d", before, now, l, e, want)
	}
	stays(t, p, before)
	holds(t, x, s)
}

// TestExamples: the document's examples (P12.1, P12.2, P12.3).
func TestExamples(t *testing.T) {
	x, s := begun(t, 5)
	p := planned(t, due(1, 1, "ann", 9, box(2, 7, vec(3, 1))...), due(2, 2, "ann", 20, box(11, 12, vec(1, 1))...))
	for _, step := range []struct {
		now   int64
		ids   []uint32
		used  api.Vec
		count int
		line  []api.Seg
	}{
		{8, nil, vec(0, 0), 0, nil},
		{9, []uint32{1}, vec(15, 5), 1, box(0, 10, vec(3, 1))},
		{9, nil, vec(15, 5), 1, box(0, 10, vec(3, 1))},
		{20, []uint32{2}, vec(16, 6), 2, list(seg(0, 3, 1), seg(10, 1, 1), seg(15, 0, 0))},
	} {
		ids := slices.Clone(step.ids)
		if l, e := x.Copy().Take(p.Copy(), step.now); e != api.OK || !slices.Equal(l, ids) {
			t.Error(step, l, e)
		}
		s = take(t, x, s, p, step.now)
		used, count := x.Used("ann")
		if f := x.Line("ann"); used != step.used || count != step.count || !slices.Equal(f, step.line) {
			t.Error(step, used, count, f)
		}
	}
	fails(t, x, s, p, -1, api.ErrArg)
	if x, e := past.New(0); x != nil || e != api.ErrArg {
		t.Error(x, e)
	}
}

// TestNil: no archive and no plan, with every method, whatever it is given (P12.1, P12.2).
func TestNil(t *testing.T) {
	times := []int64{math.MinInt64, -1, 0, 5, 9, late, late + 1, math.MaxInt64}
	r := due(1, 1, "ann", 5, box(2, 5, vec(3, 1))...)
	p := planned(t, r)
	for _, x := range []*past.Past{nil, new(past.Past)} {
		for _, p := range []*plan.Plan{nil, new(plan.Plan), p} {
			for _, now := range times {
				if l, e := x.Take(p, now); l != nil || e != api.ErrNil {
					t.Error(now, l, e)
				}
			}
		}
		for _, user := range []string{"", "ann", "Ann"} {
			if used, count := x.Used(user); used != vec(0, 0) || count != 0 || x.Line(user) != nil {
				t.Error(user, used, count, x.Line(user))
			}
		}
		if x.Users() != nil || x.Copy() != nil || x.Kept() != nil {
			t.Error(x.Users(), x.Copy(), x.Kept())
		}
	}
	stays(t, p, []api.Rsv{r})
	x, s := begun(t, 5)
	s = take(t, x, s, p, 5)
	for _, p := range []*plan.Plan{nil, new(plan.Plan)} {
		for _, now := range times {
			if l, e := x.Take(p, now); l != nil || e != api.ErrNil {
				t.Error(now, l, e)
			}
			holds(t, x, s)
		}
	}
	// An empty plan is a plan.
	take(t, x, s, planned(t), 5)
}

// TestQuanta: which quanta there can be (P12.1, P12.5).
func TestQuanta(t *testing.T) {
	r := due(1, 1, "ann", 9, list(seg(2, 3, 1), seg(4097, 1, 5), seg(9000, 0, 0))...)
	for _, quantum := range []int64{1, 2, 3, 7, 4095, 4096} {
		x, s := begun(t, quantum)
		s = take(t, x, s, planned(t, r), 9)
		x, e := past.Load(quantum, x.Kept())
		if e != api.OK {
			t.Error(quantum, e)
		}
		holds(t, x, s)
		x, e = past.Load(quantum, nil)
		if e != api.OK {
			t.Error(quantum, e)
		}
		take(t, x, shelf{quantum: quantum}, planned(t, r), 9)
	}
	for _, quantum := range []int64{math.MinInt64, -4096, -1, 0, 4097, 1 << 32, 1<<32 + 1, math.MaxInt64} {
		if x, e := past.New(quantum); x != nil || e != api.ErrArg {
			t.Error(quantum, x, e)
		}
		// That the quantum is none comes ahead of what is not valid of the list.
		for _, l := range append(wrongKept(5), nil, kept()) {
			if x, e := past.Load(quantum, l); x != nil || e != api.ErrArg {
				t.Error(quantum, l, x, e)
			}
		}
	}
}

// TestTimes: at which times can be archived, and what is over then (P12.1, P12.3).
func TestTimes(t *testing.T) {
	ends := []int64{math.MinInt64, -late - 1, -1, 0, 1, 4, 5, 6, late - 1, late, late + 1, math.MaxInt64}
	var l []api.Rsv
	for i, to := range ends {
		r := due(uint32(i+1), 7, []string{"ann", "bob"}[i%2], to, box(int64(i), late, vec(1, int64(i%3)))...)
		r.Def.From = ends[len(ends)-1-i] // only the end of the window counts
		l = append(l, r)
	}
	for _, now := range []int64{0, 1, 4, 5, 6, 7, late - 1, late} {
		x, s := begun(t, 3)
		p := planned(t, l...)
		for _, wrong := range []int64{-1, -5, math.MinInt64, late + 1, 1 << 41, math.MaxInt64} {
			fails(t, x, s, p, wrong, api.ErrArg)
		}
		s = take(t, x, s, p, now)
		if n := len(s.l); n == 0 || n == len(l) {
			t.Error(now, n)
		}
		// A time may be an earlier one than that before.
		s = take(t, x, s, p, 0)
		take(t, x, s, p, late)
		stays(t, p, l[10:])
	}
	// At the end of a window it is over, ahead of it not.
	for _, to := range []int64{1, 2, 9, 4096, late} {
		x, s := begun(t, 5)
		p := planned(t, due(1, 1, "ann", to, box(0, 3, vec(1, 1))...), due(2, 2, "bob", to+1, box(0, 3, vec(1, 1))...))
		if s = take(t, x, s, p, to-1); len(s.l) != 0 {
			t.Error(to, s.l)
		}
		if s = take(t, x, s, p, to); len(s.l) != 1 || s.l[0].Id != 1 {
			t.Error(to, s.l)
		}
	}
	// That a time is none comes ahead of what is out of range.
	x, s := begun(t, 9)
	p := planned(t, due(1, 1, "ann", 5, box(0, 5, vec(top, 0))...), due(2, 1, "ann", 5, box(5, 6, vec(1, 0))...))
	fails(t, x, s, p, -1, api.ErrArg)
	fails(t, x, s, p, late+1, api.ErrArg)
	fails(t, x, s, p, 5, api.ErrRange)
}

// TestOrder: the Ids are in the order of the plan, users in the order of their bytes (P12.1, P12.2).
func TestOrder(t *testing.T) {
	var l []api.Rsv
	for i, r := range [][2]uint32{{9, 5}, {3, 5}, {math.MaxUint32, 0}, {1, math.MaxUint32}, {4, 7}, {2, 1 << 31}, {256, 5}, {7, 0}, {10, 5}} {
		l = append(l, due(r[0], r[1], []string{"b", "a", "ab", "9", "aa", "a0", "z", "b", "0"}[i], int64(9-i), box(int64(i), 12, vec(1, 0))...))
	}
	for turn := range len(l) {
		p := planned(t)
		for i := range l {
			if e := p.Do([]api.Change{{R: l[(i*5+turn)%len(l)]}}); e != api.OK {
				t.Fatal(e)
			}
		}
		all := p.Copy()
		x, s := begun(t, 4)
		if ids, e := x.Copy().Take(all, 9); e != api.OK || !slices.Equal(ids, []uint32{7, math.MaxUint32, 3, 9, 10, 256, 4, 2, 1}) {
			t.Error(ids, e)
		}
		for now := range int64(10) {
			s = take(t, x, s, p, now)
		}
		if users := x.Users(); !slices.Equal(users, []string{"0", "9", "a", "a0", "aa", "ab", "b", "z"}) {
			t.Error(users)
		}
	}
}

// turns are ways to make a vector of a number.
func turns() []func(n int64) api.Vec {
	return []func(n int64) api.Vec{
		func(n int64) api.Vec { return vec(n, 0) },
		func(n int64) api.Vec { return vec(0, n) },
		func(n int64) api.Vec { return vec(n, n) },
		func(n int64) api.Vec { return vec(n, 7) },
	}
}

// TestRange: usage lines at MaxValue, and one above it, when nothing is archived (P12.1).
func TestRange(t *testing.T) {
	for _, turn := range turns() {
		first := due(1, 1, "ann", 9, box(5, 7, turn(top-7))...)
		for _, r := range []api.Rsv{
			due(2, 2, "ann", 9, box(7, 9, turn(7))...),
			due(2, 2, "ann", 9, box(7, 9, turn(8))...),
			due(2, 2, "ann", 9, box(9, 10, turn(8))...),
			due(2, 2, "ann", 9, box(3, 5, turn(8))...),
			due(2, 2, "ann", 9, box(10, 12, turn(8))...),
			due(2, 2, "bob", 9, box(7, 9, turn(8))...),
		} {
			others := []api.Rsv{due(3, 0, "al", 9, box(1, 3, vec(1, 1))...), due(4, 5, "cy", 9, box(1, 3, vec(1, 1))...), due(5, 3, "ann", 9, box(20, 21, vec(1, 1))...), due(6, 6, "dan", 8)}
			l := append([]api.Rsv{first, r}, others...)
			// Both at once: if they are too much, the others are not archived either.
			fits := shelf{5, l}.fits()
			for range 8 {
				x, s := begun(t, 5)
				p := planned(t, l...)
				s = take(t, x, s, p, 8)
				s = take(t, x, s, p, 9)
				if fits != (len(s.l) == len(l)) || !fits && len(s.l) != 1 {
					t.Fatal(r, s.l)
				}
			}
			// One after the other, and what is too much only then.
			x, s := begun(t, 5)
			s = take(t, x, s, planned(t, first), 9)
			p := planned(t, append(others, r)...)
			s = take(t, x, s, p, 9)
			if fits != (len(s.l) == len(l)) || !fits && len(s.l) != 1 {
				t.Fatal(r, s.l)
			}
			// What is too much stays in the plan until something else is done with it.
			if e := p.Do([]api.Change{{Kind: api.ChDelete, R: r}}); !fits && e != api.OK {
				t.Fatal(e)
			}
			take(t, x, s, p, 9)
		}
	}
	// With MaxValue at all times there is no room for more of that user, but for others there is.
	for _, quantum := range []int64{1, 5, 4096} {
		x, s := begun(t, quantum)
		s = take(t, x, s, planned(t, due(1, 1, "ann", 9, box(0, late, vec(top, top))...)), 9)
		for _, f := range [][]api.Seg{box(0, 1, vec(1, 0)), box(late-1, late, vec(0, 1)), box(0, late, vec(top, top))} {
			fails(t, x, s, planned(t, due(1, 1, "bob", 9), due(2, 2, "ann", 9, f...), due(3, 3, "cy", 9)), 9, api.ErrRange)
			s = take(t, x, s, planned(t, due(1, 1, "b"+strconv.Itoa(len(s.l)), 9, f...), due(2, 2, "ann", 9)), 9)
		}
	}
	// Many parts of it, one too many.
	x, s := begun(t, 4)
	for i := range uint32(64) {
		s = take(t, x, s, planned(t, due(i+1, 1, "ann", 9, box(int64(i%4), int64(i%4)+1, vec(top/64, 0))...)), 9)
	}
	fails(t, x, s, planned(t, due(65, 1, "ann", 9, box(3, 4, vec(1, 0))...)), 9, api.ErrRange)
	take(t, x, s, planned(t, due(65, 1, "ann", 9, box(4, 5, vec(1, 0))...)), 9)
}

// TestTotal: total usages at 2^62, below and above it (P12.1, P12.4).
func TestTotal(t *testing.T) {
	for _, turn := range turns() {
		functions := [][]api.Seg{
			box(0, late, turn(1<<22)),
			box(0, late-1, turn(1<<22)),
			box(0, late, turn(1<<22-1)),
			box(0, 1, turn(1<<22)),
			box(late-1, late, turn(1<<22+1)),
			box(3, 4, turn(1)),
			box(0, 4096, turn(top/2)),
			box(5, late, turn(top/2)),
			list(api.Seg{At: 0, V: turn(top / 4)}, api.Seg{At: 4096, V: turn(1)}, api.Seg{At: 8192, V: turn(top / 4)}, api.Seg{At: late, V: vec(0, 0)}),
		}
		for i, f := range functions {
			for j, g := range functions {
				for _, quantum := range []int64{1, 4096} {
					x, s := begun(t, quantum)
					s = take(t, x, s, planned(t, due(1, 1, "ann", 9, f...)), 9)
					s = take(t, x, s, planned(t, due(1, 1, "ann", 9, g...), due(2, 2, "ann", 9, functions[(i+j)%9]...)), 9)
					take(t, x, s, planned(t, due(1, 1, "ann", 9, box(3, 4, turn(1))...)), 9)
				}
			}
		}
	}
	// Exactly 2^62, one below, one above.
	for _, step := range []struct {
		a    []api.Seg
		want int64
	}{
		{box(0, late, vec(1<<22, 1)), most},
		{list(seg(0, 1<<22, 1), seg(late-1, 1<<22-1, 1), seg(late, 0, 0)), most - 1},
		{list(seg(0, 1<<22, 1), seg(late-1, 1<<22+1, 1), seg(late, 0, 0)), most},
		{box(0, late, vec(top, 1)), most},
	} {
		x, s := begun(t, 1)
		take(t, x, s, planned(t, due(1, 1, "ann", 9, step.a...)), 9)
		if used, count := x.Used("ann"); used != vec(step.want, late) || count != 1 {
			t.Error(step, used, count)
		}
	}
	// Of a total usage that was loaded.
	for _, had := range []int64{0, 1, most - 3, most - 2, most - 1, most} {
		for _, more := range []int64{0, 1, 2, 3, top} {
			x, e := past.Load(1, []api.Kept{{User: "ann", Used: vec(had, 7), Count: 4}})
			if e != api.OK {
				t.Fatal(had, e)
			}
			p := planned(t, due(1, 1, "ann", 9, box(3, 4, vec(more, 1))...))
			if _, e := x.Take(p, 9); e != api.OK {
				t.Fatal(had, more, e)
			}
			if used, count := x.Used("ann"); used != vec(min(had+more, most), 8) || count != 5 {
				t.Error(had, more, used, count)
			}
		}
	}
}

// kept returns what may be kept with the quantum 5.
func kept() []api.Kept {
	return []api.Kept{
		{User: "ann", Used: vec(15, 5), Count: 1, Line: box(0, 10, vec(3, 1))},
		{User: "bob", Used: vec(0, most), Count: 7},
		{User: "cy", Used: vec(most, 0), Count: 2, Line: list(seg(5, 0, 1), seg(10, 0, 0), seg(1000, top, 0), seg(1005, 0, 0))},
	}
}

// wrongKept returns lists that can't be loaded with the quantum, which is not 1, for one reason each.
func wrongKept(quantum int64) [][]api.Kept {
	var l [][]api.Kept
	change := func(by func(k *api.Kept)) {
		for i := range kept() {
			for n := i + 1; n <= len(kept()); n++ {
				one := kept()[:n]
				for j := range one {
					one[j].Line = box(0, quantum, vec(3, 1))
				}
				by(&one[i])
				l = append(l, one)
			}
		}
	}
	for _, user := range []string{"", strings.Repeat("z", 17), "Ann", "an n", "ann\x00", "an-n", "\xc3\xa4nn", "`", "{", "/", ":", "ann\xff"} {
		l = append(l, []api.Kept{{User: user, Count: 1}}, append(kept()[:0:0], api.Kept{User: user, Count: 1}, api.Kept{User: user + "z", Count: 1}))
		change(func(k *api.Kept) { k.User += user + "-" })
	}
	for _, used := range []api.Vec{
		vec(-1, 0), vec(0, -1), vec(most+1, 0), vec(0, most+1), vec(-1, most+1), vec(math.MinInt64, 5), vec(5, math.MinInt64), vec(math.MaxInt64, 5), vec(5, math.MaxInt64),
	} {
		change(func(k *api.Kept) { k.Used = used })
	}
	for _, count := range []int{0, -1, -5, math.MinInt} {
		change(func(k *api.Kept) { k.Count = count })
	}
	for _, f := range append(sample.Wrong(), wrongLines(quantum)...) {
		change(func(k *api.Kept) { k.Line = f })
	}
	one, two := kept()[0], kept()[1]
	return append(l, []api.Kept{one, one}, []api.Kept{two, one}, []api.Kept{one, two, one}, []api.Kept{one, two, two}, []api.Kept{two, two}, []api.Kept{one, two, {User: "b", Count: 1}}, []api.Kept{{User: "b", Count: 1}, {User: "a0", Count: 1}})
}

// wrongLines returns canonical functions that are no usage lines with the quantum, which is not 1.
func wrongLines(quantum int64) [][]api.Seg {
	q := quantum
	behind := (int64(1)<<41/q + 1) * q // the first multiple behind 2^41
	return [][]api.Seg{
		list(seg(0, 3, 1)),
		list(seg(0, 3, 1), seg(q, 0, 1)),
		list(seg(0, 3, 1), seg(q, 1, 0)),
		box(1, q, vec(3, 1)),
		box(0, q+1, vec(3, 1)),
		box(0, q-1, vec(3, 1)),
		list(seg(0, 3, 1), seg(q+1, 1, 1), seg(2*q, 0, 0)),
		box(-q, q, vec(3, 1)),
		box(-q, 0, vec(3, 1)),
		box(-1, q, vec(3, 1)),
		box(-1<<50/q*q, q, vec(3, 1)),
		box(0, behind, vec(3, 1)),
		box(behind, behind+q, vec(3, 1)),
		box(0, 1<<50/q*q, vec(3, 1)),
		box(0, q, vec(-1, 1)),
		box(0, q, vec(1, -1)),
		box(0, q, vec(-1, 0)),
		list(seg(0, 3, 1), seg(q, 0, -1), seg(2*q, 0, 0)),
		list(seg(0, 3, 1), seg(q, -top, 5), seg(2*q, 0, 0)),
		list(seg(0, 3, 1), seg(q, 0, 0), seg(2*q, 0, -1), seg(3*q, 0, 0)),
	}
}

// TestLoad: what can be loaded, and what not (P12.5).
func TestLoad(t *testing.T) {
	for _, quantum := range []int64{2, 5, 4095, 4096} {
		for _, l := range wrongKept(quantum) {
			if x, e := past.Load(quantum, l); x != nil || e != api.ErrForm {
				t.Errorf("Load(%d, %v): %v, %d", quantum, l, x, e)
			}
		}
	}
	const last = int64(1) << 41
	for _, f := range [][]api.Seg{
		nil, list(), box(0, 1, vec(1, 0)), box(0, last, vec(top, top)), box(last-1, last, vec(0, 1)), list(seg(0, 1, 0), seg(7, 0, 0), seg(8, 0, 1), seg(9, 0, 0)), sample.Saw(3000),
	} {
		loads(t, 1, f)
	}
	for _, f := range [][]api.Seg{box(-1, 1, vec(1, 1)), box(-1, 0, vec(1, 1)), box(-2, -1, vec(1, 1)), box(last-1, last+1, vec(1, 1)), box(last, last+1, vec(1, 1)), box(last+1, last+2, vec(1, 1)), box(0, last+1, vec(1, 1))} {
		if x, e := past.Load(1, []api.Kept{{User: "ann", Count: 1, Line: f}}); x != nil || e != api.ErrForm {
			t.Error(f, x, e)
		}
	}
	loads(t, 4096, box(0, last, vec(1, 1)))
	loads(t, 4096, box(last-4096, last, vec(1, 1)))
	loads(t, 5, box(0, last/5*5, vec(1, 1)))
	loads(t, 5, box(0, 5, vec(top, 1)))
	for _, l := range [][]api.Kept{nil, {}, kept(), kept()[1:], kept()[2:]} {
		x, e := past.Load(5, l)
		if e != api.OK || !alike(x.Kept(), l) {
			t.Error(l, x, e)
		}
	}
	for _, name := range []string{"a", "z", "0", "9", strings.Repeat("z", 16), "0123456789abcdef"} {
		for _, count := range []int{1, 2, 1 << 31, math.MaxInt} {
			l := []api.Kept{{User: name, Used: vec(most, most), Count: count}}
			x, e := past.Load(5, l)
			if e != api.OK || !alike(x.Kept(), l) {
				t.Error(l, x, e)
			}
		}
	}
	// Names are held against each other byte by byte.
	var l []api.Kept
	for _, name := range []string{"0", "00", "9", "a", "a0", "aa", "ab", "b"} {
		l = append(l, api.Kept{User: name, Count: 1})
	}
	if x, e := past.Load(5, l); e != api.OK || !alike(x.Kept(), l) {
		t.Error(x, e)
	}
}

// loads holds that a usage line can be loaded, and that what has been loaded goes on being archived to.
func loads(t *testing.T, quantum int64, f []api.Seg) {
	t.Helper()
	l := []api.Kept{{User: "ann", Count: 1, Line: f}, {User: "bob", Used: vec(4, 9), Count: 3, Line: f}}
	x, e := past.Load(quantum, l)
	if e != api.OK {
		t.Fatal(quantum, f, e)
	}
	for i, k := range x.Kept() {
		used, count := x.Used(k.User)
		if g := x.Line(k.User); used != l[i].Used || count != l[i].Count || !slices.Equal(g, f) || len(g) == 0 && g != nil || !slices.Equal(g, k.Line) {
			t.Error(quantum, k, used, count, g)
		}
	}
	if users := x.Users(); !slices.Equal(users, []string{"ann", "bob"}) {
		t.Error(users)
	}
	want := vec(sample.Value(f, 0).Mem+2, sample.Value(f, 0).Cores+1)
	p := planned(t, due(1, 1, "bob", 9, box(0, 1, vec(2, 1))...))
	ids, e := x.Take(p, 9)
	if !sample.Below(want, vec(top, top)) {
		if e != api.ErrRange || ids != nil || !alike(x.Kept(), l) || len(p.List()) != 1 {
			t.Error(quantum, f, e)
		}
		return
	}
	used, count := x.Used("bob")
	if g := x.Line("bob"); e != api.OK || used != vec(6, 10) || count != 4 || sample.Value(g, 0) != want || sample.Value(g, quantum) != sample.Value(f, quantum) || !slices.Equal(x.Line("ann"), f) {
		t.Error(quantum, f, g, used, count, e)
	}
	if y, e := past.Load(quantum, x.Kept()); e != api.OK || !alike(y.Kept(), x.Kept()) {
		t.Error(quantum, f, e)
	}
}

// TestCount: a count that can't become greater stays valid (P1).
func TestCount(t *testing.T) {
	x, e := past.Load(5, []api.Kept{{User: "ann", Count: math.MaxInt - 1}})
	if e != api.OK {
		t.Fatal(e)
	}
	for range 3 {
		if ids, e := x.Take(planned(t, due(1, 1, "ann", 9)), 9); e != api.OK || len(ids) != 1 {
			t.Error(ids, e)
		}
		if _, count := x.Used("ann"); count != math.MaxInt {
			t.Error(count)
		}
		if _, e := past.Load(5, x.Kept()); e != api.OK {
			t.Error(e)
		}
	}
}

// TestLast: what is used up to the greatest time can be kept, with every quantum (P12.1, P12.5).
func TestLast(t *testing.T) {
	for quantum := int64(1); quantum <= 4096; quantum += 1 + quantum/7 {
		x, s := begun(t, quantum)
		p := planned(t, due(1, 1, "ann", 9, box(late-1, late, vec(1, 0))...), due(2, 2, "bob", 9, box(0, late-1, vec(0, 1))...), due(3, 3, "cy", 9))
		s = take(t, x, s, p, late)
		x, e := past.Load(quantum, x.Kept())
		if e != api.OK {
			t.Fatal(quantum, e)
		}
		take(t, x, s, planned(t, due(1, 1, "ann", 9, box(0, late, vec(1, 1))...)), late)
	}
}

// TestShorts: all functions of a few runs, with all small quanta (P12.1, P12.2).
func TestShorts(t *testing.T) {
	var functions [][]api.Seg
	for _, f := range sample.Shorts([]int64{0, 1, 3, 4}, vec(0, 0), vec(1, 0), vec(0, 2)) {
		if g, e := rle.Of(append(f, seg(6, 0, 0))); e == api.OK {
			functions = append(functions, g)
		}
	}
	for quantum := int64(1); quantum < 9; quantum++ {
		for i, f := range functions {
			x, s := begun(t, quantum)
			g := functions[(i*7+3)%len(functions)]
			s = take(t, x, s, planned(t, due(1, 1, "ann", 6, f...), due(2, 2, "ann", 7, g...)), 6)
			take(t, x, s, planned(t, due(1, 1, "ann", 6, g...), due(2, 2, "bob", 6, f...)), 6)
		}
	}
}

// thrown returns a reservation that looks as if it were thrown.
func thrown(d *sample.Dice, id uint32) api.Rsv {
	r := due(id, uint32(d.Below(5)), []string{"ann", "bob", "cy", "d0"}[d.Below(4)], int64(d.Below(30)), d.Amount()...)
	r.Def.From, r.Def.T = int64(d.Below(9)), d.Term(3, 9, api.PaAll)
	r.W = []api.Piece{{Part: d.Below(5), At: int64(d.Below(9))}}
	if d.Below(9) == 0 {
		r.A = box(int64(d.Below(9)), late-int64(d.Below(9)), vec(int64(d.Below(1<<23)), 1))
	}
	if d.Below(60) == 0 {
		r.A = box(int64(d.Below(9)), 20, vec(top-int64(d.Below(9)), 1))
	}
	return r
}

// TestDice: many plans that change, and are archived at many times (P12.1, P12.2, P12.3, P12.5).
func TestDice(t *testing.T) {
	d := new(sample.Dice)
	archived, out := 0, 0
	for n := range 150 {
		quantum := int64(1 + d.Below(8))
		if n%10 == 0 {
			quantum = 4096 - int64(d.Below(2))
		}
		x, s := begun(t, quantum)
		p := planned(t)
		for range 40 {
			r := thrown(d, uint32(1+d.Below(9)))
			for _, kind := range []uint8{api.ChAdd, api.ChPut, api.ChDelete} {
				if d.Below(3) > 0 {
					p.Do([]api.Change{{Kind: kind, R: r}}) // whether there is one with that Id or not
				}
			}
			now := int64(d.Below(30))
			over, _, _ := parted(p.List(), now)
			next := take(t, x, s, p, now)
			if len(next.l) < len(s.l)+len(over) {
				out++
			}
			s = next
			switch d.Below(6) {
			case 0:
				x = x.Copy()
			case 1:
				y, e := past.Load(quantum, x.Kept())
				if e != api.OK {
					t.Fatal(e)
				}
				x = y
			}
			holds(t, x, s)
		}
		archived += len(s.l)
	}
	if archived < 1000 || out < 20 {
		t.Error(archived, out)
	}
}

// TestWhen: what is kept of users does not hang on when, and from which plans, the same reservations were archived (P12.4).
func TestWhen(t *testing.T) {
	d := new(sample.Dice)
	done := 0
	for range 200 {
		quantum := int64(1 + d.Below(6))
		var l []api.Rsv
		for id := range uint32(1 + d.Below(20)) {
			l = append(l, thrown(d, id+1))
		}
		x, s := begun(t, quantum)
		p, e := plan.New(capacity())
		if e != api.OK {
			t.Fatal(e)
		}
		fit := true
		for _, r := range l {
			fit = fit && p.Do([]api.Change{{R: r}}) == api.OK
		}
		if !fit || !s.with(l).fits() {
			continue
		}
		done++
		last := take(t, x, s, p.Copy(), 30)
		if len(last.l) != len(l) {
			t.Fatal(last.l)
		}
		for range 4 {
			y, s := begun(t, quantum)
			q := p.Copy()
			for now := int64(0); now < 30; now += int64(1 + d.Below(20)) {
				s = take(t, y, s, q, now)
			}
			take(t, y, s, q, 30)
			if !alike(x.Kept(), y.Kept()) {
				t.Fatal(x.Kept(), y.Kept())
			}
			// Each from a plan of its own, in any order.
			z, _ := begun(t, quantum)
			turn := d.Below(len(l))
			for i := range l {
				if _, e := z.Take(planned(t, l[(turn+i)%len(l)]), 30+int64(i)); e != api.OK {
					t.Fatal(e)
				}
			}
			if !alike(x.Kept(), z.Kept()) {
				t.Fatal(x.Kept(), z.Kept())
			}
		}
	}
	if done < 100 {
		t.Error(done)
	}
}

// TestCopy: a copy is equal, and independent of what it is a copy of (P12.2).
func TestCopy(t *testing.T) {
	first := []api.Rsv{due(1, 1, "ann", 5, box(2, 7, vec(3, 1))...), due(2, 2, "bob", 5, list(seg(0, 1, 1), seg(9, 0, 5), seg(12, 0, 0))...), due(3, 3, "ann", 5)}
	for n := range len(first) + 1 {
		for _, r := range []api.Rsv{due(9, 1, "ann", 5, box(0, 9, vec(1, 1))...), due(9, 1, "bob", 5, box(3, 4, vec(7, 0))...), due(9, 1, "cy", 5), due(9, 1, "cy", 5, box(30, 40, vec(1, 0))...)} {
			x, s := begun(t, 5)
			s = take(t, x, s, planned(t, first[:n]...), 5)
			y := x.Copy()
			holds(t, y, s)
			more := take(t, x, s, planned(t, r), 5)
			holds(t, y, s)
			z := x.Copy()
			holds(t, z, more)
			other := take(t, y, s, planned(t, due(7, 7, "ann", 5, box(1, 30, vec(2, 2))...), due(8, 8, "eve", 5)), 5)
			holds(t, x, more)
			holds(t, z, more)
			take(t, x, more, planned(t, first...), 5)
			holds(t, y, other)
			holds(t, z, more)
		}
	}
}

// TestStays: what is not over stays in the plan as it was, all of it (P12.3).
func TestStays(t *testing.T) {
	var l []api.Rsv
	for i := range uint32(10) {
		r := sample.RichRsv(i+1, i, []string{"ann", "bob"}[i%2])
		r.Def.To = int64(i * 37 % 10)
		l = append(l, r)
	}
	for now := range int64(11) {
		x, s := begun(t, 5)
		p := planned(t, l...)
		old := p.Copy()
		_, _, rest := parted(l, now)
		take(t, x, s, p, now)
		stays(t, p, rest)
		stays(t, old, l)
		for _, user := range []string{"ann", "bob"} {
			if f, g := p.User(user), planned(t, rest...).User(user); !slices.Equal(f, g) {
				t.Error(now, user, f, g)
			}
		}
		// There is room again for what was over, by the same Ids.
		over, _, _ := parted(l, now)
		for _, r := range over {
			if e := p.Do([]api.Change{{R: r}}); e != api.OK {
				t.Error(now, r, e)
			}
		}
		stays(t, p, l)
	}
}

// TestFull: a full plan, all of which is over (P12.1).
func TestFull(t *testing.T) {
	var l []api.Rsv
	for i := range uint32(128) {
		l = append(l, due(i+1, i, "u"+strconv.Itoa(int(i%5)), int64(i/2), box(int64(i%7), int64(i%7+1+i%3), vec(1, 2))...))
	}
	x, s := begun(t, 3)
	p := planned(t, l...)
	s = take(t, x, s, p.Copy(), 63)
	if len(s.l) != 128 {
		t.Error(len(s.l))
	}
	for now := range int64(64) {
		s = take(t, x, s, p, now)
	}
	if len(s.l) != 256 {
		t.Error(len(s.l))
	}
}

// TestMost: 128 reservations of 1024 runs each, most of them at times of their own, of one user (P12.1).
func TestMost(t *testing.T) {
	var l []api.Change
	for i := range int64(128) {
		f := sample.Saw(1024)
		for j := range f {
			f[j].At = f[j].At*((late-127)/1023) + i
		}
		l = append(l, api.Change{R: due(uint32(i+1), 1, "ann", 5, f...)})
	}
	p := planned(t)
	if e := p.Do(l); e != api.OK {
		t.Fatal(e)
	}
	want := p.User("ann")
	x, _ := begun(t, 1)
	if ids, e := x.Take(p, 5); e != api.OK || len(ids) != 128 || p.List() != nil {
		t.Error(len(ids), e)
	}
	if f := x.Line("ann"); len(f) < 100000 || !slices.Equal(f, want) {
		t.Error(len(f))
	}
}

// TestArguments: the list that is loaded stays as it was, behind its length too, and is not kept; neither is what the plan has (P1, R5).
func TestArguments(t *testing.T) {
	line := func() []api.Seg { return list(seg(0, 3, 1), seg(5, 1, 1), seg(10, 0, 0), seg(7, 7, 7), seg(1, 1, 1)) }
	all := func() []api.Kept {
		return []api.Kept{{User: "ann", Used: vec(20, 10), Count: 2, Line: line()[:3]}, {User: "bob", Count: 1, Line: line()[:3]}, {User: "cy", Count: 0, Line: line()[:4]}, {User: "ann"}}
	}
	for n := range len(all()) + 1 {
		l := all()
		x, e := past.Load(5, l[:n])
		if (e == api.OK) != (n <= 2) || (x == nil) != (n > 2) {
			t.Fatal(n, e)
		}
		p := planned(t, due(1, 1, "ann", 5, box(2, 7, vec(3, 1))...), due(2, 2, "dan", 6, box(2, 7, vec(3, 1))...))
		before := x.Kept()
		y := x.Copy()
		if _, e := x.Take(p, 5); n <= 2 && e != api.OK {
			t.Error(e)
		}
		if !alike(l, all()) {
			t.Error(l)
		}
		for i, k := range l[:3] {
			if f := k.Line[:5]; !slices.Equal(f, line()) {
				t.Error(i, f)
			}
		}
		after := x.Kept()
		for i := range l {
			sample.Spoil(l[i].Line)
			l[i] = api.Kept{User: "spoilt", Count: -7}
		}
		if !alike(y.Kept(), before) || !alike(x.Kept(), after) {
			t.Error(n, before, after)
		}
	}
}

// spoilKept writes over all of what Kept returned, its spare capacity too; no part of it changes before it is its turn.
func spoilKept(t *testing.T, l, want []api.Kept) {
	t.Helper()
	for i := range l {
		if !alike(l[i:], want[i:]) {
			t.Fatal(i, l, want)
		}
		sample.Spoil(l[i].Line)
		l[i] = api.Kept{User: "spoilt", Count: -7}
	}
	l = l[:cap(l)]
	for i := range l {
		l[i] = api.Kept{User: "spoilt", Count: -7}
	}
}

// TestAnswers: answers are new memory, of which nothing else of them has a part (P1, R5).
func TestAnswers(t *testing.T) {
	for n := range uint32(6) {
		x, s := begun(t, 5)
		var l []api.Rsv
		for i := range n {
			l = append(l, due(i+1, i/2, "u"+strconv.Itoa(int(i%3)), 5, list(seg(2, 3, 1), seg(5, 1, 1), seg(8, 0, 0))...))
		}
		p := planned(t, l...)
		ids, e := x.Take(p, 5)
		if e != api.OK {
			t.Fatal(e)
		}
		for i := range ids[:cap(ids)] {
			ids[:cap(ids)][i] = 77
		}
		s = s.with(l)
		for range 3 {
			want := x.Kept()
			spoilKept(t, x.Kept(), want)
			holds(t, x, s)
			for _, user := range s.users() {
				for range 2 {
					sample.Spoil(x.Line(user))
				}
			}
			users := x.Users()
			for i := range users[:cap(users)] {
				users[:cap(users)][i] = "spoilt"
			}
			y := x.Copy()
			for _, user := range y.Users() {
				sample.Spoil(y.Line(user))
			}
			spoilKept(t, y.Kept(), want)
			z, e := past.Load(5, want)
			if e != api.OK {
				t.Fatal(e)
			}
			spoilKept(t, want, x.Kept())
			holds(t, x, s)
			holds(t, y, s)
			holds(t, z, s)
			// The copy of it, then what was loaded of it.
			x = z
			if len(users) > 1 {
				x = y
			}
		}
	}
}
