package plan_test

import (
	"cmp"
	"maps"
	"math"
	"slices"
	"strconv"
	"strings"
	"testing"

	"livery/api"
	"livery/calc"
	"livery/plan"
	"livery/rle"
	"livery/sample"
)

const (
	top  = sample.Top
	late = 1 << 40 // the greatest time of a reservation
)

var (
	vec   = sample.Vec
	seg   = sample.Seg
	list  = sample.List
	box   = sample.Box
	rsv   = sample.Rsv
	rich  = sample.RichRsv
	same  = sample.SameRsv
	spoil = sample.SpoilRsv
)

func add(r api.Rsv) api.Change { return api.Change{Kind: 0, R: r} }
func put(r api.Rsv) api.Change { return api.Change{Kind: 1, R: r} }
func del(r api.Rsv) api.Change { return api.Change{Kind: 2, R: r} }

// The document's reservations.
var (
	r = rsv(1, 1, "ann", box(5, 9, vec(2, 2))...)
	q = rsv(2, 2, "bob", box(7, 8, vec(1, 0))...)
)

// book is a plan by the document's words: a capacity and a list of reservations.
type book struct {
	capacity []api.Seg
	l        []api.Rsv
}

// valid reports by the document's words whether r is a valid reservation.
func valid(r api.Rsv) bool {
	if r.Id == 0 || strings.Trim(r.User, "abcdefghijklmnopqrstuvwxyz0123456789") != "" || r.User == "" || len(r.User) > 16 {
		return false
	}
	for _, s := range r.A {
		if s.At < 0 || s.At > late || s.V.Mem < 0 || s.V.Cores < 0 {
			return false
		}
	}
	_, _, ends := rle.Ends(r.A)
	return rle.May(r.A) && ends && len(r.A) <= 1024
}

// at returns where the reservation with that Id is in the list, or -1.
func (b book) at(id uint32) int {
	return slices.IndexFunc(b.l, func(r api.Rsv) bool { return r.Id == id })
}

// sum returns what the reservations of the list have together at a time; if user is not empty, those of that user.
func sum(l []api.Rsv, user string, at int64) api.Vec {
	var v api.Vec
	for _, r := range l {
		if user == "" || r.User == user {
			w := sample.Value(r.A, at)
			v = vec(v.Mem+w.Mem, v.Cores+w.Cores)
		}
	}
	return v
}

// one returns the book after one change, and its error.
func (b book) one(c api.Change) (book, api.Errno) {
	at := b.at(c.R.Id)
	switch {
	case c.Kind > 2:
		return b, api.ErrArg
	case c.Kind < 2 && !valid(c.R):
		return b, api.ErrForm
	case c.Kind == 0 && at >= 0:
		return b, api.ErrThere
	case c.Kind > 0 && at < 0:
		return b, api.ErrNone
	case c.Kind == 0 && len(b.l) >= 128:
		return b, api.ErrFull
	}
	l := slices.Clone(b.l)
	switch c.Kind {
	case 0:
		l = append(l, c.R)
	case 1:
		l[at] = c.R
	case 2:
		l = slices.Delete(l, at, at+1)
	}
	for _, r := range l {
		for _, s := range r.A {
			if !sample.Below(sum(l, "", s.At), vec(top, top)) {
				return b, api.ErrRange
			}
		}
	}
	return book{b.capacity, l}, api.OK
}

// all returns the book after all changes, or the error of the first that has one.
func (b book) all(l []api.Change) (book, api.Errno) {
	next := b
	for _, c := range l {
		var e api.Errno
		if next, e = next.one(c); e != api.OK {
			return b, e
		}
	}
	return next, api.OK
}

// inOrder tells by the document's words which of two reservations comes first.
func inOrder(a, b api.Rsv) int {
	if a.Seq != b.Seq {
		return cmp.Compare(a.Seq, b.Seq)
	}
	return cmp.Compare(a.Id, b.Id)
}

// summed holds a load against what the reservations of the list, or of one user of them, have together.
func summed(t *testing.T, f []api.Seg, l []api.Rsv, user string) {
	t.Helper()
	if !rle.May(f) || len(f) == 0 && f != nil {
		t.Fatal(f, l, user)
	}
	for _, r := range l {
		for _, s := range r.A {
			for _, at := range []int64{s.At - 1, s.At, s.At + 1} {
				if v := sum(l, user, at); sample.Value(f, at) != v {
					t.Fatalf("%v of %v, %q: expected %v at %d", f, l, user, v, at)
				}
			}
		}
	}
}

// holds holds all that a plan answers against the document's words.
func holds(t *testing.T, p *plan.Plan, b book) {
	t.Helper()
	if f := p.Cap(); !slices.Equal(f, b.capacity) {
		t.Fatalf("Cap: %v, expected %v", f, b.capacity)
	}
	if l := p.List(); !slices.EqualFunc(l, slices.SortedFunc(slices.Values(b.l), inOrder), same) {
		t.Fatalf("List: %v, expected those of %v", l, b.l)
	}
	load := p.Load()
	summed(t, load, b.l, "")
	var users []string
	for _, r := range b.l {
		users = append(users, r.User)
		if s, e := p.Get(r.Id); e != api.OK || !same(s, r) {
			t.Fatalf("Get(%d): %v, %d, expected %v", r.Id, s, e, r)
		}
	}
	slices.Sort(users)
	users = slices.Compact(users)
	if l := p.Users(); !slices.Equal(l, users) {
		t.Fatalf("Users: %q, expected %q", l, users)
	}
	var own [][]api.Seg
	for _, user := range users {
		f := p.User(user)
		summed(t, f, b.l, user)
		own = append(own, f)
	}
	if f, e := calc.Add(own...); e != api.OK || !slices.Equal(f, load) {
		t.Fatalf("the users' loads: %v, %d, expected %v", f, e, load)
	}
	for _, id := range []uint32{0, 999, math.MaxUint32} {
		if s, e := p.Get(id); b.at(id) < 0 && (e != api.ErrNone || !same(s, api.Rsv{})) {
			t.Fatal(id, s, e)
		}
	}
	if f, g := p.User(""), p.User("nobody"); f != nil || g != nil {
		t.Fatal(f, g)
	}
}

// begun returns a plan with that capacity and these reservations, and its book.
func begun(t *testing.T, capacity []api.Seg, l ...api.Rsv) (*plan.Plan, book) {
	t.Helper()
	p, e := plan.New(capacity)
	if e != api.OK || p == nil {
		t.Fatal(p, e)
	}
	for _, r := range l {
		if e := p.Do([]api.Change{add(r)}); e != api.OK {
			t.Fatal(r, e)
		}
	}
	return p, book{capacity, l}
}

// done makes changes of a plan, whose book b is, holds what is answered, and the plan, against the document's words, and returns the book after them.
func done(t *testing.T, p *plan.Plan, b book, l []api.Change) book {
	t.Helper()
	next, want := b.all(l)
	if e := p.Do(l); e != want {
		t.Fatalf("Do(%v) = %d, expected %d", l, e, want)
	}
	holds(t, p, next)
	return next
}

// fails holds the error of changes, and that they change nothing.
func fails(t *testing.T, p *plan.Plan, b book, want api.Errno, l ...api.Change) {
	t.Helper()
	if e := p.Do(l); e != want {
		t.Errorf("Do(%v) = %d, expected %d", l, e, want)
	}
	holds(t, p, b)
}

// TestExamples: the document's examples (P11.1, P11.2, P11.3).
func TestExamples(t *testing.T) {
	p, b := begun(t, list(seg(0, 9, 9)))
	holds(t, p, b)
	b = done(t, p, b, []api.Change{add(r), add(q)})
	if f, g := p.Load(), p.User("ann"); !slices.Equal(f, list(seg(5, 2, 2), seg(7, 3, 2), seg(8, 2, 2), seg(9, 0, 0))) || !slices.Equal(g, r.A) {
		t.Error(f, g)
	}
	fails(t, p, b, api.ErrThere, del(q), add(r))
	third := q
	third.Id = 3
	fails(t, p, b, api.ErrNone, put(third))
	fails(t, p, b, api.ErrNone, del(third))
	if l := p.Users(); !slices.Equal(l, []string{"ann", "bob"}) {
		t.Error(l)
	}
	if p, e := plan.New(list(seg(0, -1, 0))); p != nil || e != api.ErrForm {
		t.Error(p, e)
	}
	if plan.May(rsv(1, 1, "Ann", r.A...)) || plan.May(rsv(1, 1, "ann", r.A[:1]...)) {
		t.Error("May")
	}
}

// TestNil: no plan at all, with every method, whatever it is given (P11.1, P11.2, P11.3).
func TestNil(t *testing.T) {
	for _, p := range []*plan.Plan{nil, new(plan.Plan)} {
		for _, f := range append(sample.Wrong(), nil, list(), list(seg(0, 9, 9))) {
			if e := p.SetCap(f); e != api.ErrNil {
				t.Error(f, e)
			}
		}
		for _, l := range [][]api.Change{nil, {}, {add(r)}, {put(r)}, {del(r)}, {{Kind: 3}}, {add(api.Rsv{})}} {
			if e := p.Do(l); e != api.ErrNil {
				t.Error(l, e)
			}
		}
		for _, id := range []uint32{0, 1, math.MaxUint32} {
			if s, e := p.Get(id); e != api.ErrNil || !same(s, api.Rsv{}) {
				t.Error(s, e)
			}
		}
		if p.Cap() != nil || p.List() != nil || p.Load() != nil || p.User("") != nil || p.User("ann") != nil || p.Users() != nil || p.Copy() != nil {
			t.Error(p.Cap(), p.List(), p.Load(), p.User(""), p.User("ann"), p.Users(), p.Copy())
		}
	}
}

// TestCapacity: which capacities there can be, with and without reservations (P11.1).
func TestCapacity(t *testing.T) {
	wrong := append(sample.Wrong(), list(seg(0, -1, 0)), list(seg(0, 0, -1)), list(seg(0, 9, -1)), box(2, 8, vec(-3, 1)),
		list(seg(0, 9, 9), seg(4, 9, -1), seg(5, 0, 0)), list(seg(0, 9, 9), seg(4, -top, 0)), list(seg(-5, -1, -1), seg(0, 9, 9)))
	for _, f := range [][]api.Seg{
		nil, list(), list(seg(0, 9, 9)), list(seg(0, 0, 1)), list(seg(0, 1, 0)), box(2, 8, vec(3, 1)), list(seg(-top, top, top), seg(top, 0, 0)), list(seg(top, 1, 1)),
		list(seg(-7, 1, 0), seg(0, 0, 0), seg(5, 0, 9)), sample.Saw(5000),
	} {
		p, b := begun(t, f)
		holds(t, p, b)
		if got := p.Cap(); len(got) == 0 && got != nil {
			t.Error(got)
		}
		for _, g := range wrong {
			if e := p.SetCap(g); e != api.ErrForm {
				t.Error(g, e)
			}
			if p, e := plan.New(g); p != nil || e != api.ErrForm {
				t.Error(g, p, e)
			}
			holds(t, p, b)
		}
		b = done(t, p, b, []api.Change{add(r), add(q)})
		for _, g := range [][]api.Seg{list(seg(0, 1, 1)), nil, box(3, 4, vec(1, 1)), f} {
			b.capacity = g
			if e := p.SetCap(g); e != api.OK {
				t.Error(g, e)
			}
			holds(t, p, b)
		}
	}
}

// may holds what May reports against the document's words, and against what Do answers for an add and a put.
func may(t *testing.T, s api.Rsv, want bool) {
	t.Helper()
	if is := plan.May(s); is != want || valid(s) != want {
		t.Errorf("May(%v) = %t", s, is)
	}
	p, b := begun(t, nil)
	if want {
		b = done(t, p, b, []api.Change{add(s)})
		done(t, p, b, []api.Change{put(s)})
		return
	}
	fails(t, p, b, api.ErrForm, add(s))
	fails(t, p, b, api.ErrForm, put(s))
	fails(t, p, b, api.ErrNone, del(s))
	// What is there does not count ahead of what is not valid.
	p, b = begun(t, nil, rsv(1, 1, "ann"))
	fails(t, p, b, api.ErrForm, add(s))
	fails(t, p, b, api.ErrForm, put(s))
}

// TestMay: which reservations are valid (P11.1, P11.2).
func TestMay(t *testing.T) {
	for _, s := range sample.WrongRsvs() {
		may(t, s, false)
	}
	for _, s := range []api.Rsv{
		rsv(1, 0, "a"), rsv(1, 0, "z"), rsv(1, 0, "0"), rsv(1, 0, "9"), rsv(math.MaxUint32, math.MaxUint32, "abcdefghijklmnop"), rsv(7, 0, "0123456789qrstuv"), rsv(7, 0, "wxyz"), rsv(7, 0, strings.Repeat("0", 16)),
		rsv(1, 0, "ann", list()...), rsv(1, 0, "ann", box(0, late, vec(0, 1))...), rsv(1, 0, "ann", box(late-1, late, vec(1, 0))...), rsv(1, 0, "ann", box(0, 1, vec(top, top))...),
		rsv(1, 0, "ann", list(seg(0, 0, 1), seg(5, 0, 0), seg(9, 3, 0), seg(late, 0, 0))...), rsv(1, 0, "ann", sample.Saw(1023)...), rsv(1, 0, "ann", sample.Saw(1024)...),
	} {
		may(t, s, true)
	}
	// The definition and the witness are not looked at.
	for _, s := range []api.Rsv{r, q} {
		s.Def = api.Def{From: math.MinInt64, To: -5, T: []api.Part{{Kind: 255, N: 1, G: 7, D: -1, Kids: -3}, {}}}
		s.W = []api.Piece{{Part: -1, At: math.MaxInt64}, {Part: 99, At: math.MinInt64}}
		may(t, s, true)
		s.Id = 0
		may(t, s, false)
	}
	// All bytes of a user's name, at each of its places.
	for b := range 256 {
		want := b >= 'a' && b <= 'z' || b >= '0' && b <= '9'
		for at := range 4 {
			name := []byte("zed9")
			name[at] = byte(b)
			if plan.May(rsv(1, 1, string(name))) != want {
				t.Error(b, at)
			}
		}
		if plan.May(rsv(1, 1, string([]byte{byte(b)}))) != want {
			t.Error(b)
		}
	}
	for n := range 40 {
		if plan.May(rsv(1, 1, strings.Repeat("a", n))) != (n >= 1 && n <= 16) {
			t.Error(n)
		}
	}
}

// TestErrors: of several errors of one change the first one counts (P11.2).
func TestErrors(t *testing.T) {
	p, b := begun(t, list(seg(0, 9, 9)), r)
	high := box(5, 6, vec(top-1, 0)) // too much beside r
	for _, kind := range []uint8{3, 4, 128, 255} {
		for _, s := range []api.Rsv{{}, r, q, rsv(1, 1, "Ann"), rsv(2, 1, "ann", high...)} {
			fails(t, p, b, api.ErrArg, api.Change{Kind: kind, R: s})
		}
	}
	for _, id := range []uint32{0, 1, 2} {
		wrong := rsv(id, 1, "ANN", high...)
		fails(t, p, b, api.ErrForm, add(wrong))
		fails(t, p, b, api.ErrForm, put(wrong))
	}
	fails(t, p, b, api.ErrThere, add(rsv(1, 1, "ann", high...)))
	fails(t, p, b, api.ErrNone, put(rsv(2, 1, "ann", high...)))
	fails(t, p, b, api.ErrNone, del(rsv(2, 1, "ann", high...)))
	fails(t, p, b, api.ErrNone, del(api.Rsv{}))
	fails(t, p, b, api.ErrRange, add(rsv(2, 1, "ann", high...)))
	// What stands in for another one is added to what is left without it.
	b = done(t, p, b, []api.Change{put(rsv(1, 9, "bob", high...))})
	// Of what is deleted only the Id counts.
	wrong := sample.WrongRsvs()[1]
	done(t, p, b, []api.Change{del(wrong)})
	if l := p.List(); wrong.Id != 1 || len(l) != 0 {
		t.Error(l)
	}
}

// full returns a plan with 128 reservations of several users, and its book.
func full(t *testing.T) (*plan.Plan, book) {
	t.Helper()
	var l []api.Rsv
	for i := range uint32(128) {
		l = append(l, rsv(i+1, i*37%128, "u"+strconv.Itoa(int(i%5)), box(int64(i%7), int64(i%7+1+i%3), vec(1, 2))...))
	}
	return begun(t, list(seg(0, 9, 9)), l...)
}

// TestFull: 128 reservations and one more (P11.2).
func TestFull(t *testing.T) {
	p, b := full(t)
	holds(t, p, b)
	one := rsv(200, 1, "ann", box(0, 5, vec(1, 1))...)
	fails(t, p, b, api.ErrFull, add(one))
	fails(t, p, b, api.ErrFull, add(rsv(200, 1, "ann")))
	fails(t, p, b, api.ErrFull, add(one), del(b.l[0]))
	fails(t, p, b, api.ErrFull, add(rsv(200, 1, "ann", box(0, 5, vec(top, top))...)))
	fails(t, p, b, api.ErrThere, add(b.l[5]))
	fails(t, p, b, api.ErrForm, add(rsv(200, 1, "")))
	fails(t, p, b, api.ErrNone, put(one))
	changed := b.l[5]
	changed.User, changed.A = "ann", nil
	b = done(t, p, b, []api.Change{put(changed)})
	first := b.l[0]
	b = done(t, p, b, []api.Change{del(first), add(one)})
	fails(t, p, b, api.ErrFull, add(first))
	b = done(t, p, b, []api.Change{del(one)})
	b = done(t, p, b, []api.Change{add(one)})
	fails(t, p, b, api.ErrFull, add(rsv(201, 1, "ann")))
	// All of them at once, in an empty plan.
	p, c := begun(t, nil)
	var all []api.Change
	for _, r := range b.l {
		all = append(all, add(r))
	}
	c = done(t, p, c, all)
	fails(t, p, c, api.ErrFull, add(rsv(201, 1, "ann")))
	p, c = begun(t, nil)
	fails(t, p, c, api.ErrFull, append(all, add(rsv(201, 1, "ann")))...)
}

// TestRange: a load at MaxValue, and above it (P11.2).
func TestRange(t *testing.T) {
	for _, turn := range []func(n int64) api.Vec{
		func(n int64) api.Vec { return vec(n, 0) },
		func(n int64) api.Vec { return vec(0, n) },
		func(n int64) api.Vec { return vec(n, n) },
		func(n int64) api.Vec { return vec(n, 7) },
	} {
		all := rsv(1, 1, "ann", box(5, 9, turn(top-7))...)
		p, b := begun(t, list(seg(0, 1, 1)), all)
		fails(t, p, b, api.ErrRange, add(rsv(2, 2, "ann", box(8, 12, turn(8))...)))
		fails(t, p, b, api.ErrRange, add(rsv(2, 2, "bob", box(2, 6, turn(8))...)))
		fails(t, p, b, api.ErrRange, add(rsv(2, 2, "bob", box(0, late, turn(top))...)))
		b = done(t, p, b, []api.Change{add(rsv(2, 2, "bob", box(2, 6, turn(7))...))})
		// Beside, where the others are not, there can be more.
		b = done(t, p, b, []api.Change{add(rsv(3, 3, "cy", box(9, 12, turn(top))...))})
		fails(t, p, b, api.ErrRange, add(rsv(4, 4, "dan", box(5, 6, turn(1))...)))
		fails(t, p, b, api.ErrRange, put(rsv(3, 3, "cy", box(5, 6, turn(1))...)))
		fails(t, p, b, api.ErrRange, put(rsv(2, 2, "bob", box(2, 6, turn(8))...)))
		// What comes behind does not undo it; what came before does.
		fails(t, p, b, api.ErrRange, add(rsv(4, 4, "dan", box(5, 6, turn(1))...)), del(all))
		b = done(t, p, b, []api.Change{del(all), add(rsv(4, 4, "dan", box(5, 6, turn(top-7))...))})
		b = done(t, p, b, []api.Change{put(rsv(4, 4, "dan", box(6, 9, turn(top))...)), add(rsv(5, 5, "eve", box(2, 6, turn(top-7))...))})
		fails(t, p, b, api.ErrRange, add(rsv(6, 6, "fay", box(11, 13, turn(1))...)))
	}
	// Many parts of it, one too many.
	p, b := begun(t, nil)
	for i := range uint32(64) {
		b = done(t, p, b, []api.Change{add(rsv(i+1, 1, "ann", box(0, int64(i)+1, vec(top/64, 0))...))})
	}
	fails(t, p, b, api.ErrRange, add(rsv(65, 1, "bob", box(0, 1, vec(1, 0))...)))
	done(t, p, b, []api.Change{add(rsv(65, 1, "bob", box(1, 2, vec(top/64, 0))...))})
}

// TestAtomic: if the last change of many has an error, none is made (P11.2).
func TestAtomic(t *testing.T) {
	p, b := begun(t, list(seg(0, 9, 9)), r, q)
	good := []api.Change{
		del(r), add(rsv(7, 0, "cy", box(1, 6, vec(1, 1))...)), put(rsv(2, 9, "ann", box(0, 3, vec(5, 5))...)), add(rsv(8, 5, "bob")),
		put(rsv(7, 3, "dan", box(2, 4, vec(1, 0))...)), del(rsv(8, 0, "")), add(rsv(1, 1, "eve", r.A...)),
	}
	for n := range len(good) + 1 {
		for _, x := range []struct {
			c api.Change
			e api.Errno
		}{
			{api.Change{Kind: 3}, api.ErrArg},
			{add(rsv(0, 1, "ann")), api.ErrForm},
			{put(rsv(1, 1, "")), api.ErrForm},
			{add(rsv(2, 1, "ann")), api.ErrThere},
			{put(rsv(99, 1, "ann")), api.ErrNone},
			{del(rsv(99, 1, "ann")), api.ErrNone},
			{add(rsv(99, 1, "ann", box(0, 9, vec(top, top))...)), api.ErrRange},
		} {
			l := append(slices.Clone(good[:n]), x.c)
			fails(t, p, b, x.e, l...)
			// Nothing behind the first one that has an error counts.
			fails(t, p, b, x.e, append(l, api.Change{Kind: 9}, add(rsv(0, 0, "")), add(rsv(99, 1, "ann")))...)
		}
	}
	// An error is what it is when the changes before have been made.
	fails(t, p, b, api.ErrNone, del(r), del(r))
	fails(t, p, b, api.ErrNone, del(r), put(r))
	fails(t, p, b, api.ErrThere, add(rsv(3, 0, "ann")), add(rsv(3, 0, "bob")))
	b = done(t, p, b, nil)
	b = done(t, p, b, []api.Change{del(r), add(r), put(r)})
	b = done(t, p, b, []api.Change{add(rsv(3, 0, "ann")), put(rsv(3, 0, "bob")), del(rsv(3, 0, "ann"))})
	done(t, p, b, good)
}

// TestOrder: reservations by Seq, and for equal Seq by Id; users by their bytes (P11.3).
func TestOrder(t *testing.T) {
	var l []api.Rsv
	for i, x := range [][2]uint32{{9, 5}, {3, 5}, {math.MaxUint32, 0}, {1, math.MaxUint32}, {4, 7}, {2, 1 << 31}, {256, 5}, {7, 0}, {10, 5}} {
		l = append(l, rsv(x[0], x[1], []string{"b", "a", "ab", "9", "aa", "a0", "z", "b", "0"}[i], box(int64(i), 9, vec(1, 0))...))
	}
	for turn := range len(l) {
		p, b := begun(t, nil)
		b = done(t, p, b, nil)
		for i := range l {
			b = done(t, p, b, []api.Change{add(l[(i*5+turn)%len(l)])})
		}
		var ids []uint32
		for _, r := range p.List() {
			ids = append(ids, r.Id)
		}
		if !slices.Equal(ids, []uint32{7, math.MaxUint32, 3, 9, 10, 256, 4, 2, 1}) {
			t.Error(ids)
		}
		if users := p.Users(); !slices.Equal(users, []string{"0", "9", "a", "a0", "aa", "ab", "b", "z"}) {
			t.Error(users)
		}
		// A user is there as long as one of the reservations is.
		b = done(t, p, b, []api.Change{del(l[0])})
		b = done(t, p, b, []api.Change{del(l[7])})
		b = done(t, p, b, []api.Change{put(rsv(3, 0, "ab"))})
		if users := p.Users(); !slices.Equal(users, []string{"0", "9", "a0", "aa", "ab", "z"}) {
			t.Error(users)
		}
		for _, r := range b.l {
			b = done(t, p, b, []api.Change{del(r)})
		}
		if p.List() != nil || p.Users() != nil || p.Load() != nil {
			t.Error(p.List(), p.Users(), p.Load())
		}
	}
}

// bySteps makes changes of a plan one by one, up to the first that has an error, and returns that.
func bySteps(p *plan.Plan, l []api.Change) api.Errno {
	for _, c := range l {
		if e := p.Do([]api.Change{c}); e != api.OK {
			return e
		}
	}
	return api.OK
}

// TestRows: all lists of up to three changes of a few, all at once and one by one (P11.2, P11.3, P11.4, P11.5).
func TestRows(t *testing.T) {
	var alphabet []api.Change
	for kind := range uint8(3) {
		for _, s := range []api.Rsv{r, q, rsv(1, 3, "bob", box(7, 8, vec(top-1, 0))...), rsv(3, 2, "ann", box(4, 8, vec(0, 1))...), rsv(4, 1, "Ann")} {
			alphabet = append(alphabet, api.Change{Kind: kind, R: s})
		}
	}
	alphabet = append(alphabet, api.Change{Kind: 3, R: r})
	rows := [][]api.Change{nil}
	for at := 0; at < len(rows); at++ {
		l := rows[at]
		for _, first := range [][]api.Rsv{nil, {r}} {
			p, b := begun(t, list(seg(0, 9, 9)), first...)
			single := p.Copy()
			next := done(t, p, b, l)
			e := bySteps(single, l)
			if _, want := b.all(l); e != want {
				t.Fatal(l, e, want)
			}
			if e == api.OK {
				holds(t, single, next)
			}
		}
		for _, c := range alphabet {
			if len(l) < 3 {
				rows = append(rows, append(l[:len(l):len(l)], c))
			}
		}
	}
}

// thrown returns a change of one of a few reservations.
func thrown(d *sample.Dice) api.Change {
	s := rsv(uint32(1+d.Below(12)), uint32(d.Below(5)), []string{"ann", "bob", "cy", "d0"}[d.Below(4)], d.Amount()...)
	s.Def = api.Def{From: int64(d.Below(9)), To: 99, T: d.Term(3, 9, api.PaAll)}
	s.W = []api.Piece{{Part: d.Below(5), At: int64(d.Below(9))}}
	if d.Below(30) == 0 {
		wrong := sample.WrongRsvs()
		s = wrong[d.Below(len(wrong))]
	}
	if d.Below(12) == 0 {
		s.A = box(int64(d.Below(9)), 20, vec(top-int64(d.Below(9)), 1))
	}
	if d.Below(40) == 0 {
		return api.Change{Kind: 3, R: s}
	}
	return api.Change{Kind: uint8(d.Below(3)), R: s}
}

// TestDice: many changes of plans that grow and shrink (P11.2, P11.3, P11.4, P11.5).
func TestDice(t *testing.T) {
	d := new(sample.Dice)
	made := 0
	for range 20 {
		p, b := begun(t, list(seg(0, 9, 9)))
		for range 100 {
			var l []api.Change
			for range d.Below(4) {
				l = append(l, thrown(d))
			}
			single := p.Copy()
			next := done(t, p, b, l)
			if bySteps(single, l) == api.OK {
				made += len(l)
				holds(t, single, next)
			}
			b = next
		}
	}
	if made < 300 {
		t.Error(made)
	}
}

// TestBack: a reservation that is added and deleted again leaves the plan as it was (P11.4).
func TestBack(t *testing.T) {
	d := new(sample.Dice)
	for n := range 60 {
		var l []api.Rsv
		for i := range n {
			l = append(l, rsv(uint32(i+1), uint32(d.Below(9)), []string{"ann", "bob", "cy"}[d.Below(3)], d.Amount()...))
		}
		p, b := begun(t, list(seg(0, 9, 9)), l...)
		for _, user := range []string{"ann", "dan"} {
			s := rsv(100, uint32(d.Below(9)), user, d.Amount()...)
			for _, rows := range [][][]api.Change{{{add(s), del(s)}}, {{add(s)}, {del(s)}}} {
				for _, row := range rows {
					if e := p.Do(row); e != api.OK {
						t.Fatal(e)
					}
				}
				holds(t, p, b)
			}
		}
	}
}

// TestMost: 128 reservations of 1024 runs each, most of them at times of their own (P11.2, P11.3, P11.4).
func TestMost(t *testing.T) {
	p, _ := begun(t, nil)
	var l []api.Change
	steps := map[int64]api.Vec{}
	for i := range int64(128) {
		f := sample.Saw(1024)
		var last api.Vec
		for j, s := range f {
			s.At = s.At*((late-127)/1023) + i
			v := steps[s.At]
			steps[s.At] = vec(v.Mem+s.V.Mem-last.Mem, v.Cores+s.V.Cores-last.Cores)
			f[j], last = s, s.V
		}
		l = append(l, add(rsv(uint32(i+1), 1, "u"+strconv.Itoa(int(i%3)), f...)))
	}
	if e := p.Do(l); e != api.OK {
		t.Fatal(e)
	}
	var raw []api.Seg
	var v api.Vec
	for _, at := range slices.Sorted(maps.Keys(steps)) {
		v = vec(v.Mem+steps[at].Mem, v.Cores+steps[at].Cores)
		raw = append(raw, api.Seg{At: at, V: v})
	}
	want, e := rle.Of(raw)
	if f := p.Load(); e != api.OK || len(want) < 100000 || !slices.Equal(f, want) || len(p.List()) != 128 {
		t.Error(len(f), len(want), e)
	}
	f, e := calc.Add(p.User("u0"), p.User("u1"), p.User("u2"))
	if e != api.OK || !slices.Equal(f, want) {
		t.Error(len(f), e)
	}
}

// spoilAll writes over all of a list of reservations, one after the other: none of them changes before it is its turn.
func spoilAll(t *testing.T, l, want []api.Rsv) {
	t.Helper()
	for i := range l {
		if !same(l[i], want[i]) {
			t.Fatal(i, l[i], want[i])
		}
		spoil(&l[i])
	}
	l = l[:cap(l)]
	for i := range l {
		l[i] = api.Rsv{Id: 77, User: "spoilt"}
	}
}

// TestArguments: arguments stay as they were, behind their length too, and are not kept (P1, R5).
func TestArguments(t *testing.T) {
	capacity := list(seg(0, 9, 9), seg(5, 1, 1), seg(7, 7, 7), seg(1, 1, 1))
	l := []api.Change{add(rich(1, 1, "ann")), add(rich(2, 1, "bob")), put(rich(2, 3, "ann")), del(rich(1, 0, "ann")), add(rich(1, 2, "ann")), {Kind: 3, R: rich(3, 3, "cy")}}
	p, e := plan.New(capacity[:2])
	if e != api.OK {
		t.Fatal(e)
	}
	unchanged := func() {
		t.Helper()
		if !slices.Equal(capacity, list(seg(0, 9, 9), seg(5, 1, 1), seg(7, 7, 7), seg(1, 1, 1))) {
			t.Error(capacity)
		}
		for i, c := range l {
			s := rich(c.R.Id, c.R.Seq, c.R.User)
			if c.Kind != []uint8{0, 0, 1, 2, 0, 3}[i] || !slices.Equal(c.R.A[:5], s.A[:5]) || !slices.Equal(c.R.Def.T[:5], s.Def.T[:5]) || !slices.Equal(c.R.W[:3], s.W[:3]) {
				t.Error(i, c)
			}
		}
	}
	if e := p.Do(l); e != api.ErrArg {
		t.Error(e)
	}
	unchanged()
	if e := p.Do(l[:5]); e != api.OK {
		t.Error(e)
	}
	unchanged()
	plan.May(l[0].R)
	if e := p.SetCap(capacity[1:2]); e != api.OK {
		t.Error(e)
	}
	if e := p.SetCap(capacity[:3]); e != api.OK {
		t.Error(e)
	}
	if e := p.SetCap(capacity); e != api.ErrForm {
		t.Error(e)
	}
	unchanged()
	b := book{list(seg(0, 9, 9), seg(5, 1, 1), seg(7, 7, 7)), []api.Rsv{rich(1, 2, "ann"), rich(2, 3, "ann")}}
	holds(t, p, b)
	sample.Spoil(capacity)
	for i := range l {
		spoil(&l[i].R)
		l[i] = api.Change{Kind: 9}
	}
	holds(t, p, b)
	// Neither is the capacity that New was given.
	first := list(seg(0, 9, 9), seg(5, 1, 1))
	p, b = begun(t, first)
	b.capacity = slices.Clone(first)
	sample.Spoil(first)
	holds(t, p, b)
}

// TestAnswers: answers are new memory, of which nothing else of them has a part (P1, R5).
func TestAnswers(t *testing.T) {
	for n := range uint32(5) {
		p, b := begun(t, list(seg(0, 9, 9), seg(5, 1, 1)))
		for i := range n {
			s := rich(i+1, i/2, "u"+strconv.Itoa(int(i%2)))
			b = done(t, p, b, []api.Change{add(s)})
		}
		for range 2 {
			want := slices.SortedFunc(slices.Values(b.l), inOrder)
			f, g := p.Load(), p.User("u0")
			for _, f := range [][]api.Seg{f, g, p.Cap(), p.Load(), p.User("u0"), p.User("u1")} {
				sample.Spoil(f)
			}
			spoilAll(t, p.List(), want)
			for _, r := range want {
				s, e := p.Get(r.Id)
				if e != api.OK {
					t.Fatal(e)
				}
				spoilAll(t, []api.Rsv{s}, []api.Rsv{r})
			}
			users := p.Users()
			for i := range users[:cap(users)] {
				users[:cap(users)][i] = "spoilt"
			}
			spoilAll(t, p.Copy().List(), want)
			holds(t, p, b)
			// The copy of it, the second time.
			p = p.Copy()
		}
	}
}

// TestCopy: a copy is equal, and independent of what it is a copy of (P11.3).
func TestCopy(t *testing.T) {
	l := []api.Rsv{rich(1, 1, "ann"), rich(2, 1, "ann"), rich(3, 0, "bob")}
	for n := range len(l) + 1 {
		for _, change := range []func(p *plan.Plan, b book) book{
			func(p *plan.Plan, b book) book { return done(t, p, b, []api.Change{add(rich(9, 9, "ann"))}) },
			func(p *plan.Plan, b book) book { return done(t, p, b, []api.Change{add(rich(9, 9, "cy"))}) },
			func(p *plan.Plan, b book) book { return done(t, p, b, []api.Change{put(rich(1, 9, "bob"))}) },
			func(p *plan.Plan, b book) book { return done(t, p, b, []api.Change{del(rich(1, 9, "bob"))}) },
			func(p *plan.Plan, b book) book { return done(t, p, b, []api.Change{del(rich(3, 9, "bob"))}) },
			func(p *plan.Plan, b book) book {
				b.capacity = list(seg(4, 1, 0))
				if e := p.SetCap(b.capacity); e != api.OK {
					t.Fatal(e)
				}
				return b
			},
		} {
			p, b := begun(t, list(seg(0, 9, 9)), l[:n]...)
			other := p.Copy()
			holds(t, other, b)
			changed := change(p, b)
			holds(t, p, changed)
			holds(t, other, b)
			third := p.Copy()
			holds(t, third, changed)
			change(other, b)
			holds(t, p, changed)
			holds(t, third, changed)
		}
	}
	p, b := full(t)
	other := p.Copy()
	holds(t, other, b)
	fails(t, other, b, api.ErrFull, add(rsv(200, 1, "ann")))
	b.l = b.l[:120]
	for i := range uint32(8) {
		if e := p.Do([]api.Change{del(rsv(121+i, 0, ""))}); e != api.OK {
			t.Fatal(e)
		}
	}
	holds(t, p, b)
	if len(other.List()) != 128 {
		t.Error(len(other.List()))
	}
}
