package stage_test

import (
	"math"
	"slices"
	"testing"

	"livery/api"
	"livery/parse"
	"livery/sample"
	"livery/sat"
	"livery/shape"
	"livery/stage"
)

const (
	late = sample.Late
	span = sample.Span
)

var (
	win   = sample.Win
	leg   = sample.Leg
	legs  = sample.Legs
	atom  = sample.Atom
	group = sample.Group
)

// row returns the list of its arguments.
func row(l ...int64) []int64 { return l }

// ticks returns how long the legs are: what makes legs valid, apart from what they need, makes stages valid.
func ticks(l []api.Leg) []int64 {
	var n []int64
	for _, x := range l {
		n = append(n, x.D)
	}
	return n
}

// sum returns the sum of the lengths.
func sum(l []int64) int64 {
	var s int64
	for _, n := range l {
		s += n
	}
	return s
}

// asked is what Slack and Split are asked.
type asked struct {
	w api.Win
	l []int64
}

// fault returns by the document's words the error of Slack.
func (a asked) fault() api.Errno {
	are := 1 <= len(a.l) && len(a.l) <= 16
	for _, n := range a.l {
		are = are && 1 <= n && n <= 4096
	}
	if !are {
		return api.ErrArg
	}
	return sample.WindowFault(a.w)
}

// slack returns the slack of what is asked without an error.
func (a asked) slack() int64 {
	return a.w.To - a.w.From - sum(a.l)
}

// together returns what the first stages, so many, together get of the slack with SlEach: the greatest number that is in proportion no more than they are of all; the numbers are tried one after the other.
func (a asked) together(many int) int64 {
	first, all, slack := sum(a.l[:many]), sum(a.l), a.slack()
	n := int64(0)
	for (n+1)*all <= slack*first {
		n++
	}
	return n
}

// share returns by the document's words what the stage of that index gets of the slack.
func (a asked) share(i int, way uint8) int64 {
	switch {
	case way == 0 && i == 0, way == 1 && i == len(a.l)-1:
		return a.slack()
	case way == 2:
		return a.together(i+1) - a.together(i)
	}
	return 0
}

// looked returns by the document's words the windows of the stages, stage by stage.
func (a asked) looked(way uint8) []api.Win {
	var l []api.Win
	at := a.w.From
	for i, n := range a.l {
		end := at + n + a.share(i, way)
		l = append(l, win(at, end))
		at = end
	}
	return l
}

// answers holds Slack, and Split for each way that there is and some that there are not, against the document's words, and returns the windows by the ways.
func (a asked) answers(t *testing.T) [3][]api.Win {
	t.Helper()
	var windows [3][]api.Win
	var slack int64
	e := a.fault()
	if e == api.OK {
		slack = a.slack()
	}
	if n, ne := stage.Slack(a.w, a.l); n != slack || ne != e {
		t.Fatalf("Slack(%v): %d, %d; want %d, %d", a, n, ne, slack, e)
	}
	if slack < 0 {
		e = api.ErrPlace
	}
	for way := range uint8(3) {
		var want []api.Win
		if e == api.OK {
			want = a.looked(way)
		}
		got, ge := stage.Split(a.w, a.l, way)
		if !slices.Equal(got, want) || ge != e || got != nil && e != api.OK {
			t.Fatalf("Split(%v, %d): %v, %d; want %v, %d", a, way, got, ge, want, e)
		}
		windows[way] = got
	}
	for _, way := range []uint8{3, 4, 128, 255} {
		if got, ge := stage.Split(a.w, a.l, way); got != nil || ge != api.ErrArg {
			t.Fatalf("Split(%v, %d): %v, %d", a, way, got, ge)
		}
	}
	if e == api.OK {
		a.laws(t, windows)
	}
	return windows
}

// laws holds windows, by the ways, against P18.3 and P18.4.
func (a asked) laws(t *testing.T, windows [3][]api.Win) {
	t.Helper()
	for way, l := range windows {
		at := a.w.From
		for i, w := range l {
			if w.From != at || w.To-w.From < a.l[i] {
				t.Fatal(a, way, l)
			}
			at = w.To
		}
		if len(l) != len(a.l) || at != a.w.To {
			t.Fatal(a, way, l)
		}
	}
	first, last, each := windows[0], windows[1], windows[2]
	if a.slack() == 0 && (!slices.Equal(first, last) || !slices.Equal(first, each)) {
		t.Fatal(a, windows)
	}
	for i, n := range a.l {
		for k, m := range a.l {
			more := each[k].To - each[k].From - (each[i].To - each[i].From)
			if n == m && (more < -1 || more > 1) || n > m && more > 1 {
				t.Fatal(a, each, i, k)
			}
		}
	}
}

// is holds the ends of the windows against what is expected.
func (a asked) is(t *testing.T, way uint8, want ...int64) {
	t.Helper()
	var ends []int64
	for _, w := range a.answers(t)[way] {
		ends = append(ends, w.To)
	}
	if !slices.Equal(ends, want) {
		t.Errorf("Split(%v, %d): %v; want %v", a, way, ends, want)
	}
}

// gives holds the slack, and the error of Slack, against what is expected.
func (a asked) gives(t *testing.T, slack int64, want api.Errno) {
	t.Helper()
	a.answers(t)
	if n, e := stage.Slack(a.w, a.l); n != slack || e != want {
		t.Errorf("Slack(%v): %d, %d; want %d, %d", a, n, e, slack, want)
	}
}

// refused holds the error of Split against what is expected.
func (a asked) refused(t *testing.T, way uint8, want api.Errno) {
	t.Helper()
	a.answers(t)
	if l, e := stage.Split(a.w, a.l, way); l != nil || e != want {
		t.Errorf("Split(%v, %d): %v, %d; want %d", a, way, l, e, want)
	}
}

// stages returns the stages of the chapter's examples.
func stages() []int64 { return row(3, 5, 2) }

// example returns the document's definition T.
func example() []api.Part {
	return []api.Part{group(api.PaOrder, 2), atom(2, 1, 10), group(api.PaAny, 2), atom(4, 2, 5), atom(1, 1, 20)}
}

// TestExamples: the chapter's (P18.1, P18.2).
func TestExamples(t *testing.T) {
	asked{win(0, 20), stages()}.gives(t, 10, api.OK)
	asked{win(0, 9), stages()}.gives(t, -1, api.OK)
	asked{win(0, 20), stages()}.is(t, api.SlFirst, 13, 18, 20)
	asked{win(0, 20), stages()}.is(t, api.SlLast, 3, 8, 20)
	asked{win(0, 20), stages()}.is(t, api.SlEach, 6, 16, 20)
	asked{win(0, 8), row(1, 1, 1)}.is(t, api.SlEach, 2, 5, 8)
	asked{win(0, 9), stages()}.refused(t, api.SlEach, api.ErrPlace)
	if l, e := stage.Lengths(api.Def{To: 100, T: example()}, 0); !slices.Equal(l, row(10, 5)) || e != api.OK {
		t.Error(l, e)
	}
}

// TestSlack: answers that are written out (P18.1).
func TestSlack(t *testing.T) {
	for _, x := range []struct {
		w    api.Win
		l    []int64
		want int64
	}{
		{win(0, 1), row(1), 0},
		{win(0, 2), row(1), 1},
		{win(0, 1), row(2), -1},
		{win(0, 10), stages(), 0},
		{win(0, 11), stages(), 1},
		{win(-10, 0), stages(), 0},
		{win(-15, 4), stages(), 9},
		{win(0, span), row(span), 0},
		{win(0, span-1), row(span), -1},
		{win(0, span), row(span-1, 1), 0},
		{win(0, span), row(span, 1), -1},
		{win(0, span), row(1), span - 1},
		{win(0, span), slices.Repeat(row(1), 16), span - 16},
		{win(5, 21), slices.Repeat(row(1), 16), 0},
		{win(5, 20), slices.Repeat(row(1), 16), -1},
		{win(0, span), slices.Repeat(row(span), 16), -15 * span},
		{win(7, 8), slices.Repeat(row(span), 16), 1 - 16*span},
		{win(-late, -late+span), stages(), span - 10},
		{win(late-span, late), stages(), span - 10},
		{win(late-1, late), stages(), -9},
	} {
		asked{x.w, x.l}.gives(t, x.want, api.OK)
	}
}

// TestSplit: answers that are written out (P18.1, P18.3, P18.4).
func TestSplit(t *testing.T) {
	for _, x := range []struct {
		w                 api.Win
		l                 []int64
		first, last, each []int64
	}{
		// One stage has all of the window.
		{win(4, 5), row(1), row(5), row(5), row(5)},
		{win(-3, 4), row(7), row(4), row(4), row(4)},
		{win(-3, 5), row(7), row(5), row(5), row(5)},
		{win(0, span), row(1), row(span), row(span), row(span)},
		{win(0, span), row(span), row(span), row(span), row(span)},
		// No slack, one tick of it, two, and one fewer than the stages are.
		{win(0, 10), stages(), row(3, 8, 10), row(3, 8, 10), row(3, 8, 10)},
		{win(0, 11), stages(), row(4, 9, 11), row(3, 8, 11), row(3, 8, 11)},
		{win(0, 12), stages(), row(5, 10, 12), row(3, 8, 12), row(3, 9, 12)},
		{win(5, 24), stages(), row(17, 22, 24), row(8, 13, 24), row(10, 20, 24)},
		{win(-10, 9), stages(), row(2, 7, 9), row(-7, -2, 9), row(-5, 5, 9)},
		{win(0, 100), stages(), row(93, 98, 100), row(3, 8, 100), row(30, 80, 100)},
		{win(0, 101), stages(), row(94, 99, 101), row(3, 8, 101), row(30, 80, 101)},
		// Equal stages: who of them has one tick more hangs on where they stand.
		{win(0, 4), row(1, 1, 1), row(2, 3, 4), row(1, 2, 4), row(1, 2, 4)},
		{win(0, 5), row(1, 1, 1), row(3, 4, 5), row(1, 2, 5), row(1, 3, 5)},
		{win(0, 6), row(1, 1, 1), row(4, 5, 6), row(1, 2, 6), row(2, 4, 6)},
		{win(0, 7), row(1, 1, 1, 1), row(4, 5, 6, 7), row(1, 2, 3, 7), row(1, 3, 5, 7)},
		{win(10, 20), row(1, 2), row(18, 20), row(11, 20), row(13, 20)},
		{win(10, 20), row(2, 1), row(19, 20), row(12, 20), row(16, 20)},
		// A longer stage behind a shorter one, and ahead of it.
		{win(0, 4), row(1, 2), row(2, 4), row(1, 4), row(1, 4)},
		{win(0, 4), row(2, 1), row(3, 4), row(2, 4), row(2, 4)},
		{win(0, 9), row(2, 1, 1), row(7, 8, 9), row(2, 3, 9), row(4, 6, 9)},
		{win(0, 9), row(1, 1, 2), row(6, 7, 9), row(1, 2, 9), row(2, 4, 9)},
		{win(0, span), row(1, span-2), row(2, span), row(1, span), row(1, span)},
		{win(0, span), row(span-2, 1), row(span-1, span), row(span-2, span), row(span-2, span)},
		{win(0, span), row(1, 1), row(span-1, span), row(1, span), row(span/2, span)},
		{win(0, span), row(1, 1365), row(span-1365, span), row(1, span), row(2, span)},
		// The earliest and the latest windows.
		{win(-late, -late+20), stages(), row(-late+13, -late+18, -late+20), row(-late+3, -late+8, -late+20), row(-late+6, -late+16, -late+20)},
		{win(late-20, late), stages(), row(late-7, late-2, late), row(late-17, late-12, late), row(late-14, late-4, late)},
		{win(late-1, late), row(1), row(late), row(late), row(late)},
	} {
		a := asked{x.w, x.l}
		a.is(t, api.SlFirst, x.first...)
		a.is(t, api.SlLast, x.last...)
		a.is(t, api.SlEach, x.each...)
	}
	var ends []int64
	for n := range int64(16) {
		ends = append(ends, 256*(n+1))
	}
	asked{win(0, span), slices.Repeat(row(1), 16)}.is(t, api.SlEach, ends...)
	asked{win(0, span), slices.Repeat(row(200), 16)}.is(t, api.SlEach, ends...)
	asked{win(0, span), slices.Repeat(row(256), 16)}.is(t, api.SlFirst, ends...)
}

// TestAll: all lists of up to four of some lengths, and none, in all short windows (P18.1, P18.3, P18.4).
func TestAll(t *testing.T) {
	lists := sample.Lists(4, leg(1, 0, 0), leg(2, 0, 0), leg(3, 0, 0), leg(7, 0, 0))
	for _, from := range []int64{-late, -3, 0, late - 40} {
		for n := int64(-1); n <= 40; n++ {
			for _, l := range lists {
				asked{win(from, from+n), ticks(l)}.answers(t)
			}
		}
	}
}

// TestThrown: up to 16 stages in windows of up to 4096 ticks (P18.1, P18.3, P18.4).
func TestThrown(t *testing.T) {
	d := sample.Dice(1)
	short, even, long := 0, 0, 0
	for i := range 6000 {
		w, l := d.Legs(20 + i%4077)
		a := asked{w, ticks(l)}
		a.answers(t)
		switch n := a.slack(); {
		case n < 0:
			short++
		case n > 0:
			long++
		}
		if n := sum(a.l); n <= span {
			asked{win(w.From, w.From+n), a.l}.answers(t)
			even++
		}
	}
	if min(short, even, long) < 500 {
		t.Error(short, even, long)
	}
}

// TestStages: how many stages there may be, and how long, up to the limits and one beyond (P18.1).
func TestStages(t *testing.T) {
	for _, l := range sample.WrongLists() {
		asked{win(0, span), ticks(l)}.gives(t, 0, api.ErrArg)
		asked{win(0, span), ticks(l)}.refused(t, api.SlEach, api.ErrArg)
	}
	for n := range 40 {
		l := slices.Repeat(row(2), n)
		want := api.OK
		if n < 1 || n > 16 {
			want = api.ErrArg
		}
		if _, e := stage.Slack(win(0, 100), l); e != want {
			t.Error(n, e)
		}
		asked{win(0, 100), l}.answers(t)
	}
	for n := range 16 {
		for at := range n + 1 {
			l := slices.Repeat(row(1), n+1)
			for _, x := range []int64{1, span} {
				l[at] = x
				asked{win(-9, 1), l}.gives(t, 10-int64(n)-x, api.OK)
			}
			for _, x := range []int64{0, -1, span + 1, -span, 1<<32 + 1, math.MinInt64, math.MaxInt64} {
				l[at] = x
				asked{win(-9, 1), l}.gives(t, 0, api.ErrArg)
				asked{win(0, span), l}.refused(t, api.SlFirst, api.ErrArg)
			}
		}
	}
	// Lengths below 0 that others make up for.
	asked{win(0, 9), row(5, -3, 2)}.refused(t, api.SlLast, api.ErrArg)
	asked{win(0, 9), row(math.MaxInt64, math.MaxInt64, 5)}.refused(t, api.SlLast, api.ErrArg)
}

// TestWays: each of the ways that there can be (P18.1).
func TestWays(t *testing.T) {
	for way := range 256 {
		l, e := stage.Split(win(0, 20), stages(), uint8(way))
		if (e == api.OK) != (way < 3) || (e == api.ErrArg) != (way >= 3) || len(l) != 3 && way < 3 || l != nil && way >= 3 {
			t.Error(way, l, e)
		}
	}
}

// TestWindows: windows, and times, at the limits and one beyond (P18.1).
func TestWindows(t *testing.T) {
	for _, l := range [][]int64{row(1), stages(), row(span), row(span, span), row(), row(0)} {
		for _, at := range []int64{-late - 1, -late, -late + 1, -1, 0, late - span, late - span + 1, late - 1, late, late + 1, -sample.Top, sample.Top, math.MinInt64, math.MinInt64 + 1, math.MaxInt64 - 1, math.MaxInt64} {
			for _, d := range []int64{0, 1, 2, span - 1, span, span + 1, -1, -span, sample.Top, -sample.Top, math.MaxInt64, math.MinInt64} {
				// Sums that are too great come out as windows of all kinds.
				asked{win(at, at+d), l}.answers(t)
				asked{win(at-d, at), l}.answers(t)
			}
		}
		for _, w := range sample.WrongWindows() {
			asked{w, l}.answers(t)
		}
	}
	for _, x := range []struct {
		w    api.Win
		want api.Errno
	}{
		{win(0, span), api.OK}, {win(0, span+1), api.ErrArg}, {win(-1, span), api.ErrArg}, {win(5, 5), api.ErrArg}, {win(6, 5), api.ErrArg}, {win(5, -5), api.ErrArg},
		{win(-late, -late+span), api.OK}, {win(-late-1, -late+span-1), api.ErrRange}, {win(-late-1, -late+span), api.ErrArg}, {win(-late-1, -late), api.ErrRange},
		{win(late-span, late), api.OK}, {win(late-span+1, late+1), api.ErrRange}, {win(late-span, late+1), api.ErrArg}, {win(late, late+1), api.ErrRange}, {win(late+1, late+2), api.ErrRange}, {win(late+1, late+1), api.ErrArg},
		{win(math.MinInt64, math.MaxInt64), api.ErrArg}, {win(math.MaxInt64, math.MinInt64), api.ErrArg}, {win(math.MinInt64, 0), api.ErrArg}, {win(0, math.MaxInt64), api.ErrArg}, {win(-1, math.MaxInt64), api.ErrArg}, {win(0, math.MinInt64), api.ErrArg},
		{win(math.MaxInt64-span, math.MaxInt64), api.ErrRange}, {win(math.MinInt64, math.MinInt64+span), api.ErrRange}, {win(math.MaxInt64-1, math.MaxInt64), api.ErrRange}, {win(math.MinInt64, math.MinInt64+1), api.ErrRange},
	} {
		if _, e := stage.Slack(x.w, row(1)); e != x.want {
			t.Error(x.w, e)
		}
		if _, e := stage.Split(x.w, row(1), api.SlEach); e != x.want {
			t.Error(x.w, e)
		}
	}
}

// TestOrder: each pair of what can be wrong, and all of it together (P18.1, R2).
func TestOrder(t *testing.T) {
	far, empty, long := win(late, late+1), win(late+1, late+1), win(late-1, late+span)
	for _, x := range []struct {
		a    asked
		way  uint8
		want api.Errno
	}{
		{asked{win(0, 9), row()}, 3, api.ErrArg},
		{asked{empty, stages()}, 3, api.ErrArg},
		{asked{win(5, 5), row(0)}, 0, api.ErrArg},
		{asked{far, row()}, 0, api.ErrArg},
		{asked{far, row(-9)}, 0, api.ErrArg},
		{asked{far, row(span + 1)}, 0, api.ErrArg},
		{asked{far, row(1)}, 3, api.ErrArg},
		{asked{empty, row(1)}, 0, api.ErrArg},
		{asked{long, row(1)}, 0, api.ErrArg},
		{asked{win(0, 1), row(1, span+1)}, 0, api.ErrArg},
		{asked{win(0, 1), slices.Repeat(row(1), 17)}, 0, api.ErrArg},
		{asked{win(0, 9), stages()}, 3, api.ErrArg},
		{asked{win(9, 9), stages()}, 0, api.ErrArg},
		{asked{win(9, 8), stages()}, 0, api.ErrArg},
		{asked{win(0, span+1), row(span, span)}, 0, api.ErrArg},
		{asked{far, stages()}, 0, api.ErrRange},
		{asked{win(-late-1, -late), row(span, span)}, 0, api.ErrRange},
		{asked{win(late-4, late+5), stages()}, 0, api.ErrRange},
		{asked{win(late-5, late+5), stages()}, 0, api.ErrRange},
		{asked{win(late-9, late), stages()}, 0, api.ErrPlace},
		{asked{empty, row()}, 255, api.ErrArg},
	} {
		x.a.refused(t, x.way, x.want)
	}
	asked{far, stages()}.gives(t, 0, api.ErrRange)
	asked{far, row()}.gives(t, 0, api.ErrArg)
	asked{empty, stages()}.gives(t, 0, api.ErrArg)
	lists := [][]int64{stages(), row(1), row(span), row(span, span)}
	for _, l := range sample.WrongLists() {
		lists = append(lists, ticks(l))
	}
	for _, w := range append(sample.WrongWindows(), far, empty, long, win(0, 9), win(0, 10), win(late-9, late)) {
		for _, l := range lists {
			asked{w, l}.answers(t)
		}
	}
}

// windows are windows of definitions, such as are not valid too.
var windows = []api.Win{win(0, 1), win(3, 100), win(0, span), win(late-1, late), win(0, 0), win(5, 4), win(-1, 3), win(0, span+1), win(late, late+1),
	win(math.MinInt64, math.MaxInt64), win(math.MaxInt64, math.MinInt64), win(math.MinInt64, math.MinInt64), win(math.MaxInt64-1, math.MaxInt64)}

// of returns by the document's words what Lengths answers.
func of(l []api.Part, at int) ([]int64, api.Errno) {
	if _, e := shape.Check(api.Def{To: 1, T: l}); e != api.OK {
		return nil, api.ErrShape
	}
	if at < 0 || at >= len(l) || l[at].Kind != 1 && l[at].Kind != 2 {
		return nil, api.ErrArg
	}
	var all []int64
	for _, k := range sample.Children(l, at) {
		all = append(all, sample.Shortest(l, k))
	}
	return all, api.OK
}

// lengths returns what Lengths answers for the parts, which is held against the document's words in each window; together the stages of a part are as long as the part.
func lengths(t *testing.T, l []api.Part, at int) ([]int64, api.Errno) {
	t.Helper()
	want, we := of(l, at)
	for _, w := range windows {
		got, e := stage.Lengths(api.Def{From: w.From, To: w.To, T: l}, at)
		if !slices.Equal(got, want) || e != we || got != nil && we != api.OK {
			t.Fatalf("Lengths(%v, %v, %d): %v, %d; want %v, %d", w, l, at, got, e, want, we)
		}
	}
	if we == api.OK {
		if n, e := sat.Short(api.Def{To: 1, T: l}, at); n != sum(want) || e != api.OK {
			t.Fatal(l, at, n, e, want)
		}
	}
	return want, we
}

// known holds what Lengths answers against what is expected.
func known(t *testing.T, l []api.Part, at int, want ...int64) {
	t.Helper()
	if got, e := lengths(t, l, at); !slices.Equal(got, want) || e != api.OK {
		t.Errorf("Lengths(%v, %d): %v, %d; want %v", l, at, got, e, want)
	}
}

// none holds the error of Lengths against what is expected.
func none(t *testing.T, l []api.Part, at int, want api.Errno) {
	t.Helper()
	if got, e := lengths(t, l, at); got != nil || e != want {
		t.Errorf("Lengths(%v, %d): %v, %d; want %d", l, at, got, e, want)
	}
}

// read returns the parts of a text.
func read(t *testing.T, s string) []api.Part {
	t.Helper()
	d, at, e := parse.Parse("from 0 to 1: " + s)
	if e != api.OK {
		t.Fatal(s, at, e)
	}
	return d.T
}

// TestLengths: answers that are written out: each kind of part, each kind of child, each index (P18.2).
func TestLengths(t *testing.T) {
	children := "(atom 1 1 7) (order (atom 1 1 2) (atom 1 1 6)) (next (atom 1 1 2) (atom 1 1 3)) (any (atom 1 1 4) (atom 1 1 3)) (all (atom 1 1 5) (atom 1 1 9))"
	l := read(t, "(order "+children+")")
	known(t, l, 0, 7, 8, 5, 3, 9)
	known(t, l, 2, 2, 6)
	known(t, l, 5, 2, 3)
	for _, at := range []int{math.MinInt, -2, -1, 1, 3, 4, 6, 7, 8, 9, 10, 11, 12, 13, 14, 15, 64, math.MaxInt} {
		none(t, l, at, api.ErrArg)
	}
	for _, kind := range []string{"(any ", "(all "} {
		l := read(t, kind+children+")")
		none(t, l, 0, api.ErrArg)
		known(t, l, 2, 2, 6)
		known(t, l, 5, 2, 3)
	}
	none(t, read(t, "(atom 1 1 7)"), 0, api.ErrArg)
	none(t, read(t, "(atom 1 1 7)"), 1, api.ErrArg)
	known(t, read(t, "(next (atom 9 3 7))"), 0, 7)
	known(t, read(t, "(order (atom 4096 1 4096))"), 0, 4096)
	known(t, read(t, "(next (atom 1 1 4096) (atom 1 1 1) (atom 1 1 4096))"), 0, 4096, 1, 4096)
	// Parts that are deep, the last index, and the one behind it.
	l = read(t, "(all (atom 1 1 9) (any (all (order (order (any (next (atom 1 1 2) (atom 1 1 5))))))))")
	known(t, l, 4, 7)
	known(t, l, 5, 7)
	known(t, l, 7, 2, 5)
	none(t, l, 6, api.ErrArg)
	none(t, l, 9, api.ErrArg)
	none(t, l, 10, api.ErrArg)
}

// TestMany: as many children as there may be, and children that are longer than a stage may be (P18.2).
func TestMany(t *testing.T) {
	wide := func(kind uint8, kids int) []api.Part {
		l := []api.Part{group(kind, kids)}
		for i := range kids {
			l = append(l, atom(1, 1, span-int64(i)))
		}
		return l
	}
	for _, kind := range []uint8{api.PaOrder, api.PaNext} {
		for kids := 1; kids <= 16; kids++ {
			var want []int64
			for i := range int64(kids) {
				want = append(want, span-i)
			}
			known(t, wide(kind, kids), 0, want...)
			none(t, wide(kind, kids), kids, api.ErrArg)
			none(t, wide(kind, kids), kids+1, api.ErrArg)
		}
		none(t, wide(kind, 17), 0, api.ErrShape)
	}
	l := slices.Concat([]api.Part{group(api.PaOrder, 4)}, wide(1, 15), wide(2, 15), wide(1, 15), wide(2, 14))
	known(t, l, 0, 15*span-105, 15*span-105, 15*span-105, 14*span-91)
	none(t, l, 63, api.ErrArg)
	none(t, l, 64, api.ErrArg)
	none(t, append(l, atom(1, 1, 1)), 0, api.ErrShape)
}

// TestWrong: parts that are not valid, for one reason each, whatever the window and the index are (P18.2, R2).
func TestWrong(t *testing.T) {
	good := atom(1, 1, 1)
	chain := func(deep int) []api.Part {
		return append(slices.Repeat([]api.Part{group(api.PaOrder, 1)}, deep), good)
	}
	lists := [][]api.Part{nil, {}, chain(8), chain(7)[:7], append(chain(7), good), {group(api.PaOrder, 0)}, {group(api.PaNext, -1)}, {group(5, 1), good}, {group(255, 1), good},
		{group(api.PaNext, 1), group(api.PaOrder, 1), good}, {group(api.PaOrder, 2), good}, {group(api.PaOrder, math.MaxInt), good}, {{Kind: api.PaOrder, Kids: 1, D: 1}, good}, {{Kind: api.PaOrder, Kids: 1, N: 1}, good}}
	for n := range example() {
		lists = append(lists, example()[:n])
	}
	for _, p := range []api.Part{{}, atom(0, 1, 1), atom(4097, 1, 1), atom(3, 2, 1), atom(1, 0, 1), atom(1, 1, 0), atom(1, 1, 4097), atom(1, 1, -5), {N: 1, G: 1, D: 1, Kids: 1}} {
		lists = append(lists, []api.Part{group(api.PaOrder, 1), p}, []api.Part{group(api.PaNext, 3), good, good, p}, []api.Part{p})
	}
	for _, l := range lists {
		for _, at := range []int{math.MinInt, -1, 0, 1, 2, len(l) - 1, len(l), 100, math.MaxInt} {
			none(t, l, at, api.ErrShape)
		}
	}
	known(t, chain(7), 6, 1)
}

// TestRows: all short rows of parts, each index (P18.2).
func TestRows(t *testing.T) {
	alphabet := []api.Part{atom(1, 1, 2), atom(2, 1, 5), atom(4, 3, 1), group(api.PaOrder, 2), group(api.PaNext, 2), group(api.PaAny, 2), group(api.PaAll, 2)}
	rows := [][]api.Part{nil}
	some := 0
	for range 5 {
		var next [][]api.Part
		for _, l := range rows {
			for at := -1; at <= len(l); at++ {
				if _, e := lengths(t, l, at); e == api.OK {
					some++
				}
			}
			for _, p := range alphabet {
				next = append(next, append(l[:len(l):len(l)], p))
			}
		}
		rows = next
	}
	if some < 8 {
		t.Error(some)
	}
	for _, l := range sample.Terms(alphabet, 7) {
		for at := range l {
			lengths(t, l, at)
		}
	}
}

// TestDice: definitions of many shapes, and what becomes of them if a part is changed or left out (P18.2).
func TestDice(t *testing.T) {
	d := sample.Dice(2)
	some := [3]int{}
	for i := range 400 {
		l := d.Term(8, 64, uint8(1+i%4))
		for at := range l {
			if l[at].Kind == api.PaAtom {
				l[at].D = int64(1 + d.Below(4096))
			}
		}
		look := func(l []api.Part, at int) {
			switch _, e := lengths(t, l, at); e {
			case api.OK:
				some[0]++
			case api.ErrArg:
				some[1]++
			case api.ErrShape:
				some[2]++
			}
		}
		for at := range len(l) + 1 {
			look(l, at)
		}
		for range 4 {
			at := d.Below(len(l))
			other := slices.Clone(l)
			other[at].Kind = uint8(d.Below(6))
			look(other, d.Below(len(l)+1))
			look(slices.Delete(slices.Clone(l), at, at+1), d.Below(len(l)))
		}
	}
	if slices.Min(some[:]) < 500 {
		t.Error(some)
	}
}

// spoil writes over all of an answer, its spare capacity too.
func spoil[T any](l []T, with T) {
	l = l[:cap(l)]
	for i := range l {
		l[i] = with
	}
}

// TestArguments: what is handed in stays as it was, behind its length too, and is not kept; answers are new memory, and the same each time (P1, R4, R5).
func TestArguments(t *testing.T) {
	whole := row(3, 5, 2, 1, 7, -1, span)
	for n := range whole {
		for _, w := range []api.Win{win(0, 20), win(0, 10), win(0, 3), win(7, 7), win(-9, 100), win(late, late+9)} {
			for way := range uint8(4) {
				l := slices.Clone(whole)
				slack, se := stage.Slack(w, l[:n])
				a, e := stage.Split(w, l[:n], way)
				b, _ := stage.Split(w, l[:n], way)
				if !slices.Equal(l, whole) {
					t.Fatal(n, w, way, l)
				}
				was := slices.Clone(a)
				spoil(a, win(-77, -77))
				if !slices.Equal(b, was) {
					t.Fatal(n, w, way, b, was)
				}
				spoil(l, -77)
				other, _ := stage.Split(win(1, 4000), row(9, 8, 7), (way+1)%3)
				again, ae := stage.Split(w, whole[:n], way)
				slack2, se2 := stage.Slack(w, whole[:n])
				if !slices.Equal(b, was) || !slices.Equal(again, was) || ae != e || slack2 != slack || se2 != se || other[2].To != 4000 {
					t.Fatal(n, w, way, b, again, was)
				}
			}
		}
	}
}

// TestParts: a definition that is handed in stays as it was, behind the length of its parts too, and is not kept; answers are new memory, and the same each time (P1, R4, R5).
func TestParts(t *testing.T) {
	whole := append(example(), atom(7, 8, 9), group(6, 6))
	for _, n := range []int{5, 4, 6, 0} {
		for at := -1; at < 6; at++ {
			for _, w := range windows {
				parts := slices.Clone(whole)
				d := api.Def{From: w.From, To: w.To, T: parts[:n]}
				a, e := stage.Lengths(d, at)
				b, _ := stage.Lengths(d, at)
				if !slices.Equal(parts, whole) || len(d.T) != n || win(d.From, d.To) != w {
					t.Fatal(n, at, w, parts, d)
				}
				was := slices.Clone(a)
				spoil(a, -77)
				spoil(parts, atom(1, 1, 77))
				again, ae := stage.Lengths(api.Def{From: w.From, To: w.To, T: whole[:n]}, at)
				if !slices.Equal(b, was) || !slices.Equal(again, was) || ae != e {
					t.Fatal(n, at, w, b, again, was)
				}
			}
		}
	}
}
