package sat_test

import (
	"math"
	"slices"
	"testing"

	"livery/api"
	"livery/norm"
	"livery/parse"
	"livery/rle"
	"livery/sample"
	"livery/sat"
	"livery/shape"
	"livery/vec"
)

var (
	atom  = sample.Atom
	group = sample.Group
	piece = sample.Piece
	seg   = sample.Seg
)

// most is the greatest time, and the greatest distance of a time from 0.
const most = 1 << 40

// unit is a container's resources.
var unit = sample.Vec(3, 2)

// read returns the definition of a text.
func read(t *testing.T, s string) api.Def {
	t.Helper()
	d, at, e := parse.Parse(s)
	if e != api.OK {
		t.Fatal(s, at, e)
	}
	return d
}

// example returns the document's definition T.
func example(t *testing.T) api.Def {
	t.Helper()
	return read(t, "from 0 to 100: (order (atom 2 1 10) (any (atom 4 2 5) (atom 1 1 20)))")
}

// pieces returns the pieces of the term of the part at at.
func pieces(l []api.Part, w []api.Piece, at int) []api.Piece {
	var own []api.Piece
	for _, p := range w {
		if at <= p.Part && p.Part < sample.Behind(l, at) {
			own = append(own, p)
		}
	}
	return own
}

// ends returns the begin and the end of the pieces.
func ends(l []api.Part, w []api.Piece) (begin, end int64) {
	for i, p := range w {
		if i == 0 || p.At < begin {
			begin = p.At
		}
		if i == 0 || p.At+l[p.Part].D > end {
			end = p.At + l[p.Part].D
		}
	}
	return begin, end
}

// holds reports by the document's table whether the term of the part at at is satisfied.
func holds(l []api.Part, w []api.Piece, at int) bool {
	kind := l[at].Kind
	if kind == 0 {
		return len(pieces(l, w, at)) == 1
	}
	kids := sample.Children(l, at)
	if kind == 3 {
		used := slices.DeleteFunc(kids, func(k int) bool { return len(pieces(l, w, k)) == 0 })
		return len(used) == 1 && holds(l, w, used[0])
	}
	for _, k := range kids {
		if !holds(l, w, k) {
			return false
		}
	}
	for i := 1; i < len(kids); i++ {
		_, end := ends(l, pieces(l, w, kids[i-1]))
		begin, _ := ends(l, pieces(l, w, kids[i]))
		if kind == 1 && end > begin || kind == 2 && end != begin {
			return false
		}
	}
	return true
}

// used returns what w uses at the time at.
func used(l []api.Part, w []api.Piece, u api.Vec, at int64) api.Vec {
	var v api.Vec
	for _, p := range w {
		if p.At <= at && at < p.At+l[p.Part].D {
			n := int64(l[p.Part].N)
			v = sample.Vec(v.Mem+n*u.Mem, v.Cores+n*u.Cores)
		}
	}
	return v
}

// usage holds what Use answers against what the pieces use wherever one of them begins or ends, and a tick beside, and returns it.
func usage(t *testing.T, d api.Def, w []api.Piece, u api.Vec) []api.Seg {
	t.Helper()
	f, e := sat.Use(d, w, u)
	if e != api.OK || !rle.May(f) || len(f) == 0 && f != nil {
		t.Fatalf("Use(%v, %v, %v) = %v, %d", d, w, u, f, e)
	}
	for _, p := range w {
		for _, at := range []int64{p.At, p.At + d.T[p.Part].D} {
			for _, x := range []int64{at - 1, at, at + 1} {
				if v := used(d.T, w, u, x); sample.Value(f, x) != v {
					t.Fatalf("Use(%v, %v, %v) = %v; expected %v at %d", d, w, u, f, v, x)
				}
			}
		}
	}
	if begin, end := ends(d.T, w); len(f) > 0 && (f[0].At != begin || f[len(f)-1].At != end) {
		t.Fatal(d, w, f, begin, end)
	}
	return f
}

// told holds what is answered for the term of the part at at, of a definition and a witness that are valid, against the document's words, and reports whether it is satisfied.
func told(t *testing.T, d api.Def, w []api.Piece, at int) bool {
	t.Helper()
	own := pieces(d.T, w, at)
	want := holds(d.T, w, at)
	b, c := ends(d.T, own)
	is, e := sat.Term(d, w, at)
	begin, end, placed, f := sat.Ends(d, w, at)
	length, g := sat.Short(d, at)
	if is != want || begin != b || end != c || placed != (len(own) > 0) || length != sample.Shortest(d.T, at) || e != api.OK || f != api.OK || g != api.OK {
		t.Fatalf("%v, %v at %d: %t, %d; %d to %d, %t, %d; %d, %d; expected %t, %d to %d, %d", d, w, at, is, e, begin, end, placed, f, length, g, want, b, c, sample.Shortest(d.T, at))
	}
	if is && (!placed || end-begin < length) {
		t.Fatal(d, w, at, begin, end, length)
	}
	return is
}

// satisfied holds what Sat answers, for a definition and a witness that are valid, against the document's words, and against the laws of P10.4.
func satisfied(t *testing.T, d api.Def, w []api.Piece) bool {
	t.Helper()
	begin, end := ends(d.T, w)
	is := sat.Sat(d, w)
	if is != (holds(d.T, w, 0) && d.From <= begin && end <= d.To) {
		t.Fatalf("Sat(%v, %v) = %t", d, w, is)
	}
	if !is {
		return false
	}
	f := usage(t, d, w, unit)
	for _, s := range f {
		n, e := vec.Units(s.V, unit)
		if e != api.OK || sample.Vec(n*unit.Mem, n*unit.Cores) != s.V || s.At < d.From || s.At > d.To {
			t.Fatal(d, w, f)
		}
	}
	if first, last, finite := rle.Ends(f); first != begin || last != end || !finite || len(w) == 0 {
		t.Fatal(d, w, f)
	}
	return true
}

// whole holds all that is answered for a definition and a witness that are valid against the document's words, and reports whether the definition is satisfied.
func whole(t *testing.T, d api.Def, w []api.Piece) bool {
	t.Helper()
	for at := range d.T {
		told(t, d, w, at)
	}
	usage(t, d, w, unit)
	return satisfied(t, d, w)
}

// refused holds the error of all calls for a definition, a witness, an index and a unit.
func refused(t *testing.T, d api.Def, w []api.Piece, at int, u api.Vec, want api.Errno) {
	t.Helper()
	is, e := sat.Term(d, w, at)
	begin, end, placed, f := sat.Ends(d, w, at)
	l, g := sat.Use(d, w, u)
	if is || begin != 0 || end != 0 || placed || l != nil || e != want || f != want || g != want {
		t.Errorf("%v, %v at %d, %v: %t, %d; %d, %d, %t, %d; %v, %d; expected %d", d, w, at, u, is, e, begin, end, placed, f, l, g, want)
	}
}

// TestExamples: the document's examples (P10.1, P10.2, P10.3).
func TestExamples(t *testing.T) {
	d := example(t)
	for _, x := range []struct {
		w        []api.Piece
		is, term bool
		use      []api.Seg
	}{
		{[]api.Piece{piece(1, 0), piece(3, 10)}, true, true, []api.Seg{seg(0, 6, 4), seg(10, 12, 8), seg(15, 0, 0)}},
		{[]api.Piece{piece(1, 0), piece(3, 9)}, false, false, []api.Seg{seg(0, 6, 4), seg(9, 18, 12), seg(10, 12, 8), seg(14, 0, 0)}},
		{[]api.Piece{piece(1, 0), piece(3, 10), piece(4, 20)}, false, false, []api.Seg{seg(0, 6, 4), seg(10, 12, 8), seg(15, 0, 0), seg(20, 3, 2), seg(40, 0, 0)}},
		{[]api.Piece{piece(1, 0)}, false, false, []api.Seg{seg(0, 6, 4), seg(10, 0, 0)}},
		{[]api.Piece{piece(1, 80), piece(4, 90)}, false, true, []api.Seg{seg(80, 6, 4), seg(90, 3, 2), seg(110, 0, 0)}},
	} {
		is, e := sat.Term(d, x.w, 0)
		f, g := sat.Use(d, x.w, unit)
		if sat.Sat(d, x.w) != x.is || is != x.term || !slices.Equal(f, x.use) || e != api.OK || g != api.OK {
			t.Error(x.w, is, e, f, g)
		}
		whole(t, d, x.w)
	}
	a, e := sat.Short(d, 0)
	b, f := sat.Short(d, 2)
	if a != 15 || b != 5 || e != api.OK || f != api.OK {
		t.Error(a, e, b, f)
	}
}

// TestKinds: what each kind requires, and just not that (P10.1, P10.2).
func TestKinds(t *testing.T) {
	for _, x := range []struct {
		term string
		w    []api.Piece
		is   bool
	}{
		{"(atom 1 1 5)", []api.Piece{piece(0, 3)}, true},
		{"(atom 1 1 5)", nil, false},
		{"(order (atom 1 1 5) (atom 1 1 5) (atom 1 1 5))", []api.Piece{piece(1, 0), piece(2, 5), piece(3, 10)}, true},
		{"(order (atom 1 1 5) (atom 1 1 5) (atom 1 1 5))", []api.Piece{piece(1, 0), piece(2, 7), piece(3, 30)}, true},
		{"(order (atom 1 1 5) (atom 1 1 5) (atom 1 1 5))", []api.Piece{piece(1, 0), piece(2, 4), piece(3, 10)}, false},
		{"(order (atom 1 1 5) (atom 1 1 5) (atom 1 1 5))", []api.Piece{piece(1, 0), piece(2, 5), piece(3, 9)}, false},
		{"(order (atom 1 1 5) (atom 1 1 5) (atom 1 1 5))", []api.Piece{piece(1, 0), piece(3, 10)}, false},
		{"(order (atom 1 1 5) (atom 1 1 5) (atom 1 1 5))", []api.Piece{piece(2, 5), piece(3, 10)}, false},
		{"(order (atom 1 1 5) (atom 1 1 5) (atom 1 1 5))", []api.Piece{piece(1, 0), piece(2, 5)}, false},
		{"(order (atom 1 1 5) (atom 1 1 5))", []api.Piece{piece(1, 20), piece(2, 0)}, false},
		{"(order (all (atom 1 1 5) (atom 1 1 9)) (all (atom 1 1 5) (atom 1 1 1)))", []api.Piece{piece(2, 3), piece(3, 0), piece(5, 9), piece(6, 12)}, true},
		{"(order (all (atom 1 1 5) (atom 1 1 9)) (all (atom 1 1 5) (atom 1 1 1)))", []api.Piece{piece(2, 3), piece(3, 0), piece(5, 9), piece(6, 8)}, false},
		{"(order (all (atom 1 1 5) (atom 1 1 9)) (all (atom 1 1 5) (atom 1 1 1)))", []api.Piece{piece(2, 5), piece(3, 0), piece(5, 9), piece(6, 10)}, false},
		{"(next (atom 1 1 5) (atom 1 1 2) (atom 1 1 5))", []api.Piece{piece(1, 1), piece(2, 6), piece(3, 8)}, true},
		{"(next (atom 1 1 5) (atom 1 1 2) (atom 1 1 5))", []api.Piece{piece(1, 1), piece(2, 5), piece(3, 8)}, false},
		{"(next (atom 1 1 5) (atom 1 1 2) (atom 1 1 5))", []api.Piece{piece(1, 1), piece(2, 6), piece(3, 9)}, false},
		{"(next (atom 1 1 5) (atom 1 1 2) (atom 1 1 5))", []api.Piece{piece(1, 1), piece(2, 6)}, false},
		{"(next (atom 1 1 5))", []api.Piece{piece(1, 45)}, true},
		{"(next (atom 1 1 5) (atom 1 1 2))", []api.Piece{piece(2, 0)}, false},
		{"(any (atom 1 1 5) (atom 1 1 2))", []api.Piece{piece(1, 0)}, true},
		{"(any (atom 1 1 5) (atom 1 1 2))", []api.Piece{piece(2, 48)}, true},
		{"(any (atom 1 1 5) (atom 1 1 2))", []api.Piece{piece(1, 0), piece(2, 20)}, false},
		{"(any (atom 1 1 5) (atom 1 1 2))", nil, false},
		{"(any (all (atom 1 1 5) (atom 1 1 5)) (atom 1 1 2))", []api.Piece{piece(2, 0)}, false},
		{"(any (all (atom 1 1 5) (atom 1 1 5)) (atom 1 1 2))", []api.Piece{piece(2, 0), piece(4, 0)}, false},
		{"(any (all (atom 1 1 5) (atom 1 1 5)) (atom 1 1 2))", []api.Piece{piece(2, 0), piece(3, 0)}, true},
		{"(all (atom 1 1 5) (atom 1 1 2))", []api.Piece{piece(1, 0), piece(2, 0)}, true},
		{"(all (atom 1 1 5) (atom 1 1 2))", []api.Piece{piece(1, 40), piece(2, 0)}, true},
		{"(all (atom 1 1 5) (atom 1 1 2))", []api.Piece{piece(1, 40)}, false},
		{"(all (atom 1 1 5) (atom 1 1 2))", []api.Piece{piece(2, 40)}, false},
		{"(all (any (atom 1 1 5) (atom 1 1 2)) (atom 1 1 2))", []api.Piece{piece(2, 0), piece(3, 0), piece(4, 0)}, false},
	} {
		d := read(t, "from 0 to 50: "+x.term)
		if is, e := sat.Term(d, x.w, 0); is != x.is || e != api.OK || sat.Sat(d, x.w) != x.is {
			t.Error(x.term, x.w, is, e)
		}
		whole(t, d, x.w)
	}
}

// TestWindow: all pieces must be in the definition's window, for Sat alone (P10.1).
func TestWindow(t *testing.T) {
	d := api.Def{From: 10, To: 30, T: []api.Part{group(api.PaAll, 2), atom(1, 1, 5), atom(1, 1, 2)}}
	for at := int64(-30); at < 60; at++ {
		for _, other := range []int64{9, 10, 20, 28, 29} {
			is := whole(t, d, []api.Piece{piece(1, at), piece(2, other)})
			if is != (10 <= at && at <= 25 && 10 <= other && other <= 28) {
				t.Error(at, other, is)
			}
			if term, e := sat.Term(d, []api.Piece{piece(1, at), piece(2, other)}, 0); !term || e != api.OK {
				t.Error(at, other, term, e)
			}
		}
	}
	for _, from := range []int64{0, 1, most - 4096} {
		full := api.Def{From: from, To: from + 4096, T: []api.Part{atom(1, 1, 4096)}}
		for d := int64(-1); d < 2; d++ {
			if is := whole(t, full, []api.Piece{piece(0, max(-most, min(from+d, most)))}); is != (d == 0) {
				t.Error(from, d, is)
			}
		}
	}
}

// TestTimes: pieces can begin at any time up to 2^40 from 0, and at no other one (P10.1, P10.2, P10.3).
func TestTimes(t *testing.T) {
	d := api.Def{To: 50, T: []api.Part{group(api.PaAll, 2), atom(1, 1, 5), atom(1, 1, 4096)}}
	for _, at := range []int64{-most, -most + 1, -1, 0, most - 1, most} {
		for _, other := range []int64{-most, 0, most} {
			whole(t, d, []api.Piece{piece(1, at), piece(2, other)})
		}
	}
	if begin, end, is, e := sat.Ends(d, []api.Piece{piece(1, -most), piece(2, most)}, 0); begin != -most || end != most+4096 || !is || e != api.OK {
		t.Error(begin, end, is, e)
	}
	for _, at := range []int64{math.MinInt64, math.MinInt64 + 1, -1 << 50, -most - 1, most + 1, 1 << 50, math.MaxInt64 - 4096, math.MaxInt64} {
		for _, w := range [][]api.Piece{{piece(1, at)}, {piece(2, at)}, {piece(1, at), piece(2, 0)}, {piece(1, 0), piece(2, at)}, {piece(1, at), piece(2, at)}} {
			refused(t, d, w, 0, unit, api.ErrRange)
			refused(t, d, w, 1, unit, api.ErrRange)
			if sat.Sat(d, w) {
				t.Error(w)
			}
		}
	}
}

// TestPieces: parts that are not strictly increasing, or no atoms, are no witness (P10.1, P10.2, P10.3).
func TestPieces(t *testing.T) {
	d := example(t)
	for _, w := range [][]api.Piece{
		{piece(0, 0)}, {piece(2, 0)}, {piece(5, 0)}, {piece(-1, 0)}, {piece(64, 0)}, {piece(math.MinInt, 0)}, {piece(math.MaxInt, 0)},
		{piece(1, 0), piece(1, 0)}, {piece(1, 0), piece(1, 10)}, {piece(3, 10), piece(1, 0)}, {piece(1, 0), piece(4, 10), piece(3, 10)},
		{piece(1, 0), piece(3, 10), piece(3, 10)}, {piece(1, 0), piece(2, 5), piece(3, 10)}, {piece(0, 0), piece(1, 0), piece(3, 10)}, {piece(1, 0), piece(3, 10), piece(5, 20)}, {piece(-1, 0), piece(1, 0), piece(3, 10)},
		{piece(1, 0), piece(3, 10), piece(4, 20), piece(5, 9)}, {piece(math.MinInt, 0), piece(math.MaxInt, 0)},
	} {
		for at := range d.T {
			refused(t, d, w, at, unit, api.ErrArg)
		}
		if sat.Sat(d, w) {
			t.Error(w)
		}
		// A time that is out of range counts only behind that.
		for i := range w {
			far := slices.Clone(w)
			far[i].At = most + 1
			refused(t, d, far, 0, unit, api.ErrArg)
		}
	}
}

// TestIndex: an index that no part has is refused, also if a time is out of range (P10.1, P10.2, P10.3).
func TestIndex(t *testing.T) {
	d := example(t)
	for _, at := range []int{math.MinInt, -2, -1, 5, 6, 63, 64, math.MaxInt} {
		for _, w := range [][]api.Piece{nil, {piece(1, 0), piece(3, 10)}, {piece(1, most+1)}} {
			refused(t, d, w, at, sample.Vec(0, 1), api.ErrArg)
		}
		if n, e := sat.Short(d, at); n != 0 || e != api.ErrArg {
			t.Error(at, n, e)
		}
	}
}

// TestUnit: which units there are; what is refused is also if a time is out of range (P10.3).
func TestUnit(t *testing.T) {
	d := example(t)
	w := []api.Piece{piece(1, 0), piece(3, 9)}
	numbers := []int64{math.MinInt64, -1 << 30, -1, 0, 1, 2, 1<<30 - 1, 1 << 30, 1<<30 + 1, 1 << 50, math.MaxInt64}
	for _, mem := range numbers {
		for _, cores := range numbers {
			u := sample.Vec(mem, cores)
			if 1 <= min(mem, cores) && max(mem, cores) <= 1<<30 {
				usage(t, d, w, u)
				usage(t, d, nil, u)
				continue
			}
			for _, w := range [][]api.Piece{nil, w, {piece(1, most+1)}, {piece(0, 0)}} {
				if f, e := sat.Use(d, w, u); f != nil || e != api.ErrArg {
					t.Error(u, w, f, e)
				}
			}
		}
	}
}

// TestMost: as many atoms as there may be, of as many containers, of as great a unit, at the times farthest away (P10.3).
func TestMost(t *testing.T) {
	wide := append([]api.Part{group(api.PaAll, 15)}, slices.Repeat([]api.Part{atom(4096, 4096, 4096)}, 15)...)
	l := slices.Concat([]api.Part{group(api.PaAll, 4)}, wide, wide, wide, wide[:15])
	l[1+3*16].Kids = 14
	atoms := shape.Atoms(l)
	if len(l) != 64 || len(atoms) != 59 {
		t.Fatal(len(l), len(atoms))
	}
	great := sample.Vec(1<<30, 1<<30)
	d := api.Def{From: most - 4096, To: most, T: l}
	for _, at := range []int64{-most, -5, 0, most - 4096, most} {
		var w, steps []api.Piece
		for i, part := range atoms {
			step := int64(i)
			if at > 0 {
				step = -step
			}
			w = append(w, piece(part, at))
			steps = append(steps, piece(part, at+step))
		}
		if f := usage(t, d, w, great); !slices.Equal(f, []api.Seg{seg(at, 59<<42, 59<<42), seg(at+4096, 0, 0)}) {
			t.Error(at, f)
		}
		if whole(t, d, w) != (at == most-4096) {
			t.Error(at)
		}
		usage(t, d, steps, great)
	}
	if n, e := sat.Short(d, 0); n != 4096 || e != api.OK {
		t.Error(n, e)
	}
	for i := range l {
		if l[i].Kids > 0 {
			l[i].Kind = api.PaOrder
		}
	}
	if n, e := sat.Short(api.Def{To: 1, T: l}, 0); n != 59*4096 || e != api.OK {
		t.Error(n, e)
	}
}

// TestShape: definitions that are not valid are refused ahead of all else, whatever is wrong with them (P10.1, P10.2, P10.3).
func TestShape(t *testing.T) {
	good := atom(1, 1, 1)
	deep := append(slices.Repeat([]api.Part{group(api.PaAll, 1)}, 8), good)
	l := []api.Def{
		{}, {To: 50}, {T: []api.Part{good}}, {From: 5, To: 4, T: []api.Part{good}}, {From: -1, To: 1, T: []api.Part{good}}, {To: 4097, T: []api.Part{good}}, {From: most, To: most + 1, T: []api.Part{good}}, {From: math.MinInt64, To: math.MaxInt64, T: []api.Part{good}},
	}
	for _, parts := range [][]api.Part{
		{{}}, {atom(3, 2, 1)}, {atom(4097, 1, 1)}, {atom(1, 1, 4097)}, {atom(1, 1, 0)}, {good, good}, {group(api.PaAll, 2), good}, {group(api.PaAny, 0)}, {group(api.PaAny, -1)}, {group(api.PaAny, math.MaxInt), good}, {group(5, 1), good}, {group(255, 1), good},
		{group(api.PaNext, 1), group(api.PaAll, 1), good}, append([]api.Part{group(api.PaAll, 17)}, slices.Repeat([]api.Part{good}, 17)...), deep,
	} {
		l = append(l, api.Def{To: 50, T: parts})
	}
	for _, d := range l {
		for _, w := range [][]api.Piece{nil, {piece(0, 0)}, {piece(len(d.T)-1, 0)}, {piece(-1, 0)}, {piece(0, most+1)}, {piece(0, math.MinInt64)}} {
			for _, at := range []int{0, len(d.T) - 1, len(d.T), -1, math.MaxInt} {
				refused(t, d, w, at, unit, api.ErrShape)
				refused(t, d, w, at, api.Vec{}, api.ErrShape)
				if n, e := sat.Short(d, at); n != 0 || e != api.ErrShape {
					t.Error(d, at, n, e)
				}
			}
			if sat.Sat(d, w) {
				t.Error(d, w)
			}
		}
	}
}

// TestEmpty: a witness without pieces satisfies nothing, uses nothing, and never begins (P10.4).
func TestEmpty(t *testing.T) {
	for _, s := range []string{"(atom 1 1 1)", "(order (atom 1 1 1))", "(next (atom 1 1 1) (atom 1 1 1))", "(any (atom 1 1 1) (atom 1 1 1))", "(all (any (atom 1 1 1)))"} {
		d := read(t, "from 0 to 50: "+s)
		for _, w := range [][]api.Piece{nil, {}} {
			if whole(t, d, w) {
				t.Error(s)
			}
			for at := range d.T {
				if told(t, d, w, at) {
					t.Error(s, at)
				}
			}
		}
	}
}

// TestRows: all short definitions, with all their witnesses; and their normal forms (P10.1, P10.2, P10.3, P10.4, P10.5).
func TestRows(t *testing.T) {
	alphabet := []api.Part{atom(1, 1, 1), atom(4, 2, 2)}
	for kind := api.PaOrder; kind <= api.PaAll; kind++ {
		alphabet = append(alphabet, group(kind, 1), group(kind, 2), group(kind, 3))
	}
	var all [6][][]api.Piece
	for n := range all {
		all[n] = sample.Witnesses(n, []int64{0, 6, 5, 5, 4, 3}[n])
	}
	defs, good, bad := 0, 0, 0
	for _, l := range sample.Terms(alphabet, 5) {
		d := api.Def{From: 1, To: 5, T: l}
		if _, e := shape.Check(d); e != api.OK {
			continue
		}
		defs++
		for _, w := range all[len(l)] {
			switch {
			case slices.ContainsFunc(w, func(p api.Piece) bool { return l[p.Part].Kind != api.PaAtom }):
				if sat.Sat(d, w) {
					t.Fatal(d, w)
				}
			case whole(t, d, w):
				good++
			default:
				bad++
			}
		}
		normal(t, d, all[:])
	}
	t.Log(defs, good, bad)
	if defs < 1000 || good < 5000 || bad < 5000 {
		t.Error(defs, good, bad)
	}
}

// normal holds P10.5 for all witnesses of d's normal form.
func normal(t *testing.T, d api.Def, all [][][]api.Piece) {
	t.Helper()
	n, from, e := norm.Norm(d)
	if e != api.OK {
		t.Fatal(d, e)
	}
	for _, w := range all[len(n.T)] {
		back(t, d, n, from, w)
	}
}

// back holds P10.5 for a witness of the normal form n of d, and reports whether it satisfies both.
func back(t *testing.T, d, n api.Def, from []int, w []api.Piece) bool {
	t.Helper()
	x, e := norm.Back(from, w)
	is := sat.Sat(n, w)
	f, g := sat.Use(n, w, unit)
	h, i := sat.Use(d, x, unit)
	if e != api.OK || is != sat.Sat(d, x) || !slices.Equal(f, h) || g != i {
		t.Fatal(d, n, from, w, x, is, f, g, h, i)
	}
	return is
}

// spoiled returns w with something changed, so that it is still a witness of l.
func spoiled(x *sample.Dice, l []api.Part, w []api.Piece) []api.Piece {
	w = slices.Clone(w)
	at := x.Below(len(w))
	switch x.Below(4) {
	case 0:
		w = slices.Delete(w, at, at+1)
	case 1:
		w[at].At += int64(x.Below(5) - 2)
	case 2:
		w[at].At = int64(x.Below(2000) - 1000)
	case 3:
		atoms := shape.Atoms(l)
		part := atoms[x.Below(len(atoms))]
		i, is := slices.BinarySearchFunc(w, part, func(p api.Piece, part int) int { return p.Part - part })
		if !is {
			w = slices.Insert(w, i, piece(part, int64(x.Below(20))))
		}
	}
	return w
}

// TestDice: definitions of many shapes, with witnesses that satisfy them, and with such as are changed; and their normal forms (P10.1 to P10.5).
func TestDice(t *testing.T) {
	x := sample.Dice(1)
	terms, good, bad, forms := 0, 0, 0, 0
	for i := range 600 {
		d := api.Def{From: 1, To: 60, T: x.Term(8, 64, uint8(1+i%4))}
		w, _, _ := x.Place(d.T, 0, int64(x.Below(4)))
		if told(t, d, w, 0) {
			terms++
		}
		for range 4 {
			if whole(t, d, w) {
				good++
			} else {
				bad++
			}
			if len(w) > 0 {
				w = spoiled(&x, d.T, w)
			}
		}
		n, from, _ := norm.Norm(d)
		w, _, _ = x.Place(n.T, 0, int64(x.Below(4)))
		if back(t, d, n, from, w) {
			forms++
		}
		back(t, d, n, from, spoiled(&x, n.T, w))
	}
	t.Log(terms, good, bad, forms)
	if terms != 600 || good < 400 || bad < 800 || forms < 300 {
		t.Error(terms, good, bad, forms)
	}
}

// TestMemory: arguments stay as they are, behind their length too; what is answered is nobody else's (P1, R5).
func TestMemory(t *testing.T) {
	parts := append(example(t).T, atom(7, 8, 9), group(6, 6))
	pieces := []api.Piece{piece(1, 0), piece(3, 10), piece(9, 9), piece(-1, -1)}
	wasParts, wasPieces := slices.Clone(parts), slices.Clone(pieces)
	d, w := api.Def{To: 100, T: parts[:5]}, pieces[:2]
	whole(t, d, w)
	f, _ := sat.Use(d, w, unit)
	g, _ := sat.Use(d, w, unit)
	sample.Spoil(g)
	if !slices.Equal(f, usage(t, d, w, unit)) || !slices.Equal(parts, wasParts) || !slices.Equal(pieces, wasPieces) {
		t.Error(f, parts, pieces)
	}
}
