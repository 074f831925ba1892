package shape_test

import (
	"math"
	"slices"
	"testing"

	"livery/api"
	"livery/shape"
)

// atom returns an atom.
func atom(n, g uint32, d int64) api.Part { return api.Part{N: n, G: g, D: d} }

// group returns a part that is no atom.
func group(kind uint8, kids int) api.Part { return api.Part{Kind: kind, Kids: kids} }

// good is an atom that is valid.
var good = atom(1, 1, 1)

// example returns the parts of the document's definition T.
func example() []api.Part {
	return []api.Part{group(api.PaOrder, 2), atom(2, 1, 10), group(api.PaAny, 2), atom(4, 2, 5), atom(1, 1, 20)}
}

// nested returns an atom within so many parts of that kind.
func nested(kind uint8, deep int) []api.Part {
	return append(slices.Repeat([]api.Part{group(kind, 1)}, deep), good)
}

// checked holds what Check answers for the parts against what is expected, and what Kids, End and Depth answer besides.
func checked(t *testing.T, l []api.Part, at int, we api.Errno) {
	t.Helper()
	if i, e := shape.Check(api.Def{From: 3, To: 4, T: l}); i != at || e != we {
		t.Fatalf("Check of %v = %d, %d; expected %d, %d", l, i, e, at, we)
	}
	if we == api.OK {
		navigated(t, l)
		return
	}
	for _, i := range []int{math.MinInt, -1, 0, 1, len(l) - 1, len(l), math.MaxInt} {
		none(t, l, i, api.ErrShape)
	}
}

// none holds what Kids, End and Depth answer against an error.
func none(t *testing.T, l []api.Part, at int, we api.Errno) {
	t.Helper()
	kids, e := shape.Kids(l, at)
	end, f := shape.End(l, at)
	depth, g := shape.Depth(l, at)
	if kids != nil || end != 0 || depth != 0 || e != we || f != we || g != we {
		t.Fatalf("of %v at %d: %v, %d; %d, %d; %d, %d; expected %d", l, at, kids, e, end, f, depth, g, we)
	}
}

// place is where a part is, by the tree as it is read by itself.
type place struct {
	kids       []int
	end, depth int
}

// tree reads the part at at, and all that is in it, into the places; what it is in is so deep.
func tree(l []api.Part, at, depth int, all []place) int {
	p := place{end: at + 1, depth: depth + 1}
	for range l[at].Kids {
		p.kids = append(p.kids, p.end)
		p.end = tree(l, p.end, p.depth, all)
	}
	all[at] = p
	return p.end
}

// navigated holds what Kids, End, Depth and Atoms answer for the parts of a valid definition against the tree, and against the laws of P8.4.
func navigated(t *testing.T, l []api.Part) {
	t.Helper()
	all := make([]place, len(l))
	if n := tree(l, 0, 0, all); n != len(l) {
		t.Fatal(l, n)
	}
	children := make([]int, len(l)) // of how many parts each is the child
	for at, want := range all {
		kids, e := shape.Kids(l, at)
		end, f := shape.End(l, at)
		depth, g := shape.Depth(l, at)
		if !slices.Equal(kids, want.kids) || len(kids) == 0 && kids != nil || end != want.end || depth != want.depth || e != api.OK || f != api.OK || g != api.OK {
			t.Fatalf("of %v at %d: %v, %d; %d, %d; %d, %d; expected %v", l, at, kids, e, end, f, depth, g, want)
		}
		last := at
		for _, k := range kids {
			if k <= last || k >= end {
				t.Fatal(l, at, kids, end)
			}
			d, _ := shape.Depth(l, k)
			if d != depth+1 {
				t.Fatal(l, at, k, d)
			}
			children[k]++
			last = k
		}
	}
	for at, n := range children {
		if n != min(at, 1) {
			t.Fatal(l, at, n)
		}
	}
	for _, at := range []int{math.MinInt, -2, -1, len(l), len(l) + 1, math.MaxInt} {
		none(t, l, at, api.ErrArg)
	}
}

// finding is a row of the document's table that applies: where, and with which error.
type finding struct {
	at int
	e  api.Errno
}

// reader is the reference: the parts by the document's words, as a tree that reads itself, and all that is found in it.
type reader struct {
	l     []api.Part
	found []finding
}

// add notes that a row of the table applies.
func (r *reader) add(at int, e api.Errno) { r.found = append(r.found, finding{at, e}) }

// part reads the part at at, of so much depth, a child of a part of that kind, and returns the index behind it.
func (r *reader) part(at, depth int, parent uint8) int {
	if at >= len(r.l) {
		r.add(at, api.ErrShape)
		return at
	}
	p := r.l[at]
	bad := p.Kids < 1 || p.Kids > 16 || p.N != 0 || p.G != 0 || p.D != 0
	switch p.Kind {
	case 0:
		bad = true
		if p.Kids == 0 && 1 <= p.N && p.N <= 4096 && 1 <= p.D && p.D <= 4096 {
			for gangs := range p.N { // N is so many gangs of G, but one
				bad = bad && uint64(gangs+1)*uint64(p.G) != uint64(p.N)
			}
		}
	case 1, 2, 3, 4:
	default:
		bad = true
	}
	if bad || at == 64 || parent == 2 && p.Kind != 0 {
		r.add(at, api.ErrShape)
	}
	if depth > 8 {
		r.add(at, api.ErrDeep)
	}
	at++
	if p.Kids > 16 || depth > 8 { // what is found behind counts no more
		return at
	}
	for i := 0; i < p.Kids; i++ {
		at = r.part(at, depth+1, p.Kind)
	}
	return at
}

// reference is Check of the parts by the document's words: of what is found the one with the lowest index, the depth coming last.
func reference(l []api.Part) (int, api.Errno) {
	r := &reader{l: l}
	at := r.part(0, 1, 0)
	if at < len(l) {
		r.add(at, api.ErrShape)
	}
	first := finding{}
	for i, f := range r.found {
		if i == 0 || f.at < first.at || f.at == first.at && f.e == api.ErrShape {
			first = f
		}
	}
	return first.at, first.e
}

// compared holds all that is answered for the parts against the reference, and returns the error.
func compared(t *testing.T, l []api.Part) api.Errno {
	t.Helper()
	at, e := reference(l)
	checked(t, l, at, e)
	return e
}

// TestExamples: the document's examples (P8.1, P8.2, P8.3).
func TestExamples(t *testing.T) {
	l := example()
	d := api.Def{From: 0, To: 100, T: l}
	if at, e := shape.Check(d); at != 0 || e != api.OK {
		t.Error(at, e)
	}
	a, e := shape.Kids(l, 0)
	b, f := shape.Kids(l, 2)
	if e != api.OK || f != api.OK || !slices.Equal(a, []int{1, 2}) || !slices.Equal(b, []int{3, 4}) {
		t.Error(a, e, b, f)
	}
	if end, e := shape.End(l, 2); end != 5 || e != api.OK {
		t.Error(end, e)
	}
	if depth, e := shape.Depth(l, 4); depth != 3 || e != api.OK {
		t.Error(depth, e)
	}
	if a := shape.Atoms(l); !slices.Equal(a, []int{1, 3, 4}) {
		t.Error(a)
	}
	if at, e := shape.Check(api.Def{T: l}); at != -1 || e != api.ErrWindow {
		t.Error(at, e)
	}
	none(t, l, 5, api.ErrArg)
	checked(t, l[:4], 4, api.ErrShape)
	l[1].G = 3
	checked(t, l, 1, api.ErrShape)
}

// TestWindow: the windows that there are, and those that there are not, whatever the parts are (P8.1).
func TestWindow(t *testing.T) {
	const most = 1 << 40
	for _, x := range []struct {
		from, to int64
		is       bool
	}{
		{0, 1, true}, {0, 4096, true}, {0, 4097, false}, {1, 4097, true}, {1, 4098, false}, {0, 0, false}, {0, -1, false}, {5, 5, false}, {5, 4, false}, {-1, 0, false}, {-1, 1, false}, {-2, -1, false}, {-4096, -1, false},
		{most - 1, most, true}, {most - 4096, most, true}, {most - 4097, most, false}, {most, most, false}, {most, most + 1, false}, {most - 1, most + 1, false}, {0, most, false},
		{math.MinInt64, math.MaxInt64, false}, {math.MinInt64, math.MinInt64 + 1, false}, {math.MaxInt64 - 1, math.MaxInt64, false}, {math.MaxInt64, math.MinInt64, false}, {math.MinInt64, 1, false}, {0, math.MaxInt64, false}, {math.MaxInt64, 5, false},
	} {
		for _, l := range [][]api.Part{{good}, example(), nil, {}, {good, good}, {group(9, -1)}, nested(api.PaAny, 8)} {
			at, e := reference(l)
			if !x.is {
				at, e = -1, api.ErrWindow
			}
			if i, f := shape.Check(api.Def{From: x.from, To: x.to, T: l}); i != at || f != e {
				t.Errorf("Check from %d to %d of %v = %d, %d; expected %d, %d", x.from, x.to, l, i, f, at, e)
			}
		}
	}
}

// TestAtom: the numbers of an atom (P8.1).
func TestAtom(t *testing.T) {
	for _, p := range []api.Part{atom(1, 1, 1), atom(4096, 4096, 4096), atom(4096, 1, 1), atom(6, 3, 9), atom(6, 2, 9), atom(6, 6, 9), atom(6, 1, 4096), atom(4095, 4095, 1)} {
		checked(t, []api.Part{p}, 0, api.OK)
	}
	wrong := []api.Part{{}, atom(0, 1, 1), atom(0, 0, 1), atom(4097, 1, 1), atom(4097, 4097, 1), atom(math.MaxUint32, 1, 1), atom(math.MaxUint32, math.MaxUint32, 1), atom(1, 0, 1), atom(1, 2, 1), atom(2, 4, 1), atom(6, 4, 1), atom(6, 5, 1), atom(6, 12, 1), atom(4096, 4097, 1), atom(4096, 8192, 1), atom(4, math.MaxUint32, 1), atom(1, 1, 0), atom(1, 1, -1), atom(1, 1, 4097), atom(1, 1, math.MinInt64), atom(1, 1, math.MaxInt64), atom(1, 1, 1<<32+1)}
	for _, kids := range []int{-1, 1, 2, 16, 17, math.MinInt, math.MaxInt} {
		wrong = append(wrong, api.Part{N: 1, G: 1, D: 1, Kids: kids})
	}
	for _, p := range wrong {
		checked(t, []api.Part{p}, 0, api.ErrShape)
		checked(t, []api.Part{p, good}, 0, api.ErrShape)
		checked(t, []api.Part{group(api.PaNext, 2), good, p}, 2, api.ErrShape)
		checked(t, []api.Part{group(api.PaAll, 2), p, p}, 1, api.ErrShape)
	}
	for n := range uint32(20) {
		for g := range uint32(20) {
			compared(t, []api.Part{group(api.PaOrder, 1), atom(n, g, 2)})
		}
	}
}

// TestGroup: the kinds of parts, and the numbers of those that are no atoms (P8.1).
func TestGroup(t *testing.T) {
	for kind := range 256 {
		for kids := -2; kids < 20; kids++ {
			l := append([]api.Part{group(uint8(kind), kids)}, slices.Repeat([]api.Part{good}, max(kids, 0))...)
			want := api.ErrShape
			if 1 <= kind && kind <= 4 && 1 <= kids && kids <= 16 {
				want = api.OK
			}
			checked(t, l, 0, want)
		}
	}
	for _, kids := range []int{math.MinInt, math.MinInt + 1, math.MaxInt, math.MaxInt - 1, 1 << 32, 1<<32 + 1, 1<<62 + 1} {
		checked(t, []api.Part{group(api.PaAll, kids), good}, 0, api.ErrShape)
		checked(t, []api.Part{group(api.PaAll, 2), group(api.PaAny, kids), good}, 1, api.ErrShape)
	}
	for kind := uint8(1); kind < 5; kind++ {
		for _, p := range []api.Part{{N: 1}, {G: 1}, {D: 1}, {D: -1}, {N: 1, G: 1, D: 1}, {N: math.MaxUint32}, {D: 1 << 32}} {
			p.Kind, p.Kids = kind, 1
			checked(t, []api.Part{p, good}, 0, api.ErrShape)
			checked(t, []api.Part{group(api.PaAll, 1), p, good}, 1, api.ErrShape)
		}
	}
}

// TestNext: only atoms are children of a PaNext (P8.1).
func TestNext(t *testing.T) {
	for kind := uint8(1); kind < 5; kind++ {
		for inner := uint8(1); inner < 5; inner++ {
			want, at := api.OK, 0
			if kind == api.PaNext {
				want, at = api.ErrShape, 1
			}
			checked(t, []api.Part{group(kind, 2), group(inner, 1), good, good}, at, want)
			if at > 0 {
				at = 2
			}
			checked(t, []api.Part{group(kind, 2), good, group(inner, 1), good}, at, want)
			// What is in an atom's neighbour is no child of the PaNext.
			checked(t, []api.Part{group(api.PaAll, 2), group(api.PaNext, 1), good, group(inner, 1), good}, 0, api.OK)
		}
	}
}

// TestMissing: there is no part where one must be, or one where none may be (P8.1).
func TestMissing(t *testing.T) {
	checked(t, nil, 0, api.ErrShape)
	checked(t, []api.Part{}, 0, api.ErrShape)
	l := example()
	for n := range l {
		checked(t, l[:n], n, api.ErrShape)
	}
	for _, p := range []api.Part{good, group(api.PaAny, 1), {}, group(255, -1), {Kids: math.MinInt}} {
		checked(t, append(example(), p), 5, api.ErrShape)
		checked(t, []api.Part{good, p}, 1, api.ErrShape)
		checked(t, []api.Part{good, p, p}, 1, api.ErrShape)
		checked(t, append(nested(api.PaAll, 7), p), 8, api.ErrShape)
	}
}

// TestDeep: a depth of 8 is not too deep, one of 9 is, and what else is wrong there counts first (P8.1).
func TestDeep(t *testing.T) {
	for _, kind := range []uint8{api.PaOrder, api.PaAny, api.PaAll} {
		checked(t, nested(kind, 7), 0, api.OK)
		checked(t, nested(kind, 8), 8, api.ErrDeep)
		checked(t, nested(kind, 20), 8, api.ErrDeep)
		checked(t, nested(kind, 100), 8, api.ErrDeep)
		checked(t, nested(kind, 7)[:7], 7, api.ErrShape)
		checked(t, nested(kind, 8)[:8], 8, api.ErrShape)
		for _, p := range []api.Part{{}, atom(3, 2, 1), group(kind, 0), group(kind, 17), group(5, 1)} {
			checked(t, append(nested(kind, 8)[:8], p), 8, api.ErrShape)
		}
	}
	// In a PaNext of depth 8 what is no atom is no child, and an atom is too deep.
	l := append(nested(api.PaAll, 8)[:7], group(api.PaNext, 1))
	checked(t, append(slices.Clone(l), good), 8, api.ErrDeep)
	checked(t, append(slices.Clone(l), group(api.PaAny, 1), good), 8, api.ErrShape)
	// A part that has ended does not count for the depth of those behind it.
	for n := range 8 {
		l := append([]api.Part{group(api.PaAll, 3)}, nested(api.PaOrder, 6)...)
		l = append(l, nested(api.PaAny, n)...)
		l = append(l, good)
		if n < 7 {
			checked(t, l, 0, api.OK)
		} else {
			checked(t, l, 8+7, api.ErrDeep)
		}
	}
}

// TestMany: 64 parts are not too many, the 65th is (P8.1).
func TestMany(t *testing.T) {
	wide := func(kids int) []api.Part {
		return append([]api.Part{group(api.PaNext, kids)}, slices.Repeat([]api.Part{good}, kids)...)
	}
	rows := slices.Concat([]api.Part{group(api.PaAll, 4)}, wide(15), wide(15), wide(15), wide(14))
	checked(t, rows, 0, api.OK)
	if len(rows) != 64 {
		t.Error(len(rows))
	}
	for _, p := range []api.Part{good, group(api.PaAny, 1), {}, group(9, 9)} {
		checked(t, append(slices.Clone(rows), p), 64, api.ErrShape)
		checked(t, slices.Concat([]api.Part{group(api.PaAll, 4)}, wide(15), wide(15), wide(15), wide(15)[:15], []api.Part{p}), 64, api.ErrShape)
		checked(t, slices.Concat([]api.Part{group(api.PaAll, 4)}, wide(15), wide(15), wide(15), wide(15)[:15], []api.Part{p, p, p}), 64, api.ErrShape)
	}
	// A part is due behind the 64th, and is not there.
	checked(t, slices.Concat([]api.Part{group(api.PaAll, 4)}, wide(15), wide(15), wide(15), wide(15)[:15]), 64, api.ErrShape)
	checked(t, slices.Concat([]api.Part{group(api.PaAll, 5)}, wide(15), wide(15), wide(15), wide(14)), 64, api.ErrShape)
	// A fault ahead of the 65th part counts first, even a depth.
	rows[63] = atom(1, 2, 1)
	checked(t, append(rows, good), 63, api.ErrShape)
	rows = slices.Concat([]api.Part{group(api.PaAll, 4)}, wide(15), wide(15), wide(15)[:14], nested(api.PaAll, 8))
	rows[len(rows)-10] = group(api.PaAll, 1)
	compared(t, append(rows, rows...))
}

// TestRows: all short rows of parts (P8.1, P8.2, P8.4).
func TestRows(t *testing.T) {
	alphabet := []api.Part{good, atom(4, 3, 1), group(api.PaOrder, 1), group(api.PaNext, 1), group(api.PaNext, 3), group(api.PaAny, 2), group(api.PaAll, 0)}
	rows := [][]api.Part{nil}
	valid := 0
	for range 7 {
		var next [][]api.Part
		for _, l := range rows {
			if compared(t, l) == api.OK {
				valid++
			}
			for _, p := range alphabet {
				next = append(next, append(l[:len(l):len(l)], p))
			}
		}
		rows = next
	}
	if valid < 50 {
		t.Error(valid)
	}
}

// dice produces numbers that look as if they were thrown, always the same ones.
type dice uint64

// below returns a number from 0 on and below n.
func (d *dice) below(n int) int {
	*d = *d*6364136223846793005 + 1442695040888963407
	return int(uint64(*d) >> 33 % uint64(n))
}

// term returns the parts of a term that is valid, at most so deep and so many.
func (d *dice) term(deep, many int) []api.Part {
	if deep == 1 || many < 2 || d.below(5) == 0 {
		g := uint32(1 + d.below(64))
		n := g * uint32(1+d.below(64))
		return []api.Part{atom(n, g, int64(1+d.below(4096)))}
	}
	kind := uint8(1 + d.below(4))
	l := []api.Part{group(kind, 0)}
	for kids := 1 + d.below(16); kids > 0 && len(l) < many; kids-- {
		if kind == api.PaNext {
			deep = 2
		}
		l = append(l, d.term(deep-1, many-len(l))...)
		l[0].Kids++
	}
	return l
}

// spoiled returns l with something changed.
func (d *dice) spoiled(l []api.Part) []api.Part {
	l = slices.Clone(l)
	at := d.below(len(l))
	switch d.below(8) {
	case 0:
		l[at].Kind = uint8(d.below(6))
	case 1:
		l[at].N = uint32(d.below(5000))
	case 2:
		l[at].G = uint32(d.below(5))
	case 3:
		l[at].D = int64(d.below(5000) - 100)
	case 4:
		l[at].Kids = d.below(19) - 1
	case 5:
		l = slices.Delete(l, at, at+1)
	case 6:
		l = slices.Insert(l, at, l[d.below(len(l))])
	case 7:
		l = slices.Insert(l, at, group(uint8(1+d.below(4)), 1))
	}
	return l
}

// TestDice: valid definitions of many shapes, and what becomes of them if something is changed (P8.1, P8.2, P8.4).
func TestDice(t *testing.T) {
	d := dice(1)
	var seen [100]int
	for range 800 {
		l := d.term(8, 64)
		checked(t, l, 0, api.OK)
		for range 10 {
			other := d.spoiled(l)
			seen[compared(t, other)]++
			if len(other) > 1 {
				compared(t, d.spoiled(other))
			}
		}
	}
	if seen[api.OK] < 500 || seen[api.ErrShape] < 500 || seen[api.ErrDeep] < 200 {
		t.Error(seen)
	}
}

// TestAtoms: Atoms answers for any list of parts (P8.3).
func TestAtoms(t *testing.T) {
	for _, x := range []struct {
		l    []api.Part
		want []int
	}{
		{nil, nil},
		{[]api.Part{}, nil},
		{[]api.Part{group(api.PaAll, 1)}, nil},
		{[]api.Part{group(5, 0), group(255, 0), group(4, 0)}, nil},
		{[]api.Part{{}}, []int{0}},
		{[]api.Part{{Kids: -3, N: 9, D: -9}, group(api.PaNext, 0), group(200, 5), {Kids: math.MaxInt}, {}}, []int{0, 3, 4}},
		{nested(api.PaAny, 100), []int{100}},
	} {
		if a := shape.Atoms(x.l); !slices.Equal(a, x.want) || len(a) == 0 && a != nil {
			t.Error(x.l, a)
		}
	}
	a := shape.Atoms(slices.Repeat([]api.Part{good, group(api.PaAny, 1)}, 5000))
	if len(a) != 5000 || a[4999] != 9998 || !slices.IsSorted(a) {
		t.Error(len(a))
	}
}

// TestMemory: arguments stay as they are, behind their length too; what is answered is nobody else's (P1, R5).
func TestMemory(t *testing.T) {
	whole := append(example(), atom(7, 8, 9), group(6, 6))
	was := slices.Clone(whole)
	l := whole[:5]
	checked(t, l, 0, api.OK)
	if !slices.Equal(whole, was) {
		t.Error(whole)
	}
	for _, call := range []func() []int{
		func() []int { return shape.Atoms(l) },
		func() []int { kids, _ := shape.Kids(l, 0); return kids },
	} {
		a, b := call(), call()
		kept := slices.Clone(b)
		a = a[:cap(a)]
		for i := range a {
			a[i] = -7
		}
		if !slices.Equal(b, kept) || !slices.Equal(call(), kept) {
			t.Error(a, b)
		}
	}
}
