package norm_test

import (
	"math"
	"slices"
	"strconv"
	"strings"
	"testing"

	"livery/api"
	"livery/norm"
	"livery/parse"
	"livery/sample"
	"livery/shape"
)

var (
	atom  = sample.Atom
	group = sample.Group
	piece = sample.Piece
)

// Two atoms, a and b, of which a comes first.
var (
	a = atom(1, 1, 1)
	b = atom(1, 1, 2)
)

// in returns the definition of the parts in a window.
func in(l []api.Part) api.Def { return api.Def{To: 50, T: l} }

// read returns the definition of a term, in which a is an atom of 1 1 1, b of 1 1 2, and so on, and a blank stands between any two.
func read(t *testing.T, s string) api.Def {
	t.Helper()
	words := strings.Fields(s)
	for i, w := range words {
		name := strings.Trim(w, "()")
		if len(name) == 1 && name >= "a" {
			words[i] = strings.Replace(w, name, "(atom 1 1 "+strconv.Itoa(int(name[0]-'a')+1)+")", 1)
		}
	}
	d, at, e := parse.Parse("from 0 to 50: " + strings.Join(words, " "))
	if e != api.OK {
		t.Fatal(s, at, e)
	}
	return d
}

// labelled is a part, and the index from which it originates.
type labelled struct {
	api.Part
	from int
}

// label returns the parts with their own indices.
func label(l []api.Part) []labelled {
	var out []labelled
	for i, p := range l {
		out = append(out, labelled{p, i})
	}
	return out
}

// split returns the parts of each child of the first one.
func split(l []labelled) [][]labelled {
	var kids [][]labelled
	at := 1
	for range l[0].Kids {
		from, due := at, 1
		for due > 0 {
			due += l[at].Kids - 1
			at++
		}
		kids = append(kids, l[from:at])
	}
	return kids
}

// joined returns the parts of a term of the head and the children.
func joined(head labelled, kids [][]labelled) []labelled {
	head.Kids = len(kids)
	l := []labelled{head}
	for _, k := range kids {
		l = append(l, k...)
	}
	return l
}

// text returns the text of the first part, by the words of layer 7.
func text(l []labelled) string {
	s := "(" + [...]string{"atom", "order", "next", "any", "all"}[l[0].Kind]
	if l[0].Kind == 0 {
		s += " " + strconv.Itoa(int(l[0].N)) + " " + strconv.Itoa(int(l[0].G)) + " " + strconv.Itoa(int(l[0].D))
	}
	for _, k := range split(l) {
		s += " " + text(k)
	}
	return s + ")"
}

// step returns the term after the first of the document's rules that changes it, and which one that is; 0 if none does.
func step(l []labelled) ([]labelled, int) {
	kids := split(l)
	kind := l[0].Kind
	if kind != 0 && len(kids) == 1 {
		return kids[0], 1
	}
	changed := false
	if kind == 1 || kind == 3 || kind == 4 {
		for i := 0; i < len(kids); {
			inner := split(kids[i])
			if kids[i][0].Kind != kind || len(kids)-1+len(inner) > 16 {
				i++
				continue
			}
			kids = slices.Concat(kids[:i], inner, kids[i+1:])
			i += len(inner)
			changed = true
		}
	}
	if changed {
		return joined(l[0], kids), 2
	}
	for i := 0; kind == 3 && i < len(kids); i++ {
		for j := len(kids) - 1; j > i; j-- {
			if text(kids[i]) == text(kids[j]) {
				kids = slices.Concat(kids[:j], kids[j+1:])
				changed = true
			}
		}
	}
	if changed {
		return joined(l[0], kids), 3
	}
	for end := len(kids); kind >= 3 && end > 1; end-- {
		for i := 1; i < end; i++ {
			if text(kids[i-1]) > text(kids[i]) {
				kids[i-1], kids[i] = kids[i], kids[i-1]
				changed = true
			}
		}
	}
	if changed {
		return joined(l[0], kids), 4
	}
	return l, 0
}

// reference returns the normalized term by the document's words, and counts how often each rule is applied.
func reference(l []labelled, rules *[5]int) []labelled {
	kids := split(l)
	for i, k := range kids {
		kids[i] = reference(k, rules)
	}
	l = joined(l[0], kids)
	for {
		next, rule := step(l)
		if rule == 0 {
			return l
		}
		rules[rule]++
		l = next
	}
}

// depth returns how many parts are within one another.
func depth(l []api.Part) int {
	most := 0
	for i := range l {
		d, _ := shape.Depth(l, i)
		most = max(most, d)
	}
	return most
}

// form returns the normal form of d, which is valid, and where its parts originate; both are held against the reference and against P9.4.
func form(t *testing.T, d api.Def, rules *[5]int) (api.Def, []int) {
	t.Helper()
	n, from, e := norm.Norm(d)
	want := api.Def{From: d.From, To: d.To}
	var origins []int
	for _, p := range reference(label(d.T), rules) {
		want.T = append(want.T, p.Part)
		origins = append(origins, p.from)
	}
	if e != api.OK || !parse.Same(n, want) || !slices.Equal(from, origins) {
		t.Fatalf("Norm(%v) = %v, %v, %d; expected %v, %v", d, n, from, e, want, origins)
	}
	if _, e := shape.Check(n); e != api.OK || len(n.T) > len(d.T) || depth(n.T) > depth(d.T) {
		t.Fatal(d, n, e)
	}
	again, same, e := norm.Norm(n)
	if e != api.OK || !parse.Same(again, n) {
		t.Fatal(d, n, again, e)
	}
	for i, f := range same {
		if f != i {
			t.Fatal(n, same)
		}
	}
	if is, e := norm.Same(d, n); !is || e != api.OK {
		t.Fatal(d, n, is, e)
	}
	return n, from
}

// expected holds the normal form of a term, and where its parts originate, against what the document asks for.
func expected(t *testing.T, s, want string, origins ...int) {
	t.Helper()
	n, from := form(t, read(t, s), new([5]int))
	if !parse.Same(n, read(t, want)) || !slices.Equal(from, origins) {
		t.Errorf("of %s: %v, %v; expected %s, %v", s, n, from, want, origins)
	}
}

// TestExamples: the document's examples (P9.1).
func TestExamples(t *testing.T) {
	expected(t, "(order a (order b a))", "(order a b a)", 0, 1, 3, 4)
	expected(t, "(any b (any a b))", "(any a b)", 0, 3, 1)
	expected(t, "(all (next b) (any a a))", "(all a b)", 0, 4, 2)
	expected(t, "(order (all a))", "a", 2)
}

// TestRules: each rule, what it leaves alone, and that the rules are tried from the first one on (P9.1).
func TestRules(t *testing.T) {
	expected(t, "a", "a", 0)
	for _, kind := range []string{"order", "next", "any", "all"} {
		expected(t, "("+kind+" a)", "a", 1)
		expected(t, "("+kind+" a b)", "("+kind+" a b)", 0, 1, 2)
		if kind != "next" {
			expected(t, "("+kind+" (order (any (all (next b)))))", "b", 5)
			expected(t, "("+kind+" ("+kind+" a b) c)", "("+kind+" a b c)", 0, 2, 3, 4)
			expected(t, "("+kind+" a ("+kind+" b c))", "("+kind+" a b c)", 0, 1, 3, 4)
			expected(t, "("+kind+" ("+kind+" a b) ("+kind+" c ("+kind+" d e)))", "("+kind+" a b c d e)", 0, 2, 3, 5, 7, 8)
			expected(t, "("+kind+" (next a b) (next a c))", "("+kind+" (next a b) (next a c))", 0, 1, 2, 3, 4, 5, 6)
			expected(t, "(order ("+kind+" ("+kind+" (next a b))))", "(next a b)", 3, 4, 5)
		}
	}
	// Order and next are not sorted, and lose no children; nor does an all.
	expected(t, "(order b a b)", "(order b a b)", 0, 1, 2, 3)
	expected(t, "(next b a b)", "(next b a b)", 0, 1, 2, 3)
	expected(t, "(all b a b)", "(all a b b)", 0, 2, 1, 3)
	expected(t, "(any b a b)", "(any a b)", 0, 2, 1)
	expected(t, "(any a a a)", "a", 1)
	expected(t, "(any (all b a) (all a b))", "(all a b)", 1, 3, 2)
	// A kind in another one is left as it is.
	expected(t, "(order a (all b c))", "(order a (all b c))", 0, 1, 2, 3, 4)
	expected(t, "(any (all a b) (order c d))", "(any (all a b) (order c d))", 0, 1, 2, 3, 4, 5, 6)
	// What becomes of the children is seen by their parent: the any that is left of a child is of its kind, and is removed if it comes twice.
	expected(t, "(any c (order (any b a)))", "(any a b c)", 0, 5, 4, 1)
	expected(t, "(order a (all (order b c)))", "(order a b c)", 0, 1, 4, 5)
	expected(t, "(order (any (all a b) (all b a)) (all c))", "(order (all a b) c)", 0, 2, 3, 4, 9)
	expected(t, "(all (any (order a b) (order a (order b))) (next c))", "(all c (order a b))", 0, 10, 2, 3, 4)
	// The earlier child stays, also if it is one of an inserted any.
	expected(t, "(any (any b a) b)", "(any a b)", 0, 3, 2)
	expected(t, "(any b (any b a))", "(any a b)", 0, 4, 1)
	expected(t, "(any (order a b) (any c (order a b)))", "(any c (order a b))", 0, 5, 1, 2, 3)
	// Children with equal texts keep their order.
	expected(t, "(all (next b b) b (next b b) b a)", "(all a b b (next b b) (next b b))", 0, 9, 4, 8, 1, 2, 3, 5, 6, 7)
}

// TestTexts: children are sorted by their texts, byte by byte, not by their numbers, kinds or lengths (P9.1).
func TestTexts(t *testing.T) {
	atoms := []string{"(atom 1 1 1)", "(atom 1 1 10)", "(atom 1 1 100)", "(atom 1 1 2)", "(atom 10 1 1)", "(atom 10 10 1)", "(atom 10 2 1)", "(atom 2 1 1)", "(atom 4096 1 1)", "(atom 9 1 1)"}
	for _, x := range [][2]string{{"any", "all"}, {"all", "any"}} {
		first := []string{"(" + x[1] + " a b c)", "(" + x[1] + " a b)"}
		kids := slices.Concat(first, atoms, []string{"(next b a a)", "(next b a)", "(next b b)", "(order a b)"})
		want := read(t, "("+x[0]+" "+strings.Join(kids, " ")+")")
		form(t, want, new([5]int))
		for range kids {
			kids = append(kids[1:], kids[0])
			for range 2 {
				slices.Reverse(kids)
				d := read(t, "("+x[0]+" "+strings.Join(kids, " ")+")")
				if n, _ := form(t, d, new([5]int)); !parse.Same(n, want) {
					t.Error(kids, n)
				}
			}
		}
	}
}

// many returns so many atoms, each different from the others, the first one after first others.
func many(first, n int) []api.Part {
	var l []api.Part
	for i := range n {
		l = append(l, atom(1, 1, int64(1000+first+i)))
	}
	return l
}

// of returns a part of that kind with those children.
func of(kind uint8, kids ...[]api.Part) []api.Part {
	l := []api.Part{group(kind, 0)}
	for _, k := range kids {
		l = append(l, k...)
	}
	for at := 1; at < len(l); l[0].Kids++ {
		for due := 1; due > 0; at++ {
			due += l[at].Kids - 1
		}
	}
	return l
}

// formed holds the normal form of the parts against what the document asks for.
func formed(t *testing.T, l, want []api.Part) {
	t.Helper()
	if n, _ := form(t, in(l), new([5]int)); !slices.Equal(n.T, want) {
		t.Errorf("of %v: %v; expected %v", l, n.T, want)
	}
}

// TestRoom: a child is replaced by its children only if there are at most 16 then (P9.1).
func TestRoom(t *testing.T) {
	for _, k := range []uint8{api.PaOrder, api.PaAny, api.PaAll} {
		formed(t, of(k, of(k, many(0, 2)), many(2, 14)), of(k, many(0, 16)))
		formed(t, of(k, many(0, 14), of(k, many(14, 2))), of(k, many(0, 16)))
		formed(t, of(k, of(k, many(0, 8)), of(k, many(8, 8))), of(k, many(0, 16)))
		formed(t, of(k, of(k, many(0, 16))), of(k, many(0, 16)))
		// There is room for the first of two, and none for the second one.
		formed(t, of(k, many(0, 4), of(k, many(20, 9)), of(k, many(40, 9))), sorted(k, many(0, 4), many(20, 9), of(k, many(40, 9))))
		// There is none for the first, but for the second, and then still none for the first.
		formed(t, of(k, many(0, 4), of(k, many(20, 13)), of(k, many(40, 3))), sorted(k, many(0, 4), of(k, many(20, 13)), many(40, 3)))
		// There is none for any.
		formed(t, of(k, many(0, 15), of(k, many(20, 2))), sorted(k, many(0, 15), of(k, many(20, 2))))
		formed(t, of(k, of(k, many(0, 16)), many(20, 1)), sorted(k, of(k, many(0, 16)), many(20, 1)))
		// What stays within a child stays there, also when the child is replaced.
		inner := of(k, many(0, 3), of(k, many(20, 14)))
		formed(t, of(k, many(40, 2), inner), sorted(k, many(40, 2), many(0, 3), of(k, many(20, 14))))
	}
}

// sorted returns a part of that kind with those children, if need be with the atoms, in the order of their numbers, behind the others.
func sorted(kind uint8, kids ...[]api.Part) []api.Part {
	l := of(kind, kids...)
	if kind == api.PaOrder {
		return l
	}
	all := split(label(l))
	slices.SortStableFunc(all, func(x, y []labelled) int { return strings.Compare(text(x), text(y)) })
	out := []api.Part{l[0]}
	for _, k := range all {
		for _, p := range k {
			out = append(out, p.Part)
		}
	}
	return out
}

// TestRoomAgain: where children of an any are removed, there is room for others; all that come twice are removed before it is looked for again (P9.1).
func TestRoomAgain(t *testing.T) {
	k := api.PaAny
	twice := slices.Repeat(many(0, 1), 8)
	formed(t, of(k, twice, many(1, 7), of(k, many(20, 8))), of(k, many(0, 8), many(20, 8)))
	// With the seven that are too many gone there is room for the first of two, and then none for the second one; with only some of them gone it would have been the other way round.
	formed(t, of(k, of(k, many(20, 8)), of(k, many(40, 3)), twice, many(1, 6)), sorted(k, of(k, many(40, 3)), many(0, 7), many(20, 8)))
	formed(t, of(k, of(k, many(20, 8)), of(k, many(40, 3)), twice, many(1, 5)), sorted(k, of(k, many(40, 3)), many(0, 6), many(20, 8)))
	// There is room for the second one before any is removed, and then none for the first one.
	formed(t, of(k, of(k, many(20, 8)), of(k, many(40, 3)), twice[:4], many(1, 6)), sorted(k, of(k, many(20, 8)), many(0, 7), many(40, 3)))
	// Children are removed ahead of being sorted: the first of two is still the one that comes first in the definition.
	formed(t, of(k, of(k, many(40, 8)), of(k, many(20, 3)), twice, many(1, 6)), sorted(k, of(k, many(20, 3)), many(0, 7), many(40, 8)))
	// Children that were inserted come twice, and those that do make room.
	formed(t, of(k, many(0, 7), of(k, many(0, 7)), of(k, many(20, 8))), of(k, many(0, 7), many(20, 8)))
	// Each that comes twice is removed from an any; an order and an all have them all, and no room.
	for _, k := range []uint8{api.PaOrder, api.PaAll} {
		formed(t, of(k, twice, many(1, 7), of(k, many(20, 8))), sorted(k, twice, many(1, 7), of(k, many(20, 8))))
	}
}

// wrong returns definitions that are not valid, for one reason each.
func wrong() []api.Def {
	deep := append(slices.Repeat([]api.Part{group(api.PaAll, 1)}, 8), a)
	wide := of(api.PaOrder, many(0, 16))
	l := []api.Def{
		{}, {To: 50}, {To: 50, T: []api.Part{}},
		{T: []api.Part{a}}, {From: 5, To: 4, T: []api.Part{a}}, {From: -1, To: 1, T: []api.Part{a}}, {To: 4097, T: []api.Part{a}}, {From: api.MaxTime, To: api.MaxTime + 1, T: []api.Part{a}}, {From: math.MinInt64, To: math.MaxInt64, T: []api.Part{a}},
	}
	for _, parts := range [][]api.Part{
		{{}}, {atom(3, 2, 1)}, {atom(4097, 1, 1)}, {atom(1, 1, 4097)}, {{Kids: 1, N: 1, G: 1, D: 1}, a},
		{a, a}, {group(api.PaAll, 2), a}, {group(api.PaAny, 0)}, {group(api.PaAny, -1)}, {group(api.PaAny, math.MaxInt)}, {group(api.PaOrder, math.MinInt), a}, {group(5, 1), a}, {{Kind: api.PaAll, Kids: 1, N: 1}, a},
		{group(api.PaNext, 1), group(api.PaNext, 1), a}, {group(api.PaNext, 2), a, group(api.PaAll, 1), a},
		of(api.PaAny, many(0, 17)), of(api.PaAll, wide, wide, wide, wide), deep,
	} {
		l = append(l, in(parts))
	}
	return l
}

// TestWrong: definitions that are not valid are refused, by Norm and by Same, whichever of both it is (P9.1, P9.2).
func TestWrong(t *testing.T) {
	good := in([]api.Part{a})
	for _, d := range wrong() {
		if n, from, e := norm.Norm(d); n.From != 0 || n.To != 0 || n.T != nil || from != nil || e != api.ErrShape {
			t.Errorf("Norm(%v) = %v, %v, %d", d, n, from, e)
		}
		for _, x := range [][2]api.Def{{d, good}, {good, d}, {d, d}} {
			if is, e := norm.Same(x[0], x[1]); is || e != api.ErrShape {
				t.Errorf("Same(%v) = %t, %d", x, is, e)
			}
		}
	}
}

// TestSame: definitions are the same if their normal forms and their windows are (P9.2).
func TestSame(t *testing.T) {
	same := [][]string{
		{"a", "(order a)", "(next a)", "(any a a)", "(all (all (any a (order a))))"},
		{"(order a b a)", "(order a (order b a))", "(order (order a b) a)", "(order (order a) (order (order b a)))"},
		{"(all a b)", "(all b a)", "(any (all a b) (all b a))"},
		{"(any a b)", "(any b a b)", "(any (any b a) (any a b))"},
		{"(order a b)"}, {"(order b a)"}, {"(next a b)"}, {"(next b a)"}, {"(all a a)"}, {"(all a a b)"}, {"(order a a)"}, {"b", "(any b)"},
		{"(order a (all b c))", "(order (order a) (all c b))"}, {"(all (order a b) c)", "(all c (order a b))"},
	}
	for i, l := range same {
		for j, m := range same {
			for _, x := range l {
				for _, y := range m {
					if is, e := norm.Same(read(t, x), read(t, y)); is != (i == j) || e != api.OK {
						t.Error(x, y, is, e)
					}
				}
			}
		}
	}
	d := api.Def{From: 7, To: 90, T: of(api.PaOrder, many(0, 2))}
	for _, x := range []api.Def{{From: 6, To: 90}, {From: 8, To: 90}, {From: 7, To: 89}, {From: 7, To: 91}, {From: 8, To: 91}} {
		x.T = d.T
		if is, e := norm.Same(d, x); is || e != api.OK {
			t.Error(x, is, e)
		}
	}
	for _, p := range []api.Part{atom(2, 1, 1000), atom(2, 2, 1000), atom(1, 1, 1002)} {
		x := in([]api.Part{p})
		y := in(many(0, 1))
		if is, e := norm.Same(x, y); is || e != api.OK {
			t.Error(p, is, e)
		}
	}
	if n, from, e := norm.Norm(api.Def{From: api.MaxTime - 4096, To: api.MaxTime, T: d.T}); n.From != api.MaxTime-4096 || n.To != api.MaxTime || !slices.Equal(n.T, d.T) || !slices.Equal(from, []int{0, 1, 2}) || e != api.OK {
		t.Error(n, from, e)
	}
}

// TestBack: pieces are mapped back, and sorted by their parts, whatever their order was; and which are refused (P9.3).
func TestBack(t *testing.T) {
	from := []int{0, 4, 2, 9, 7}
	for _, x := range []struct {
		w, want []api.Piece
		e       api.Errno
	}{
		{nil, nil, api.OK},
		{[]api.Piece{}, nil, api.OK},
		{[]api.Piece{piece(0, 5)}, []api.Piece{piece(0, 5)}, api.OK},
		{[]api.Piece{piece(4, math.MinInt64)}, []api.Piece{piece(7, math.MinInt64)}, api.OK},
		{[]api.Piece{piece(0, 1), piece(1, 2), piece(2, 3), piece(3, 4), piece(4, 5)}, []api.Piece{piece(0, 1), piece(2, 3), piece(4, 2), piece(7, 5), piece(9, 4)}, api.OK},
		{[]api.Piece{piece(4, 5), piece(2, math.MaxInt64), piece(1, -2)}, []api.Piece{piece(2, math.MaxInt64), piece(4, -2), piece(7, 5)}, api.OK},
		{[]api.Piece{piece(3, 1), piece(1, 1)}, []api.Piece{piece(4, 1), piece(9, 1)}, api.OK},
		{[]api.Piece{piece(-1, 0)}, nil, api.ErrArg},
		{[]api.Piece{piece(5, 0)}, nil, api.ErrArg},
		{[]api.Piece{piece(7, 0)}, nil, api.ErrArg},
		{[]api.Piece{piece(math.MinInt, 0)}, nil, api.ErrArg},
		{[]api.Piece{piece(math.MaxInt, 0)}, nil, api.ErrArg},
		{[]api.Piece{piece(1, 0), piece(2, 0), piece(5, 0)}, nil, api.ErrArg},
		{[]api.Piece{piece(1, 0), piece(1, 0)}, nil, api.ErrArg},
		{[]api.Piece{piece(0, 0), piece(3, 1), piece(2, 2), piece(0, 3)}, nil, api.ErrArg},
	} {
		if w, e := norm.Back(from, x.w); e != x.e || !slices.Equal(w, x.want) || len(w) == 0 && w != nil {
			t.Errorf("Back of %v = %v, %d; expected %v, %d", x.w, w, e, x.want, x.e)
		}
	}
	for _, from := range [][]int{nil, {}} {
		if w, e := norm.Back(from, nil); w != nil || e != api.OK {
			t.Error(w, e)
		}
		if w, e := norm.Back(from, []api.Piece{piece(0, 0)}); w != nil || e != api.ErrArg {
			t.Error(w, e)
		}
	}
}

// term is what a witness does with a term, by the words of layer 10.
type term struct {
	is, placed bool
	begin, end int64
}

// done returns what the witness does with the part at at, and the index behind it.
func done(l []api.Part, w []api.Piece, at int) (term, int) {
	if l[at].Kind == api.PaAtom {
		for _, p := range w {
			if p.Part == at {
				return term{true, true, p.At, p.At + l[at].D}, at + 1
			}
		}
		return term{}, at + 1
	}
	p, next := l[at], at+1
	var kids []term
	for range p.Kids {
		var k term
		k, next = done(l, w, next)
		kids = append(kids, k)
	}
	s := term{is: true}
	used, good := 0, 0
	for i, k := range kids {
		if k.placed {
			used++
			if !s.placed {
				s.placed, s.begin, s.end = true, k.begin, k.end
			}
			s.begin, s.end = min(s.begin, k.begin), max(s.end, k.end)
		}
		if k.is {
			good++
		}
		if i > 0 && (p.Kind == api.PaOrder && kids[i-1].end > k.begin || p.Kind == api.PaNext && kids[i-1].end != k.begin) {
			s.is = false
		}
	}
	if p.Kind == api.PaAny {
		s.is = used == 1 && good == 1
	} else {
		s.is = s.is && good == len(kids)
	}
	return s, next
}

// satisfied reports whether w satisfies d, which is valid, by the words of layer 10.
func satisfied(d api.Def, w []api.Piece) bool {
	for i, p := range w {
		if p.Part < 0 || p.Part >= len(d.T) || d.T[p.Part].Kind != api.PaAtom || i > 0 && w[i-1].Part >= p.Part || p.At < d.From || p.At+d.T[p.Part].D > d.To {
			return false
		}
	}
	s, _ := done(d.T, w, 0)
	return s.is
}

// held holds what a witness of the normal form does against what it does with the definition (P9.5), and reports whether it satisfies both.
func held(t *testing.T, d, n api.Def, from []int, w []api.Piece) bool {
	t.Helper()
	back, e := norm.Back(from, w)
	is := satisfied(n, w)
	if e != api.OK || len(back) != len(w) || is != satisfied(d, back) {
		t.Fatal(d, n, w, back, is, e)
	}
	for i, p := range w {
		if !slices.Contains(back, piece(from[p.Part], p.At)) || i > 0 && back[i-1].Part >= back[i].Part {
			t.Fatal(from, w, back)
		}
	}
	return is
}

// TestRows: all short definitions, with all their witnesses (P9.1, P9.2, P9.4, P9.5).
func TestRows(t *testing.T) {
	alphabet := []api.Part{a, b}
	for kind := api.PaOrder; kind <= api.PaAll; kind++ {
		alphabet = append(alphabet, group(kind, 1), group(kind, 2), group(kind, 3))
	}
	var all [7][][]api.Piece
	for n := range all {
		all[n] = sample.Witnesses(n, []int64{0, 4, 4, 4, 3, 3, 2}[n])
	}
	var rules [5]int
	forms, good := 0, 0
	for _, l := range sample.Terms(alphabet, 6) {
		d := api.Def{To: 4, T: l}
		if _, e := shape.Check(d); e != api.OK {
			continue
		}
		n, from := form(t, d, &rules)
		forms++
		for _, w := range all[min(len(n.T), 6)] {
			if held(t, d, n, from, w) {
				good++
			}
		}
	}
	t.Log(forms, good, rules)
	if forms < 1000 || good < 1000 || slices.Min(rules[1:]) < 100 {
		t.Error(forms, good, rules)
	}
}

// TestDice: definitions of many shapes, with witnesses that satisfy them, and with such as are changed (P9.1, P9.2, P9.4, P9.5).
func TestDice(t *testing.T) {
	x := sample.Dice(1)
	var rules [5]int
	good, bad, full := 0, 0, 0
	for i := range 3000 {
		d := api.Def{From: 0, To: 60, T: x.Term(8, 64, uint8(1+i%4))}
		n, from := form(t, d, &rules)
		if slices.ContainsFunc(n.T, func(p api.Part) bool { return p.Kids == api.MaxKids }) {
			full++
		}
		for range 4 {
			w, _, _ := x.Place(n.T, 0, int64(x.Below(3)))
			if held(t, d, n, from, w) {
				good++
			}
			at := x.Below(len(w))
			switch x.Below(3) {
			case 0:
				w = slices.Delete(w, at, at+1)
			case 1:
				w[at].At += int64(x.Below(5) - 2)
			case 2:
				w[at].Part = x.Below(len(n.T))
				slices.SortFunc(w, func(p, q api.Piece) int { return p.Part - q.Part })
				w = slices.CompactFunc(w, func(p, q api.Piece) bool { return p.Part == q.Part })
			}
			if !held(t, d, n, from, w) {
				bad++
			}
		}
	}
	t.Log(good, bad, full, rules)
	if good < 5000 || bad < 2000 || full < 100 || slices.Min(rules[1:]) < 1000 {
		t.Error(good, bad, full, rules)
	}
}

// TestMemory: arguments stay as they are, behind their length too; what is answered is nobody else's (P1, R5).
func TestMemory(t *testing.T) {
	for _, l := range [][]api.Part{{a}, of(api.PaOrder, many(0, 3)), of(api.PaAny, of(api.PaAny, many(4, 2)), of(api.PaAll, many(2, 2)), many(0, 1))} {
		whole := append(slices.Clone(l), atom(7, 8, 9), group(6, 6))
		d := in(whole[:len(l)])
		n, from, _ := norm.Norm(d)
		kept := slices.Clone(n.T)
		origins := slices.Clone(from)
		m, other, _ := norm.Norm(d)
		m.T, other = m.T[:cap(m.T)], other[:cap(other)]
		for i := range m.T {
			m.T[i] = group(9, 9)
		}
		for i := range other {
			other[i] = -7
		}
		norm.Same(d, d)
		if !slices.Equal(whole[:len(l)], l) || whole[len(l)] != atom(7, 8, 9) || whole[len(l)+1] != group(6, 6) || !slices.Equal(n.T, kept) || !slices.Equal(from, origins) {
			t.Error(whole, n, from)
		}
	}
	from := []int{3, 2, 1, 0}
	w := []api.Piece{piece(0, 5), piece(2, 6), piece(3, 7), piece(1, 8)}
	x, _ := norm.Back(from[:3], w[:2])
	y, _ := norm.Back(from[:3], w[:2])
	y = y[:cap(y)]
	for i := range y {
		y[i] = piece(-7, -7)
	}
	if !slices.Equal(from, []int{3, 2, 1, 0}) || !slices.Equal(w, []api.Piece{piece(0, 5), piece(2, 6), piece(3, 7), piece(1, 8)}) || !slices.Equal(x, []api.Piece{piece(1, 6), piece(3, 5)}) {
		t.Error(from, w, x)
	}
}
