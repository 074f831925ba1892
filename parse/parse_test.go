package parse_test

import (
	"math"
	"slices"
	"strconv"
	"strings"
	"testing"

	"livery/api"
	"livery/lex"
	"livery/parse"
)

const example = "from 0 to 100: (order (atom 2 1 10) (any (atom 4 2 5) (atom 1 1 20)))"

// atom returns an atom.
func atom(n, g uint32, d int64) api.Part { return api.Part{N: n, G: g, D: d} }

// group returns a part that is no atom.
func group(kind uint8, kids int) api.Part { return api.Part{Kind: kind, Kids: kids} }

// equal is Same by the document's words.
func equal(a, b api.Def) bool {
	if a.From != b.From || a.To != b.To || len(a.T) != len(b.T) {
		return false
	}
	for i, p := range a.T {
		q := b.T[i]
		if p.Kind != q.Kind || p.N != q.N || p.G != q.G || p.D != q.D || p.Kids != q.Kids {
			return false
		}
	}
	return true
}

// parsed holds what Parse answers for s against what is expected; beside an error the list must be nil.
func parsed(t *testing.T, s string, want api.Def, place int, we api.Errno) {
	t.Helper()
	d, at, e := parse.Parse(s)
	if !equal(d, want) || at != place || e != we || e != api.OK && d.T != nil {
		t.Fatalf("Parse(%q) = %v, %d, %d; expected %v, %d, %d", s, d, at, e, want, place, we)
	}
}

// refused holds what Parse answers for s against an error and its place.
func refused(t *testing.T, s string, place int, we api.Errno) {
	t.Helper()
	parsed(t, s, api.Def{}, place, we)
}

// printed holds what Print and Tree answer against the text that is expected.
func printed(t *testing.T, d api.Def, want string) {
	t.Helper()
	if s, e := parse.Print(d); s != want || e != api.OK || !parse.Tree(d.T) {
		t.Fatalf("Print(%v) = %q, %d; expected %q", d, s, e, want)
	}
}

// noTree holds what Print and Tree answer for parts that form no tree.
func noTree(t *testing.T, l []api.Part) {
	t.Helper()
	if s, e := parse.Print(api.Def{From: 1, To: 2, T: l}); s != "" || e != api.ErrShape || parse.Tree(l) {
		t.Fatalf("Print of %v = %q, %d", l, s, e)
	}
}

// The states of the reference: what must come next.
const (
	wantFrom = iota
	wantBegin
	wantTo
	wantEnd
	wantColon
	wantTerm
	wantWord
	wantN
	wantG
	wantD
	wantClose
	wantMore // another term, or what closes the one that is open
	wantNothing
)

// machine is the reference: Parse as a machine of states, in which no call calls itself.
type machine struct {
	state int
	d     api.Def
	open  []int // the parts that are open
}

// step takes a token, and reports whether it can be where it is.
func (m *machine) step(k api.Token) api.Errno {
	was := m.state
	last := len(m.d.T) - 1
	m.state++
	fits := k.Kind == api.TkNumber
	switch was {
	case wantFrom:
		fits = k.Text == "from"
	case wantBegin:
		m.d.From = k.N
	case wantTo:
		fits = k.Text == "to"
	case wantEnd:
		m.d.To = k.N
	case wantColon:
		fits = k.Text == ":"
	case wantWord:
		kind := slices.Index([]string{"atom", "order", "next", "any", "all"}, k.Text)
		fits = kind >= 0
		if kind > 0 {
			m.d.T[last].Kind = uint8(kind)
			m.state = wantTerm
		}
	case wantN:
		fits = fits && k.N < 1<<32
		m.d.T[last].N = uint32(k.N)
	case wantG:
		fits = fits && k.N < 1<<32
		m.d.T[last].G = uint32(k.N)
	case wantD:
		m.d.T[last].D = k.N
	case wantNothing:
		fits = false
	default:
		return m.bracket(was, k)
	}
	if !fits {
		return api.ErrParse
	}
	return api.OK
}

// bracket is step where a term begins or ends.
func (m *machine) bracket(was int, k api.Token) api.Errno {
	switch {
	case k.Text == "(" && was != wantClose:
		if len(m.open) == 8 || len(m.d.T) == 64 {
			return api.ErrDeep
		}
		if len(m.open) > 0 {
			m.d.T[m.open[len(m.open)-1]].Kids++
		}
		m.open = append(m.open, len(m.d.T))
		m.d.T = append(m.d.T, api.Part{})
		m.state = wantWord
	case k.Text == ")" && was != wantTerm:
		m.open = m.open[:len(m.open)-1]
		m.state = wantMore
		if len(m.open) == 0 {
			m.state = wantNothing
		}
	default:
		return api.ErrParse
	}
	return api.OK
}

// reference is Parse by the machine.
func reference(s string) (api.Def, int, api.Errno) {
	l, at, e := lex.Lex(s)
	if e != api.OK {
		return api.Def{}, at, e
	}
	m := &machine{}
	for _, k := range l {
		if e := m.step(k); e != api.OK {
			return api.Def{}, k.At, e
		}
	}
	if m.state != wantNothing {
		return api.Def{}, len(s), api.ErrParse
	}
	return m.d, 0, api.OK
}

// compared holds Parse against the reference.
func compared(t *testing.T, s string) {
	t.Helper()
	d, at, e := reference(s)
	parsed(t, s, d, at, e)
}

// sequences calls each with all texts of exactly many of the words, with a blank between two of them.
func sequences(words []string, many int, each func(s string)) {
	if many == 0 {
		each("")
		return
	}
	sequences(words, many-1, func(s string) {
		for _, w := range words {
			each(strings.TrimPrefix(s+" "+w, " "))
		}
	})
}

// nested returns the text of an atom within so many terms of the word.
func nested(word string, deep int) string {
	return strings.Repeat("("+word+" ", deep) + "(atom 1 1 1)" + strings.Repeat(")", deep)
}

// TestExamples: the document's examples (P7.1, P7.2).
func TestExamples(t *testing.T) {
	d := api.Def{From: 0, To: 100, T: []api.Part{group(api.PaOrder, 2), atom(2, 1, 10), group(api.PaAny, 2), atom(4, 2, 5), atom(1, 1, 20)}}
	parsed(t, example, d, 0, api.OK)
	printed(t, d, example)
	refused(t, "from 0 to 9 (atom 1 1 1)", 12, api.ErrParse)
	refused(t, "from 0 to 9: (order)", 19, api.ErrParse)
	refused(t, "from 0 to 9: (atom 1 1)", 22, api.ErrParse)
	refused(t, example[:len(example)-1], 68, api.ErrParse)
	refused(t, "", 0, api.ErrParse)
	refused(t, "from 0 to 9: (atom 4294967296 1 1)", 19, api.ErrParse)
}

// TestKinds: each word is of its kind (P7.1), and the other way round (P7.2).
func TestKinds(t *testing.T) {
	for kind, word := range []string{"atom", "order", "next", "any", "all"} {
		if kind == 0 {
			continue
		}
		s := "from 7 to 3: (" + word + " (atom 1 2 3))"
		d := api.Def{From: 7, To: 3, T: []api.Part{group(uint8(kind), 1), atom(1, 2, 3)}}
		parsed(t, s, d, 0, api.OK)
		printed(t, d, s)
	}
	for _, word := range []string{"from", "to", "a", "atoms", "ato", "alls", "orders", "x"} {
		refused(t, "from 7 to 3: ("+word+" 1 1 1)", 14, api.ErrParse)
		refused(t, "from 7 to 3: ("+word+" (atom 1 1 1))", 14, api.ErrParse)
	}
}

// TestNumbers: the greatest numbers there can be (P7.1).
func TestNumbers(t *testing.T) {
	parsed(t, "from 1099511627776 to 0: (atom 4294967295 0 1099511627776)", api.Def{From: 1 << 40, T: []api.Part{atom(math.MaxUint32, 0, 1<<40)}}, 0, api.OK)
	parsed(t, "from 0 to 1099511627776: (atom 0 4294967295 0)", api.Def{To: 1 << 40, T: []api.Part{atom(0, math.MaxUint32, 0)}}, 0, api.OK)
	refused(t, "from 0 to 9: (atom 1 4294967296 1)", 21, api.ErrParse)
	refused(t, "from 0 to 9: (atom 1099511627776 x", 19, api.ErrParse)
	refused(t, "from 1099511627777 to 9: (atom 1 1 1)", 5, api.ErrLex)
	refused(t, "from 0 to 9: (atom 1 1 1099511627777)", 23, api.ErrLex)
	refused(t, "from 0 to 9: (atom 01 1 1)", 19, api.ErrLex)
}

// TestLexFirst: what is in no token counts ahead of all else, even if it comes later (P7.1).
func TestLexFirst(t *testing.T) {
	refused(t, "to 9 -", 5, api.ErrLex)
	refused(t, "from 0 to 9: "+nested("all", 9)+" A", 13+9*5+12+9+1, api.ErrLex)
	long := "from 0 to 9: (atom 1 1 1)"
	long += strings.Repeat(" ", api.MaxText-len(long))
	parsed(t, long, api.Def{To: 9, T: []api.Part{atom(1, 1, 1)}}, 0, api.OK)
	refused(t, long+" ", 0, api.ErrLong)
	refused(t, long[:api.MaxText-1]+"x", api.MaxText-1, api.ErrParse)
	refused(t, strings.Repeat(" ", api.MaxText), api.MaxText, api.ErrParse)
	refused(t, "from 0 to 9: (atom 1 1 1 \t\r\n", 28, api.ErrParse)
	refused(t, strings.Repeat("-", api.MaxText+1), 0, api.ErrLong)
}

// TestDeep: a term in eight others, or the 65th one, is found when it begins (P7.1).
func TestDeep(t *testing.T) {
	head := "from 0 to 9: "
	d, at, e := parse.Parse(head + nested("all", 7))
	if e != api.OK || at != 0 || len(d.T) != 8 {
		t.Fatal(d, at, e)
	}
	for _, tail := range []string{nested("all", 8), strings.Repeat("(all ", 9), strings.Repeat("(all ", 8) + "(", strings.Repeat("(all ", 8) + "(x", strings.Repeat("(all ", 8) + "(atom 4294967296 :"} {
		refused(t, head+tail, 13+8*5, api.ErrDeep)
	}
	refused(t, head+strings.Repeat("(all ", 8), 13+8*5, api.ErrParse)
	refused(t, head+strings.Repeat("(all ", 8)+"x", 13+8*5, api.ErrParse)
	refused(t, head+strings.Repeat("(all ", 7)+"(atom (", 13+7*5+6, api.ErrParse)
	// A term that has ended does not count for the depth.
	compared(t, head+"(all "+nested("any", 6)+" "+nested("any", 6)+")")
	wide := head + "(all" + strings.Repeat(" (atom 1 1 1)", 63)
	d, at, e = parse.Parse(wide + ")")
	if e != api.OK || at != 0 || len(d.T) != 64 || d.T[0].Kids != 63 {
		t.Fatal(d, at, e)
	}
	for _, tail := range []string{" (atom 1 1 1))", " (", " (x", " (atom 1 1"} {
		refused(t, wide+tail, len(wide)+1, api.ErrDeep)
	}
	for _, tail := range []string{") (", ") (atom 1 1 1)", ") x"} {
		refused(t, wide+tail, len(wide)+2, api.ErrParse)
	}
	refused(t, wide+" x", len(wide)+1, api.ErrParse)
	refused(t, wide, len(wide), api.ErrParse)
	// As soon as both apply, and if a fault is ahead of what is too deep.
	both := head + "(all (all (all (all (all (all (all (all"
	refused(t, strings.Replace(both, "to 9", "to", 1)+" (", 9, api.ErrParse)
	refused(t, head+"(all"+strings.Repeat(" (atom 1 1 1)", 62)+" (atom 1 1) (", 13+4+62*13+10, api.ErrParse)
}

// TestSequences: all short rows of tokens, behind what can be ahead of them (P7.1).
func TestSequences(t *testing.T) {
	all := []string{"from", "to", "atom", "any", "next", "0", "4294967296", "(", ")", ":"}
	for many := range 5 {
		for _, head := range []string{"", "from 0 to 9: ", "from 0 to 9: (all (atom 1 1 1) ", "from 1 to 2: (order (any (atom 1 1 1)) (atom "} {
			sequences(all, many, func(s string) { compared(t, head+s) })
		}
	}
	sequences([]string{"(all", "(atom 1 2 3)", ")", "(atom 5 6 7"}, 7, func(s string) { compared(t, "from 4 to 5: "+s) })
}

// TestSpoiled: texts of which a token is left out, put in the stead of another one, or put in (P7.1).
func TestSpoiled(t *testing.T) {
	texts := []string{example, "from 3 to 4: (all (next (atom 1 2 3) (atom 4 5 6)) (any (order (atom 7 8 9))))", "from 0 to 9: " + nested("any", 7)}
	for _, s := range texts {
		l, _, _ := lex.Lex(s)
		for i := range len(s) + 1 {
			compared(t, s[:i])
		}
		for i := range len(l) + 1 {
			for _, w := range []string{"", "from", "to", "all", "atom", "x", "8", "4294967296", "(", ")", ":", "(any", "(any ("} {
				for _, behind := range [][]api.Token{l[i:], l[min(i+1, len(l)):]} {
					compared(t, lex.Text(l[:i])+" "+w+" "+lex.Text(behind))
				}
			}
		}
	}
}

// dice produces numbers that look as if they were thrown, always the same ones.
type dice uint64

// below returns a number from 0 on and below n.
func (d *dice) below(n int) int {
	*d = *d*6364136223846793005 + 1442695040888963407
	return int(uint64(*d) >> 33 % uint64(n))
}

// pick returns a number of at most most; often it is an edge.
func (d *dice) pick(most int64) int64 {
	switch d.below(4) {
	case 0:
		return 0
	case 1:
		return most
	}
	return int64(d.below(100))
}

// tree returns the parts of a term that can be parsed, at most so deep, at most so many.
func (d *dice) tree(deep, many int) []api.Part {
	if deep == 1 || many < 2 || d.below(3) == 0 {
		return []api.Part{atom(uint32(d.pick(math.MaxUint32)), uint32(d.pick(math.MaxUint32)), d.pick(1<<40))}
	}
	l := []api.Part{group(uint8(1+d.below(4)), 0)}
	for kids := 1 + d.below(4); kids > 0 && len(l) < many; kids-- {
		l = append(l, d.tree(deep-1, many-len(l))...)
		l[0].Kids++
	}
	return l
}

// term returns the text of a part with all its descendants, and what is behind them.
func term(l []api.Part) (string, []api.Part) {
	p, l := l[0], l[1:]
	s := "(" + []string{"atom", "order", "next", "any", "all"}[p.Kind]
	if p.Kind == 0 {
		s += " " + strconv.FormatUint(uint64(p.N), 10) + " " + strconv.FormatUint(uint64(p.G), 10) + " " + strconv.FormatInt(p.D, 10)
	}
	for range p.Kids {
		var kid string
		kid, l = term(l)
		s += " " + kid
	}
	return s + ")", l
}

// text is Print in another way: each part asks for the texts of its children.
func text(d api.Def) string {
	s, _ := term(d.T)
	return "from " + strconv.FormatInt(d.From, 10) + " to " + strconv.FormatInt(d.To, 10) + ": " + s
}

// TestRound: what is parsed is printed, and parsed again (P7.1, P7.2, P7.3).
func TestRound(t *testing.T) {
	d := dice(1)
	for range 20000 {
		def := api.Def{From: d.pick(1 << 40), To: d.pick(1 << 40), T: d.tree(8, 64)}
		s := text(def)
		if len(s) > api.MaxText {
			continue
		}
		printed(t, def, s)
		parsed(t, s, def, 0, api.OK)
		// White space between tokens changes nothing.
		wide := strings.NewReplacer("(", "\n( ", ")", "\t)\r", ":", " : ").Replace(s)
		if len(wide) <= api.MaxText {
			parsed(t, wide, def, 0, api.OK)
		}
		tight := strings.NewReplacer(": (", ":(", ") (", ")(").Replace(s)
		parsed(t, tight, def, 0, api.OK)
	}
}

// TestReplaced: a term in the stead of another one changes only that part (P7.4).
func TestReplaced(t *testing.T) {
	d := dice(2)
	for range 5000 {
		def := api.Def{From: d.pick(1 << 40), To: d.pick(1 << 40), T: d.tree(4, 16)}
		other := d.tree(4, 16)
		at := d.below(len(def.T))
		own, behind := term(def.T[at:])
		end := len(def.T) - len(behind)
		by, _ := term(other)
		// The term's text is behind those of all parts ahead of it.
		s := text(def)
		from := len("from " + strconv.FormatInt(def.From, 10) + " to " + strconv.FormatInt(def.To, 10) + ":")
		for range at + 1 {
			from += strings.IndexByte(s[from:], '(') + 1
		}
		from--
		if s[from:from+len(own)] != own {
			t.Fatal(s, own, from)
		}
		want := api.Def{From: def.From, To: def.To, T: slices.Concat(def.T[:at], other, def.T[end:])}
		parsed(t, s[:from]+by+s[from+len(own):], want, 0, api.OK)
	}
}

// isTree is Tree by the document's words: the first part with all its descendants is the whole list.
func isTree(l []api.Part) bool {
	for _, p := range l {
		if p.Kind > 4 {
			return false
		}
	}
	end, is := endOf(l, 0)
	return is && end == len(l)
}

// endOf returns the index behind all descendants of the part at at.
func endOf(l []api.Part, at int) (end int, is bool) {
	if at >= len(l) || l[at].Kids < 0 {
		return 0, false
	}
	end = at + 1
	for range l[at].Kids {
		if end, is = endOf(l, end); !is {
			return 0, false
		}
	}
	return end, true
}

// TestTrees: all short lists of parts, of which few form a tree (P7.2).
func TestTrees(t *testing.T) {
	var alphabet []api.Part
	for kids := -1; kids < 5; kids++ {
		alphabet = append(alphabet, group(api.PaAll, kids), api.Part{N: 3, G: 2, D: -1, Kids: kids})
	}
	alphabet = append(alphabet, group(5, 0), group(255, 1), api.Part{Kind: api.PaNext, N: 1, G: 1, D: 1})
	rows := [][]api.Part{nil}
	trees := 0
	for range 5 {
		var next [][]api.Part
		for _, l := range rows {
			if isTree(l) {
				trees++
				def := api.Def{From: -9, To: math.MinInt64, T: l}
				printed(t, def, text(def))
			} else {
				noTree(t, l)
			}
			for _, p := range alphabet {
				next = append(next, append(slices.Clone(l), p))
			}
		}
		rows = next
	}
	if trees < 100 {
		t.Error(trees)
	}
	noTree(t, []api.Part{})
}

// TestEveryKind: the kinds that there are, and those that there are not (P7.2).
func TestEveryKind(t *testing.T) {
	for kind := range 256 {
		for at := range 3 {
			l := []api.Part{group(api.PaAll, 2), group(api.PaAny, 0), group(api.PaAny, 0)}
			l[at].Kind = uint8(kind)
			if parse.Tree(l) != (kind < 5) {
				t.Fatal(kind, at)
			}
		}
	}
}

// TestPrintAny: parts that form a tree are printed, whatever else they are (P7.2).
func TestPrintAny(t *testing.T) {
	printed(t, api.Def{From: math.MinInt64, To: math.MaxInt64, T: []api.Part{{Kind: api.PaAll}}}, "from -9223372036854775808 to 9223372036854775807: (all)")
	printed(t, api.Def{T: []api.Part{atom(math.MaxUint32, math.MaxUint32, math.MinInt64)}}, "from 0 to 0: (atom 4294967295 4294967295 -9223372036854775808)")
	printed(t, api.Def{From: 5, To: -5, T: []api.Part{{Kids: 2}, {Kind: api.PaAny, N: 4, G: 5, D: 6, Kids: 1}, atom(1, 2, 3), {Kind: api.PaOrder}}}, "from 5 to -5: (atom 0 0 0 (any (atom 1 2 3)) (order))")
	// Deeper, and more, than a text can have.
	const many = 1 << 20
	l := make([]api.Part, many)
	for i := range l {
		l[i] = group(api.PaNext, 1)
	}
	noTree(t, l)
	l[many-1] = group(api.PaNext, 0)
	printed(t, api.Def{T: l}, "from 0 to 0:"+strings.Repeat(" (next", many)+strings.Repeat(")", many))
	for i := range l {
		l[i] = group(api.PaAny, 0)
	}
	noTree(t, l)
	l[0].Kids = many - 1
	printed(t, api.Def{T: l}, "from 0 to 0: (any"+strings.Repeat(" (any)", many-1)+")")
}

// TestGreatKids: numbers of children that no list has (P1, P7.2).
func TestGreatKids(t *testing.T) {
	for _, kids := range []int{math.MaxInt, math.MaxInt - 1, math.MinInt, math.MinInt + 1, math.MaxInt/2 + 1, math.MaxUint32, math.MaxUint32 + 1, 1 << 62} {
		noTree(t, []api.Part{{Kids: kids}})
		for at := range 3 {
			l := []api.Part{group(api.PaAll, 2), group(api.PaAny, 0), group(api.PaAny, 0)}
			l[at].Kids = kids
			noTree(t, l)
		}
		noTree(t, []api.Part{group(api.PaAll, kids), group(api.PaAll, kids), group(api.PaAll, -kids)})
	}
}

// TestSame: two definitions differ in any field (P7.2).
func TestSame(t *testing.T) {
	fresh := func() api.Def {
		return api.Def{From: 1, To: 2, T: []api.Part{group(api.PaAll, 2), atom(1, 2, 3), atom(4, 5, 6)}}
	}
	if !parse.Same(fresh(), fresh()) || !parse.Same(api.Def{}, api.Def{T: []api.Part{}}) || !parse.Same(api.Def{T: []api.Part{}}, api.Def{}) {
		t.Error("the same")
	}
	for i, change := range []func(d *api.Def){
		func(d *api.Def) { d.From = 2 },
		func(d *api.Def) { d.To = 1 },
		func(d *api.Def) { d.From, d.To = 2, 1 },
		func(d *api.Def) { d.T = nil },
		func(d *api.Def) { d.T = d.T[:2] },
		func(d *api.Def) { d.T = append(d.T, api.Part{}) },
		func(d *api.Def) { d.T[0].Kind = api.PaAny },
		func(d *api.Def) { d.T[1].Kind = 200 },
		func(d *api.Def) { d.T[1].N = 2 },
		func(d *api.Def) { d.T[1].G = 1 },
		func(d *api.Def) { d.T[2].D = 7 },
		func(d *api.Def) { d.T[2].Kids = -1 },
		func(d *api.Def) { d.T[1], d.T[2] = d.T[2], d.T[1] },
	} {
		other := fresh()
		change(&other)
		if parse.Same(fresh(), other) || parse.Same(other, fresh()) || !parse.Same(other, other) {
			t.Error(i)
		}
	}
	// What is no tree is the same as itself, too.
	odd := api.Def{From: math.MinInt64, T: []api.Part{{Kind: 9, Kids: math.MinInt}}}
	if !parse.Same(odd, odd) {
		t.Error(odd)
	}
}

// TestMemory: arguments stay as they are, behind their length too; what is answered is nobody else's (P1, R5).
func TestMemory(t *testing.T) {
	l := []api.Part{group(api.PaAll, 2), atom(1, 2, 3), atom(4, 5, 6), atom(7, 8, 9)}
	was := slices.Clone(l)
	d := api.Def{From: 1, To: 2, T: l[:3]}
	printed(t, d, "from 1 to 2: (all (atom 1 2 3) (atom 4 5 6))")
	if !parse.Same(d, d) || !slices.Equal(l, was) {
		t.Error(l)
	}
	a, _, _ := parse.Parse(example)
	b, _, _ := parse.Parse(example)
	whole := a.T[:cap(a.T)]
	for i := range whole {
		whole[i] = group(77, 77)
	}
	parsed(t, example, b, 0, api.OK)
	if b.T[0] != group(api.PaOrder, 2) || a.T[0] != group(77, 77) {
		t.Error(a, b)
	}
}

// TestAnyBytes: Parse ends, and answers an error or a definition that can be printed, whatever it is given (P1).
func TestAnyBytes(t *testing.T) {
	d := dice(3)
	pieces := []string{"from 0 to 9:", "(all", "(atom 1 1 1)", "(order ", ")", "(", " ", "from", "7", "\xff", "\x00", "é", "any"}
	for range 20000 {
		s := ""
		for range d.below(12) {
			s += pieces[d.below(len(pieces))]
		}
		compared(t, s)
	}
}
