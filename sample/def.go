package sample

import (
	"slices"

	"livery/api"
)

// Atom returns an atom.
func Atom(n, g uint32, d int64) api.Part { return api.Part{N: n, G: g, D: d} }

// Group returns a part that is no atom.
func Group(kind uint8, kids int) api.Part { return api.Part{Kind: kind, Kids: kids} }

// Piece returns a piece.
func Piece(part int, at int64) api.Piece { return api.Piece{Part: part, At: at} }

// Terms returns all lists of at most so many parts of an alphabet in which each part has as many children as it says; what else makes a term valid is not looked at.
func Terms(alphabet []api.Part, most int) [][]api.Part {
	var whole [][]api.Part
	begun := [][]api.Part{nil}
	for range most {
		var next [][]api.Part
		for _, l := range begun {
			for _, p := range alphabet {
				more := append(l[:len(l):len(l)], p)
				switch due := missing(more); {
				case due == 0:
					whole = append(whole, more)
				case len(more)+due <= most:
					next = append(next, more)
				}
			}
		}
		begun = next
	}
	return whole
}

// missing returns how many parts must at least still come behind l.
func missing(l []api.Part) int {
	due := 1
	for _, p := range l {
		due += p.Kids - 1
	}
	return due
}

// Behind returns the index behind all descendants of the part at at.
func Behind(l []api.Part, at int) int {
	for due := 1; due > 0; at++ {
		due += l[at].Kids - 1
	}
	return at
}

// Children returns the indices of the children of the part at at.
func Children(l []api.Part, at int) []int {
	var kids []int
	for next := at + 1; next < Behind(l, at); next = Behind(l, next) {
		kids = append(kids, next)
	}
	return kids
}

// Shortest returns by the document's words the minimum length of the term of the part at at.
func Shortest(l []api.Part, at int) int64 {
	p := l[at]
	if p.Kind == 0 {
		return p.D
	}
	var all []int64
	for _, k := range Children(l, at) {
		all = append(all, Shortest(l, k))
	}
	switch p.Kind {
	case 3:
		return slices.Min(all)
	case 4:
		return slices.Max(all)
	}
	var sum int64
	for _, n := range all {
		sum += n
	}
	return sum
}

// Witnesses returns all lists of pieces, by increasing part, of the first of so many parts, that begin at a time from 0 on and below most.
func Witnesses(parts int, most int64) [][]api.Piece {
	l := [][]api.Piece{nil}
	for i := range parts {
		var more [][]api.Piece
		for _, w := range l {
			more = append(more, w)
			for at := range most {
				more = append(more, append(w[:len(w):len(w)], Piece(i, at)))
			}
		}
		l = more
	}
	return l
}

// Dice produces numbers that look as if they were thrown, always the same ones.
type Dice uint64

// Below returns a number from 0 on and below n.
func (d *Dice) Below(n int) int {
	*d = *d*6364136223846793005 + 1442695040888963407
	return int(uint64(*d) >> 33 % uint64(n))
}

// Term returns the parts of a term that is valid, at most so deep and so many, mostly of the kind.
func (d *Dice) Term(deep, many int, kind uint8) []api.Part {
	if deep == 1 || many < 2 || d.Below(3) == 0 {
		g := uint32(1 + d.Below(2))
		n := g * uint32(1+d.Below(2))
		return []api.Part{Atom(n, g, int64(1+d.Below(2)))}
	}
	if d.Below(3) == 0 {
		kind = uint8(1 + d.Below(4))
	}
	if kind == api.PaNext {
		deep = 2
	}
	l := []api.Part{Group(kind, 0)}
	for kids := 1 + d.Below(1+d.Below(16)); kids > 0 && len(l) < many; kids-- {
		l = append(l, d.Term(deep-1, many-len(l), kind)...)
		l[0].Kids++
	}
	return l
}

// Place returns pieces that satisfy the part at at, the first of which begins at begin, the end of the term and the index behind it.
func (d *Dice) Place(l []api.Part, at int, begin int64) ([]api.Piece, int64, int) {
	p, next := l[at], at+1
	if p.Kind == api.PaAtom {
		return []api.Piece{Piece(at, begin)}, begin + p.D, next
	}
	chosen := d.Below(p.Kids)
	end := begin
	var w []api.Piece
	for i := range p.Kids {
		start := begin
		if p.Kind == api.PaOrder || p.Kind == api.PaNext {
			start = end
		}
		if p.Kind == api.PaOrder {
			start += int64(d.Below(2))
		}
		var more []api.Piece
		var stop int64
		more, stop, next = d.Place(l, next, start)
		if p.Kind != api.PaAny || i == chosen {
			w = append(w, more...)
			end = max(end, stop)
		}
	}
	return w, end, next
}
