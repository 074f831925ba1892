package sample

import (
	"slices"
	"strings"

	"livery/api"
	"livery/plan"
	"livery/rle"
)

// Rsv returns the reservation of a user that has the function a, without a definition and a witness.
func Rsv(id, seq uint32, user string, a ...api.Seg) api.Rsv {
	return api.Rsv{Id: id, Seq: seq, User: user, A: a}
}

// RichRsv returns a reservation all of whose lists have elements, and more of them behind their length.
func RichRsv(id, seq uint32, user string) api.Rsv {
	s := Rsv(id, seq, user, List(Seg(2, 3, 1), Seg(5, 1, 1), Seg(8, 0, 0), Seg(7, 7, 7), Seg(1, 1, 1))[:3]...)
	s.Def = api.Def{From: 1, To: 20, T: []api.Part{{Kind: 4, Kids: 2}, {N: 3, G: 1, D: 3}, {N: 1, G: 1, D: 6}, {Kind: 9}, {Kind: 8}}[:3]}
	s.W = []api.Piece{{Part: 1, At: 2}, {Part: 2, At: 2}, {Part: 7, At: 7}}[:2]
	return s
}

// SameRsv reports whether two reservations are equal in every field.
func SameRsv(a, b api.Rsv) bool {
	return a.Id == b.Id && a.Seq == b.Seq && a.User == b.User && a.Def.From == b.Def.From && a.Def.To == b.Def.To &&
		slices.Equal(a.Def.T, b.Def.T) && slices.Equal(a.W, b.W) && slices.Equal(a.A, b.A)
}

// SpoilRsv writes over all of a reservation's lists, their spare capacity too.
func SpoilRsv(s *api.Rsv) {
	Spoil(s.A)
	parts, pieces := s.Def.T[:cap(s.Def.T)], s.W[:cap(s.W)]
	for i := range parts {
		parts[i] = api.Part{Kind: 77, Kids: -7}
	}
	for i := range pieces {
		pieces[i] = api.Piece{Part: -7, At: -7}
	}
}

// Plan returns the plan with that capacity and these reservations, or nil if there can't be one.
func Plan(capacity []api.Seg, l ...api.Rsv) *plan.Plan {
	var changes []api.Change
	for _, r := range l {
		changes = append(changes, api.Change{Kind: api.ChAdd, R: r})
	}
	p, _ := plan.New(capacity)
	if p.Do(changes) != api.OK {
		return nil
	}
	return p
}

// WrongRsvs returns reservations that are not valid, for one reason each.
func WrongRsvs() []api.Rsv {
	const late = api.MaxTime
	l := []api.Rsv{Rsv(0, 1, "ann", Box(2, 8, Vec(3, 1))...)}
	for _, user := range []string{"", strings.Repeat("a", 17), "Ann", "an n", "ann\x00", "an-n", "\xc3\xa4nn", "`", "{", "/", ":", "ann\xff"} {
		l = append(l, Rsv(1, 1, user, Box(2, 8, Vec(3, 1))...))
	}
	for _, a := range slices.Concat(Wrong(), [][]api.Seg{
		List(Seg(2, 3, 1)),
		List(Seg(2, 3, 1), Seg(8, 0, 1)),
		Box(2, 8, Vec(-1, 1)),
		Box(2, 8, Vec(1, -1)),
		List(Seg(2, 3, 1), Seg(4, 0, -1), Seg(8, 0, 0)),
		Box(-1, 8, Vec(3, 1)),
		Box(2, late+1, Vec(3, 1)),
		Box(late, late+1, Vec(3, 1)),
		Box(2, Top, Vec(3, 1)),
		Box(-Top, 8, Vec(3, 1)),
		Saw(1025),
	}) {
		l = append(l, Rsv(1, 1, "ann", a...))
	}
	return l
}

// Saw returns a function of n runs, from 0 on, that is never below 0 and ends.
func Saw(n int64) []api.Seg {
	var f []api.Seg
	for i := range n - 1 {
		f = append(f, Seg(i, 1+i%2, 2-i%2))
	}
	return append(f, Seg(n-1, 0, 0))
}

// Amount returns a function of a few runs, from 0 on, that is never below 0 and ends.
func (d *Dice) Amount() []api.Seg {
	var raw []api.Seg
	at := int64(d.Below(9))
	for range d.Below(6) {
		raw = append(raw, Seg(at, int64(d.Below(3)), int64(d.Below(3))))
		at += int64(1 + d.Below(3))
	}
	f, _ := rle.Of(append(raw, Seg(at, 0, 0)))
	return f
}
