package sample

import (
	"slices"
	"strings"

	"livery/api"
	"livery/rle"
)

// Rsv returns the reservation of a user that has the function a, without a definition and a witness.
func Rsv(id, seq uint32, user string, a ...api.Seg) api.Rsv {
	return api.Rsv{Id: id, Seq: seq, User: user, A: a}
}

// WrongRsvs returns reservations that are not valid, for one reason each.
func WrongRsvs() []api.Rsv {
	const late = api.MaxTime
	l := []api.Rsv{Rsv(0, 1, "ann", Box(2, 8, Vec(3, 1))...)}
	for _, user := range []string{"", strings.Repeat("a", 17), "Ann", "an n", "ann\x00", "an-n", "\xc3\xa4nn", "`", "{", "/", ":", "ann\xff"} {
		l = append(l, Rsv(1, 1, user, Box(2, 8, Vec(3, 1))...))
	}
	for _, a := range slices.Concat(Wrong(), [][]api.Seg{
		List(Seg(2, 3, 1)),
		List(Seg(2, 3, 1), Seg(8, 0, 1)),
		Box(2, 8, Vec(-1, 1)),
		Box(2, 8, Vec(1, -1)),
		List(Seg(2, 3, 1), Seg(4, 0, -1), Seg(8, 0, 0)),
		Box(-1, 8, Vec(3, 1)),
		Box(2, late+1, Vec(3, 1)),
		Box(late, late+1, Vec(3, 1)),
		Box(2, Top, Vec(3, 1)),
		Box(-Top, 8, Vec(3, 1)),
		Saw(1025),
	}) {
		l = append(l, Rsv(1, 1, "ann", a...))
	}
	return l
}

// Saw returns a function of n runs, from 0 on, that is never below 0 and ends.
func Saw(n int64) []api.Seg {
	var f []api.Seg
	for i := range n - 1 {
		f = append(f, Seg(i, 1+i%2, 2-i%2))
	}
	return append(f, Seg(n-1, 0, 0))
}

// Amount returns a function of a few runs, from 0 on, that is never below 0 and ends.
func (d *Dice) Amount() []api.Seg {
	var raw []api.Seg
	at := int64(d.Below(9))
	for range d.Below(6) {
		raw = append(raw, Seg(at, int64(d.Below(3)), int64(d.Below(3))))
		at += int64(1 + d.Below(3))
	}
	f, _ := rle.Of(append(raw, Seg(at, 0, 0)))
	return f
}
