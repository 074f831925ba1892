package quant

import (
	"math"
	"testing"

	"livery/api"
)

// TestTable: the table of the quanta says what the function says by which the answers are worked out: a quantum is from 1 to 4096 (P5.1 to P5.3).
func TestTable(t *testing.T) {
	check := func(q int64, want bool) {
		if isQuantum(q) != want || listed(q) != want {
			t.Error(q, isQuantum(q), listed(q))
		}
	}
	for q := int64(-5000); q <= 10000; q++ {
		check(q, q >= 1 && q <= 4096)
	}
	for _, q := range []int64{math.MinInt64, math.MinInt64 + 1, math.MaxInt64, 1<<32 + 1, -1 << 32} {
		check(q, false)
	}
}

// TestTableApart: no answer hangs on what the table holds (P5.1 to P5.3): with a table that says the opposite of each number all answers are as before.
func TestTableApart(t *testing.T) {
	f := []api.Seg{{At: -3, V: api.Vec{Mem: 1}}, {At: 4}}
	answers := func() (l []any) {
		for _, q := range []int64{-1, 0, 1, 3, 4096, 4097} {
			down, e := Down(10, q)
			l = append(l, down, e)
			up, e := Up(10, q)
			l = append(l, up, e)
			g, e := Quant(f, q)
			l = append(l, len(g), e, Is(f, q), Is(g, q))
			bins, e := Bins(f, q, -7, 3)
			l = append(l, len(bins), e)
		}
		return l
	}
	listed(1) // so that no call fills it later
	before := answers()
	turn := func() {
		for i := range allowed {
			allowed[i] = !allowed[i]
		}
	}
	turn()
	defer turn()
	for i, a := range answers() {
		if a != before[i] {
			t.Error(i, a, before[i])
		}
	}
}
