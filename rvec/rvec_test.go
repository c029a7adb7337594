package rvec_test

import (
	"math"
	"math/big"
	"testing"

	"dispatch/api"
	"dispatch/rvec"
)

// most is the greatest part that a vector may have.
const most = 1 << 50

// wrongParts are parts that no vector may have: just beyond the bounds, and so far that sums of them wrap round.
var wrongParts = []int{-1, most + 1, math.MinInt, math.MaxInt}

func v(mem, cores int) api.Vec { return api.Vec{Mem: mem, Cores: cores} }

// binary is one of Add and Sub.
type binary func(a, b api.Vec) (api.Vec, api.Errno)

type sumCase struct {
	name string
	a, b api.Vec
	want api.Vec
	err  api.Errno
}

func checkSums(t *testing.T, f binary, cases []sumCase) {
	t.Helper()
	for _, c := range cases {
		got, err := f(c.a, c.b)
		if got != c.want || err != c.err {
			t.Errorf("P101: %s: of %v and %v: %v, %v; want %v, %v", c.name, c.a, c.b, got, err, c.want, c.err)
		}
	}
}

func TestP101Add(t *testing.T) {
	checkSums(t, rvec.Add, []sumCase{
		{"ordinary", v(1, 20), v(3, 4), v(4, 24), api.OK},
		{"nothing", v(0, 0), v(0, 0), v(0, 0), api.OK},
		{"the greatest parts", v(most, 0), v(0, most), v(most, most), api.OK},
		{"just the greatest sum", v(most-1, 1), v(1, most-1), v(most, most), api.OK},
		{"memory one beyond", v(most, 5), v(1, 5), v(0, 0), api.ErrOver},
		{"cores one beyond", v(5, 1), v(5, most), v(0, 0), api.ErrOver},
		{"both far beyond", v(most, most), v(most, most), v(0, 0), api.ErrOver},
		{"a part below 0 ahead of a sum beyond", v(most, -1), v(most, 5), v(0, 0), api.ErrArg},
		{"a part above 2^50 ahead of a sum beyond", v(most, 0), v(1, most+1), v(0, 0), api.ErrArg},
		{"a part below 0, though the sum is not", v(5, -1), v(5, 1), v(0, 0), api.ErrArg},
	})
}

func TestP101Sub(t *testing.T) {
	checkSums(t, rvec.Sub, []sumCase{
		{"ordinary", v(7, 20), v(3, 4), v(4, 16), api.OK},
		{"nothing left", v(7, most), v(7, most), v(0, 0), api.OK},
		{"nothing taken", v(most, 3), v(0, 0), v(most, 3), api.OK},
		{"memory one beneath", v(6, 9), v(7, 4), v(0, 0), api.ErrOver},
		{"cores one beneath", v(9, 6), v(4, 7), v(0, 0), api.ErrOver},
		{"as far beneath as can be", v(0, 0), v(most, most), v(0, 0), api.ErrOver},
		{"a part below 0 ahead of a difference beneath", v(0, -1), v(5, 0), v(0, 0), api.ErrArg},
		{"a part above 2^50 ahead of a difference beneath", v(0, most+1), v(5, 1), v(0, 0), api.ErrArg},
		{"a part below 0, though the difference is not", v(5, 5), v(-1, 1), v(0, 0), api.ErrArg},
		{"a part above 2^50, though the difference is not", v(most+1, 5), v(5, 5), v(0, 0), api.ErrArg},
	})
}

// places are vectors like base with one part in each place replaced by x.
func places(base api.Vec, x int) []api.Vec {
	return []api.Vec{v(x, base.Cores), v(base.Mem, x)}
}

func TestP101WrongParts(t *testing.T) {
	good := v(5, 5)
	for _, x := range wrongParts {
		for _, bad := range places(good, x) {
			for _, f := range []binary{rvec.Add, rvec.Sub} {
				for _, pair := range [][2]api.Vec{{bad, good}, {good, bad}, {bad, bad}} {
					if got, err := f(pair[0], pair[1]); got != v(0, 0) || err != api.ErrArg {
						t.Errorf("P101: of %v and %v: %v, %v; want the zero vector and %v", pair[0], pair[1], got, err, api.ErrArg)
					}
				}
			}
		}
	}
}

func TestP101Fits(t *testing.T) {
	for _, c := range []struct {
		a, b api.Vec
		want bool
	}{
		{v(3, 4), v(5, 6), true},
		{v(5, 6), v(5, 6), true},
		{v(6, 6), v(5, 6), false},
		{v(5, 7), v(5, 6), false},
		{v(0, 0), v(0, 0), true},
		{v(most, 0), v(most, 0), true},
		{v(most+1, 0), v(most, 0), false},
		{v(-5, -6), v(-5, -6), true},
		{v(-5, -5), v(-5, -6), false},
		{v(-4, -6), v(-5, -6), false},
		{v(math.MinInt, math.MinInt), v(math.MaxInt, math.MaxInt), true},
		{v(math.MaxInt, math.MinInt), v(math.MinInt, math.MaxInt), false},
	} {
		if got := rvec.Fits(c.a, c.b); got != c.want {
			t.Errorf("P101: Fits(%v, %v) is %v", c.a, c.b, got)
		}
	}
}

func TestP102Scale(t *testing.T) {
	for _, c := range []struct {
		name string
		a    api.Vec
		bp   int
		want api.Vec
		err  api.Errno
	}{
		{"the chapter's example", v(1000, 3), 5000, v(500, 1), api.OK},
		{"rounded down, not to the nearest", v(9999, 1), 9999, v(9998, 0), api.OK},
		{"one point of one part less than a whole", v(9999, 10000), 1, v(0, 1), api.OK},
		{"no points", v(most, 8), 0, v(0, 0), api.OK},
		{"the whole", v(most, 8), 10000, v(most, 8), api.OK},
		{"of nothing", v(0, 0), 1000000, v(0, 0), api.OK},
		{"the most points", v(7, 1<<40), 1000000, v(700, 100<<40), api.OK},
		{"the greatest result of the most points", v(most/100, 0), 1000000, v(most/100*100, 0), api.OK},
		{"memory just beyond", v(most, 0), 10001, v(0, 0), api.ErrOver},
		{"cores just beyond", v(0, most/100+1), 1000000, v(0, 0), api.ErrOver},
		{"as far beyond as can be", v(most, most), 1000000, v(0, 0), api.ErrOver},
		{"points below 0", v(1, 1), -1, v(0, 0), api.ErrArg},
		{"points below 0, of nothing", v(0, 0), math.MinInt, v(0, 0), api.ErrArg},
		{"one point too many", v(1, 1), 1000001, v(0, 0), api.ErrArg},
		{"one point too many ahead of a result beyond", v(most, 0), 1000001, v(0, 0), api.ErrArg},
		{"a part below 0 ahead of a result beyond", v(most, -1), 1000000, v(0, 0), api.ErrArg},
		{"a part above 2^50 ahead of a result beyond", v(most+1, 0), 1000000, v(0, 0), api.ErrArg},
		{"a part above 2^50, though the result is not", v(0, most+1), 5000, v(0, 0), api.ErrArg},
	} {
		got, err := rvec.Scale(c.a, c.bp)
		if got != c.want || err != c.err {
			t.Errorf("P102: %s: %d of %v: %v, %v; want %v, %v", c.name, c.bp, c.a, got, err, c.want, c.err)
		}
	}
}

func TestP102WrongParts(t *testing.T) {
	for _, x := range wrongParts {
		for _, bad := range places(v(5, 5), x) {
			if got, err := rvec.Scale(bad, 0); got != v(0, 0) || err != api.ErrArg {
				t.Errorf("P102: 0 of %v: %v, %v; want the zero vector and %v", bad, got, err, api.ErrArg)
			}
		}
	}
}

// scaled multiplies in full, rounding down.
func scaled(part, bp int) *big.Int {
	x := big.NewInt(int64(part))
	x.Mul(x, big.NewInt(int64(bp)))
	return x.Div(x, big.NewInt(10000))
}

func TestP102IsExact(t *testing.T) {
	for _, part := range []int{0, 1, 9999, 10000, 10001, 123456789, most / 100, most/100 + 1, most - 9999, most - 1, most} {
		for _, bp := range []int{0, 1, 3333, 9999, 10000, 10001, 999999, 1000000} {
			want, err := scaled(part, bp), api.OK
			if want.Cmp(big.NewInt(most)) > 0 {
				want, err = new(big.Int), api.ErrOver
			}
			got, e := rvec.Scale(v(part, 0), bp)
			if big.NewInt(int64(got.Mem)).Cmp(want) != 0 || got.Cores != 0 || e != err {
				t.Errorf("P102: %d of %d: %v, %v; want %v, %v", bp, part, got, e, want, err)
			}
		}
	}
}

func TestP103Order(t *testing.T) {
	for _, c := range []struct {
		name       string
		a, p, b, q api.Vec
		want       int
	}{
		{"memory decides both", v(1, 1), v(2, 9), v(2, 1), v(3, 9), -1},
		{"cores decide both", v(1, 2), v(9, 3), v(1, 1), v(9, 2), 1},
		{"memory decides one, cores the other", v(5, 1), v(10, 10), v(1, 5), v(10, 10), 0},
		{"the greater share counts, not the sum", v(6, 0), v(10, 10), v(5, 5), v(10, 10), 1},
		{"the same load of other sizes", v(2, 0), v(4, 1), v(0, 3), v(7, 6), 0},
		{"more than the whole", v(30, 1), v(10, 10), v(20, 1), v(10, 10), 1},
		{"nothing of nothing, and nothing of something", v(0, 0), v(0, 0), v(0, 0), v(5, 5), 0},
		{"nothing of nothing, and a little", v(0, 0), v(0, 0), v(1, 0), v(most, most), -1},
		{"nothing of nothing leaves it to the other part", v(0, 1), v(0, 2), v(1, 0), v(3, 0), 1},
		{"something of nothing, and the greatest number", v(1, 0), v(0, 5), v(most, 0), v(1, 1), 1},
		{"the greatest number, and something of nothing", v(0, most), v(1, 1), v(5, 1), v(5, 0), -1},
		{"something of nothing twice", v(1, 0), v(0, 5), v(0, most), v(5, 0), 0},
		{"both parts of nothing", v(1, 1), v(0, 0), v(most, 0), v(0, 1), 0},
		{"a difference that no float shows", v(most-1, 0), v(most, 1), v(most-2, 0), v(most-1, 1), 1},
		{"the greatest vectors", v(most, most), v(most, most), v(1, 1), v(1, 1), 0},
	} {
		if got := rvec.Order(c.a, c.p, c.b, c.q); got != c.want {
			t.Errorf("P103: %s: %d; want %d", c.name, got, c.want)
		}
		if got := rvec.Order(c.b, c.q, c.a, c.p); got != -c.want {
			t.Errorf("P103: %s, the other way round: %d; want %d", c.name, got, -c.want)
		}
	}
}

func TestP103WrongParts(t *testing.T) {
	for _, base := range [][4]api.Vec{
		{v(5, 5), v(9, 9), v(4, 4), v(9, 9)},
		{v(4, 4), v(9, 9), v(5, 5), v(9, 9)},
	} {
		if rvec.Order(base[0], base[1], base[2], base[3]) == 0 {
			t.Fatalf("P103: %v: 0, with no wrong part", base)
		}
		for i := range base {
			for _, x := range wrongParts {
				for _, bad := range places(base[i], x) {
					l := base
					l[i] = bad
					if got := rvec.Order(l[0], l[1], l[2], l[3]); got != 0 {
						t.Errorf("P103: %v: %d; want 0", l, got)
					}
				}
			}
		}
	}
}

// share is part / whole; nil stands for what is greater than every number.
func share(part, whole int) *big.Rat {
	switch {
	case part == 0:
		return new(big.Rat)
	case whole == 0:
		return nil
	}
	return big.NewRat(int64(part), int64(whole))
}

// compareShares holds two shares against each other.
func compareShares(x, y *big.Rat) int {
	switch {
	case x == nil && y == nil:
		return 0
	case x == nil:
		return 1
	case y == nil:
		return -1
	}
	return x.Cmp(y)
}

func greaterShare(a, p api.Vec) *big.Rat {
	mem, cores := share(a.Mem, p.Mem), share(a.Cores, p.Cores)
	if compareShares(mem, cores) < 0 {
		return cores
	}
	return mem
}

// loads are all pairs of vectors with those parts.
func loads(parts []int) [][2]api.Vec {
	var vectors []api.Vec
	for _, mem := range parts {
		for _, cores := range parts {
			vectors = append(vectors, v(mem, cores))
		}
	}
	var l [][2]api.Vec
	for _, a := range vectors {
		for _, p := range vectors {
			l = append(l, [2]api.Vec{a, p})
		}
	}
	return l
}

// compared holds each of the loads against each.
func compared(l [][2]api.Vec) [][]int {
	table := make([][]int, len(l))
	for i, x := range l {
		for _, y := range l {
			table[i] = append(table[i], rvec.Order(x[0], x[1], y[0], y[1]))
		}
	}
	return table
}

func TestP103IsExact(t *testing.T) {
	l := loads([]int{0, 1, 3, most - 1, most})
	shares := make([]*big.Rat, len(l))
	for i, x := range l {
		shares[i] = greaterShare(x[0], x[1])
	}
	for i, row := range compared(l) {
		for j, got := range row {
			if want := compareShares(shares[i], shares[j]); got != want {
				t.Fatalf("P103: %v and %v: %d; want %d", l[i], l[j], got, want)
			}
		}
	}
}

func TestP104OrderIsTransitive(t *testing.T) {
	l := loads([]int{0, 1, most - 1, most})
	table := compared(l)
	chains := 0
	for i := range l {
		for j := range l {
			if table[i][j] >= 0 {
				continue
			}
			for k := range l {
				if table[j][k] >= 0 {
					continue
				}
				chains++
				if table[i][k] >= 0 {
					t.Fatalf("P104: %v is less than %v, and this less than %v, but the first not less than the third", l[i], l[j], l[k])
				}
			}
		}
	}
	if chains == 0 {
		t.Errorf("P104: no three loads are one less than the next")
	}
}
