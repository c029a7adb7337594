package local_test

import (
	"math"
	"testing"

	"dispatch/api"
	"dispatch/local"
)

// toldLevel is P1301 of Level written down as the chapter tells it: the first one that applies.
func toldLevel(a api.Ask, n api.Node) int {
	for _, x := range []struct {
		level   int
		applies bool
	}{
		{4, !n.Up}, {4, n.Label != a.Label}, {1, a.Rack == -1}, {1, a.Node == n.Id}, {1, a.Node == -1 && a.Rack == n.Rack}, {2, a.Rack == n.Rack},
	} {
		if x.applies {
			return x.level
		}
	}
	return 3
}

// toldMay is P1301 of May likewise: how often an ask must have been missed for each level.
func toldMay(a api.Ask, n api.Node) bool {
	least := map[int]int{1: math.MinInt, 2: 2, 3: 4}
	times, is := least[toldLevel(a, n)]
	return is && a.Missed >= times
}

// held holds one ask and one node against what is told.
func held(t *testing.T, a api.Ask, n api.Node) {
	if level, want := local.Level(a, n), toldLevel(a, n); level != want {
		t.Errorf("P1301: Level of %+v to %+v: %d; want %d", a, n, level, want)
	}
	if may, want := local.May(a, n), toldMay(a, n); may != want {
		t.Errorf("P1301: May of %+v to %+v: %t; want %t", a, n, may, want)
	}
}

// pick takes the i-th row of a grid, the numbers of which are counted up like digits.
func pick(grid [][]int, i int) (row []int) {
	for _, digits := range grid {
		row = append(row, digits[i%len(digits)])
		i /= len(digits)
	}
	return row
}

// all goes through asks and nodes with all these places, labels and misses together.
func all(t *testing.T, places, labels, times []int) {
	grid := [][]int{places, places, places, places, labels, labels, times, {0, 1}}
	rows := 1
	for _, digits := range grid {
		rows *= len(digits)
	}
	for i := range rows {
		r := pick(grid, i)
		held(t, api.Ask{Label: r[4], Node: r[0], Rack: r[1], Missed: r[6]}, api.Node{Id: r[2], Label: r[5], Rack: r[3], Up: r[7] == 1})
		if t.Failed() {
			return
		}
	}
}

func TestP1301AllSmallNumbers(t *testing.T) {
	all(t, []int{-2, -1, 0, 1, 2}, []int{0, 1, 2}, []int{-1, 0, 1, 2, 3, 4, 5})
}

func TestP1301AllEdges(t *testing.T) {
	all(t, []int{-1, 0, 99, 100, 999, 1000}, []int{-1, 0, 3}, []int{0, 2, 4, 100})
}

func TestP1301AllExtremes(t *testing.T) {
	all(t, []int{math.MinInt, -1, 0, 1 << 32, math.MaxInt}, []int{math.MinInt, 0, math.MaxInt}, []int{math.MinInt, 1, 3, math.MaxInt})
}
