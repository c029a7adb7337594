package plan_test

import (
	"math"
	"slices"
	"strconv"
	"testing"

	"dispatch/api"
	"dispatch/conf"
	"dispatch/plan"
	"dispatch/share"
)

// The numbers that the chapter and the limits name.
const (
	maxId     = 999
	maxLong   = 1000
	maxTime   = 1000000
	maxSize   = 1 << 30
	mostPlans = 12
)

// smallText is a configuration of three labels.
const smallText = `labels gpu ssd
queue root 10000 10000/10000 10000/10000 10000/10000
queue root.a 5000 4000/10000 0/5000 9999/9999
queue root.b 20000 6000/7000 10000/10000 1/10000
`

func v(mem, cores int) api.Vec { return api.Vec{Mem: mem, Cores: cores} }

func node(id, label, mem, cores int) api.Node {
	return api.Node{Id: id, Label: label, Cap: v(mem, cores), Up: true}
}

// the is a plan that has been placed; ask is one that is to be.
func the(id, label, from, until int, need api.Vec) api.Plan {
	return api.Plan{Id: id, Label: label, From: from, Until: until, Need: need}
}

func ask(from, until int, need api.Vec) api.Plan {
	return api.Plan{From: from, Until: until, Need: need}
}

// of is a state of smallText at a time, with {10 10} of each label, and plans.
func of(now int, l ...api.Plan) api.State {
	c, _ := conf.Parse(smallText)
	return api.State{Conf: c, Now: now, Nodes: []api.Node{node(1, 0, 10, 10), node(2, 1, 10, 10), node(3, 2, 10, 10)}, Plans: l}
}

// rich is a state with lists of every kind.
func rich() api.State {
	s := of(25, the(60, 0, 20, 30, v(2, 1)), the(61, 1, 40, 50, v(3, 3)), the(70, 0, 30, 31, v(9, 9)))
	s.Nodes[0].Seen, s.Nodes[0].Beat, s.Nodes[1].Rack = 20, 3, 9
	s.Apps = []api.App{
		{Id: 30, State: api.Running, Queue: "root.a", User: 7, Prio: 2, Master: v(5, 1), Asks: []api.Ask{{Prio: 1, Size: v(1, 1), Count: 3, Node: -1, Rack: -1}}, Seen: 24, Beat: 6, Grants: []int{52}, Kills: []int{49}, Told: []int{51}, Lost: []int{48}},
		{Id: 31, State: api.Waiting, Queue: "root.b", Master: v(1, 1), Asks: []api.Ask{{Size: v(1, 1), Count: 1, Node: -1, Rack: -1}}},
	}
	s.Conts = []api.Cont{{Id: 50, App: 30, Node: 1, Size: v(5, 1), Master: true}, {Id: 51, App: 30, Node: 1, Size: v(1, 1), Notice: 24}}
	s.Slots = []api.Slot{{Node: 2, App: 30, Prio: 1}}
	s.Epoch, s.Seq = 3, 40
	return s
}

// checkPlace asks Place, held against P2 to P4, and compares what it says; want is -1 where there is no time.
func checkPlace(t *testing.T, what string, l []api.Plan, total api.Vec, p api.Plan, long, want int) {
	t.Helper()
	e := api.OK
	if want < 0 {
		want, e = 0, api.ErrFull
	}
	if got, err := place(t, what, l, total, p, long); got != want || err != e {
		t.Errorf("P1501: %s: of %+v, %+v, %d long: %d, %v; want %d, %v", what, l, p, long, got, err, want, e)
	}
}

func refused(t *testing.T, what string, p api.Plan, long int) {
	t.Helper()
	if got, e := place(t, what, nil, v(maxSize, maxSize), p, long); got != 0 || e != api.ErrArg {
		t.Errorf("P1501: %s: %+v, %d long: %d, %v; want 0, %v", what, p, long, got, e, api.ErrArg)
	}
}

func TestP1501At(t *testing.T) {
	l := []api.Plan{the(4, 0, 10, 20, v(6, 1)), the(1, 0, 15, 30, v(3, 10)), the(3, 1, 0, 1000, v(100, 200)), the(9, 0, 29, 30, v(1<<30, 0)), the(2, 0, 40, 41, v(0, 1<<30))}
	for _, x := range []struct {
		t    int
		want api.Vec
	}{
		{math.MinInt, v(0, 0)}, {-1, v(0, 0)}, {0, v(0, 0)}, {9, v(0, 0)}, {10, v(6, 1)}, {11, v(6, 1)}, {14, v(6, 1)}, {15, v(9, 11)}, {19, v(9, 11)}, {20, v(3, 10)}, {28, v(3, 10)},
		{29, v(1<<30+3, 10)}, {30, v(0, 0)}, {39, v(0, 0)}, {40, v(0, 1<<30)}, {41, v(0, 0)}, {math.MaxInt, v(0, 0)},
	} {
		if got := at(t, "five plans", l, 0, x.t); got != x.want {
			t.Errorf("P1501: At %d: %v; want %v", x.t, got, x.want)
		}
	}
	for label, want := range map[int]api.Vec{1: v(100, 200), 2: v(0, 0), -1: v(0, 0), math.MaxInt: v(0, 0)} {
		if got := at(t, "another label", l, label, 15); got != want {
			t.Errorf("P1501: At, of label %d: %v; want %v", label, got, want)
		}
	}
	for _, x := range []int{0, 15, maxTime} {
		if got := at(t, "no plans", nil, 0, x); got != v(0, 0) {
			t.Errorf("P1501: At %d, of no plans: %v", x, got)
		}
	}
}

// A plan that ends as it begins, or ahead of that, is at no time.
func TestP1501AtOfNoLength(t *testing.T) {
	l := []api.Plan{the(1, 0, 5, 5, v(1, 1)), the(2, 0, 7, 3, v(2, 2))}
	for x := range 10 {
		if got := at(t, "plans of no length", l, 0, x); got != v(0, 0) {
			t.Errorf("P1501: At %d: %v", x, got)
		}
	}
	checkPlace(t, "plans of no length", l, v(1, 1), ask(0, 9, v(1, 1)), 9, 0)
}

func TestP1501Bounds(t *testing.T) {
	for _, long := range []int{0, -1, 1001, math.MinInt, math.MaxInt} {
		refused(t, "long", ask(0, 2000, v(1, 1)), long)
	}
	checkPlace(t, "long 1", nil, v(1, 1), ask(0, 2000, v(1, 1)), 1, 0)
	checkPlace(t, "long 1000", nil, v(1, 1), ask(0, 2000, v(1, 1)), maxLong, 0)
	for _, x := range []int{-1, maxTime + 1, math.MinInt, math.MaxInt} {
		refused(t, "From", ask(x, maxTime, v(1, 1)), 1)
		refused(t, "Until", ask(0, x, v(1, 1)), 1)
		refused(t, "both", ask(x, x, v(1, 1)), 1)
	}
	checkPlace(t, "from 0 to 10^6", nil, v(1, 1), ask(0, maxTime, v(1, 1)), 1, 0)
	checkPlace(t, "just ahead of 10^6", nil, v(1, 1), ask(maxTime-1, maxTime, v(1, 1)), 1, maxTime-1)
	checkPlace(t, "at 10^6", nil, v(1, 1), ask(maxTime, maxTime, v(1, 1)), 1, -1)
	checkPlace(t, "up to 0", nil, v(1, 1), ask(0, 0, v(1, 1)), 1, -1)
	checkPlace(t, "backwards", nil, v(1, 1), ask(maxTime, 0, v(1, 1)), 1, -1)
	for _, x := range []int{-1, maxSize + 1, math.MinInt, math.MaxInt} {
		refused(t, "Mem", ask(0, 9, v(x, 1)), 1)
		refused(t, "Cores", ask(0, 9, v(1, x)), 1)
	}
	checkPlace(t, "nothing", nil, v(0, 0), ask(0, 9, v(0, 0)), 9, 0)
	checkPlace(t, "all that may be", nil, v(maxSize, maxSize), ask(0, 9, v(maxSize, maxSize)), 9, 0)
}

// What may not be asked for is told even where there would be no room for it.
func TestP1501ArgAheadOfFull(t *testing.T) {
	full := []api.Plan{the(1, 0, 0, maxTime, v(5, 5))}
	for _, x := range []struct {
		p    api.Plan
		long int
	}{{ask(0, 9, v(1, 1)), 0}, {ask(0, 9, v(1, 1)), 1001}, {ask(-1, 9, v(1, 1)), 1}, {ask(9, maxTime+1, v(1, 1)), 1}, {ask(9, -1, v(1, 1)), 1}, {ask(maxTime+1, 5, v(1, 1)), 1}, {ask(0, 9, v(-1, 6)), 1}, {ask(0, 9, v(6, -1)), 1}, {ask(5, 5, v(maxSize+1, 0)), 1}, {ask(5, 5, v(0, maxSize+1)), 1}} {
		if got, e := place(t, "two errors", full, v(5, 5), x.p, x.long); got != 0 || e != api.ErrArg {
			t.Errorf("P1501: %+v, %d long: %d, %v; want 0, %v", x.p, x.long, got, e, api.ErrArg)
		}
	}
}

func TestP1501Window(t *testing.T) {
	for _, x := range []struct{ from, until, long, want int }{
		{0, 10, 10, 0}, {0, 10, 11, -1}, {0, 9, 10, -1}, {7, 8, 1, 7}, {7, 7, 1, -1}, {8, 7, 1, -1}, {7, 9, 2, 7}, {7, 9, 3, -1}, {0, maxTime, maxLong, 0}, {maxTime - maxLong, maxTime, maxLong, maxTime - maxLong}, {maxTime - maxLong + 1, maxTime, maxLong, -1},
	} {
		checkPlace(t, "no plans", nil, v(3, 3), ask(x.from, x.until, v(3, 3)), x.long, x.want)
	}
	l := []api.Plan{the(1, 0, 0, 20, v(1, 1))}
	for _, x := range []struct{ from, until, long, want int }{
		{0, 30, 10, 20}, {0, 29, 10, -1}, {0, 31, 11, 20}, {0, 30, 11, -1}, {19, 30, 10, 20}, {20, 30, 10, 20}, {21, 31, 10, 21}, {21, 30, 10, -1}, {0, 20, 1, -1}, {0, 21, 1, 20}, {30, 20, 1, -1},
	} {
		checkPlace(t, "behind a plan", l, v(3, 3), ask(x.from, x.until, v(3, 3)), x.long, x.want)
	}
}

func TestP1501Gaps(t *testing.T) {
	l := []api.Plan{the(1, 0, 5, 10, v(3, 3)), the(2, 0, 14, 20, v(3, 3)), the(3, 0, 25, 30, v(3, 3)), the(4, 0, 30, 31, v(3, 3)), the(5, 1, 0, 500, v(3, 3))}
	for _, x := range []struct{ from, until, long, want int }{
		{0, 100, 5, 0}, {1, 100, 4, 1}, {1, 100, 5, 20}, {2, 100, 4, 10}, {5, 100, 4, 10}, {9, 100, 1, 10}, {9, 100, 5, 20}, {10, 100, 4, 10}, {11, 100, 4, 20}, {11, 100, 3, 11}, {0, 100, 6, 31}, {25, 100, 1, 31}, {0, 36, 6, -1}, {0, 37, 6, 31}, {6, 24, 5, -1}, {6, 25, 5, 20}, {13, 14, 1, 13}, {13, 15, 2, -1}, {14, 20, 1, -1}, {24, 32, 2, -1},
	} {
		checkPlace(t, "three gaps", l, v(4, 4), ask(x.from, x.until, v(2, 2)), x.long, x.want)
	}
	p := ask(0, 100, v(2, 2))
	p.Label = 1
	checkPlace(t, "the other label", l, v(4, 4), p, 6, -1)
	p.Label, p.Until = 1, 506
	checkPlace(t, "the other label, later", l, v(4, 4), p, 6, 500)
	p.Label = 2
	checkPlace(t, "a label without plans", l, v(4, 4), p, 6, 0)
	p.Label = -9
	checkPlace(t, "a label that nobody has", l, v(4, 4), p, 6, 0)
}

// What several plans need together decides, each part of it by itself.
func TestP1501OneUponAnother(t *testing.T) {
	l := []api.Plan{the(1, 0, 0, 10, v(2, 0)), the(2, 0, 5, 15, v(2, 3)), the(3, 0, 8, 20, v(2, 0)), the(4, 0, 9, 12, v(0, 3))}
	for _, x := range []struct {
		need       api.Vec
		long, want int
	}{
		{v(0, 0), 50, 0}, {v(4, 4), 8, 0}, {v(4, 4), 9, 12}, {v(4, 0), 8, 0}, {v(4, 0), 9, 10}, {v(5, 0), 5, 0}, {v(5, 0), 6, 15}, {v(7, 0), 1, 20}, {v(8, 0), 30, 20}, {v(8, 0), 31, -1}, {v(9, 0), 1, -1},
		{v(0, 2), 50, 0}, {v(0, 3), 9, 0}, {v(0, 3), 10, 12}, {v(0, 3), 38, 12}, {v(0, 3), 39, -1}, {v(0, 5), 9, 0}, {v(0, 5), 10, 12}, {v(0, 6), 6, 15}, {v(0, 8), 35, 15}, {v(0, 9), 1, -1}, {v(3, 5), 1, 0}, {v(4, 6), 6, 15}, {v(2, 3), 10, 12}, {v(2, 3), 9, 0}, {v(3, 3), 9, 12},
	} {
		checkPlace(t, "four plans", l, v(8, 8), ask(0, 50, x.need), x.long, x.want)
	}
}

// A plan that begins within the time is in its way, as is one that covers it, or lies in it; ones that touch it are not.
func TestP1501InTheWay(t *testing.T) {
	for _, x := range []struct{ from, until, want int }{
		{0, 10, 10}, {0, 11, 11}, {9, 10, 10}, {9, 25, 25}, {10, 11, 11}, {12, 15, 15}, {19, 20, 20}, {19, 30, 30}, {20, 30, 10}, {30, 40, 10}, {10, 20, 20}, {5, 29, 29}, {0, 31, -1}, {10, 30, 30}, {10, 31, -1}, {5, 10, 10},
	} {
		checkPlace(t, "one plan", []api.Plan{the(1, 0, x.from, x.until, v(1, 1))}, v(2, 2), ask(10, 40, v(2, 2)), 10, x.want)
	}
}

func TestP1501Total(t *testing.T) {
	for _, x := range []struct {
		total, need api.Vec
		want        int
	}{
		{v(7, 9), v(7, 9), 3}, {v(6, 9), v(7, 9), -1}, {v(7, 8), v(7, 9), -1}, {v(0, 0), v(0, 0), 3}, {v(0, 0), v(0, 1), -1}, {v(0, 0), v(1, 0), -1}, {v(1<<50, 1<<50), v(maxSize, maxSize), 3}, {v(maxSize-1, maxSize), v(maxSize, maxSize), -1},
	} {
		checkPlace(t, "no plans", nil, x.total, ask(3, 10, x.need), 7, x.want)
	}
	l := []api.Plan{the(1, 0, 0, 5, v(2, 1))}
	checkPlace(t, "just enough beside a plan", l, v(9, 10), ask(3, 10, v(7, 9)), 7, 3)
	checkPlace(t, "too little beside it", l, v(8, 10), ask(3, 12, v(7, 9)), 7, 5)
	checkPlace(t, "too little of the other part", l, v(9, 9), ask(3, 12, v(7, 9)), 7, 5)
	checkPlace(t, "a plan that needs more than there is", l, v(1, 1), ask(0, 12, v(0, 0)), 7, 5)
}

func TestP1501TwelveOfTheGreatest(t *testing.T) {
	var l []api.Plan
	for i := range mostPlans {
		l = append(l, the(i, 0, 100-i, 200+i, v(maxSize, maxSize)))
	}
	p := ask(0, maxTime, v(maxSize, maxSize))
	checkPlace(t, "room for thirteen", l, v(13<<30, 13<<30), p, maxLong, 0)
	checkPlace(t, "a part less", l, v(13<<30, 13<<30-1), p, 100, 0)
	checkPlace(t, "a part less, longer", l, v(13<<30-1, 13<<30), p, 101, 200)
	checkPlace(t, "room for seven", l, v(7<<30, 7<<30), p, 95, 0)
	checkPlace(t, "room for seven, longer", l, v(7<<30, 7<<30), p, 96, 205)
	checkPlace(t, "room for one", l, v(1<<30, 1<<30), p, 90, 211)
	checkPlace(t, "room for one, ahead", l, v(1<<30, 1<<30), p, 89, 0)
	checkPlace(t, "room for none", l, v(1<<30-1, 1<<30), p, 1, -1)
}

// added is a state with p among its plans, in the order of Ids.
func added(s api.State, p api.Plan) api.State {
	s.Plans = append(slices.Clone(s.Plans), p)
	slices.SortFunc(s.Plans, func(a, b api.Plan) int { return a.Id - b.Id })
	return s
}

// checkAdd asks for a plan that is to be placed at a time.
func checkAdd(t *testing.T, what string, s api.State, p api.Plan, long, want int) api.State {
	t.Helper()
	r, got, e := add(t, what, s, p, long)
	if told := added(s, the(p.Id, p.Label, want, want+long, p.Need)); got != want || e != api.OK || !same(r, told) {
		t.Errorf("P1502: %s: %+v, %d long: %d, %v, %+v; want %d, and %+v", what, p, long, got, e, r, want, told)
	}
	return r
}

func wantError(t *testing.T, what string, s api.State, p api.Plan, long int, want api.Errno) {
	t.Helper()
	if _, _, e := add(t, what, s, p, long); e != want {
		t.Errorf("P1502: %s: %+v, %d long: %v; want %v", what, p, long, e, want)
	}
}

// What is added has the time that was found, and not the window that was asked for.
func TestP1502Add(t *testing.T) {
	s := of(3)
	s = checkAdd(t, "the first", s, the(7, 0, 3, 50, v(10, 10)), 10, 3)
	s = checkAdd(t, "behind it", s, the(5, 0, 5, 50, v(10, 1)), 5, 13)
	s = checkAdd(t, "of another label", s, the(6, 1, 5, 50, v(5, 5)), 5, 5)
	s = checkAdd(t, "beside that", s, the(9, 1, 5, 50, v(5, 5)), 45, 5)
	s = checkAdd(t, "a piece of the rest", s, the(0, 0, 4, 50, v(0, 9)), 6, 13)
	s = checkAdd(t, "up to the end", s, the(1, 0, 4, maxTime, v(10, 10)), maxLong, 19)
	s = checkAdd(t, "in a gap", s, the(2, 0, 3, 19, v(0, 1)), 1, 18)
	want := []api.Plan{the(0, 0, 13, 19, v(0, 9)), the(1, 0, 19, 1019, v(10, 10)), the(2, 0, 18, 19, v(0, 1)), the(5, 0, 13, 18, v(10, 1)), the(6, 1, 5, 10, v(5, 5)), the(7, 0, 3, 13, v(10, 10)), the(9, 1, 5, 50, v(5, 5))}
	if !slices.Equal(s.Plans, want) {
		t.Errorf("P1502: %+v; want %+v", s.Plans, want)
	}
}

// If two plans need everything, the second one begins where the first one ends.
func TestP1502Example(t *testing.T) {
	s := checkAdd(t, "everything", of(0), the(1, 2, 4, 100, v(10, 10)), 7, 4)
	checkAdd(t, "and again", s, the(2, 2, 4, 100, v(10, 10)), 7, 11)
}

func TestP1502LeavesTheRest(t *testing.T) {
	checkAdd(t, "a state with much else", rich(), the(65, 0, 25, 100, v(9, 9)), 8, 31)
	checkAdd(t, "a state with much else", rich(), the(65, 0, 25, 100, v(1, 1)), 8, 25)
	for i, id := range []int{60, 61, 70} {
		want := rich()
		want.Plans = slices.Delete(want.Plans, i, i+1)
		if r, e := drop(t, "a state with much else", rich(), id); e != api.OK || !same(r, want) {
			t.Errorf("P1502: Drop of %d: %v, %+v; want %+v", id, e, r, want)
		}
	}
}

// The total is what the live nodes of the label have.
func TestP1502Total(t *testing.T) {
	s := of(0, the(1, 1, 0, 10, v(4, 4)))
	s.Nodes = []api.Node{node(1, 1, 3, 9), node(2, 0, 50, 50), node(3, 1, 4, 1), {Id: 4, Label: 1, Cap: v(99, 99)}}
	checkAdd(t, "two nodes", s, the(2, 1, 0, 30, v(3, 6)), 9, 0)
	checkAdd(t, "two nodes", s, the(2, 1, 0, 30, v(4, 6)), 9, 10)
	checkAdd(t, "two nodes", s, the(2, 1, 0, 30, v(3, 7)), 9, 10)
	checkAdd(t, "two nodes", s, the(2, 1, 0, 30, v(7, 10)), 9, 10)
	checkAdd(t, "the empty label", s, the(2, 0, 0, 30, v(50, 50)), 30, 0)
	wantError(t, "more than there is", s, the(2, 1, 0, 30, v(8, 0)), 9, api.ErrFull)
	wantError(t, "more than there is", s, the(2, 1, 0, 30, v(0, 11)), 9, api.ErrFull)
	wantError(t, "a label without nodes", s, the(2, 2, 0, 30, v(0, 1)), 9, api.ErrFull)
	s.Nodes = nil
	wantError(t, "no nodes", s, the(2, 1, 0, 30, v(1, 0)), 9, api.ErrFull)
}

func TestP1502Args(t *testing.T) {
	for _, id := range []int{-1, maxId + 1, math.MinInt, math.MaxInt} {
		wantError(t, "Id", of(0), the(id, 0, 0, 9, v(1, 1)), 1, api.ErrArg)
	}
	for _, id := range []int{0, 1, maxId} {
		checkAdd(t, "Id", of(0), the(id, 0, 0, 9, v(1, 1)), 1, 0)
	}
	for _, label := range []int{-1, 3, math.MinInt, math.MaxInt} {
		wantError(t, "Label", of(0), the(1, label, 0, 9, v(1, 1)), 1, api.ErrArg)
	}
	for label := range 3 {
		checkAdd(t, "Label", of(0), the(1, label, 0, 9, v(1, 1)), 1, 0)
	}
	one := of(0)
	one.Conf, _ = conf.Parse("labels\nqueue root 10000 10000/10000\n")
	checkAdd(t, "the only label", one, the(1, 0, 0, 9, v(1, 1)), 1, 0)
	wantError(t, "a label that this state has not", one, the(1, 1, 0, 9, v(1, 1)), 1, api.ErrArg)
	wantError(t, "no labels", api.State{}, the(1, 0, 0, 9, v(1, 1)), 1, api.ErrArg)
	wantError(t, "no Need", of(0), the(1, 0, 0, 9, v(0, 0)), 1, api.ErrArg)
	checkAdd(t, "no Mem", of(0), the(1, 0, 0, 9, v(0, 1)), 1, 0)
	checkAdd(t, "no Cores", of(0), the(1, 0, 0, 9, v(1, 0)), 1, 0)
}

// The errors of Place come through, whatever the plans.
func TestP1502PlaceArgs(t *testing.T) {
	for _, long := range []int{math.MinInt, -1, 0, maxLong + 1, math.MaxInt} {
		wantError(t, "long", of(0), the(1, 0, 0, 9, v(1, 1)), long, api.ErrArg)
	}
	checkAdd(t, "long", of(0), the(1, 0, 0, maxLong, v(1, 1)), maxLong, 0)
	for _, x := range []int{-1, maxTime + 1, math.MinInt, math.MaxInt} {
		wantError(t, "Until", of(0), the(1, 0, 0, x, v(1, 1)), 1, api.ErrArg)
	}
	wantError(t, "From", of(0), the(1, 0, maxTime+1, 9, v(1, 1)), 1, api.ErrArg)
	wantError(t, "From", of(maxTime+1), the(1, 0, maxTime+1, maxTime, v(1, 1)), 1, api.ErrArg)
	for _, need := range []api.Vec{v(-1, 1), v(1, -1), v(-1, 0), v(0, -1), v(maxSize+1, 1), v(1, maxSize+1), v(math.MinInt, math.MaxInt)} {
		wantError(t, "Need", of(0), the(1, 0, 0, 9, need), 1, api.ErrArg)
	}
	s := of(0)
	s.Nodes[0].Cap = v(maxSize, maxSize)
	checkAdd(t, "Need", s, the(1, 0, 0, 9, v(maxSize, maxSize)), 9, 0)
	wantError(t, "no room", of(0), the(1, 0, 0, 9, v(1, 1)), 10, api.ErrFull)
	wantError(t, "no room", of(0), the(1, 0, 9, 0, v(1, 1)), 1, api.ErrFull)
}

func TestP1502IsThere(t *testing.T) {
	s := of(0, the(3, 0, 0, 5, v(1, 1)), the(8, 1, 2, 5, v(1, 1)), the(maxId, 0, 0, 5, v(1, 1)))
	for _, id := range []int{3, 8, maxId} {
		for label := range 3 {
			wantError(t, "an Id that is there", s, the(id, label, 0, 99, v(1, 1)), 1, api.ErrIs)
		}
	}
	checkAdd(t, "an Id beside one that is there", s, the(4, 0, 0, 9, v(1, 1)), 1, 0)
}

// many is a state of so many plans, with the Ids 10, 20 and so on, of all labels.
func many(count int) api.State {
	s := of(0)
	for i := range count {
		s.Plans = append(s.Plans, the(10+10*i, i%3, i, i+1, v(1, 1)))
	}
	return s
}

func TestP1502Many(t *testing.T) {
	for count := range mostPlans {
		checkAdd(t, strconv.Itoa(count)+" plans", many(count), the(15, 0, 0, 9, v(1, 1)), 1, 0)
	}
	for label := range 3 {
		wantError(t, "twelve plans", many(mostPlans), the(15, label, 0, 99, v(1, 1)), 1, api.ErrMany)
	}
	wantError(t, "thirteen plans", many(mostPlans+1), the(15, 0, 0, 99, v(1, 1)), 1, api.ErrMany)
	s := many(mostPlans)
	s, _ = plan.Drop(s, 60)
	checkAdd(t, "twelve plans, and one less", s, the(60, 0, 0, 99, v(1, 1)), 1, 0)
}

func TestP1502Stale(t *testing.T) {
	for _, now := range []int{0, 1, 7, maxTime - 1} {
		wantError(t, "one ahead of Now", of(now), the(1, 0, now-1, maxTime, v(1, 1)), 1, api.ErrStale)
		wantError(t, "long ago", of(now), the(1, 0, math.MinInt, maxTime, v(1, 1)), 1, api.ErrStale)
		checkAdd(t, "at Now", of(now), the(1, 0, now, maxTime, v(1, 1)), 1, now)
	}
	checkAdd(t, "after Now", of(7), the(1, 0, 8, maxTime, v(1, 1)), 1, 8)
	wantError(t, "when all is over", of(maxTime), the(1, 0, maxTime, maxTime, v(1, 1)), 1, api.ErrFull)
	wantError(t, "behind the end", of(maxTime+5), the(1, 0, maxTime, maxTime, v(1, 1)), 1, api.ErrStale)
}

// faults each make one error of Add, in the order in which the chapter names them; those of Place come last.
func faults() []func(s *api.State, p *api.Plan, long *int) api.Errno {
	return []func(s *api.State, p *api.Plan, long *int) api.Errno{
		func(_ *api.State, p *api.Plan, _ *int) api.Errno { p.Id = 1000; return api.ErrArg },
		func(_ *api.State, p *api.Plan, _ *int) api.Errno { p.Label = 3; return api.ErrArg },
		func(_ *api.State, p *api.Plan, _ *int) api.Errno { p.Need = v(0, 0); return api.ErrArg },
		func(s *api.State, p *api.Plan, _ *int) api.Errno { p.Id = s.Plans[1].Id; return api.ErrIs },
		func(s *api.State, _ *api.Plan, _ *int) api.Errno {
			s.Plans = slices.Concat(s.Plans, many(mostPlans).Plans[3:])
			return api.ErrMany
		},
		func(s *api.State, p *api.Plan, _ *int) api.Errno { p.From = s.Now - 1; return api.ErrStale },
		func(_ *api.State, _ *api.Plan, long *int) api.Errno { *long = 0; return api.ErrArg },
		func(s *api.State, _ *api.Plan, _ *int) api.Errno { s.Nodes = nil; return api.ErrFull },
	}
}

// Of several errors the first one is told. They are made from the last one on, so that one that sets the same thing counts.
func TestP1502Order(t *testing.T) {
	l := faults()
	for mask := range 1 << len(l) {
		s, p, long, want := many(3), the(15, 0, 4, 50, v(1, 1)), 5, api.OK
		s.Now = 4
		for i, fault := range slices.Backward(l) {
			if mask>>i&1 == 1 {
				want = fault(&s, &p, &long)
			}
		}
		if want != api.OK {
			wantError(t, "faults "+strconv.FormatInt(int64(mask), 2), s, p, long, want)
		} else {
			checkAdd(t, "no fault", s, p, long, 4)
		}
	}
}

func TestP1502OrderOfIds(t *testing.T) {
	ids := []int{0, 5, 10, 20, 500, maxId}
	for mask := range 1 << len(ids) {
		s := of(0)
		for i, id := range ids {
			if mask>>i&1 == 1 {
				s.Plans = append(s.Plans, the(id, i%3, i, i+2, v(1, i)))
			}
		}
		for _, id := range []int{0, 1, 5, 7, 15, 20, 21, 600, maxId} {
			if !slices.ContainsFunc(s.Plans, func(p api.Plan) bool { return p.Id == id }) {
				checkAdd(t, "order of Ids", s, the(id, 0, 0, 99, v(2, 2)), 3, 0)
			}
		}
	}
}

func TestP1502Drop(t *testing.T) {
	for count := range mostPlans + 1 {
		s := many(count)
		for i, p := range s.Plans {
			want := s
			want.Plans = slices.Delete(slices.Clone(s.Plans), i, i+1)
			if r, e := drop(t, "one that is there", s, p.Id); e != api.OK || !same(r, want) {
				t.Errorf("P1502: Drop of %d: %v, %+v; want %+v", p.Id, e, r, want)
			}
		}
		for _, id := range []int{0, 9, 11, 10 + 10*count, -10, maxId + 1, math.MinInt, math.MaxInt} {
			if _, e := drop(t, "one that is not there", s, id); e != api.ErrNone {
				t.Errorf("P1502: Drop of %d: %v; want %v", id, e, api.ErrNone)
			}
		}
	}
	r, _ := plan.Drop(many(1), 10)
	if _, e := drop(t, "the only one, again", r, 10); e != api.ErrNone || len(r.Plans) != 0 {
		t.Errorf("P1502: Drop of the only plan: %+v, and again: %v", r.Plans, e)
	}
}

// What was dropped makes room again, and its Id may come again.
func TestP1502DropAndAdd(t *testing.T) {
	s := checkAdd(t, "everything", of(0), the(4, 0, 0, 100, v(10, 10)), 90, 0)
	wantError(t, "no room", s, the(5, 0, 0, 100, v(1, 1)), 11, api.ErrFull)
	s, _ = plan.Drop(s, 4)
	s = checkAdd(t, "room again", s, the(5, 0, 0, 100, v(1, 1)), 11, 0)
	checkAdd(t, "the Id again", s, the(4, 0, 0, 101, v(10, 10)), 90, 11)
}

// fits holds the plans of a state against P1503, at each time up to an end.
func fits(t *testing.T, what string, s api.State, end int) {
	t.Helper()
	for label := range s.Conf.Labels {
		total := share.Total(s, label)
		for x := range end {
			if sum := plan.At(s.Plans, label, x); sum.Mem > total.Mem || sum.Cores > total.Cores {
				t.Errorf("P1503: %s: of label %d, at %d: %v of %v, by %+v", what, label, x, sum, total, s.Plans)
			}
		}
	}
}

func TestP1503Fits(t *testing.T) {
	s, placed := of(0), 0
	for i := range 40 {
		p := the(i, i%3, i%5, 60, v(1+i*7%10, 1+i*3%9))
		if r, _, e := plan.Add(s, p, 1+i*5%17); e == api.OK {
			s, placed = r, placed+1
		}
		if fits(t, "after "+strconv.Itoa(i), s, 80); i%4 == 3 {
			s, _ = plan.Drop(s, s.Plans[i%len(s.Plans)].Id)
		}
	}
	if placed < 15 {
		t.Errorf("P1503: only %d plans were placed", placed)
	}
}
