package plan_test

import (
	"slices"
	"strconv"
	"testing"

	"dispatch/api"
	"dispatch/plan"
)

// toldAt is the sum of P1501, part by part.
func toldAt(l []api.Plan, label, t int) (sum api.Vec) {
	for _, p := range l {
		if p.Label != label || p.From > t || p.Until <= t {
			continue
		}
		sum.Mem, sum.Cores = sum.Mem+p.Need.Mem, sum.Cores+p.Need.Cores
	}
	return sum
}

// toldFree tells whether something fits at one time.
func toldFree(l []api.Plan, total api.Vec, p api.Plan, t int) bool {
	sum := toldAt(l, p.Label, t)
	return !(sum.Mem+p.Need.Mem > total.Mem || sum.Cores+p.Need.Cores > total.Cores)
}

// toldPlace tries each time, as P1501 tells it.
func toldPlace(l []api.Plan, total api.Vec, p api.Plan, long int) (int, api.Errno) {
	for _, x := range [][2]int{{long - 1, 999}, {p.From, 1000000}, {p.Until, 1000000}, {p.Need.Mem, 1 << 30}, {p.Need.Cores, 1 << 30}} {
		if x[0] < 0 || x[0] > x[1] {
			return 0, api.ErrArg
		}
	}
tries:
	for t := p.From; t+long <= p.Until; t++ {
		for x := t; x < t+long; x++ {
			if !toldFree(l, total, p, x) {
				continue tries
			}
		}
		return t, api.OK
	}
	return 0, api.ErrFull
}

// toldTotal is what the live nodes of a label have.
func toldTotal(s api.State, label int) (sum api.Vec) {
	for _, n := range s.Nodes {
		if n.Label == label && n.Up {
			sum.Mem, sum.Cores = sum.Mem+n.Cap.Mem, sum.Cores+n.Cap.Cores
		}
	}
	return sum
}

// toldAdd is Add of P1502: the plans are gathered by their Ids.
func toldAdd(s api.State, p api.Plan, long int) (api.State, int, api.Errno) {
	byId := map[int]api.Plan{}
	for _, o := range s.Plans {
		byId[o.Id] = o
	}
	_, is := byId[p.Id]
	switch {
	case p.Id < 0 || p.Id >= 1000, p.Label < 0 || p.Label >= len(s.Conf.Labels), p.Need.Mem == 0 && p.Need.Cores == 0:
		return s, 0, api.ErrArg
	case is:
		return s, 0, api.ErrIs
	case len(byId) >= 12:
		return s, 0, api.ErrMany
	case s.Now > p.From:
		return s, 0, api.ErrStale
	}
	at, e := toldPlace(s.Plans, toldTotal(s, p.Label), p, long)
	if e != api.OK {
		return s, 0, e
	}
	p.From, p.Until = at, at+long
	byId[p.Id], s.Plans = p, nil
	for id := range 1000 {
		if o, is := byId[id]; is {
			s.Plans = append(s.Plans, o)
		}
	}
	return s, at, api.OK
}

// toldDrop is Drop of P1502.
func toldDrop(s api.State, id int) (api.State, api.Errno) {
	left := slices.DeleteFunc(slices.Clone(s.Plans), func(p api.Plan) bool { return p.Id == id })
	if len(left) == len(s.Plans) {
		return s, api.ErrNone
	}
	s.Plans = left
	return s, api.OK
}

// checkTold holds Place against the plain answer.
func checkTold(t *testing.T, l []api.Plan, total api.Vec, p api.Plan, long int) {
	t.Helper()
	want, e := toldPlace(l, total, p, long)
	if got, err := plan.Place(l, total, p, long); got != want || err != e {
		t.Errorf("P1501: of %+v in %v: %+v, %d long: %d, %v; want %d, %v", l, total, p, long, got, err, want, e)
	}
}

// All windows and lengths beside all lists of two plans, on a short calendar.
func TestP1501AllShortListsOfPlans(t *testing.T) {
	var pool []api.Plan
	for label := range 2 {
		for from := range 5 {
			for until := from; until <= 5; until++ {
				pool = append(pool, the(1, label, from, until, v(1+from%2, 1+until%2)))
			}
		}
	}
	for _, first := range pool {
		for _, second := range pool {
			l := []api.Plan{first, second}
			for x := range 7 {
				if got, want := plan.At(l, 0, x-1), toldAt(l, 0, x-1); got != want {
					t.Errorf("P1501: At %d, of %+v: %v; want %v", x-1, l, got, want)
				}
			}
			for _, need := range []api.Vec{v(1, 1), v(2, 1), v(1, 2)} {
				for from := range 6 {
					for long := 1; long < 5; long++ {
						checkTold(t, l, v(3, 3), ask(from, 7, need), long)
						checkTold(t, l, v(3, 3), ask(from, 5, need), long)
					}
				}
			}
		}
	}
}

// dice are a short rule for numbers that look thrown.
type dice uint64

func (d *dice) below(n int) int {
	*d = *d*6364136223846793005 + 1442695040888963407
	return int(*d>>33) % n
}

func (d *dice) vec(n int) api.Vec { return v(d.below(n), d.below(n)) }

// Longer lists, on a longer calendar.
func TestP1501ManyLists(t *testing.T) {
	d := dice(7)
	for range 20000 {
		var l []api.Plan
		for i := range d.below(mostPlans + 1) {
			from := d.below(50)
			l = append(l, the(i, d.below(2), from, from+d.below(20), d.vec(5)))
		}
		p := ask(d.below(50), d.below(90), d.vec(9))
		p.Label = d.below(2)
		checkTold(t, l, v(7+d.below(3), 8), p, 1+d.below(20))
	}
}

// turn changes a state as something that is not of this chapter would: time goes on, nodes come and go.
func turn(s api.State, d *dice) api.State {
	s.Nodes = slices.Clone(s.Nodes)
	n := &s.Nodes[d.below(len(s.Nodes))]
	switch d.below(4) {
	case 0:
		n.Up = !n.Up
	case 1:
		n.Cap = d.vec(30)
	default:
		s.Now += d.below(3)
	}
	return s
}

// wanted is a plan that somebody may ask for, and now and then one that may not be.
func wanted(s api.State, d *dice) (api.Plan, int) {
	p := the(d.below(25), d.below(3), s.Now+d.below(30), s.Now+d.below(80), d.vec(12))
	switch d.below(40) {
	case 0:
		p.Id += 998
	case 1:
		p.Label -= 2
	case 2:
		p.From -= 15
	case 3:
		p.Need.Mem = -1
	case 4:
		p.Until += 999950
	}
	return p, d.below(25)
}

// Long scripts of plans that are added and dropped: each answer is held against the plain one, and P1503 is asked while the nodes stay.
func TestP1502P1503LongScripts(t *testing.T) {
	count := map[api.Errno]int{}
	for script := range 40 {
		d := dice(script)
		s, stays := of(d.below(5)), script%2 == 0
		for step := range 150 {
			var got, want api.State
			var e, err api.Errno
			what := "script " + strconv.Itoa(script) + ", step " + strconv.Itoa(step)
			switch kind := d.below(7); {
			case kind < 2:
				id := d.below(25)
				got, e = plan.Drop(s, id)
				want, err = toldDrop(s, id)
			case kind == 2 && !stays:
				got = turn(s, &d)
				want = got
			default:
				var n, told int
				p, long := wanted(s, &d)
				got, n, e = plan.Add(s, p, long)
				if want, told, err = toldAdd(s, p, long); n != told {
					t.Errorf("P1502: %s: %+v, %d long: %d; want %d", what, p, long, n, told)
				}
			}
			if e != err || !same(got, want) {
				t.Fatalf("P1502: %s: %v, %+v; want %v, %+v", what, e, got.Plans, err, want.Plans)
			}
			if s = got; stays {
				fits(t, what, s, 120)
			}
			count[e]++
		}
	}
	for _, e := range []api.Errno{api.OK, api.ErrArg, api.ErrIs, api.ErrMany, api.ErrStale, api.ErrFull, api.ErrNone} {
		if count[e] < 20 {
			t.Errorf("P1502: %v came only %d times", e, count[e])
		}
	}
}
