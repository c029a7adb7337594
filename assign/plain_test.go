package assign_test

import (
	"slices"
	"strings"
	"testing"

	"dispatch/api"
	"dispatch/apps"
	"dispatch/asks"
	"dispatch/assign"
	"dispatch/nodes"
	"dispatch/order"
	"dispatch/share"
)

// toldSum adds up what the containers have that count.
func toldSum(s api.State, counts func(c api.Cont, a api.App) bool) (sum api.Vec) {
	for _, c := range s.Conts {
		if counts(c, *appOf(s, c.App)) {
			sum = plus(sum, c.Size)
		}
	}
	return sum
}

func plus(a, b api.Vec) api.Vec { return v(a.Mem+b.Mem, a.Cores+b.Cores) }

func toldFits(a, b api.Vec) bool { return !(a.Mem > b.Mem || a.Cores > b.Cores) }

func toldUsed(s api.State, path string, label int) api.Vec {
	return toldSum(s, func(c api.Cont, a api.App) bool { return c.Label == label && strings.HasPrefix(a.Queue+".", path+".") })
}

// toldFree tells whether so much may be put on a node.
func toldFree(s api.State, n api.Node, size api.Vec) bool {
	there := toldSum(s, func(c api.Cont, _ api.App) bool { return c.Node == n.Id })
	return toldFits(plus(there, size), n.Cap)
}

// toldRoom tells the same of a leaf and all queues above it.
func toldRoom(s api.State, leaf string, label int, size api.Vec) bool {
	for _, q := range s.Conf.Queues {
		if strings.HasPrefix(leaf+".", q.Path+".") && !toldFits(plus(toldUsed(s, q.Path, label), size), share.Most(s, q.Path, label)) {
			return false
		}
	}
	return toldFits(plus(plus(toldUsed(s, "root", label), size), share.Kept(s, label)), share.Total(s, label))
}

// toldMay tells how often an ask must have been missed for a node of its label.
func toldMay(k api.Ask, n api.Node) bool {
	switch {
	case k.Rack == -1 || k.Node == n.Id || k.Node == -1 && k.Rack == n.Rack:
		return true
	case k.Rack == n.Rack:
		return k.Missed >= 2
	}
	return k.Missed >= 4
}

func toldDue(s api.State, a api.App, k api.Ask) bool {
	return toldFits(plus(toldUsed(s, a.Queue, k.Label), k.Size), share.Least(s, a.Queue, k.Label))
}

// toldMore tells whether an application's user may have more of the label of a node.
func toldMore(s api.State, a api.App, n api.Node) bool {
	has := toldSum(s, func(c api.Cont, b api.App) bool {
		return c.Label == n.Label && b.Queue == a.Queue && b.User == a.User
	})
	return toldFits(has, share.User(s, a.Queue, n.Label))
}

// wish is an ask of an application, with what the chapter asks of them ahead of all else.
type wish struct {
	a                      api.App
	k                      api.Ask
	suits, may, due, there bool
}

func wishOf(s api.State, n api.Node, a api.App, k api.Ask) wish {
	return wish{a, k, n.Label == k.Label && toldFits(k.Size, n.Cap), toldMay(k, n), toldDue(s, a, k), true}
}

// toldKept is the ask that a Slot keeps a node for.
func toldKept(s api.State, n api.Node, x api.Slot) (w wish) {
	for _, a := range s.Apps {
		for _, k := range a.Asks {
			if a.Id == x.App && k.Prio == x.Prio && (a.State == 1 || a.State == 2) {
				w = wishOf(s, n, a, k)
			}
		}
	}
	return w
}

// toldWishes are the asks of a round, in order.
func toldWishes(s api.State, n api.Node) (l []wish) {
	for _, leaf := range order.Leaves(s, n.Label) {
		for _, id := range order.Apps(s, leaf) {
			for _, k := range appOf(s, id).Asks {
				if a := *appOf(s, id); toldMore(s, a, n) {
					l = append(l, wishOf(s, n, a, k))
				}
			}
		}
	}
	return l
}

// told is P1401 written down as the chapter tells it: what One does, as a kind and as changes of the state.
func told(s api.State, node int) (kind int, done []change) {
	n := *nodeOf(s, node)
	if !n.Up || len(s.Conts) >= mostConts || s.Seq >= lastSeq {
		return assign.None, nil
	}
	for _, x := range s.Slots {
		if w := toldKept(s, n, x); x.Node != node {
			continue
		} else if !(w.there && w.suits && w.may && w.due && toldMore(s, w.a, n)) {
			done = []change{frees(node)}
		} else if toldFree(s, n, w.k.Size) && toldRoom(s, w.a.Queue, w.k.Label, w.k.Size) {
			return assign.Grant, []change{frees(node), grants(x.App, x.Prio, node)}
		} else {
			return assign.Wait, nil
		}
	}
	for _, first := range []bool{true, false} {
		kind, done = toldRound(altered(s, done...), n, first, done)
		if kind != assign.None {
			break
		}
	}
	return kind, done
}

// toldRound is one of the two rounds, from a state on; what it does is added to what was done.
func toldRound(s api.State, n api.Node, first bool, done []change) (int, []change) {
	for _, w := range toldWishes(s, n) {
		id, prio := w.a.Id, w.k.Prio
		switch {
		case !w.suits || first && !w.due:
		case !w.may && (first || !w.due):
			done = append(done, misses(id, prio))
		case !w.may || !toldRoom(s, w.a.Queue, w.k.Label, w.k.Size):
		case toldFree(s, n, w.k.Size):
			return assign.Grant, append(done, grants(id, prio, n.Id))
		case first && !slices.ContainsFunc(s.Slots, func(x api.Slot) bool { return x.App == id && x.Prio == prio }):
			return assign.Hold, append(done, holds(id, prio, n.Id))
		}
	}
	return assign.None, done
}

// toldBeat is P1402 likewise.
func toldBeat(s api.State, node int) (api.State, []api.Cont) {
	var l []api.Cont
	for len(l) < mostBeat {
		kind, done := told(s, node)
		s = altered(s, done...)
		if kind != assign.Grant {
			break
		}
		l = append(l, s.Conts[len(s.Conts)-1])
	}
	return s, l
}

// checkP1403 holds a container against the state in which it was granted.
func checkP1403(t *testing.T, what string, s api.State, c api.Cont) {
	t.Helper()
	a, n := *appOf(s, c.App), *nodeOf(s, c.Node)
	if !n.Up || n.Label != c.Label || !toldFree(s, n, c.Size) {
		t.Errorf("P1403: %s: %+v does not fit into %+v", what, c, n)
	}
	if !toldRoom(s, a.Queue, c.Label, c.Size) {
		t.Errorf("P1403: %s: there was no room in %s for %+v", what, a.Queue, c)
	}
	if !apps.Live(a) || !toldMore(s, a, n) || askOf(&a, c.Prio).Size != c.Size {
		t.Errorf("P1403: %s: %+v did not ask for %+v, or might not have more", what, a, c)
	}
}

// checkTold holds One and Beat of a sound state against the plain ones.
func checkTold(t *testing.T, what string, s api.State, node int) {
	t.Helper()
	before := altered(s)
	kind, done := told(s, node)
	want := altered(s, done...)
	r, got, c := assign.One(s, node)
	if got != kind || !same(r, want) {
		t.Errorf("P1401: %s: One of node %d of %+v: %d, %+v, %+v, %+v; want %d, %+v, %+v, %+v", what, node, s, got, r.Apps, r.Conts, r.Slots, kind, want.Apps, want.Conts, want.Slots)
	}
	if got == assign.Grant {
		checkP1403(t, what, s, c)
	} else if c != (api.Cont{}) {
		t.Errorf("P4: %s: %d, %+v", what, got, c)
	}
	wantBeats, conts := toldBeat(s, node)
	q, l := assign.Beat(s, node)
	if !same(q, wantBeats) || !slices.Equal(l, conts) {
		t.Errorf("P1402: %s: Beat of node %d of %+v: %+v; want %+v", what, node, s, l, conts)
	}
	if !same(s, before) {
		t.Errorf("P2: %s: the state has changed", what)
	}
	wantSound(t, what+", and then", r)
	wantSound(t, what+", and then", q)
}

func TestP1401P1402Rich(t *testing.T) {
	for node := range 6 {
		checkTold(t, "rich", rich(), node)
		checkTold(t, "cramped", cramped(), node)
		checkTold(t, "lapsing", lapsing(), node)
	}
	for _, x := range lapses() {
		checkTold(t, x.what, altered(lapsing(), x.done), 1)
		checkTold(t, x.what, altered(lapsing(), x.done), 3)
	}
}

// pick takes the i-th row of a grid, the numbers of which are counted up like digits.
func pick(grid [][]int, i int) (row []int) {
	for _, digits := range grid {
		row = append(row, digits[i%len(digits)])
		i /= len(digits)
	}
	return row
}

// edged is a state made of one number for each of its edges.
func edged(r []int) api.State {
	s := cluster(even, node(1, 0, 100, 100), node(2, 0, 100, r[0]), node(3, 1, 50, 50))
	s.Conf.Queues[1].User, s.Conf.Queues[1].Caps[0].Most = r[1], r[2]
	k := of(far(ask(1, r[3], 4, r[4]), []int{-1, 2, 7}[r[5]], []int{-1, 0, 7}[r[5]], r[6]), r[7])
	second := [][]api.Ask{nil, {ask(2, 5, 5, 1)}, {far(ask(4, 35, 1, 2), 7, 7, 1)}}[r[8]]
	s = let(s, running(10, "root.a", 1, append([]api.Ask{k}, second...)...), []api.App{waiting(20, "root.b", 2), running(20, "root.b", 2, ask(0, 30, 3, 2)), running(20, "root.a", 2, far(ask(1, 6, 1, 1), 7, 0, 0))}[r[9]], prior(running(30, "root.a", 1), 9))
	s = fill(fill(s, 10, 2, 20, 10), 30, 1, r[10], r[10]/2)
	s.Slots = [][]api.Slot{nil, {slot(1, 10, 1)}, {slot(1, 20, 0)}, {slot(2, 10, 1)}, {slot(1, 77, 0), slot(2, 10, 4)}}[r[11]]
	s.Plans = [][]api.Plan{nil, {{Id: 1, From: 2, Until: 10, Need: v(60, 1)}}}[r[12]]
	return s
}

// A part of all states that the edges make together: a step through the grid that has no divisor in common with it meets all edges, and all pairs of them.
func TestP1401P1402P1403AllEdges(t *testing.T) {
	grid := [][]int{{100, 60}, {10000, 3000}, {10000, 7000}, {5, 40, 60, 101}, {1, 2}, {0, 1, 2}, {0, 1, 3, 4}, {0, 1}, {0, 1, 2}, {0, 1, 2}, {0, 30, 61, 99}, {0, 1, 2, 3, 4}, {0, 1}}
	rows := 1
	for _, digits := range grid {
		rows *= len(digits)
	}
	for i := 0; i < rows && !t.Failed(); i += 131 {
		s := edged(pick(grid, i))
		wantSound(t, "edges", s)
		checkTold(t, "edges", s, 1+i%2)
	}
}

// dice gives numbers that are the same in each run.
type dice uint64

func (d *dice) roll(most int) int {
	*d = *d*6364136223846793005 + 1442695040888963407
	return int(uint64(*d)>>33) % most
}

// thrownAsk is one of few sizes, mostly without a place.
func thrownAsk(d *dice) api.Ask {
	k := ask(d.roll(10), 1+d.roll(30), 1+d.roll(12), 1+d.roll(4))
	k.Label = d.roll(5) / 4
	switch d.roll(4) {
	case 0:
		k.Node, k.Rack = d.roll(14), d.roll(3)
	case 1:
		k.Rack = d.roll(3)
	}
	return k
}

// The events of a cluster that lie between the attempts.
func thrownNode(d *dice, s api.State) api.State {
	r, _ := nodes.Register(s, api.Node{Id: d.roll(13), Label: d.roll(4) / 3, Rack: d.roll(3), Cap: v(20+d.roll(60), 10+d.roll(30))})
	return r
}

func thrownGone(d *dice, s api.State) api.State {
	id := d.roll(13)
	s = altered(s, frees(id), func(s *api.State) { nodeOf(*s, id).Up = false })
	var ids []int
	for _, c := range s.Conts {
		if c.Node == id {
			ids = append(ids, c.Id)
		}
	}
	return apps.Lose(s, ids)
}

func thrownApp(d *dice, s api.State) api.State {
	leaf := []string{"root.a.x", "root.a.y", "root.b"}[d.roll(3)]
	r, _ := apps.Submit(s, api.App{Id: d.roll(40), Queue: leaf, User: d.roll(4), Prio: d.roll(3), Master: v(1+d.roll(5), 1)})
	return r
}

// thrownAsks lets an application want one thing more, and be told what it has.
func thrownAsks(d *dice, s api.State) api.State {
	if len(s.Apps) == 0 {
		return s
	}
	a := s.Apps[d.roll(len(s.Apps))]
	k := thrownAsk(d)
	if l, e := asks.Set(a.Asks, k); a.State == api.Running && e == api.OK && asks.Check(k, 2) == api.OK {
		a.Asks, a.Told, a.Grants, a.Beat = l, a.Grants, nil, a.Beat+1
		s = apps.Put(s, a)
	}
	return s
}

func thrownLoss(d *dice, s api.State) api.State {
	if len(s.Conts) == 0 {
		return s
	}
	return apps.Lose(s, []int{s.Conts[d.roll(len(s.Conts))].Id})
}

func thrownEnd(d *dice, s api.State) api.State {
	r, _ := apps.End(s, d.roll(40), api.Finished+d.roll(2))
	return r
}

func thrownPlan(d *dice, s api.State) api.State {
	s.Plans = []api.Plan{{Id: 1, Label: d.roll(4) / 3, From: d.roll(3), Until: d.roll(60), Need: v(d.roll(80), d.roll(40))}}
	s.Now += d.roll(2)
	return s
}

// event is one of them; some come more often than others.
func event(d *dice, s api.State) api.State {
	switch n := d.roll(100); {
	case n < 4:
		return thrownNode(d, s)
	case n < 5:
		return thrownGone(d, s)
	case n < 12:
		return thrownApp(d, s)
	case n < 80:
		return thrownAsks(d, s)
	case n < 92:
		return thrownLoss(d, s)
	case n < 94:
		return thrownEnd(d, s)
	}
	return thrownPlan(d, s)
}

// Long scripts of clusters that are built up by the layers below, from nothing on. Each of them must have met all kinds.
func TestP1401P1402P1403LongScripts(t *testing.T) {
	for script := range 9 {
		d, s, met := dice(script), cluster(deep), [4]int{}
		s.Conf.Queues[4].User = []int{10000, 4000, 30000}[script%3]
		for range 10 {
			s = thrownApp(&d, thrownNode(&d, s))
		}
		for step := 0; step < 600 && !t.Failed(); step++ {
			s = event(&d, s)
			id := d.roll(13)
			checkTold(t, "a long script", s, id)
			_, kind, _ := assign.One(s, id)
			met[kind]++
			s, _ = assign.Beat(s, id)
		}
		if slices.Min(met[:]) == 0 {
			t.Errorf("script %d: the kinds were met %v times", script, met)
		}
	}
}
