package assign_test

import (
	"testing"

	"dispatch/api"
	"dispatch/assign"
)

// cramped is a state in which application 10 wants two of 40, of which 30 are free on node 1, and application 20 wants less. All nodes together have 200, and each half 100.
func cramped() api.State {
	s := let(cluster(even, node(1, 0, 100, 100), node(3, 0, 100, 100)), running(10, "root.a", 1, ask(1, 40, 4, 2)), running(20, "root.b", 2, ask(1, 5, 1, 9)), running(30, "root.b", 3))
	return fill(s, 30, 1, 70, 7)
}

// A node is kept for the first ask that is due, fits into its Cap and has room, but does not fit into what is free.
func TestP1401Hold(t *testing.T) {
	r := wantOne(t, "a node is kept", cramped(), 1, assign.Hold, holds(10, 1, 1))
	if len(r.Slots) != 1 || r.Slots[0] != (api.Slot{Node: 1, App: 10, Prio: 1}) || r.Seq != 7 {
		t.Errorf("P1401: %+v, Seq %d", r.Slots, r.Seq)
	}
	r = wantOne(t, "it is kept still, and for nobody else", r, 1, assign.Wait)
	wantBeat(t, "it is kept still", r, 1, nil)
	r = wantGrant(t, "the ask is served elsewhere", r, 3, 10, 1)
	wantOne(t, "it is kept for the last one", r, 1, assign.Wait)
	r = wantGrant(t, "the last one is served elsewhere", r, 3, 10, 1)
	wantOne(t, "it is kept for nothing", r, 1, assign.Grant, frees(1), grants(20, 1, 1))
	s := fill(cramped(), 30, 1, 0, 90)
	wantOne(t, "the cores are not free", altered(s, func(s *api.State) { s.Apps[0].Asks[0].Size = v(1, 4) }), 1, assign.Hold, holds(10, 1, 1))
	master := altered(cramped(), func(s *api.State) {
		s.Apps[0].State, s.Apps[0].Asks, s.Conts = api.Waiting, []api.Ask{ask(0, 40, 4, 1)}, s.Conts[1:]
	})
	wantOne(t, "a node is kept for a master", master, 1, assign.Hold, holds(10, 0, 1))
}

// What is not due has no node kept for it, in no round.
func TestP1401HoldOnlyWhatIsDue(t *testing.T) {
	s := fill(cramped(), 10, 3, 61, 1)
	s.Apps[1].Asks = nil
	wantOne(t, "not due", s, 1, assign.None)
	wantGrant(t, "not due, but free elsewhere", altered(s, func(s *api.State) { s.Apps[0].Asks[0].Size = v(39, 4) }), 3, 10, 1)
	wantOne(t, "due", altered(s, func(s *api.State) { s.Apps[0].Asks[0].Size = v(39, 4) }), 1, assign.Hold, holds(10, 1, 1))
	missed := altered(s, func(s *api.State) { s.Apps[0].Asks[0] = far(ask(1, 39, 4, 2), 7, 7, 3) })
	r := wantOne(t, "due, and it may go there in the second round alone", missed, 1, assign.None, misses(10, 1))
	wantOne(t, "due, and it may go there in the first round", r, 1, assign.Hold, holds(10, 1, 1))
	wantOne(t, "behind one that is not due", let(s, running(40, "root.b", 4, ask(2, 35, 1, 1))), 1, assign.None)
	wide := altered(fill(s, 10, 3, 5, 1), func(s *api.State) { s.Nodes[1].Cap = v(110, 110) })
	wantOne(t, "behind one in the order of leaves", let(wide, running(40, "root.b", 4, ask(2, 35, 1, 1))), 1, assign.Hold, holds(40, 2, 1))
}

// An ask that a node is kept for already is passed over, whichever node that is; another ask, or another application, is not.
func TestP1401HoldOneNodeForEach(t *testing.T) {
	s := cramped()
	s.Nodes = append(s.Nodes, node(5, 0, 10, 10), node(7, 0, 10, 10), node(9, 0, 10, 10))
	wantGrant(t, "a node beyond it is kept", kept(s, slot(3, 10, 1)), 1, 20, 1)
	wantGrant(t, "the last one is kept", kept(s, slot(5, 30, 1), slot(7, 10, 2), slot(9, 10, 1)), 1, 20, 1)
	wantOne(t, "for another ask", kept(s, slot(3, 10, 2)), 1, assign.Hold, holds(10, 1, 1))
	wantOne(t, "for another application", kept(s, slot(3, 20, 1)), 1, assign.Hold, holds(10, 1, 1))
	wantOne(t, "for others", kept(s, slot(3, 20, 1), slot(5, 1, 10), slot(7, 10, 0), slot(9, 11, 1)), 1, assign.Hold, holds(10, 1, 1))
	s.Apps[0].Asks = append(s.Apps[0].Asks, ask(2, 50, 1, 1))
	wantOne(t, "its other ask", kept(s, slot(3, 10, 1)), 1, assign.Hold, holds(10, 2, 1))
	wantGrant(t, "both asks", kept(s, slot(3, 10, 1), slot(5, 10, 2)), 1, 20, 1)
	s.Apps[0].Asks[0].Size = v(31, 1)
	wantGrant(t, "a node ahead of it is kept", fill(kept(s, slot(1, 10, 1), slot(5, 10, 2)), 30, 3, 70, 7), 3, 20, 1)
	s.Apps[0].Asks[0].Size = v(30, 1)
	wantGrant(t, "it fits, though another node is kept", kept(s, slot(3, 10, 1)), 1, 10, 1)
}

// Slots are in the order of their nodes.
func TestP1401SlotsByNodes(t *testing.T) {
	s := cluster(even)
	for id := range 6 {
		s.Nodes = append(s.Nodes, node(10+id, 0, 50, 50))
	}
	s = let(s, running(10, "root.a", 1, ask(1, 40, 4, 2)), running(20, "root.b", 2))
	for id := range 6 {
		s = fill(s, 20, 10+id, 20, 2)
	}
	for id := range 6 {
		var l []api.Slot
		for other := range 6 {
			if other != id {
				l = append(l, slot(10+other, 70+other, other))
			}
		}
		wantOne(t, "among others", kept(s, l...), 10+id, assign.Hold, holds(10, 1, 10+id))
		wantOne(t, "behind others", kept(s, l[:id]...), 10+id, assign.Hold, holds(10, 1, 10+id))
		wantOne(t, "ahead of others", kept(s, l[id:]...), 10+id, assign.Hold, holds(10, 1, 10+id))
	}
}

// What keeps a node is granted as soon as it fits and has room, ahead of all others; other Slots stay.
func TestP1401SlotIsGranted(t *testing.T) {
	s := cramped()
	s.Conts[3].Size = v(59, 59)
	s = fill(s, 10, 3, 60, 60)
	s.Apps[1].Asks[0].Size = v(1, 1)
	others := func(l ...api.Slot) api.State { return kept(s, append(l, slot(3, 20, 1))...) }
	wantGrant(t, "no Slot", s, 1, 20, 1)
	r := wantOne(t, "a Slot", others(slot(1, 10, 1)), 1, assign.Grant, frees(1), grants(10, 1, 1))
	if len(r.Slots) != 1 || r.Slots[0] != slot(3, 20, 1) || r.Apps[0].Asks[0].Count != 1 {
		t.Errorf("P1401: %+v, %+v", r.Slots, r.Apps[0].Asks)
	}
	s.Apps[0].Asks[0].Count = 1
	r = wantOne(t, "a Slot for the last one", others(slot(1, 10, 1)), 1, assign.Grant, frees(1), grants(10, 1, 1))
	if len(r.Apps[0].Asks) != 0 {
		t.Errorf("P1401: %+v", r.Apps[0].Asks)
	}
	s.Apps[0].Asks = []api.Ask{ask(0, 1, 1, 1), ask(1, 40, 40, 1), far(ask(4, 39, 40, 3), 1, 1, 7)}
	wantOne(t, "a Slot for the second ask", others(slot(1, 10, 1)), 1, assign.Grant, frees(1), grants(10, 1, 1))
	wantOne(t, "a Slot for the third ask", others(slot(1, 10, 4)), 1, assign.Grant, frees(1), grants(10, 4, 1))
	s.Conts = append(s.Conts[1:4:4], api.Cont{Id: 50, App: 30, Node: 3, Size: v(60, 60)})
	s.Apps[0].State, s.Apps[0].Asks = api.Waiting, []api.Ask{ask(0, 40, 40, 1)}
	r = wantOne(t, "a Slot for a master", others(slot(1, 10, 0)), 1, assign.Grant, frees(1), grants(10, 0, 1))
	if c := r.Conts[len(r.Conts)-1]; !c.Master || r.Apps[0].State != api.Running || r.Apps[0].Seen != 9 || r.Apps[0].Beat != 0 {
		t.Errorf("P1401: %+v, %+v", c, r.Apps[0])
	}
}

// It waits as long as it does not fit into what is free, or has no room; nothing changes then, not even what would be missed otherwise.
func TestP1401Wait(t *testing.T) {
	s := kept(cramped(), slot(1, 10, 1))
	s.Apps[1].Asks = append(s.Apps[1].Asks, far(ask(2, 1, 1, 1), 7, 7, 0))
	wantOne(t, "not free", s, 1, assign.Wait)
	s.Conts[3].Size = v(60, 97)
	wantOne(t, "the cores are not free", s, 1, assign.Wait)
	s.Conts[3].Size = v(60, 96)
	wantOne(t, "both are free", s, 1, assign.Grant, frees(1), grants(10, 1, 1))
	for _, x := range []struct {
		need  api.Vec
		until int
		kind  int
	}{{v(101, 0), 10, assign.Wait}, {v(0, 101), 10, assign.Wait}, {v(100, 100), 10, assign.Grant}, {v(101, 101), 9, assign.Grant}} {
		s.Plans = []api.Plan{{Id: 1, From: 0, Until: x.until, Need: x.need}}
		l := []change{frees(1), grants(10, 1, 1)}
		if x.kind == assign.Wait {
			l = nil
		}
		wantOne(t, "plans", s, 1, x.kind, l...)
	}
}

// The room of each queue counts: root.a.x is guaranteed 30 and has all of the 70 of root.a; root.a.y has 42 of them. Used of root.a is 50, or more.
func TestP1401WaitForRoom(t *testing.T) {
	for _, x := range []struct {
		y    int
		kind int
	}{{40, assign.Grant}, {41, assign.Wait}, {42, assign.Wait}} {
		s := crown(10, x.y, 0, "root.a.x", ask(1, 20, 1, 1))
		l := []change{frees(1), grants(40, 1, 1)}
		if x.kind == assign.Wait {
			l = nil
		}
		wantOne(t, "the queue above", kept(s, slot(1, 40, 1)), 1, x.kind, l...)
	}
	s := crown(0, 12, 0, "root.a.y", ask(1, 13, 1, 1))
	wantOne(t, "the leaf has room", kept(s, slot(1, 40, 1)), 1, assign.Grant, frees(1), grants(40, 1, 1))
	s.Conf.Queues[3].Caps[0] = api.Cap{Least: 5000, Most: 5000}
	wantOne(t, "the leaf has room for what is due", kept(s, slot(1, 40, 1)), 1, assign.Grant, frees(1), grants(40, 1, 1))
}

// lapse is why a Slot of application 10 with Prio 1 on node 1 doesn't count any more, and what else is then done to the state by an attempt that grants to nobody.
type lapse struct {
	what string
	done change
	then []change
}

func lapses() []lapse {
	first := func(f func(a *api.App, k *api.Ask)) change {
		return func(s *api.State) { f(&s.Apps[0], &s.Apps[0].Asks[0]) }
	}
	away := func(node, rack, times int) change {
		return first(func(a *api.App, k *api.Ask) { k.Node, k.Rack, k.Missed = node, rack, times })
	}
	over := func(state int) change {
		return func(s *api.State) { s.Apps[0].State, s.Conts = state, s.Conts[1:] }
	}
	missed := []change{misses(10, 1)}
	return []lapse{
		{"the application is gone", func(s *api.State) { s.Apps, s.Conts = s.Apps[1:], s.Conts[1:] }, nil},
		{"it has finished", over(api.Finished), nil},
		{"it was killed", over(api.Killed), nil},
		{"it has no asks", first(func(a *api.App, _ *api.Ask) { a.Asks = nil }), nil},
		{"it has an ask of a greater Prio", first(func(_ *api.App, k *api.Ask) { k.Prio = 2; k.Size = v(90, 101) }), nil},
		{"it has an ask of a lesser Prio", first(func(_ *api.App, k *api.Ask) { k.Prio = 0; k.Size = v(90, 101) }), nil},
		{"it starts again", func(s *api.State) { s.Apps[0].State, s.Apps[0].Asks, s.Conts = api.Waiting, nil, s.Conts[1:] }, nil},
		{"it may not go off its rack", away(7, 7, 0), missed},
		{"it may not go off its rack yet", away(-1, 7, 2), missed},
		{"it may in the second round alone", away(7, 7, 3), missed},
		{"it may not go off its node", away(7, 0, 0), missed},
		{"it is of another label", first(func(_ *api.App, k *api.Ask) { k.Label = 1 }), nil},
		{"the memory is too great for the Cap", first(func(_ *api.App, k *api.Ask) { k.Size = v(101, 1) }), nil},
		{"the cores are too great for the Cap", first(func(_ *api.App, k *api.Ask) { k.Size = v(1, 101) }), nil},
		{"it is not due", func(s *api.State) { *s = fill(*s, 10, 3, 161, 1) }, nil},
		{"its cores are not due", func(s *api.State) { *s = fill(*s, 10, 3, 1, 197) }, nil},
		{"its user may not have more", func(s *api.State) { *s = fill(*s, 10, 3, 41, 1); s.Conf.Queues[1].User = 2000 }, nil},
		{"its user may not have more cores", func(s *api.State) { *s = fill(*s, 10, 3, 1, 41); s.Conf.Queues[1].User = 2000 }, nil},
	}
}

// lapsing is cramped with 400 in all, so that 200 are guaranteed to each half, and a Slot.
func lapsing() api.State {
	s := cramped()
	s.Nodes[1].Cap = v(300, 300)
	return kept(s, slot(1, 10, 1))
}

// A Slot that doesn't count any more is removed, and the attempt goes on: it grants to another one, or keeps the node for it, or does nothing, whereupon the Slot is gone all the same.
func TestP1401SlotIsRemoved(t *testing.T) {
	wantOne(t, "the Slot counts", lapsing(), 1, assign.Wait)
	for _, x := range lapses() {
		s := altered(lapsing(), x.done)
		first := x.then
		if used(s, "root.a") > used(s, "root.b") {
			first = nil
		}
		wantOne(t, x.what, s, 1, assign.Grant, append([]change{frees(1)}, append(first, grants(20, 1, 1))...)...)
		some := altered(s, func(s *api.State) { s.Slots = append(s.Slots, slot(3, 10, 1)) })
		wantOne(t, x.what+", beside another Slot", some, 1, assign.Grant, append([]change{frees(1)}, append(first, grants(20, 1, 1))...)...)
		hold := altered(s, func(s *api.State) { *askOf(appOf(*s, 20), 1) = ask(3, 31, 1, 1) })
		wantOne(t, x.what+", and it is kept for another one", hold, 1, assign.Hold, append([]change{frees(1)}, append(first, holds(20, 3, 1))...)...)
		none := altered(s, func(s *api.State) { appOf(*s, 20).Asks = nil })
		r := wantOne(t, x.what+", and nothing else is wanted", none, 1, assign.None, append([]change{frees(1)}, x.then...)...)
		if len(r.Slots) != 0 {
			t.Errorf("P1401: %s: %+v", x.what, r.Slots)
		}
	}
}

// What is due may become less, when a node goes.
func TestP1401SlotIsRemovedWithANode(t *testing.T) {
	s := lapsing()
	s.Apps[0].Asks[0].Size = v(51, 1)
	wantOne(t, "400 in all", s, 1, assign.Wait)
	s.Nodes[1].Up = false
	wantOne(t, "100 in all", s, 1, assign.Grant, frees(1), grants(20, 1, 1))
	s.Apps[0].Asks[0].Size = v(50, 50)
	wantOne(t, "100 in all, of which it may still have half", s, 1, assign.Wait)
}

// used is what a queue has, of memory of the label 0.
func used(s api.State, leaf string) (sum int) {
	for _, c := range s.Conts {
		if appOf(s, c.App).Queue == leaf && c.Label == 0 {
			sum += c.Size.Mem
		}
	}
	return sum
}

// Up to these edges a Slot counts.
func TestP1401SlotCountsStill(t *testing.T) {
	for i, done := range []change{
		func(s *api.State) { *s = fill(*s, 10, 3, 160, 196) },
		func(s *api.State) { *s = fill(*s, 10, 3, 40, 40); s.Conf.Queues[1].User = 2000 },
		func(s *api.State) { s.Apps[0].Asks[0].Size = v(100, 100) },
		func(s *api.State) { s.Apps[0].Asks[0].Size = v(31, 1) },
		func(s *api.State) { s.Apps[0].Asks[0] = far(ask(1, 40, 4, 2), 7, 7, 4) },
		func(s *api.State) { s.Apps[0].Asks[0] = far(ask(1, 40, 4, 2), 7, 0, 2) },
		func(s *api.State) { s.Apps[0].Asks[0] = far(ask(1, 40, 4, 2), 1, 7, 0) },
		func(s *api.State) { s.Apps[0].Asks = append([]api.Ask{ask(0, 1, 1, 9)}, s.Apps[0].Asks...) },
		func(s *api.State) { s.Apps[0].Prio, s.Apps[1].Prio = 0, 9 },
		func(s *api.State) { s.Slots = append(s.Slots, slot(3, 10, 1)) },
		func(s *api.State) { *s = fill(*s, 20, 3, 60, 60); s.Conf.Queues[2].User = 1 },
		func(s *api.State) {
			s.Apps[0].State, s.Apps[0].Asks, s.Conts = api.Waiting, []api.Ask{ask(1, 40, 2, 1)}, s.Conts[1:]
		},
	} {
		s := altered(lapsing(), done)
		if r := wantOne(t, "the Slot counts still", s, 1, assign.Wait); len(r.Slots) != len(s.Slots) {
			t.Errorf("P1401: case %d: %+v", i, r.Slots)
		}
	}
}

// A Slot that keeps another node has no say.
func TestP1401SlotOfAnotherNode(t *testing.T) {
	wantGrant(t, "another node is kept", kept(cramped(), slot(1, 10, 1)), 3, 10, 1)
	wantGrant(t, "another node is kept for nobody", kept(cramped(), slot(1, 77, 1)), 3, 10, 1)
	wantOne(t, "another node is kept for nobody", kept(cramped(), slot(3, 77, 1)), 1, assign.Hold, holds(10, 1, 1))
}

// Beat goes on as long as something is granted, three times at most.
func TestP1402Counts(t *testing.T) {
	for count := range 7 {
		s := let(cluster(even, node(1, 0, 100, 100)), running(10, "root.a", 1), running(20, "root.b", 2, far(ask(2, 9, 9, 1), 7, 7, 0)))
		if count > 0 {
			s.Apps[0].Asks = []api.Ask{ask(1, 2, 1, count)}
		}
		l := []change{misses(20, 2)}
		if count > 0 {
			l = []change{grants(10, 1, 1)}
		}
		for range min(count, mostBeat) - 1 {
			l = append(l, misses(20, 2), grants(10, 1, 1))
		}
		if 0 < count && count < mostBeat {
			l = append(l, misses(20, 2))
		}
		r := wantBeat(t, "so many", s, 1, []int{10, 10, 10}[:min(count, mostBeat)], l...)
		if count == 5 {
			wantBeat(t, "the rest", r, 1, []int{10, 10, 20}, misses(20, 2), grants(10, 1, 1), misses(20, 2), grants(10, 1, 1), grants(20, 2, 1))
		}
	}
}

// Beat stops at what is kept, or waits, or does nothing; what was done up to there remains.
func TestP1402Stops(t *testing.T) {
	s := cramped()
	s.Apps[0].Asks = []api.Ask{ask(0, 10, 1, 1), ask(1, 40, 4, 2)}
	wantBeat(t, "at Hold, at once", cramped(), 1, nil, holds(10, 1, 1))
	wantBeat(t, "at Hold", s, 1, []int{10}, grants(10, 0, 1), holds(10, 1, 1))
	s.Apps[0].Asks[0].Count = 2
	wantBeat(t, "at Hold, the third time", s, 1, []int{10, 10}, grants(10, 0, 1), grants(10, 0, 1), holds(10, 1, 1))
	s.Apps[0].Asks[0] = ask(0, 1, 1, 3)
	wantBeat(t, "before Hold", s, 1, []int{10, 10, 10}, grants(10, 0, 1), grants(10, 0, 1), grants(10, 0, 1))
	wantBeat(t, "at Wait", kept(s, slot(1, 10, 1)), 1, nil)
	wantBeat(t, "at None", kept(s, slot(1, 10, 1)), 2, nil)
	s.Conts[3].Size = v(60, 7)
	s.Apps[0].Asks[1].Count = 1
	wantBeat(t, "a Slot first", kept(s, slot(1, 10, 1)), 1, []int{10}, frees(1), grants(10, 1, 1), holds(10, 0, 1))
	s.Apps[1].Asks, s.Apps[0].Asks = nil, s.Apps[0].Asks[1:]
	wantBeat(t, "at None", s, 1, []int{10}, grants(10, 1, 1))
	wantBeat(t, "at None, at once, without the Slot", kept(s, slot(1, 30, 1)), 1, []int{10}, frees(1), grants(10, 1, 1))
	s.Apps[0].Asks = []api.Ask{far(ask(1, 1, 1, 2), 7, 7, 1)}
	wantBeat(t, "at None, at once", kept(s, slot(1, 30, 1)), 1, nil, frees(1), misses(10, 1))
}

// What Beat grants is in the order in which it was granted, over several leaves.
func TestP1402Order(t *testing.T) {
	s := let(cluster(even, node(4, 0, 100, 100)), running(10, "root.a", 1, ask(1, 3, 1, 9)), waiting(20, "root.b", 2), running(30, "root.b", 3, ask(4, 1, 1, 9)))
	r := wantBeat(t, "several leaves", s, 4, []int{10, 20, 10}, grants(10, 1, 4), grants(20, 0, 4), grants(10, 1, 4))
	wantBeat(t, "several leaves", r, 4, []int{30, 30, 10}, grants(30, 4, 4), grants(30, 4, 4), grants(10, 1, 4))
	_, l := beat(t, "several leaves", s, 4)
	want := []api.Cont{{Id: 3<<20 + 8, App: 10, Node: 4, Size: v(3, 1), Prio: 1}, {Id: 3<<20 + 9, App: 20, Node: 4, Size: v(4, 2), Master: true}, {Id: 3<<20 + 10, App: 10, Node: 4, Size: v(3, 1), Prio: 1}}
	for i, c := range l {
		if c != want[i] {
			t.Errorf("P1402: %+v; want %+v", c, want[i])
		}
	}
}
