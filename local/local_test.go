package local_test

import (
	"math"
	"slices"
	"strconv"
	"testing"

	"dispatch/api"
	"dispatch/asks"
	"dispatch/local"
	"dispatch/nodes"
)

// The numbers that the document names.
const (
	onNode    = 1
	onRack    = 2
	off       = 3
	never     = 4
	rackWait  = 2
	anyWait   = 4
	maxId     = 999
	maxRack   = 99
	maxMissed = 100
)

// misses are all that an ask's Missed may reasonably be, and what it may be at worst.
var misses = []int{math.MinInt, -1000, -4, -2, -1, 0, 1, 2, 3, 4, 5, 6, 99, maxMissed, 1000, 1 << 40, math.MaxInt - 1, math.MaxInt}

// extremes are the ends of what an int may be, and what lies beside them.
var extremes = []int{math.MinInt, math.MinInt + 1, -1 << 32, -2, 1 << 31, 1 << 32, math.MaxInt - 1, math.MaxInt}

// ask wants one place; Node or Rack -1 names none.
func ask(node, rack int) api.Ask {
	return api.Ask{Prio: 3, Size: api.Vec{Mem: 100, Cores: 2}, Count: 5, Node: node, Rack: rack}
}

// node is a live one without a label.
func node(id, rack int) api.Node {
	return api.Node{Id: id, Rack: rack, Cap: api.Vec{Mem: 1000, Cores: 20}, Seen: 7, Beat: 2, Up: true}
}

func labelled(n api.Node, label int) api.Node {
	n.Label = label
	return n
}

func of(a api.Ask, label int) api.Ask {
	a.Label = label
	return a
}

func down(n api.Node) api.Node {
	n.Up = false
	return n
}

// missed is an ask that was missed so often.
func missed(a api.Ask, times int) api.Ask {
	a.Missed = times
	return a
}

// allowed tells whether an ask that was missed so often may go to a node of that level.
func allowed(level, times int) bool {
	return level == onNode || level == onRack && times >= rackWait || level == off && times >= anyWait
}

// wantLevel asks for the level, and for what may be at each number of misses. It asks everything twice, and whether the ask and the node stay as they were.
func wantLevel(t *testing.T, what string, a api.Ask, n api.Node, want int) {
	t.Helper()
	for _, times := range misses {
		b, m := missed(a, times), n
		for _, promise := range []string{"P1301", "P3"} {
			level, may := local.Level(b, m), local.May(b, m)
			if level != want || may != allowed(want, times) {
				t.Errorf("%s: %s: %+v to %+v: %d, %t; want %d, %t", promise, what, b, n, level, may, want, allowed(want, times))
			}
		}
		if b != missed(a, times) || m != n {
			t.Errorf("P2: %s: the ask is %+v, the node %+v; want %+v, %+v", what, b, m, missed(a, times), n)
		}
	}
}

func TestP1301TheNumbers(t *testing.T) {
	for _, x := range [][2]int{{local.OnNode, 1}, {local.OnRack, 2}, {local.Off, 3}, {local.Never, 4}, {api.RackWait, 2}, {api.AnyWait, 4}} {
		if x[0] != x[1] {
			t.Errorf("P1301: %d; want %d", x[0], x[1])
		}
	}
}

// A node that is not Up, or of another label, is one where an ask never goes, wherever it wants to go.
func TestP1301Never(t *testing.T) {
	for _, a := range []api.Ask{ask(-1, -1), ask(-1, 4), ask(-1, 5), ask(7, 4), ask(7, 5), ask(8, 4), ask(8, 5), ask(7, -1)} {
		for label := range 3 {
			for other := range 3 {
				n := labelled(node(7, 4), other)
				wantLevel(t, "not Up", of(a, label), down(n), never)
				if other != label {
					wantLevel(t, "another label", of(a, label), n, never)
				} else if local.Level(of(a, label), n) == never {
					t.Errorf("P1301: %+v, of a label of its own, never goes to %+v", of(a, label), n)
				}
			}
		}
	}
}

// An ask that wants no place is at home on each node.
func TestP1301NoPlace(t *testing.T) {
	for _, id := range []int{0, 1, 7, 500, maxId} {
		for _, rack := range []int{0, 1, 50, maxRack} {
			for label := range 3 {
				wantLevel(t, "no place", of(ask(-1, -1), label), labelled(node(id, rack), label), onNode)
			}
		}
	}
}

// An ask that wants a rack and no node of it is at home on each node of the rack, and is never OnRack.
func TestP1301RackAlone(t *testing.T) {
	for _, rack := range []int{0, 1, 50, maxRack} {
		for _, id := range []int{0, 1, rack, 500, maxId} {
			wantLevel(t, "a node of the rack", ask(-1, rack), node(id, rack), onNode)
			for _, other := range []int{0, 1, rack - 1, rack + 1, 50, maxRack} {
				if other != rack {
					wantLevel(t, "a node of another rack", ask(-1, rack), node(id, other), off)
				}
			}
		}
	}
}

// An ask that wants a node of a rack would rather go to another node of the rack than to one of another rack.
func TestP1301NodeOfARack(t *testing.T) {
	for _, x := range [][2]int{{0, 0}, {0, 1}, {1, 0}, {7, 4}, {4, 7}, {5, 5}, {maxId, maxRack}, {maxRack, maxRack}, {maxId, 0}} {
		id, rack := x[0], x[1]
		for label := range 3 {
			a := of(ask(id, rack), label)
			wantLevel(t, "the node itself", a, labelled(node(id, rack), label), onNode)
			for _, other := range []int{id - 1, id + 1, rack + 1000, maxId + 1} {
				wantLevel(t, "another node of its rack", a, labelled(node(other, rack), label), onRack)
				wantLevel(t, "a node of another rack", a, labelled(node(other, rack+1), label), off)
				wantLevel(t, "a node of another rack", a, labelled(node(other, rack-1), label), off)
			}
			wantLevel(t, "the node itself, in another rack", a, labelled(node(id, rack+1), label), onNode)
			wantLevel(t, "the node itself, in another rack", a, labelled(node(id, rack-1), label), onNode)
		}
	}
}

// An Id counts as a Node and a Rack as a Rack, also where their numbers are those of the other.
func TestP1301IdsAreNoRacks(t *testing.T) {
	wantLevel(t, "the Id is the asked rack", ask(7, 4), node(4, 7), off)
	wantLevel(t, "the Id is the asked rack, and no node is asked for", ask(-1, 4), node(4, 7), off)
	wantLevel(t, "the Rack is the asked node", ask(7, 4), node(5, 7), off)
	wantLevel(t, "the Prio is the Id, the Count the Rack", ask(9, 8), node(3, 5), off)
	wantLevel(t, "the label is the Id and the Rack", of(ask(9, 8), 1), labelled(node(1, 1), 1), off)
}

// Asks that asks.Check refuses, and nodes that nodes.Register refuses, are taken by the chapter's words.
func TestP1301WrongAsksAndNodes(t *testing.T) {
	for _, id := range append([]int{-1, 0, 7, maxId + 1}, extremes...) {
		wantLevel(t, "a node without a rack, and the node", ask(id, -1), node(id, 3), onNode)
		wantLevel(t, "a node without a rack, and another one", ask(id, -1), node(id^1, 3), onNode)
		wantLevel(t, "a node without a rack, and one in rack -1", ask(id, -1), node(id^1, -1), onNode)
		wantLevel(t, "a node without a rack, and one that is down", ask(id, -1), down(node(id, 3)), never)
		wantLevel(t, "a node without a rack, and one of another label", ask(id, -1), labelled(node(id, 3), 1), never)
	}
	wantLevel(t, "no node, and one with the Id -1", ask(-1, 4), node(-1, 5), onNode)
	wantLevel(t, "no node, and one with the Id -1 in the rack", ask(-1, 4), node(-1, 4), onNode)
	wantLevel(t, "a rack, and a node in rack -1", ask(7, 4), node(8, -1), off)
	wantLevel(t, "only -1 names no rack", ask(7, -2), node(8, 4), off)
	wantLevel(t, "only -1 names no node", ask(-2, 4), node(8, 4), onRack)
	wantLevel(t, "only -1 names no node", ask(-2, 4), node(8, 5), off)
	wantLevel(t, "zero values", api.Ask{}, api.Node{}, never)
	wantLevel(t, "zero values but Up", api.Ask{}, api.Node{Up: true}, onNode)
}

// Numbers are held against each other as they are, also where their difference or half of their bits would be the same.
func TestP1301Extremes(t *testing.T) {
	for _, x := range extremes {
		for _, y := range append([]int{0, 1, 7}, extremes...) {
			wantLevel(t, "labels", of(ask(-1, -1), x), labelled(node(7, 4), x), onNode)
			wantLevel(t, "racks", ask(-1, x), node(7, x), onNode)
			wantLevel(t, "Ids", ask(x, 4), node(x, 4), onNode)
			if x == y {
				continue
			}
			wantLevel(t, "labels", of(ask(-1, -1), x), labelled(node(7, 4), y), never)
			wantLevel(t, "racks", ask(-1, x), node(7, y), off)
			wantLevel(t, "Ids and racks", ask(x, x), node(y, y), off)
			wantLevel(t, "Ids", ask(x, 4), node(y, 4), onRack)
			wantLevel(t, "Ids in a rack", ask(x, y), node(y, y), onRack)
			wantLevel(t, "Ids in another rack", ask(x, y), node(x, x), onNode)
		}
	}
}

// What an ask wants there, and what the node has, count for nothing.
func TestP1301TheRestCountsForNothing(t *testing.T) {
	for _, number := range append([]int{-1, 0, 1, 9, 50}, extremes...) {
		vast := api.Vec{Mem: number, Cores: number}
		for level, n := range []api.Node{node(7, 4), node(8, 4), node(8, 5), down(node(7, 4))} {
			a := ask(7, 4)
			a.Prio, a.Size, a.Count = number, vast, number
			wantLevel(t, "another Prio, Size and Count", a, n, level+1)
			n.Cap, n.Seen, n.Beat = vast, number, number
			wantLevel(t, "another Cap, Seen and Beat", ask(7, 4), n, level+1)
			wantLevel(t, "all of these", a, n, level+1)
		}
	}
}

// wantMay plays the misses of an ask one after the other, from none on, and asks from when on it may go to a node; -1 means never.
func wantMay(t *testing.T, what string, a api.Ask, n api.Node, from int) {
	t.Helper()
	l, e := asks.Set(nil, a)
	if e != api.OK || asks.Check(a, 3) != api.OK {
		t.Errorf("%s: %+v is refused", what, a)
		return
	}
	for times := range maxMissed + 5 {
		want := from >= 0 && times >= from
		if got := local.May(l[0], n); got != want || l[0].Missed != min(times, maxMissed) {
			t.Errorf("P1301, P1302: %s: missed %d times: %t; want %t", what, times, got, want)
		}
		l = asks.Miss(l, a.Prio)
	}
}

func TestP1301P1302May(t *testing.T) {
	wantMay(t, "no place", ask(-1, -1), node(7, 4), 0)
	wantMay(t, "the rack that is asked for", ask(-1, 4), node(7, 4), 0)
	wantMay(t, "the node that is asked for", ask(7, 4), node(7, 4), 0)
	wantMay(t, "the node that is asked for, in another rack", ask(7, 4), node(7, 5), 0)
	wantMay(t, "another node of the rack", ask(7, 4), node(8, 4), 2)
	wantMay(t, "another rack", ask(7, 4), node(8, 5), 4)
	wantMay(t, "another rack than the one that is asked for", ask(-1, 4), node(7, 5), 4)
	wantMay(t, "a node that is down", ask(7, 4), down(node(7, 4)), -1)
	wantMay(t, "a node of another label", ask(7, 4), labelled(node(7, 4), 1), -1)
	wantMay(t, "both at once", of(ask(-1, -1), 2), down(node(7, 4)), -1)
	wantMay(t, "of a label", of(ask(7, 4), 2), labelled(node(8, 4), 2), 2)
	wantMay(t, "at the ends of the numbers", ask(maxId, maxRack), node(0, maxRack), 2)
	wantMay(t, "at the ends of the numbers", ask(0, 0), node(maxId, maxRack), 4)
}

// One of an ask that is granted sets its misses back, so that it waits anew for what is farther off.
func TestP1301AfterAGrant(t *testing.T) {
	l, _ := asks.Set(nil, ask(7, 4))
	for range rackWait {
		l = asks.Miss(l, 3)
	}
	if !local.May(l[0], node(8, 4)) || local.May(l[0], node(8, 5)) {
		t.Errorf("P1301: missed twice: %+v may not go to its rack, or may go to another one", l[0])
	}
	l, _ = asks.Take(l, 3)
	if local.May(l[0], node(8, 4)) || !local.May(l[0], node(7, 4)) {
		t.Errorf("P1301: granted: %+v may go to its rack, or may not go to its node", l[0])
	}
}

// The chapter's example, of nodes that have registered.
func TestP1301Example(t *testing.T) {
	s := api.State{Conf: api.Conf{Labels: []string{""}}}
	for id, rack := range []int{1, 0, 0, 1} {
		var e api.Errno
		if s, e = nodes.Register(s, api.Node{Id: id, Rack: rack}); e != api.OK {
			t.Fatal(e)
		}
	}
	for id, from := range []int{4, 0, 2, 4} {
		n, _ := nodes.Find(s, id)
		wantMay(t, "node "+strconv.Itoa(id), ask(1, 0), n, from)
	}
}

// What may be once is never taken back by a miss, also of asks and nodes that are refused.
func TestP1302OnceMoreMissed(t *testing.T) {
	places := []int{-2, -1, 0, 1, math.MinInt, math.MaxInt}
	for i := range len(places) * len(places) * len(places) * len(places) {
		a := ask(places[i%6], places[i/6%6])
		for _, n := range []api.Node{node(places[i/36%6], places[i/216]), down(node(places[i/36%6], places[i/216])), labelled(node(places[i/36%6], places[i/216]), 1)} {
			before := false
			for _, times := range misses {
				may := local.May(missed(a, times), n)
				more := asks.Miss([]api.Ask{missed(a, times)}, a.Prio)
				if before && !may || may && !local.May(more[0], n) {
					t.Errorf("P1302: %+v, missed %d times: it may not go to %+v once more", a, times, n)
				}
				before = may
			}
		}
	}
}

// What is asked of the elements of lists leaves the lists as they were.
func TestP2AsksAndNodesStay(t *testing.T) {
	l := []api.Ask{ask(-1, -1), ask(-1, 4), ask(7, 4), missed(ask(7, 4), 3), missed(ask(9, 5), 4)}
	ns := []api.Node{node(7, 4), node(8, 4), node(8, 5), down(node(7, 4)), labelled(node(7, 4), 2)}
	wantAsks, wantNodes := slices.Clone(l), slices.Clone(ns)
	for i := range l {
		for j := range ns {
			local.Level(l[i], ns[j])
			local.May(l[i], ns[j])
		}
	}
	if !slices.Equal(l, wantAsks) || !slices.Equal(ns, wantNodes) {
		t.Errorf("P2: the asks are %+v, the nodes %+v; want %+v, %+v", l, ns, wantAsks, wantNodes)
	}
}
