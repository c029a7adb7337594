package assign_test

import (
	"testing"

	"dispatch/api"
	"dispatch/assign"
)

// grove is a state of deep in which each leaf uses so much on nodes of 100 (of label 0: root.a has 60, its leaves 30 and 30, root.b 40; of label 1: 40, 10 and 30, 60), and wants more of both labels.
func grove(label, x, y, b int) api.State {
	l := []api.Ask{ask(1, 1, 1, 50), of(ask(2, 1, 1, 50), 1)}
	s := let(cluster(deep, node(1, 0, 100, 100), node(2, 1, 100, 100)), running(10, "root.a.x", 1, l...), running(20, "root.a.y", 2, l...), running(30, "root.b", 3, l...))
	for i, used := range []int{x, y, b} {
		s = fill(s, 10+10*i, 1+label, used, used/2)
	}
	return s
}

// The leaf that uses the least part of its guarantee comes first, from root down, of the label of the node.
func TestP1401Leaves(t *testing.T) {
	for _, x := range []struct{ label, x, y, b, app int }{
		{0, 0, 0, 0, 10}, {0, 1, 0, 0, 30}, {0, 0, 1, 0, 30}, {0, 0, 0, 1, 10}, {0, 1, 0, 5, 20}, {0, 2, 3, 5, 10}, {0, 3, 2, 5, 20}, {0, 3, 3, 3, 30}, {0, 3, 3, 4, 10}, {0, 4, 2, 4, 20}, {0, 0, 12, 7, 30}, {0, 0, 12, 8, 10}, {0, 0, 12, 9, 10},
		{1, 0, 0, 0, 10}, {1, 1, 2, 0, 30}, {1, 1, 2, 9, 20}, {1, 1, 3, 9, 10}, {1, 1, 4, 9, 10}, {1, 2, 2, 5, 30}, {1, 2, 2, 6, 20}, {1, 0, 1, 6, 10},
	} {
		s := grove(x.label, x.x, x.y, x.b)
		wantGrant(t, "the order of leaves", s, 1+x.label, x.app, 1+x.label)
		wantGrant(t, "the other label is not used", s, 2-x.label, 10, 2-x.label)
	}
	s := altered(grove(0, 0, 0, 0), func(s *api.State) { s.Apps[0].Asks = nil })
	wantGrant(t, "nothing is wanted in the first leaf", s, 1, 20, 1)
	s.Apps[1].State, s.Conts = api.Killed, append(s.Conts[:1], s.Conts[2], s.Conts[5])
	wantGrant(t, "nor in the second one", s, 1, 30, 1)
}

// Of a leaf's applications the one with the greatest Prio comes first, and of equal ones the one with the least Id.
func TestP1401Applications(t *testing.T) {
	for _, x := range []struct{ first, second, third, app int }{
		{5, 5, 5, 10}, {5, 6, 5, 20}, {5, 5, 6, 30}, {5, 6, 6, 20}, {6, 6, 5, 10}, {6, 5, 6, 10}, {0, 1, 2, 30}, {0, 9, 9, 20}, {9, 0, 9, 10}, {0, 0, 9, 30}, {3, 9, 6, 20},
	} {
		s := let(cluster(alone, node(1, 0, 100, 100)), prior(running(10, "root", 1, ask(1, 5, 1, 2)), x.first), prior(waiting(20, "root", 1), x.second), prior(running(30, "root", 1, ask(2, 3, 3, 1)), x.third))
		prio := map[int]int{10: 1, 20: 0, 30: 2}
		wantGrant(t, "the order of applications", s, 1, x.app, prio[x.app])
		s.Apps[x.app/10-1].Asks = nil
		rest := map[int][]int{10: {x.second, x.third, 20, 30}, 20: {x.first, x.third, 10, 30}, 30: {x.first, x.second, 10, 20}}[x.app]
		next := rest[2]
		if rest[1] > rest[0] {
			next = rest[3]
		}
		wantGrant(t, "the first one wants nothing", s, 1, next, prio[next])
	}
}

// Of an application's asks the most urgent one comes first.
func TestP1401Asks(t *testing.T) {
	s := let(cluster(alone, node(1, 0, 100, 100)), running(10, "root", 1, ask(0, 50, 1, 1), ask(3, 1, 1, 2), ask(9, 10, 10, 1)))
	for _, prio := range []int{0, 3, 3, 9} {
		s = wantGrant(t, "the order of asks", s, 1, 10, prio)
	}
	wantOne(t, "nothing is left", s, 1, assign.None)
}

// The first round serves what is due, though something else comes ahead of it; the second one serves the rest. Each half has 50.
func TestP1401DueFirst(t *testing.T) {
	base := cluster(even, node(1, 0, 100, 100))
	s := let(base, running(10, "root.a", 1, ask(1, 60, 1, 1), ask(2, 10, 1, 3)))
	s = wantGrant(t, "an ask behind one that is not due", s, 1, 10, 2)
	s = wantGrant(t, "an ask behind one that is not due", s, 1, 10, 2)
	s = wantGrant(t, "an ask behind one that is not due", s, 1, 10, 2)
	s = wantGrant(t, "the one that is not due", s, 1, 10, 1)
	wantOne(t, "nothing is left", s, 1, assign.None)

	s = let(base, prior(running(10, "root.a", 1, ask(1, 1, 51, 1)), 9), prior(running(20, "root.a", 2, ask(1, 1, 10, 2)), 1))
	s = wantGrant(t, "an application behind one whose ask is not due", s, 1, 20, 1)
	s = wantGrant(t, "an application behind one whose ask is not due", s, 1, 20, 1)
	wantGrant(t, "the one that is not due", s, 1, 10, 1)

	s = let(base, running(10, "root.a", 1, ask(1, 51, 1, 1)), running(20, "root.b", 2, ask(1, 20, 1, 2)))
	s = wantGrant(t, "a leaf behind one with an ask that is not due", s, 1, 20, 1)
	s = wantGrant(t, "a leaf that uses more, because what it wants is due", s, 1, 20, 1)
	wantGrant(t, "the one that is not due", s, 1, 10, 1)
}

// An ask is due up to its leaf's guarantee of 80, component by component. Node 1 is full, so that it is kept for an ask that is due, and for no other.
func TestP1401Due(t *testing.T) {
	for _, x := range []struct {
		used, size api.Vec
		due        bool
	}{
		{v(0, 0), v(60, 60), true}, {v(20, 20), v(60, 60), true}, {v(21, 20), v(60, 60), false}, {v(20, 21), v(60, 60), false}, {v(21, 0), v(60, 1), false}, {v(0, 21), v(1, 60), false}, {v(79, 79), v(1, 1), true}, {v(79, 0), v(1, 1), true}, {v(80, 0), v(1, 1), false}, {v(0, 80), v(1, 1), false}, {v(70, 10), v(10, 60), true}, {v(70, 10), v(11, 60), false}, {v(90, 1), v(1, 1), false},
	} {
		s := let(cluster(even, node(1, 0, 60, 60), node(2, 0, 100, 100), node(3, 1, 100, 100)), running(10, "root.a", 1), running(20, "root.a", 2, ask(1, x.size.Mem, x.size.Cores, 1)), running(30, "root.b", 3))
		s = fill(fill(s, 20, 2, x.used.Mem/2, x.used.Cores/2), 10, 2, x.used.Mem-x.used.Mem/2, x.used.Cores-x.used.Cores/2)
		s = fill(fill(fill(s, 20, 3, 9, 9), 10, 3, 90, 90), 30, 1, 60, 60)
		if x.due {
			wantOne(t, "due", s, 1, assign.Hold, holds(20, 1, 1))
		} else {
			wantOne(t, "not due", s, 1, assign.None)
		}
	}
}

// What a leaf uses of one label doesn't count for what is due of another one.
func TestP1401DueOfALabel(t *testing.T) {
	s := let(cluster(even, node(1, 0, 100, 100), node(2, 1, 60, 60), node(3, 1, 60, 60)), running(10, "root.a", 1, of(ask(1, 30, 30, 1), 1)), running(20, "root.b", 2))
	full := fill(fill(s, 10, 1, 49, 49), 20, 2, 60, 60)
	wantOne(t, "due, of its label", full, 2, assign.Hold, holds(10, 1, 2))
	wantOne(t, "no guarantee of its label", altered(full, func(s *api.State) { s.Conf.Queues[1].Caps[1].Least, s.Conf.Queues[2].Caps[1].Least = 0, 10000 }), 2, assign.None)
	wantOne(t, "no guarantee of the other label", altered(full, func(s *api.State) { s.Conf.Queues[1].Caps[0].Least, s.Conf.Queues[2].Caps[0].Least = 0, 10000 }), 2, assign.Hold, holds(10, 1, 2))
}

// More than a vector may be guaranteed and used, in states that chapter 19 calls sound; the sum is then held against it as it is.
func TestP1401DueBeyondVectors(t *testing.T) {
	base := let(cluster(alone, node(1, 0, mostPart, mostPart), node(2, 0, mostPart, mostPart), node(3, 0, 1, 1)), running(10, "root", 1, ask(1, 1, 1, 1)), running(20, "root", 2))
	base = fill(base, 20, 1, mostPart, mostPart)
	full, left, free := fill(fill(base, 20, 2, mostPart, mostPart), 20, 3, 1, 1), fill(fill(base, 20, 2, mostPart-1, mostPart-1), 20, 3, 1, 1), fill(base, 20, 2, mostPart, mostPart)
	wantOne(t, "nothing is left of the guarantee", full, 3, assign.None)
	wantOne(t, "nothing is left of the guarantee", kept(full, slot(3, 10, 1)), 3, assign.None, frees(3))
	wantOne(t, "something is left elsewhere", left, 3, assign.Hold, holds(10, 1, 3))
	wantOne(t, "something is left elsewhere", kept(left, slot(3, 10, 1)), 3, assign.Wait)
	wantOne(t, "something is left here", free, 3, assign.Grant, grants(10, 1, 3))
	wantOne(t, "something is left here", kept(free, slot(3, 10, 1)), 3, assign.Grant, frees(3), grants(10, 1, 3))
}

// A user may have more up to the user's share, which is 30 of root, or 15 of a half of it. It is what there was before that counts.
func TestP1401Users(t *testing.T) {
	for _, x := range []struct {
		mem, cores int
		may        bool
	}{
		{0, 0, true}, {29, 29, true}, {30, 30, true}, {31, 0, false}, {0, 31, false}, {31, 31, false}, {30, 31, false}, {1, 30, true}, {60, 1, false},
	} {
		s := let(cluster(alone, node(1, 0, 60, 60), node(2, 0, 40, 40), node(3, 1, 500, 500)), prior(running(10, "root", 1, ask(1, 20, 20, 3)), 9), running(20, "root", 2, ask(2, 1, 1, 1)), running(30, "root", 1))
		s.Conf.Queues[0].User = 3000
		s = fill(fill(fill(fill(s, 30, 1, x.mem/2, x.cores/2), 10, 2, x.mem-x.mem/2, x.cores-x.cores/2), 30, 3, 400, 400), 20, 3, 100, 100)
		if x.may {
			wantGrant(t, "the user may have more", s, 1, 10, 1)
		} else {
			wantGrant(t, "the user may not have more", s, 1, 20, 2)
		}
		s.Apps[1].User = 1
		if !x.may {
			wantOne(t, "both are of a user that may not", s, 1, assign.None)
		}
		s.Apps[0].User = 2
		wantGrant(t, "another user has nothing", s, 1, 10, 1)
	}
}

// A user's share is of the leaf and of the node's label; what the user has of other leaves and labels doesn't count.
func TestP1401UsersOfLeavesAndLabels(t *testing.T) {
	s := let(cluster(even, node(1, 0, 100, 100), node(2, 1, 200, 200)), running(10, "root.a", 1, ask(1, 5, 5, 2), of(ask(2, 5, 5, 1), 1)), running(20, "root.b", 1, ask(1, 5, 5, 1), of(ask(2, 5, 5, 1), 1)))
	for i := range 3 {
		s.Conf.Queues[i].User = 3000
	}
	other := fill(fill(s, 20, 1, 40, 40), 10, 2, 90, 90)
	wantGrant(t, "much of another leaf, and of another label", other, 1, 10, 1)
	wantGrant(t, "much of another leaf, and of another label", other, 2, 20, 2)
	wantGrant(t, "15 of it", fill(other, 10, 1, 15, 15), 1, 10, 1)
	wantOne(t, "16 of it", fill(other, 10, 1, 16, 1), 1, assign.None)
	wantOne(t, "16 of it", fill(other, 10, 1, 1, 16), 1, assign.None)
	wantGrant(t, "30 of the other label", altered(fill(s, 20, 2, 30, 30), func(s *api.State) { s.Apps[0].Asks = nil }), 2, 20, 2)
	none := altered(fill(s, 20, 2, 31, 30), func(s *api.State) { s.Apps[0].Asks = nil })
	wantOne(t, "31 of the other label", none, 2, assign.None)
	wantGrant(t, "31 of the other label", none, 1, 20, 1)
}

// What a user that may not have more asks for is not missed either.
func TestP1401UsersAreNotMissed(t *testing.T) {
	s := let(cluster(even, node(1, 0, 100, 100)), running(10, "root.a", 1, far(ask(1, 5, 5, 2), 7, 7, 0)), running(20, "root.a", 2, far(ask(1, 5, 5, 2), 7, 7, 0)))
	s.Conf.Queues[1].User = 1000
	wantOne(t, "both may have more", fill(s, 10, 1, 5, 5), 1, assign.None, misses(10, 1), misses(20, 1))
	wantOne(t, "one may not", fill(s, 10, 1, 5, 6), 1, assign.None, misses(20, 1))
}

// An ask that never goes to a node is passed over, as if it were not there.
func TestP1401Never(t *testing.T) {
	s := cluster(even, node(1, 0, 100, 100), node(2, 1, 100, 100))
	for times := range 6 {
		l := let(s, running(10, "root.a", 1, of(far(ask(1, 5, 5, 1), -1, -1, times), 1), of(far(ask(2, 5, 5, 1), 1, 0, times), 1)))
		wantOne(t, "of another label", l, 1, assign.None)
		wantGrant(t, "of its label", l, 2, 10, 1)
		l.Apps[0].Asks = append(l.Apps[0].Asks, far(ask(5, 5, 5, 1), -1, 0, times))
		wantGrant(t, "ahead of one of the node's label", l, 1, 10, 5)
	}
}

// So is one whose Size does not fit into the Cap of the node, though it is due.
func TestP1401TooGreatForTheCap(t *testing.T) {
	for _, x := range []struct {
		size api.Vec
		fits bool
	}{{v(40, 30), true}, {v(41, 30), false}, {v(40, 31), false}, {v(41, 31), false}, {v(41, 1), false}, {v(1, 31), false}, {v(1, 1), true}} {
		s := let(cluster(even, node(1, 0, 40, 30), node(2, 0, 100, 100)), running(10, "root.a", 1, ask(1, x.size.Mem, x.size.Cores, 1), far(ask(2, x.size.Mem, x.size.Cores, 1), 2, 3, 0)), running(20, "root.b", 2, ask(1, 2, 2, 1)))
		if x.fits {
			wantGrant(t, "it fits", s, 1, 10, 1)
			s.Apps[0].Asks = s.Apps[0].Asks[1:]
			wantOne(t, "it fits, and is missed", s, 1, assign.Grant, misses(10, 2), grants(20, 1, 1))
			continue
		}
		r := wantGrant(t, "too great", s, 1, 20, 1)
		wantOne(t, "too great, not missed, and no Slot", r, 1, assign.None)
	}
}

// placed is a state in which one application wants an ask of 20 at a place, and nobody else wants anything. Its leaf has 50, and uses so much.
func placed(node7, rack, times, used int) api.State {
	s := let(cluster(even, node(1, 0, 100, 100)), running(10, "root.a", 1, far(ask(1, 20, 1, 1), node7, rack, times)))
	return fill(s, 10, 1, used, 0)
}

// An ask that may not go there yet is missed once in an attempt, whichever round it is. One that is due is missed in the first round, so that the second one may serve it.
func TestP1401Missed(t *testing.T) {
	for _, x := range []struct{ node, rack, used, waits int }{
		{7, 7, 0, 3}, {-1, 7, 0, 3}, {7, 0, 0, 1}, {7, 7, 30, 3}, {7, 0, 30, 1}, {7, 7, 31, 4}, {-1, 7, 31, 4}, {7, 0, 31, 2}, {7, 7, 50, 4}, {7, 0, 50, 2}, {1, 7, 31, 0}, {-1, -1, 31, 0}, {-1, 0, 31, 0}, {-1, 0, 0, 0}, {1, 7, 0, 0},
	} {
		s := placed(x.node, x.rack, 0, x.used)
		for range x.waits {
			s = wantOne(t, "it may not go there yet", s, 1, assign.None, misses(10, 1))
		}
		done := []change{grants(10, 1, 1)}
		if due := x.used <= 30; due && x.waits > 0 {
			done = []change{misses(10, 1), grants(10, 1, 1)}
		}
		r := wantOne(t, "it may go there", s, 1, assign.Grant, done...)
		wantOne(t, "nothing is left", r, 1, assign.None)
	}
}

// Missed is counted by asks.Miss, from whatever there is, and what was missed often enough before is served without one more.
func TestP1401MissedBefore(t *testing.T) {
	for _, used := range []int{0, 40} {
		for _, times := range []int{4, 5, 99, 100} {
			wantGrant(t, "missed often enough", placed(7, 7, times, used), 1, 10, 1)
		}
		for _, times := range []int{2, 3, 4, 100} {
			wantGrant(t, "missed often enough for the rack", placed(7, 0, times, used), 1, 10, 1)
		}
		wantOne(t, "missed less than never", placed(7, 7, -5, used), 1, assign.None, misses(10, 1))
	}
}

// Several asks are missed each for itself, until one is granted: those behind it are not, and those that are not due only if the second round comes.
func TestP1401MissedOnTheWay(t *testing.T) {
	wish := func(prio, mem int) api.Ask { return far(ask(prio, mem, 1, 1), 7, 7, 0) }
	base := cluster(even, node(1, 0, 100, 100))
	base.Conf.Queues[1].User = 20000
	s := let(base, prior(running(10, "root.a", 1, wish(0, 1), wish(1, 60), ask(2, 70, 1, 1), wish(3, 2)), 9), prior(running(20, "root.a", 2, wish(0, 3), ask(1, 10, 1, 1), wish(2, 1)), 4), prior(running(30, "root.a", 3, wish(0, 3)), 2), running(40, "root.b", 4, wish(0, 3)))
	r := wantOne(t, "in the first round", s, 1, assign.Grant, misses(10, 0), misses(10, 3), misses(20, 0), grants(20, 1, 1))
	r = wantOne(t, "in the second round", r, 1, assign.Grant, misses(40, 0), misses(10, 0), misses(10, 3), misses(20, 0), misses(20, 2), misses(30, 0), misses(10, 1), grants(10, 2, 1))
	wantOne(t, "in both rounds", r, 1, assign.None, misses(40, 0), misses(10, 0), misses(10, 1), misses(10, 3), misses(20, 0), misses(20, 2), misses(30, 0))
	s.Nodes = []api.Node{node(1, 0, 60, 60), node(2, 0, 40, 40)}
	s.Apps[1].Asks[1].Size = v(50, 50)
	wantOne(t, "until the node is kept", fill(s, 40, 1, 20, 1), 1, assign.Hold, misses(10, 0), misses(10, 3), misses(20, 0), holds(20, 1, 1))
}

// An ask that has no room, or nothing free, is missed all the same as long as it may not go there.
func TestP1401MissedWithoutRoom(t *testing.T) {
	s := placed(7, 7, 1, 20)
	s.Conf.Queues[1].Caps[0].Most = 5000
	wantOne(t, "room", s, 1, assign.None, misses(10, 1))
	s.Plans = []api.Plan{{Id: 1, From: 9, Until: 10, Need: v(90, 0)}}
	wantOne(t, "no room", s, 1, assign.None, misses(10, 1))
	s.Apps[0].Asks[0].Missed = 4
	wantOne(t, "it may, without room", s, 1, assign.None)
	s = let(placed(7, 7, 1, 0), running(20, "root.b", 2))
	wantOne(t, "nothing free", fill(s, 20, 1, 90, 1), 1, assign.None, misses(10, 1))
}

// crown is a state of deep in which the leaves use so much on node 2, and one of them wants something on node 1. All nodes of label 0 together have 100.
func crown(x, y, b int, leaf string, k api.Ask) api.State {
	s := let(cluster(deep, node(1, 0, 30, 30), node(2, 0, 70, 70), node(3, 1, 300, 300)), running(10, "root.a.x", 1), running(20, "root.a.y", 2), running(30, "root.b", 3), running(40, leaf, 4, k))
	s = fill(fill(fill(s, 10, 2, x, x/2), 20, 2, y, y/2), 30, 2, b, b/2)
	return fill(fill(fill(s, 10, 3, 100, 100), 20, 3, 100, 100), 30, 3, 100, 100)
}

// Neither the leaf nor a queue above it is taken above what it may have at most: root.a 70, root.a.x 70 of it, root.a.y 42 of it, and root.b all.
func TestP1401P1403Room(t *testing.T) {
	for _, x := range []struct {
		x, y, b int
		leaf    string
		size    int
		room    bool
	}{
		{0, 41, 0, "root.a.y", 1, true}, {0, 41, 0, "root.a.y", 2, false}, {0, 42, 0, "root.a.y", 1, false}, {0, 20, 0, "root.a.y", 22, true}, {0, 20, 0, "root.a.y", 23, false}, {0, 42, 0, "root.a.x", 28, true}, {0, 42, 0, "root.a.x", 29, false}, {42, 27, 0, "root.a.y", 1, true}, {42, 27, 0, "root.a.y", 2, false}, {42, 28, 0, "root.a.y", 1, false}, {69, 0, 0, "root.a.x", 1, true}, {69, 0, 0, "root.a.x", 2, false}, {70, 0, 0, "root.a.x", 1, false}, {0, 0, 70, "root.b", 30, true}, {0, 0, 70, "root.a.y", 30, true},
	} {
		for _, k := range []api.Ask{ask(1, x.size, 1, 1), ask(1, x.size, x.size/2, 1)} {
			s := crown(x.x, x.y, x.b, x.leaf, k)
			if x.room {
				wantGrant(t, "room", s, 1, 40, 1)
				continue
			}
			wantOne(t, "no room, no Slot", s, 1, assign.None)
			s.Apps = append(s.Apps, waiting(50, "root.b", 5))
			wantGrant(t, "another queue has room", s, 1, 50, 0)
		}
	}
}

// The same of Cores, and of what plans keep free.
func TestP1401P1403RoomForPlans(t *testing.T) {
	s := crown(0, 0, 20, "root.b", ask(1, 10, 20, 1))
	wantGrant(t, "no plans", s, 1, 40, 1)
	for _, x := range []struct {
		need        api.Vec
		label       int
		from, until int
		room        bool
	}{
		{v(70, 70), 0, 9, 10, true}, {v(71, 0), 0, 9, 10, false}, {v(0, 71), 0, 9, 10, false}, {v(0, 71), 0, 0, 1000, false}, {v(71, 71), 1, 9, 10, true}, {v(71, 71), 0, 10, 20, true}, {v(71, 71), 0, 3, 9, true}, {v(500, 500), 0, 3, 10, false}, {v(70, 70), 0, 3, 10, true},
	} {
		s.Plans = []api.Plan{{Id: 1, Label: x.label, From: x.from, Until: x.until, Need: x.need}}
		if x.room {
			wantGrant(t, "a plan", s, 1, 40, 1)
		} else {
			wantOne(t, "a plan", s, 1, assign.None)
		}
	}
}

// The room is that of the node's label: another one may be full, or as good as empty.
func TestP1401P1403RoomOfALabel(t *testing.T) {
	s := let(cluster(even, node(1, 0, 50, 50), node(2, 1, 100, 100)), running(10, "root.a", 1, of(ask(1, 20, 20, 1), 1)))
	full := fill(s, 10, 1, 50, 50)
	wantGrant(t, "nothing is left of the other label", full, 2, 10, 1)
	wantOne(t, "nothing is left of the other label, and the node is kept", kept(full, slot(2, 10, 1)), 2, assign.Grant, frees(2), grants(10, 1, 2))
	for most := range 3 {
		s.Conf.Queues[1].Caps[1] = api.Cap{Least: 0, Most: 1998 + most}
		s.Conf.Queues[2].Caps[1].Least = 10000
		if most == 2 {
			wantGrant(t, "enough of its label", s, 2, 10, 1)
		} else {
			wantOne(t, "not enough of its label", s, 2, assign.None)
		}
	}
}
