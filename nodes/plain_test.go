package nodes_test

import (
	"slices"
	"strconv"
	"testing"

	"dispatch/api"
	"dispatch/nodes"
)

// toldNodes are the nodes with n among them, gathered by Ids and laid out anew.
func toldNodes(l []api.Node, n api.Node) (out []api.Node) {
	byId := map[int]api.Node{}
	for _, known := range l {
		byId[known.Id] = known
	}
	byId[n.Id] = n
	for id := range maxId + 1 {
		if known, is := byId[id]; is {
			out = append(out, known)
		}
	}
	return out
}

// toldRegister is P801 written down as the chapter tells it.
func toldRegister(s api.State, n api.Node) (api.State, api.Errno) {
	if n.Id < 0 || n.Id > 999 || n.Label < 0 || n.Label >= len(s.Conf.Labels) || n.Rack < 0 || n.Rack > 99 || min(n.Cap.Mem, n.Cap.Cores) < 0 || max(n.Cap.Mem, n.Cap.Cores) > 1<<30 {
		return s, api.ErrArg
	}
	if slices.ContainsFunc(s.Nodes, func(known api.Node) bool { return known.Up && known.Id == n.Id }) {
		return s, api.ErrIs
	}
	l := toldNodes(s.Nodes, registered(n, s.Now))
	if len(l) > 12 {
		return s, api.ErrMany
	}
	s.Nodes = l
	return s, api.OK
}

// toldBeat is P802 of Beat likewise.
func toldBeat(s api.State, id, number int) (api.State, api.Errno) {
	s = roomy(s)
	for i, n := range s.Nodes {
		switch {
		case n.Id != id:
			continue
		case !n.Up:
			return s, api.ErrGone
		case number < n.Beat:
			return s, api.ErrStale
		case number > n.Beat+1:
			return s, api.ErrArg
		}
		s.Nodes[i].Beat, s.Nodes[i].Seen = number, s.Now
		return s, api.OK
	}
	return s, api.ErrNone
}

// checkTold holds all that is asked of a state against the plain answers.
func checkTold(t *testing.T, what string, s api.State) {
	t.Helper()
	var silent []int
	for id := range 20 {
		var want api.Node
		var used, free api.Vec
		there := false
		for _, n := range s.Nodes {
			if n.Id == id {
				want, there = n, true
			}
		}
		for _, c := range s.Conts {
			if c.Node == id {
				used = v(used.Mem+c.Size.Mem, used.Cores+c.Size.Cores)
			}
		}
		if want.Up {
			free = v(max(want.Cap.Mem-used.Mem, 0), max(want.Cap.Cores-used.Cores, 0))
		}
		if want.Up && s.Now-want.Seen >= 10 {
			silent = append(silent, id)
		}
		if n, is := nodes.Find(s, id); n != want || is != there {
			t.Errorf("P802: %s: Find of %d: %+v, %t; want %+v, %t", what, id, n, is, want, there)
		}
		checkRoom(t, what, s, id, used, free)
	}
	if l := nodes.Silent(s); !slices.Equal(l, silent) {
		t.Errorf("P802: %s: Silent: %v; want %v", what, l, silent)
	}
}

// call is one of a script: of the program, and as it is told.
type call struct {
	what            string
	done, plainDone func(api.State) (api.State, api.Errno)
}

func calls() (l []call) {
	for _, n := range []api.Node{{Id: 1, Cap: v(3, 3), Beat: 1}, {Id: 2, Label: 1, Rack: 3}, {Id: 3, Label: 2, Cap: v(7, 0), Up: true}, {Id: 3, Label: 3}} {
		l = append(l, call{"Register " + strconv.Itoa(n.Id), func(s api.State) (api.State, api.Errno) { return nodes.Register(s, n) }, func(s api.State) (api.State, api.Errno) { return toldRegister(s, n) }})
	}
	for _, x := range [][2]int{{1, 0}, {1, 1}, {1, 2}, {2, 1}, {2, 2}, {3, 1}} {
		l = append(l, call{"Beat " + strconv.Itoa(x[0]) + " " + strconv.Itoa(x[1]), func(s api.State) (api.State, api.Errno) { return nodes.Beat(s, x[0], x[1]) }, func(s api.State) (api.State, api.Errno) { return toldBeat(s, x[0], x[1]) }})
	}
	tick := func(s api.State) (api.State, api.Errno) { s.Now += 5; return s, api.OK }
	down := func(s api.State) (api.State, api.Errno) {
		s = roomy(s)
		for i := range s.Nodes {
			s.Nodes[i].Up = s.Nodes[i].Up && s.Now-s.Nodes[i].Seen < 10
		}
		return s, api.OK
	}
	return append(l, call{"tick", tick, tick}, call{"down", down, down})
}

// play goes through all scripts of so many calls from a state on.
func play(t *testing.T, what string, s api.State, length int) {
	t.Helper()
	checkTold(t, what, s)
	for _, c := range calls() {
		if length == 0 || t.Failed() {
			return
		}
		r, e := c.done(roomy(s))
		told, want := c.plainDone(roomy(s))
		if e != want || !same(r, told) {
			t.Errorf("P801, P802, P803: %s; %s: %v, %+v; want %v, %+v", what, c.what, e, r.Nodes, want, told.Nodes)
		}
		play(t, what+"; "+c.what, told, length-1)
	}
}

func TestP801P802P803AllShortScripts(t *testing.T) {
	play(t, "no nodes", of(0), 4)
	play(t, "a heartbeat ahead", of(20, gone(1, 0, 1), live(2, 11, 1), live(3, 10, 0)), 3)
	play(t, "much else", rich(), 2)
	eleven := of(9, gone(2, 3, 1))
	for id := 5; len(eleven.Nodes) < mostNodes-1; id++ {
		eleven.Nodes = append(eleven.Nodes, live(id, id%10, 0))
	}
	play(t, "eleven nodes", eleven, 3)
}

func TestP802AllShortListsOfNodes(t *testing.T) {
	ages := []int{0, 1, 9, 10, 11, 20}
	for _, now := range []int{20, 21, 35} {
		for i := range len(ages) * len(ages) * 8 {
			a, b, up := ages[i/8%len(ages)], ages[i/8/len(ages)], i%8
			s := of(now, live(2, now-a, 1), live(3, now-b, 2), live(9, now-10, 3))
			for at := range s.Nodes {
				s.Nodes[at].Up = up>>at&1 == 1
			}
			checkTold(t, "three nodes", s)
		}
	}
}

func TestP802AllShortListsOfContainers(t *testing.T) {
	var pool []api.Cont
	for _, size := range []api.Vec{v(1, 0), v(3, 2), v(0, 5), v(1004, 11)} {
		for _, node := range []int{4, 5, 6} {
			pool = append(pool, api.Cont{App: 9 - node, Node: node, Size: size, Label: node % 3})
		}
	}
	var place func(l []api.Cont)
	place = func(l []api.Cont) {
		s := of(3, live(4, 1, 1), live(5, 2, 2), live(6, 3, 3))
		s.Conts = l
		checkTold(t, "up to three containers", s)
		for _, c := range pool {
			if c.Id = 4 + len(l); len(l) < 3 {
				place(append(l[:len(l):len(l)], c))
			}
		}
	}
	place(nil)
}

func TestP802Rich(t *testing.T) {
	s := rich()
	for now := 20; now < 40; now++ {
		s.Now = now
		checkTold(t, "rich, at "+strconv.Itoa(now), s)
	}
}
