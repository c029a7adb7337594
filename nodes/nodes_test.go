package nodes_test

import (
	"math"
	"slices"
	"strconv"
	"testing"

	"dispatch/api"
	"dispatch/conf"
	"dispatch/nodes"
)

// The numbers that the chapter names.
const (
	maxId     = 999
	maxRack   = 99
	maxSize   = 1 << 30
	mostNodes = 12
	life      = 10
)

// smallText is a configuration of three labels.
const smallText = `labels gpu ssd
queue root 10000 10000/10000 10000/10000 10000/10000
queue root.a 5000 4000/10000 0/5000 9999/9999
queue root.b 20000 6000/7000 10000/10000 1/10000
`

// of is a state of smallText at a time, with nodes.
func of(now int, l ...api.Node) api.State {
	c, _ := conf.Parse(smallText)
	return api.State{Conf: c, Now: now, Nodes: l}
}

func v(mem, cores int) api.Vec { return api.Vec{Mem: mem, Cores: cores} }

// live is a node that has registered, and was heard of since.
func live(id, seen, number int) api.Node {
	return api.Node{Id: id, Label: id % 3, Rack: id % 100, Cap: v(1000+id, 10), Seen: seen, Beat: number, Up: true}
}

// gone is one that is not live any more.
func gone(id, seen, number int) api.Node {
	n := live(id, seen, number)
	n.Up = false
	return n
}

func cont(id, app, node, mem, cores int) api.Cont {
	return api.Cont{Id: id, App: app, Node: node, Size: v(mem, cores), Label: node % 3}
}

// rich is a state with lists of every kind; each node, application and container has an Id that none of the others has.
func rich() api.State {
	s := of(25, live(4, 20, 3), gone(7, 2, 5), live(9, 16, 0), live(12, 15, 8), gone(15, 9, 1), live(18, 4, 2))
	s.Apps = []api.App{
		{Id: 30, State: api.Running, Queue: "root.a", User: 7, Prio: 2, Master: v(5, 1), Asks: []api.Ask{{Prio: 1, Size: v(1, 1), Count: 3, Node: -1, Rack: -1}}, Seen: 24, Beat: 6, Grants: []int{52}, Kills: []int{49}, Told: []int{51}, Lost: []int{48}},
		{Id: 31, State: api.Waiting, Queue: "root.b", Master: v(1, 1), Asks: []api.Ask{{Size: v(1, 1), Count: 1, Node: -1, Rack: -1}}},
	}
	s.Conts = []api.Cont{cont(50, 30, 4, 5, 1), cont(51, 30, 12, 100, 2), cont(52, 30, 4, 70, 3), cont(53, 30, 12, 10, 0), cont(54, 30, 9, 1, 1)}
	s.Conts[0].Master, s.Conts[3].Notice = true, 24
	s.Slots = []api.Slot{{Node: 9, App: 30, Prio: 1}, {Node: 12, App: 30, Prio: 1}}
	s.Plans = []api.Plan{{Id: 60, Label: 0, From: 20, Until: 30, Need: v(2, 1)}, {Id: 61, Label: 1, From: 40, Until: 50, Need: v(3, 3)}}
	s.Epoch, s.Seq = 3, 40
	return s
}

// full is a state of so many live nodes, with the Ids 10, 20 and so on.
func full(count int) api.State {
	s := of(6)
	for i := range count {
		s.Nodes = append(s.Nodes, live(10+10*i, 3, i))
	}
	return s
}

func wantError(t *testing.T, what string, got, want api.Errno) {
	t.Helper()
	if got != want {
		t.Errorf("%s: %v; want %v", what, got, want)
	}
}

func wantState(t *testing.T, what string, got, want api.State) {
	t.Helper()
	if !same(got, want) {
		t.Errorf("%s: %+v; want %+v", what, got, want)
	}
}

// registered is what Register is to make of a node.
func registered(n api.Node, now int) api.Node {
	return api.Node{Id: n.Id, Label: n.Label, Rack: n.Rack, Cap: n.Cap, Seen: now, Beat: 0, Up: true}
}

func TestP801Register(t *testing.T) {
	for _, now := range []int{0, 1, 7, 1000000000} {
		for _, n := range []api.Node{
			{}, {Id: 5, Label: 1, Rack: 3, Cap: v(100, 4)}, {Id: 6, Up: true}, {Id: 7, Seen: 99, Beat: 98}, {Id: 8, Seen: -1, Beat: -1, Up: true}, {Id: 9, Label: 2, Rack: 99, Cap: v(0, 7), Seen: math.MaxInt, Beat: math.MinInt},
		} {
			r, e := register(t, "P801: a first node", of(now), n)
			wantError(t, "P801: a first node", e, api.OK)
			wantState(t, "P801: a first node", r, of(now, registered(n, now)))
		}
	}
}

func TestP801LeavesTheRest(t *testing.T) {
	for _, id := range []int{0, 5, 7, 10, 15, 30, 50, 60, maxId} {
		n := api.Node{Id: id, Label: 2, Rack: 42, Cap: v(11, 22), Seen: 1, Beat: 1}
		r, e := register(t, "P801: a state with much else", rich(), n)
		wantError(t, "P801: a state with much else", e, api.OK)
		want := rich()
		want.Nodes = toldNodes(want.Nodes, registered(n, 25))
		wantState(t, "P801: a state with much else", r, want)
	}
}

// orders are all orders of a list.
func orders(l []int) (all [][]int) {
	if len(l) == 0 {
		return [][]int{nil}
	}
	for i, x := range l {
		rest := slices.Delete(slices.Clone(l), i, i+1)
		for _, order := range orders(rest) {
			all = append(all, append([]int{x}, order...))
		}
	}
	return all
}

func TestP801OrderOfIds(t *testing.T) {
	for _, order := range orders([]int{0, 3, 400, 401, maxId}) {
		s, want := of(0), of(0)
		for at, id := range order {
			s.Now, want.Now = 2*at, 2*at
			n := api.Node{Id: id, Label: id % 3, Rack: at, Cap: v(id, at)}
			want.Nodes = append(want.Nodes, registered(n, 2*at))
			slices.SortFunc(want.Nodes, func(a, b api.Node) int { return a.Id - b.Id })
			var e api.Errno
			s, e = register(t, "P801: nodes in mixed order", s, n)
			wantError(t, "P801: nodes in mixed order", e, api.OK)
			wantState(t, "P801: nodes in mixed order", s, want)
		}
	}
}

func TestP801RisingAndFalling(t *testing.T) {
	rising, falling := of(0), of(0)
	for i := range mostNodes {
		var e, other api.Errno
		rising, e = register(t, "P801: rising", rising, api.Node{Id: 3 * i})
		falling, other = register(t, "P801: falling", falling, api.Node{Id: 3 * (mostNodes - 1 - i)})
		if e != api.OK || other != api.OK || len(rising.Nodes) != i+1 || len(falling.Nodes) != i+1 {
			t.Fatalf("P801: node %d: %v, %v: %+v, %+v", i, e, other, rising.Nodes, falling.Nodes)
		}
	}
	wantState(t, "P801: rising and falling", rising, falling)
	for i, n := range rising.Nodes {
		if n != registered(api.Node{Id: 3 * i}, 0) {
			t.Errorf("P801: node %d of twelve: %+v", i, n)
		}
	}
}

func TestP801InThePlaceOfOneThatIsNotLive(t *testing.T) {
	for at := range mostNodes {
		s := full(mostNodes)
		s.Nodes[at] = gone(s.Nodes[at].Id, 1, 77)
		n := api.Node{Id: s.Nodes[at].Id, Label: 2, Rack: 98, Cap: v(3, 4), Beat: 5}
		r, e := register(t, "P801: a node comes again", s, n)
		wantError(t, "P801: a node comes again", e, api.OK)
		s.Nodes[at] = registered(n, 6)
		wantState(t, "P801: a node comes again", r, s)
	}
	r, e := register(t, "P801: the only one comes again", of(9, gone(5, 1, 2)), api.Node{Id: 5})
	wantError(t, "P801: the only one comes again", e, api.OK)
	wantState(t, "P801: the only one comes again", r, of(9, registered(api.Node{Id: 5}, 9)))
}

func TestP801Bounds(t *testing.T) {
	usual := api.Node{Id: 500, Label: 1, Rack: 50, Cap: v(1<<20, 16)}
	for i, x := range []struct {
		put         func(n *api.Node, number int)
		least, most int
	}{
		{func(n *api.Node, number int) { n.Id = number }, 0, maxId},
		{func(n *api.Node, number int) { n.Label = number }, 0, 2},
		{func(n *api.Node, number int) { n.Rack = number }, 0, maxRack},
		{func(n *api.Node, number int) { n.Cap.Mem = number }, 0, maxSize},
		{func(n *api.Node, number int) { n.Cap.Cores = number }, 0, maxSize},
	} {
		for _, number := range []int{x.least, x.least + 1, x.most - 1, x.most} {
			n := usual
			x.put(&n, number)
			r, e := register(t, "P801: within", of(4), n)
			wantError(t, "P801: part "+strconv.Itoa(i)+" as "+strconv.Itoa(number), e, api.OK)
			wantState(t, "P801: within", r, of(4, registered(n, 4)))
		}
		for _, number := range []int{x.least - 1, x.most + 1, -1000000, 1 << 40, 1 << 50, 1 << 62, math.MinInt, math.MaxInt} {
			n := usual
			x.put(&n, number)
			_, e := register(t, "P801: beyond", of(4), n)
			wantError(t, "P801: part "+strconv.Itoa(i)+" as "+strconv.Itoa(number), e, api.ErrArg)
		}
	}
	least, most := api.Node{}, api.Node{Id: maxId, Label: 2, Rack: maxRack, Cap: v(maxSize, maxSize)}
	r, e := register(t, "P801: all at their least", of(4), least)
	wantError(t, "P801: all at their least", e, api.OK)
	r, e = register(t, "P801: all at their most", r, most)
	wantError(t, "P801: all at their most", e, api.OK)
	wantState(t, "P801: all at their bounds", r, of(4, registered(least, 4), registered(most, 4)))
}

func TestP801LabelsOfTheState(t *testing.T) {
	for i, text := range []string{"labels\nqueue root 1 10000/10000", "labels gpu\nqueue root 1 10000/10000 10000/10000", smallText} {
		c, _ := conf.Parse(text)
		for label := -1; label <= 4; label++ {
			want := api.ErrArg
			if 0 <= label && label <= i {
				want = api.OK
			}
			_, e := register(t, "P801: labels", api.State{Conf: c}, api.Node{Id: 1, Label: label})
			wantError(t, "P801: label "+strconv.Itoa(label)+" of "+strconv.Itoa(i+1), e, want)
		}
	}
}

func TestP801IsLive(t *testing.T) {
	for _, s := range []api.State{rich(), full(1), full(mostNodes - 1), full(mostNodes), of(1000, live(1, 0, 0), live(2, 1000, 5))} {
		for _, known := range s.Nodes {
			want := api.OK
			if known.Up {
				want = api.ErrIs
			}
			_, e := register(t, "P801: as it is", s, known)
			wantError(t, "P801: as it is", e, want)
			_, e = register(t, "P801: with its Id alone", s, api.Node{Id: known.Id, Label: 1, Cap: v(1, 1)})
			wantError(t, "P801: with its Id alone", e, want)
		}
	}
	s, e := register(t, "P801: twice", of(1), api.Node{Id: 3})
	wantError(t, "P801: once", e, api.OK)
	_, e = register(t, "P801: twice", s, api.Node{Id: 3})
	wantError(t, "P801: twice", e, api.ErrIs)
}

func TestP801Many(t *testing.T) {
	_, e := register(t, "P801: a twelfth", full(mostNodes-1), api.Node{Id: 200})
	wantError(t, "P801: a twelfth", e, api.OK)
	for _, id := range []int{0, 9, 11, 15, 119, 121, maxId} {
		s := full(mostNodes)
		_, e := register(t, "P801: a thirteenth", s, api.Node{Id: id})
		wantError(t, "P801: a thirteenth", e, api.ErrMany)
		s.Nodes[3] = gone(40, 1, 1)
		_, e = register(t, "P801: a thirteenth, though one is not live", s, api.Node{Id: id})
		wantError(t, "P801: a thirteenth, though one is not live", e, api.ErrMany)
		for i := range s.Nodes {
			s.Nodes[i].Up = false
		}
		_, e = register(t, "P801: a thirteenth, though none is live", s, api.Node{Id: id})
		wantError(t, "P801: a thirteenth, though none is live", e, api.ErrMany)
	}
	s := full(mostNodes)
	_, e = register(t, "P801: a thirteenth of a live one's Id", s, api.Node{Id: 120})
	wantError(t, "P801: a thirteenth of a live one's Id", e, api.ErrIs)
	s.Nodes[mostNodes-1].Up = false
	r, e := register(t, "P801: one of twelve comes again", s, api.Node{Id: 120})
	if e != api.OK || len(r.Nodes) != mostNodes {
		t.Errorf("P801: one of twelve comes again: %v, %d nodes", e, len(r.Nodes))
	}
}

// wrongs are nodes whose Id may be a live one's, or one's of their own: each is beyond one bound.
func wrongs(id int) []api.Node {
	return []api.Node{
		{Id: id, Label: -1}, {Id: id, Label: 3}, {Id: id, Rack: -1}, {Id: id, Rack: maxRack + 1}, {Id: id, Cap: v(-1, 0)}, {Id: id, Cap: v(maxSize+1, 0)}, {Id: id, Cap: v(0, -1)}, {Id: id, Cap: v(0, maxSize+1)},
	}
}

func TestP801TheFirstErrorIsTold(t *testing.T) {
	for _, n := range append(wrongs(20), wrongs(25)...) {
		_, e := register(t, "P801: beyond a bound, and there, or one too many", full(mostNodes), n)
		wantError(t, "P801: beyond a bound, and there, or one too many", e, api.ErrArg)
		_, e = register(t, "P801: beyond a bound, and there", full(2), n)
		wantError(t, "P801: beyond a bound, and there", e, api.ErrArg)
		s := full(mostNodes)
		s.Nodes[1].Up = false
		_, e = register(t, "P801: beyond a bound, and not live", s, n)
		wantError(t, "P801: beyond a bound, and not live", e, api.ErrArg)
	}
	for _, id := range []int{-1, maxId + 1} {
		_, e := register(t, "P801: no Id, and one too many", full(mostNodes), api.Node{Id: id})
		wantError(t, "P801: no Id, and one too many", e, api.ErrArg)
	}
}

// A node that has just registered has Beat 0; its first heartbeat has the number 1 (the chapter's example).
func TestP801P802FirstHeartbeat(t *testing.T) {
	s, _ := register(t, "P801", of(3), api.Node{Id: 5, Cap: v(1, 1), Beat: 9})
	if n, is := nodes.Find(s, 5); !is || n.Beat != 0 || n.Seen != 3 {
		t.Errorf("P801: a node that has just registered: %+v", n)
	}
	_, e := beat(t, "P802: ahead of the first heartbeat", s, 5, 2)
	wantError(t, "P802: ahead of the first heartbeat", e, api.ErrArg)
	s.Now = 4
	s, e = beat(t, "P802: the first heartbeat", s, 5, 1)
	wantError(t, "P802: the first heartbeat", e, api.OK)
	if n, is := nodes.Find(s, 5); !is || n.Beat != 1 || n.Seen != 4 {
		t.Errorf("P802: a node after its first heartbeat: %+v", n)
	}
}

func TestP802Beat(t *testing.T) {
	for _, last := range []int{0, 1, 5, 1000, 1 << 40} {
		for at := range 3 {
			s := of(30, live(2, 21, 7), live(4, 22, 7), live(6, 23, 7))
			s.Nodes[at].Beat = last
			id := s.Nodes[at].Id
			for number, want := range map[int]api.Errno{
				last: api.OK, last + 1: api.OK, last + 2: api.ErrArg, last + 3: api.ErrArg, last + 1000000: api.ErrArg, 1 << 62: api.ErrArg, math.MaxInt: api.ErrArg, last - 1: api.ErrStale, last - 2: api.ErrStale, -1: api.ErrStale, -2: api.ErrStale, math.MinInt: api.ErrStale,
			} {
				what := "P802: " + strconv.Itoa(number) + " behind " + strconv.Itoa(last)
				r, e := beat(t, what, s, id, number)
				wantError(t, what, e, want)
				told := roomy(s)
				if want == api.OK {
					told.Nodes[at].Seen, told.Nodes[at].Beat = 30, number
				}
				wantState(t, what, r, told)
			}
		}
	}
}

func TestP802BeatOfWhomThereIsNot(t *testing.T) {
	for _, s := range []api.State{rich(), of(3), full(mostNodes)} {
		for _, id := range []int{-1, 0, 3, 5, 8, 17, 19, 31, 51, 61, 115, maxId, maxId + 1, math.MinInt, math.MaxInt} {
			for _, number := range []int{-1, 0, 1, 2, 100, math.MinInt, math.MaxInt} {
				_, e := beat(t, "P802: no such node", s, id, number)
				wantError(t, "P802: no such node", e, api.ErrNone)
			}
		}
	}
}

func TestP802BeatOfWhoIsNotLive(t *testing.T) {
	for _, id := range []int{7, 15} {
		for _, number := range []int{-1, 0, 1, 2, 4, 5, 6, 7, 100, math.MinInt, math.MaxInt} {
			_, e := beat(t, "P802: not live", rich(), id, number)
			wantError(t, "P802: not live", e, api.ErrGone)
		}
	}
}

// A node that was silent for long is live as long as it is Up.
func TestP802BeatLeavesTheRest(t *testing.T) {
	for at, n := range rich().Nodes {
		if !n.Up {
			continue
		}
		for _, number := range []int{n.Beat, n.Beat + 1} {
			r, e := beat(t, "P802: a state with much else", rich(), n.Id, number)
			wantError(t, "P802: a state with much else", e, api.OK)
			want := rich()
			want.Nodes[at].Seen, want.Nodes[at].Beat = 25, number
			wantState(t, "P802: a state with much else", r, want)
		}
	}
}

func TestP802Find(t *testing.T) {
	for _, s := range []api.State{rich(), of(3), of(0, live(0, 0, 0)), of(0, gone(maxId, 0, 0)), full(mostNodes)} {
		known := map[int]api.Node{}
		for _, n := range s.Nodes {
			known[n.Id] = n
		}
		ids := []int{-1000, 1000, 1 << 40, math.MinInt, math.MaxInt}
		for id := -1; id <= maxId+1; id++ {
			ids = append(ids, id)
		}
		for _, id := range ids {
			want, there := known[id]
			if n, is := nodes.Find(s, id); n != want || is != there {
				t.Errorf("P802: Find of %d: %+v, %t; want %+v, %t", id, n, is, want, there)
			}
		}
	}
}

func checkRoom(t *testing.T, what string, s api.State, id int, used, free api.Vec) {
	t.Helper()
	if got := nodes.Used(s, id); got != used {
		t.Errorf("P802: %s: Used of %d: %v; want %v", what, id, got, used)
	}
	if got := nodes.Free(s, id); got != free {
		t.Errorf("P802: %s: Free of %d: %v; want %v", what, id, got, free)
	}
}

func TestP802UsedAndFree(t *testing.T) {
	s := rich()
	checkRoom(t, "two containers", s, 4, v(75, 4), v(929, 6))
	checkRoom(t, "one container", s, 9, v(1, 1), v(1008, 9))
	checkRoom(t, "one of two noticed", s, 12, v(110, 2), v(902, 8))
	checkRoom(t, "no container", s, 18, v(0, 0), v(1018, 10))
	checkRoom(t, "not live", s, 7, v(0, 0), v(0, 0))
	checkRoom(t, "not live", s, 15, v(0, 0), v(0, 0))
	for _, id := range []int{-1, 0, 1, 5, 30, 31, 50, 52, 60, maxId, math.MinInt, math.MaxInt} {
		checkRoom(t, "no such node", s, id, v(0, 0), v(0, 0))
	}
	checkRoom(t, "no nodes", of(0), 0, v(0, 0), v(0, 0))
}

func TestP802FreeIsNotBelowNought(t *testing.T) {
	n := api.Node{Id: 1, Cap: v(100, 10), Up: true}
	for i, x := range []struct{ size, free api.Vec }{
		{v(0, 0), v(100, 10)}, {v(99, 9), v(1, 1)}, {v(100, 10), v(0, 0)}, {v(100, 0), v(0, 10)}, {v(0, 10), v(100, 0)}, {v(101, 10), v(0, 0)}, {v(101, 3), v(0, 7)}, {v(30, 11), v(70, 0)}, {v(1000000, 1000000), v(0, 0)}, {v(1<<50, 1), v(0, 9)}, {v(1, 1<<50), v(99, 0)},
	} {
		s := of(0, n)
		s.Conts = []api.Cont{{Id: 1, Node: 1, Size: x.size}}
		checkRoom(t, "case "+strconv.Itoa(i), s, 1, x.size, x.free)
		s.Conts = []api.Cont{{Id: 1, Node: 2, Size: v(77, 77)}, {Id: 2, Node: 1, Size: x.size}, {Id: 3, Node: 2, Size: v(77, 77)}}
		checkRoom(t, "case "+strconv.Itoa(i)+" among others", s, 1, x.size, x.free)
	}
}

func TestP802UsedOfTheMost(t *testing.T) {
	s := of(0, api.Node{Id: 3, Cap: v(maxSize, maxSize), Up: true}, api.Node{Id: 4, Cap: v(1<<50, 1<<50), Up: true})
	for i := range 200 {
		s.Conts = append(s.Conts, api.Cont{Id: i, App: 3, Node: 3 + i%2, Size: v(5000000+i, 1<<40)})
	}
	checkRoom(t, "a hundred containers", s, 3, v(500009900, 100<<40), v(maxSize-500009900, 0))
	checkRoom(t, "a hundred containers", s, 4, v(500010000, 100<<40), v(1<<50-500010000, 1<<50-100<<40))
}

func checkSilent(t *testing.T, what string, s api.State, want ...int) {
	t.Helper()
	a := roomy(s)
	if l := nodes.Silent(a); !slices.Equal(l, want) {
		t.Errorf("P802: %s: Silent: %v; want %v", what, l, want)
	}
	if l := nodes.Silent(a); !slices.Equal(l, want) || !sameRoom(a, roomy(s)) {
		t.Errorf("P2, P3: %s: Silent a second time: %v; want %v", what, l, want)
	}
}

func TestP802Silent(t *testing.T) {
	checkSilent(t, "no nodes", of(1000))
	for _, now := range []int{life + 1, 25, 1000, 1000000000} {
		checkSilent(t, "heard of just now", of(now, live(5, now, 0)))
		checkSilent(t, "nine ticks", of(now, live(5, now-9, 0)))
		checkSilent(t, "ten ticks", of(now, live(5, now-10, 0)), 5)
		checkSilent(t, "eleven ticks", of(now, live(5, now-11, 0)), 5)
		checkSilent(t, "not live", of(now, gone(5, now-9, 0), gone(6, now-10, 0), gone(7, now-11, 0)))
		checkSilent(t, "several", of(now, live(0, now-10, 9), live(1, now-9, 0), gone(2, now-11, 3), live(400, now-11, 1), live(401, now, 1), live(maxId, now-10, 0)), 0, 400, maxId)
	}
	checkSilent(t, "much else", rich(), 12, 18)
	checkSilent(t, "nine ticks from 0 on", of(9, live(0, 0, 0)))
	checkSilent(t, "ten ticks from 0 on", of(10, live(0, 0, 0)), 0)
	checkSilent(t, "all of twelve", func() api.State { s := full(mostNodes); s.Now = 13; return s }(), 10, 20, 30, 40, 50, 60, 70, 80, 90, 100, 110, 120)
}

func TestP801P802SilentHangsOnSeen(t *testing.T) {
	s, _ := register(t, "P801", of(10), api.Node{Id: 5, Seen: 999})
	s.Now = 19
	checkSilent(t, "nine ticks after registering", s)
	r, _ := beat(t, "P802: the same number as ever", s, 5, 0)
	s.Now, r.Now = 20, 20
	checkSilent(t, "ten ticks after registering", s, 5)
	checkSilent(t, "heard of at 19", r)
	r.Now = 29
	checkSilent(t, "ten ticks after a heartbeat", r, 5)
	s.Nodes[0].Up = false
	s, _ = register(t, "P801: again", s, api.Node{Id: 5})
	checkSilent(t, "registered again", s)
}

func TestP803(t *testing.T) {
	for _, s := range []api.State{rich(), full(mostNodes), of(2, live(20, 0, 1), live(25, 0, 1))} {
		for _, id := range []int{-1, 4, 12, 20, 120, 121, maxId + 1} {
			for _, n := range append(wrongs(id), api.Node{Id: id}) {
				// register and beat hold what comes with an error against the state that was passed.
				if r, e := register(t, "P803", s, n); e != api.OK && !same(r, s) {
					t.Errorf("P803: %v", e)
				}
			}
			for _, number := range []int{-1, 0, 1, 4, 7, 100} {
				if r, e := beat(t, "P803", s, id, number); e != api.OK && !same(r, s) {
					t.Errorf("P803: %v", e)
				}
			}
		}
	}
}

// A call that was refused is as if it had not been made.
func TestP803RefusedBetweenOthers(t *testing.T) {
	s, without := of(1), of(1)
	for id := range 4 {
		s, _ = register(t, "P801", s, api.Node{Id: id})
		without, _ = register(t, "P801", without, api.Node{Id: id})
		for _, n := range append(wrongs(id), api.Node{Id: id}) {
			var e api.Errno
			if s, e = register(t, "P803", s, n); e == api.OK {
				t.Errorf("P801: %+v is not refused", n)
			}
		}
		s, _ = beat(t, "P803", s, id, 2)
		s, _ = beat(t, "P803", s, id, -1)
		s, _ = beat(t, "P803", s, id+1, 1)
		s, _ = beat(t, "P802", s, id, 1)
		without, _ = beat(t, "P802", without, id, 1)
	}
	wantState(t, "P803: after refusals", s, without)
}

// wild are states that are not sound, for which only P1 and P2 hold.
func wild() []api.State {
	least, most := math.MinInt, math.MaxInt
	strange := []api.Node{live(7, least, most), live(7, most, least), gone(7, 0, 0), live(3, 0, most), live(-1, 0, -1), {Id: most, Up: true, Cap: v(least, most), Seen: least, Beat: least}, {Id: least, Cap: v(most, least), Up: true}}
	l := []api.State{{}, {Nodes: strange}, {Nodes: make([]api.Node, 300)}, {Conts: make([]api.Cont, 500)}, full(mostNodes + 1), full(40)}
	for _, now := range []int{least, -1, 0, most} {
		s := rich()
		s.Now, s.Nodes = now, strange
		s.Conts = []api.Cont{cont(1, 1, 7, most, most), cont(1, 1, 7, most, least), cont(0, 0, 3, least, least), cont(0, 0, 3, -1, -1), cont(9, 9, most, -1, 1)}
		l = append(l, s, api.State{Now: now, Nodes: slices.Repeat(strange, 9), Apps: make([]api.App, 9), Conf: api.Conf{Labels: []string{"x"}, Queues: make([]api.Queue, 3)}})
	}
	return l
}

func TestP1P2P3OfAnyState(t *testing.T) {
	numbers := []int{math.MinInt, math.MinInt + 1, -1, 0, 1, 3, 7, 10, 15, maxId, 1 << 50, math.MaxInt - 1, math.MaxInt}
	for i, s := range append(wild(), rich()) {
		what := "state " + strconv.Itoa(i)
		for _, id := range numbers {
			a := roomy(s)
			n, is := nodes.Find(a, id)
			used, free, l := nodes.Used(a, id), nodes.Free(a, id), nodes.Silent(a)
			if m, still := nodes.Find(a, id); m != n || still != is || nodes.Used(a, id) != used || nodes.Free(a, id) != free || !slices.Equal(nodes.Silent(a), l) {
				t.Errorf("P3: %s: the same calls of %d, and other results", what, id)
			}
			if !sameRoom(a, roomy(s)) {
				t.Errorf("P2: %s: the state has changed", what)
			}
			for _, number := range numbers {
				change(t, what, s, false, func(s api.State) (api.State, api.Errno) { return nodes.Beat(s, id, number) })
				n := api.Node{Id: id, Label: number, Rack: number, Cap: v(number, id), Seen: number, Beat: number}
				change(t, what, s, false, func(s api.State) (api.State, api.Errno) { return nodes.Register(s, n) })
			}
			change(t, what, s, false, func(s api.State) (api.State, api.Errno) { return nodes.Register(s, api.Node{Id: id}) })
		}
	}
}

func TestP2P3KeepNothing(t *testing.T) {
	s := rich()
	r, _ := nodes.Register(s, api.Node{Id: 5})
	q, _ := nodes.Beat(s, 4, 4)
	l := nodes.Silent(s)
	wantR, wantQ := roomy(r), roomy(q)
	clear(s.Nodes)
	clear(s.Conts)
	clear(s.Apps[0].Asks)
	clear(s.Apps)
	clear(s.Conf.Queues[0].Caps)
	clear(s.Conf.Queues)
	wantState(t, "P2: the state that was passed is cleared", r, wantR)
	wantState(t, "P2: the state that was passed is cleared", q, wantQ)
	clear(l)
	checkSilent(t, "a list that was given out is cleared", rich(), 12, 18)
	clear(r.Nodes)
	wantState(t, "P2: another new state is cleared", q, wantQ)
}
