package assign_test

import (
	"math"
	"slices"
	"testing"

	"dispatch/api"
	"dispatch/apps"
	"dispatch/assign"
	"dispatch/conf"
	"dispatch/nodes"
	"dispatch/rule"
)

// The numbers that the document names.
const (
	mostConts = 200
	lastSeq   = 1<<20 - 1
	mostBeat  = 3
	mostPart  = 1 << 50 // of a vector
)

// even is a configuration of two halves, deep one of queues below queues, and alone one in which root has no kids.
const (
	even = "labels gpu\nqueue root 10000 10000/10000 10000/10000\nqueue root.a 10000 5000/10000 5000/10000\nqueue root.b 10000 5000/10000 5000/10000\n"
	deep = `labels gpu
queue root 10000 10000/10000 10000/10000
queue root.a 10000 6000/7000 4000/10000
queue root.a.x 10000 5000/10000 2500/10000
queue root.a.y 10000 5000/6000 7500/10000
queue root.b 10000 4000/10000 6000/10000
`
	alone = "labels gpu\nqueue root 10000 10000/10000 10000/10000\n"
)

// parsed is the configuration of a text that is known to be one.
func parsed(text string) api.Conf {
	c, _ := conf.Parse(text)
	return c
}

func v(mem, cores int) api.Vec { return api.Vec{Mem: mem, Cores: cores} }

// node is a live one, in rack 0.
func node(id, label, mem, cores int) api.Node {
	return api.Node{Id: id, Label: label, Cap: v(mem, cores), Up: true}
}

// ask is one that may go wherever it fits.
func ask(prio, mem, cores, count int) api.Ask {
	return api.Ask{Prio: prio, Size: v(mem, cores), Count: count, Node: -1, Rack: -1}
}

// of is an ask of a label, and far one of a place, that was missed so often.
func of(k api.Ask, label int) api.Ask {
	k.Label = label
	return k
}

func far(k api.Ask, node, rack, times int) api.Ask {
	k.Node, k.Rack, k.Missed = node, rack, times
	return k
}

func app(id, state int, queue string, user int, l ...api.Ask) api.App {
	return api.App{Id: id, State: state, Queue: queue, User: user, Prio: 5, Master: v(4, 2), Asks: l, Seen: 3, Beat: 6}
}

func running(id int, queue string, user int, l ...api.Ask) api.App {
	return app(id, api.Running, queue, user, l...)
}

// waiting is an application that asks for its master.
func waiting(id int, queue string, user int) api.App {
	return app(id, api.Waiting, queue, user, ask(0, 4, 2, 1))
}

func prior(a api.App, prio int) api.App {
	a.Prio = prio
	return a
}

// cluster is a state at 9 with nodes, and with containers to come whose Ids are beyond those of let and fill.
func cluster(text string, l ...api.Node) api.State {
	return api.State{Conf: parsed(text), Nodes: l, Now: 9, Epoch: 3, Seq: 7}
}

// let adds applications. Each one that runs has a master of no size, on the first node, so that the sums are those of what is added by fill.
func let(s api.State, l ...api.App) api.State {
	s.Apps, s.Conts = slices.Clone(s.Apps), slices.Clone(s.Conts)
	for _, a := range l {
		s.Apps = append(s.Apps, a)
		if a.State == api.Running {
			s = add(s, api.Cont{App: a.Id, Node: s.Nodes[0].Id, Master: true})
		}
	}
	return s
}

// fill lets an application have so much on a node.
func fill(s api.State, app, node, mem, cores int) api.State {
	return add(s, api.Cont{App: app, Node: node, Size: v(mem, cores), Prio: 9})
}

func add(s api.State, c api.Cont) api.State {
	c.Id, c.Label = len(s.Conts)+1, nodeOf(s, c.Node).Label
	s.Conts = append(slices.Clone(s.Conts), c)
	return s
}

// crowd fills a state up with containers of no size.
func crowd(s api.State, app, count int) api.State {
	for len(s.Conts) < count {
		s = fill(s, app, s.Nodes[0].Id, 0, 0)
	}
	return s
}

func kept(s api.State, l ...api.Slot) api.State {
	s.Slots = l
	return s
}

func slot(node, app, prio int) api.Slot { return api.Slot{Node: node, App: app, Prio: prio} }

// altered copies a state, and makes changes to it.
func altered(s api.State, l ...change) api.State {
	s = roomy(s)
	for _, c := range l {
		c(&s)
	}
	return s
}

// nodeOf, appOf and askOf are what a state has; the zero value if it doesn't.
func nodeOf(s api.State, id int) *api.Node {
	for i := range s.Nodes {
		if s.Nodes[i].Id == id {
			return &s.Nodes[i]
		}
	}
	return &api.Node{}
}

func appOf(s api.State, id int) *api.App {
	for i := range s.Apps {
		if s.Apps[i].Id == id {
			return &s.Apps[i]
		}
	}
	return &api.App{}
}

func askOf(a *api.App, prio int) *api.Ask {
	for i := range a.Asks {
		if a.Asks[i].Prio == prio {
			return &a.Asks[i]
		}
	}
	return &api.Ask{}
}

// change is something that an attempt does to a state.
type change func(s *api.State)

// grants lets a node have one of an ask, misses counts that it was missed, holds keeps a node for it, and frees removes the Slot that keeps a node.
func grants(id, prio, node int) change {
	return func(s *api.State) {
		a, k := appOf(*s, id), *askOf(appOf(*s, id), prio)
		s.Seq++
		c := api.Cont{Id: s.Epoch*(1<<20) + s.Seq, App: id, Node: node, Size: k.Size, Prio: prio, Label: k.Label, Master: a.State == api.Waiting}
		s.Conts = append(s.Conts, c)
		if c.Master {
			a.State, a.Asks, a.Seen, a.Beat = api.Running, nil, s.Now, 0
			return
		}
		askOf(a, prio).Count, askOf(a, prio).Missed = k.Count-1, 0
		a.Asks = slices.DeleteFunc(a.Asks, func(k api.Ask) bool { return k.Count == 0 })
		a.Grants = append(a.Grants, c.Id)
	}
}

func misses(id, prio int) change { return func(s *api.State) { askOf(appOf(*s, id), prio).Missed++ } }

func holds(id, prio, node int) change {
	return func(s *api.State) {
		s.Slots = append(s.Slots, slot(node, id, prio))
		slices.SortFunc(s.Slots, func(a, b api.Slot) int { return a.Node - b.Node })
	}
}

func frees(node int) change {
	return func(s *api.State) {
		s.Slots = slices.DeleteFunc(s.Slots, func(x api.Slot) bool { return x.Node == node })
	}
}

// wantOne asks for what One does to a sound state, and for all changes, and returns the new state.
func wantOne(t *testing.T, what string, s api.State, node, kind int, l ...change) api.State {
	t.Helper()
	wantSound(t, what, s)
	r := wantAny(t, what, s, node, kind, l...)
	wantSound(t, what+", and then", r)
	return r
}

// wantAny does the same for any state.
func wantAny(t *testing.T, what string, s api.State, node, kind int, l ...change) api.State {
	t.Helper()
	want := altered(s, l...)
	r, got, c := one(t, what, s, node)
	if got != kind || !same(r, want) {
		t.Errorf("P1401: %s: %d, %+v, %+v, %+v, %d; want %d, %+v, %+v, %+v, %d", what, got, r.Apps, r.Conts, r.Slots, r.Seq, kind, want.Apps, want.Conts, want.Slots, want.Seq)
	}
	if kind == assign.Grant && c != want.Conts[len(want.Conts)-1] {
		t.Errorf("P1401: %s: container %+v; want %+v", what, c, want.Conts[len(want.Conts)-1])
	}
	if got == assign.Grant {
		checkP1403(t, what, s, c)
	}
	return r
}

// wantGrant asks for the one change that an ask is granted.
func wantGrant(t *testing.T, what string, s api.State, node, app, prio int) api.State {
	t.Helper()
	return wantOne(t, what, s, node, assign.Grant, grants(app, prio, node))
}

// wantBeat asks for what Beat does, and for the applications of what it grants.
func wantBeat(t *testing.T, what string, s api.State, node int, of []int, l ...change) api.State {
	t.Helper()
	wantSound(t, what, s)
	want := altered(s, l...)
	r, conts := beat(t, what, s, node)
	if !same(r, want) {
		t.Errorf("P1402: %s: %+v, %+v, %+v; want %+v, %+v, %+v", what, r.Apps, r.Conts, r.Slots, want.Apps, want.Conts, want.Slots)
	}
	if len(r.Conts) < len(conts) || !slices.Equal(conts, r.Conts[len(r.Conts)-len(conts):]) || !slices.Equal(of, ofEach(conts, func(c api.Cont) int { return c.App })) {
		t.Errorf("P1402: %s: containers %+v; want those of %v", what, conts, of)
	}
	wantSound(t, what+", and then", r)
	return r
}

func ofEach[T, U any](l []T, told func(T) U) (out []U) {
	for _, x := range l {
		out = append(out, told(x))
	}
	return out
}

// wantSound asks for what chapter 19 says of a state.
func wantSound(t *testing.T, what string, s api.State) {
	t.Helper()
	if e := rule.Check(s.Conf); e != api.OK || len(s.Nodes) > 12 || len(s.Plans) > 12 || len(s.Apps) > 16 || len(s.Conts) > mostConts {
		t.Errorf("%s: %v, or lists that are too long", what, e)
	}
	used, masters, all := map[int]api.Vec{}, map[int]int{}, map[int]int{}
	for i, c := range s.Conts {
		n := nodeOf(s, c.Node)
		used[c.Node] = v(used[c.Node].Mem+c.Size.Mem, used[c.Node].Cores+c.Size.Cores)
		if all[c.App]++; c.Master {
			masters[c.App]++
		}
		if !n.Up || n.Label != c.Label || used[c.Node].Mem > n.Cap.Mem || used[c.Node].Cores > n.Cap.Cores || i > 0 && s.Conts[i-1].Id >= c.Id {
			t.Errorf("%s: container %+v on node %+v", what, c, n)
		}
	}
	for i, a := range s.Apps {
		live := a.State == api.Waiting || a.State == api.Running
		if live && !rule.Leaf(s.Conf, a.Queue) || a.State == api.Running && masters[a.Id] != 1 || a.State != api.Running && all[a.Id] != 0 || i > 0 && s.Apps[i-1].Id >= a.Id {
			t.Errorf("%s: application %+v has %d masters, %d containers", what, a, masters[a.Id], all[a.Id])
		}
		delete(all, a.Id)
	}
	for i, x := range s.Slots {
		if !nodeOf(s, x.Node).Up || i > 0 && s.Slots[i-1].Node >= x.Node {
			t.Errorf("%s: slot %+v of %+v", what, x, s.Slots)
		}
	}
	if len(all) > 0 {
		t.Errorf("%s: containers of no application: %v", what, all)
	}
}

// rich is a state with lists of every kind, in which node 1 grants, node 2 is kept for its ask still, and node 3 holds.
func rich() api.State {
	s := let(cluster(even, node(1, 0, 100, 100), node(2, 0, 100, 100), node(3, 1, 100, 100), node(4, 1, 20, 20)),
		running(10, "root.a", 1, far(ask(0, 10, 1, 1), 2, 1, 1), ask(1, 30, 3, 2)), waiting(20, "root.b", 2), running(30, "root.b", 3, of(ask(2, 45, 9, 1), 1)), app(40, api.Finished, "root.gone", 1, ask(1, 1, 1, 1)))
	s.Apps[0].Grants, s.Apps[0].Kills, s.Apps[0].Told, s.Apps[1].Lost = []int{5}, []int{77}, []int{4}, []int{78}
	s = fill(fill(fill(s, 10, 2, 10, 10), 30, 2, 70, 5), 30, 3, 1, 1)
	s = fill(fill(s, 10, 1, 1, 1), 10, 3, 60, 6)
	s.Plans = []api.Plan{{Id: 1, Label: 0, From: 3, Until: 30, Need: v(7, 7)}}
	return kept(s, slot(2, 10, 1))
}

func TestTheStatesAreSound(t *testing.T) {
	wantSound(t, "rich", rich())
	for _, text := range []string{even, deep, alone} {
		wantSound(t, "a cluster", cluster(text, node(1, 0, 100, 100)))
	}
	wantOne(t, "rich", rich(), 1, assign.Grant, misses(10, 0), grants(10, 1, 1))
	wantBeat(t, "rich", rich(), 1, []int{10, 10, 20}, misses(10, 0), grants(10, 1, 1), misses(10, 0), grants(10, 1, 1), grants(20, 0, 1))
	wantOne(t, "rich", rich(), 2, assign.Wait)
	wantOne(t, "rich", rich(), 3, assign.Hold, holds(30, 2, 3))
}

func TestP1401TheKinds(t *testing.T) {
	if kinds := [...]int{assign.None, assign.Grant, assign.Hold, assign.Wait}; kinds != [...]int{0, 1, 2, 3} {
		t.Errorf("P1401: %v", kinds)
	}
}

// lone is a state of one node and one application, which wants nine of one size.
func lone() api.State {
	return let(cluster(even, node(1, 0, 100, 100)), running(10, "root.a", 1, ask(1, 5, 1, 9)))
}

func TestP1401NoNode(t *testing.T) {
	for _, id := range []int{0, 2, 999, 1000, -1, 10, math.MinInt, math.MaxInt} {
		wantOne(t, "no such node", lone(), id, assign.None)
		wantBeat(t, "no such node", lone(), id, nil)
		wantOne(t, "no such node, and none at all", cluster(even), id, assign.None)
	}
	wantGrant(t, "the node", lone(), 1, 10, 1)
}

// A node that is not live is not granted on, and a Slot that keeps it, which no sound state has, is left.
func TestP1401NodeNotLive(t *testing.T) {
	s := lone()
	s.Nodes = append(s.Nodes, node(2, 0, 100, 100), node(3, 0, 100, 100))
	s.Nodes[1].Up = false
	wantOne(t, "not live", s, 2, assign.None)
	wantBeat(t, "not live", s, 2, nil)
	wantGrant(t, "beside one that is not live", s, 1, 10, 1)
	wantGrant(t, "beside one that is not live", s, 3, 10, 1)
	wantAny(t, "not live, and kept", kept(s, slot(2, 77, 1)), 2, assign.None)
	wantAny(t, "not live, and kept", kept(s, slot(2, 10, 1)), 2, assign.None)
}

func TestP1401MostContainers(t *testing.T) {
	for _, count := range []int{1, 100, mostConts - 2, mostConts - 1} {
		wantGrant(t, "room for one more", crowd(lone(), 10, count), 1, 10, 1)
	}
	wantOne(t, "200", crowd(lone(), 10, mostConts), 1, assign.None)
	wantOne(t, "200, and a Slot of nobody", kept(crowd(lone(), 10, mostConts), slot(1, 77, 1)), 1, assign.None)
	wantOne(t, "200, and a Slot", kept(crowd(lone(), 10, mostConts), slot(1, 10, 1)), 1, assign.None)
	missed := crowd(lone(), 10, mostConts)
	missed.Apps[0].Asks[0] = far(ask(1, 5, 1, 1), 7, 7, 0)
	wantOne(t, "200, and an ask that would be missed", missed, 1, assign.None)
	for _, count := range []int{mostConts + 1, mostConts + 50, 3 * mostConts} {
		wantAny(t, "more", crowd(lone(), 10, count), 1, assign.None)
	}
	wantBeat(t, "198", crowd(lone(), 10, mostConts-2), 1, []int{10, 10}, grants(10, 1, 1), grants(10, 1, 1))
	wantBeat(t, "199", crowd(lone(), 10, mostConts-1), 1, []int{10}, grants(10, 1, 1))
	wantBeat(t, "200", crowd(lone(), 10, mostConts), 1, nil)
}

// numbered is a state with a place for the next container's Id.
func numbered(s api.State, epoch, seq int) api.State {
	s.Epoch, s.Seq = epoch, seq
	return s
}

func TestP1401LastSeq(t *testing.T) {
	for _, epoch := range []int{0, 1, 3, 1 << 20} {
		s := lone()
		if epoch == 0 {
			s.Conts[0].Id = 0
		}
		r := wantGrant(t, "one number is left", numbered(s, epoch, lastSeq-1), 1, 10, 1)
		wantOne(t, "no number is left", r, 1, assign.None)
		wantBeat(t, "one number is left", numbered(s, epoch, lastSeq-1), 1, []int{10}, grants(10, 1, 1))
		wantBeat(t, "two numbers are left", numbered(s, epoch, lastSeq-2), 1, []int{10, 10}, grants(10, 1, 1), grants(10, 1, 1))
		wantBeat(t, "no number is left", numbered(s, epoch, lastSeq), 1, nil)
		wantOne(t, "no number is left, and a Slot of nobody", kept(numbered(s, epoch, lastSeq), slot(1, 77, 1)), 1, assign.None)
	}
}

// The Id is the Epoch above the Seq, in numbers of the test's own.
func TestP1401Ids(t *testing.T) {
	for _, x := range []struct{ epoch, seq, id int }{
		{0, 0, 1}, {0, 7, 8}, {1, 0, 1048577}, {1, 1, 1048578}, {3, 7, 3145736}, {3, 1048574, 4194303}, {4, 0, 4194305}, {1 << 20, 5, 1099511627782}, {1 << 20, 1<<20 - 2, 1099512676351},
	} {
		s := numbered(lone(), x.epoch, x.seq)
		s.Conts[0].Id = 0
		r, kind, c := one(t, "Ids", s, 1)
		if kind != assign.Grant || c.Id != x.id || r.Seq != x.seq+1 || r.Epoch != x.epoch || len(r.Conts) != 2 || r.Conts[1] != c || !slices.Equal(r.Apps[0].Grants, []int{x.id}) {
			t.Errorf("P1401: Epoch %d, Seq %d: Id %d, Seq %d, Grants %v, containers %+v; want Id %d", x.epoch, x.seq, c.Id, r.Seq, r.Apps[0].Grants, r.Conts, x.id)
		}
	}
}

// A container has its place by its Id, whatever the others' Ids are.
func TestP1401ContainersByIds(t *testing.T) {
	s := crowd(lone(), 10, 4)
	for at := range 5 {
		q := altered(s)
		for i := at; i < 4; i++ {
			q.Conts[i].Id += 1 << 30
		}
		r, kind, c := one(t, "Ids beyond", q, 1)
		if kind != assign.Grant || len(r.Conts) != 5 || r.Conts[at] != c || !slices.Equal(slices.Delete(r.Conts, at, at+1), q.Conts) {
			t.Errorf("P1401: %d are below: %d, %+v", at, kind, r.Conts)
		}
	}
}

// The first container of a waiting application is its master; of what it had it keeps what the chapter does not name.
func TestP1401Master(t *testing.T) {
	s := cluster(even, node(1, 0, 100, 100))
	s.Apps = []api.App{{Id: 20, State: api.Waiting, Queue: "root.b", User: 2, Prio: 7, Master: v(4, 2), Asks: []api.Ask{ask(0, 4, 2, 1), ask(3, 1, 1, 5)}, Seen: 1, Beat: 8, Grants: []int{1}, Kills: []int{2}, Told: []int{3}, Lost: []int{4}}}
	r, kind, c := one(t, "a master", s, 1)
	want := api.Cont{Id: 3<<20 + 8, App: 20, Node: 1, Size: v(4, 2), Master: true}
	if kind != assign.Grant || c != want || !slices.Equal(r.Conts, []api.Cont{want}) || r.Seq != 8 {
		t.Errorf("P1401: %d, %+v, %+v, Seq %d", kind, c, r.Conts, r.Seq)
	}
	a := api.App{Id: 20, State: api.Running, Queue: "root.b", User: 2, Prio: 7, Master: v(4, 2), Seen: 9, Beat: 0, Grants: []int{1}, Kills: []int{2}, Told: []int{3}, Lost: []int{4}}
	if !sameApp(r.Apps[0], a) {
		t.Errorf("P1401: %+v; want %+v", r.Apps[0], a)
	}
	wantOne(t, "it wants nothing more", r, 1, assign.None)
	wantBeat(t, "it wants nothing more", s, 1, []int{20}, grants(20, 0, 1))
}

// All that follow are told to the master.
func TestP1401Grants(t *testing.T) {
	s := let(cluster(even, node(1, 0, 100, 100), node(2, 1, 100, 100)), running(10, "root.a", 1, ask(0, 1, 2, 1), ask(3, 7, 4, 3), of(ask(5, 2, 9, 1), 1)))
	s.Apps[0].Grants, s.Apps[0].Kills, s.Apps[0].Told, s.Apps[0].Lost = []int{55, 44}, []int{2}, []int{3}, []int{4}
	s.Apps[0].Asks[1].Missed = 6
	r := wantGrant(t, "the only one of an ask", s, 1, 10, 0)
	if a := r.Apps[0]; !slices.Equal(a.Grants, []int{55, 44, 3<<20 + 8}) || !slices.Equal(a.Asks, s.Apps[0].Asks[1:]) || a.State != api.Running || a.Seen != 3 || a.Beat != 6 {
		t.Errorf("P1401: %+v", a)
	}
	if c := (api.Cont{Id: 3<<20 + 8, App: 10, Node: 1, Size: v(1, 2)}); r.Conts[1] != c {
		t.Errorf("P1401: %+v; want %+v", r.Conts[1], c)
	}
	r = wantGrant(t, "of another label", r, 2, 10, 5)
	if c := (api.Cont{Id: 3<<20 + 9, App: 10, Node: 2, Size: v(2, 9), Prio: 5, Label: 1}); r.Conts[2] != c {
		t.Errorf("P1401: %+v; want %+v", r.Conts[2], c)
	}
	for left := 2; left >= 0; left-- {
		r = wantGrant(t, "one of many", r, 1, 10, 3)
		if k := askOf(&r.Apps[0], 3); k.Count != left || k.Missed != 0 || len(r.Apps[0].Asks) != min(left, 1) {
			t.Errorf("P1401: %+v; want %d", r.Apps[0].Asks, left)
		}
	}
	if a := r.Apps[0]; !slices.Equal(a.Grants, []int{55, 44, 3<<20 + 8, 3<<20 + 9, 3<<20 + 10, 3<<20 + 11, 3<<20 + 12}) || !slices.Equal(a.Kills, []int{2}) || !slices.Equal(a.Told, []int{3}) || !slices.Equal(a.Lost, []int{4}) {
		t.Errorf("P1401: %+v", a)
	}
	wantOne(t, "nothing is left", r, 1, assign.None)
	wantOne(t, "nothing is left", r, 2, assign.None)
}

// The chapter's example, of a cluster that is built up by the layers below.
func TestP1401Example(t *testing.T) {
	s, e := nodes.Register(api.State{Conf: parsed(even), Now: 4}, api.Node{Id: 7, Rack: 3, Cap: v(8, 8)})
	s, f := apps.Submit(s, api.App{Id: 30, Queue: "root.a", User: 5, Master: v(3, 1)})
	if e != api.OK || f != api.OK {
		t.Fatal(e, f)
	}
	r := wantGrant(t, "the example", s, 7, 30, 0)
	if c := (api.Cont{Id: 1, App: 30, Node: 7, Size: v(3, 1), Master: true}); len(r.Conts) != 1 || r.Conts[0] != c {
		t.Errorf("P1401: %+v; want %+v", r.Conts, c)
	}
	r = wantGrant(t, "it starts again", apps.Lose(r, []int{1}), 7, 30, 0)
	if len(r.Conts) != 1 || r.Conts[0].Id != 2 || !r.Conts[0].Master {
		t.Errorf("P1401: %+v", r.Conts)
	}
}

// An application that is over, or has nothing to ask for, or is not there, gets nothing.
func TestP1401NothingAskedFor(t *testing.T) {
	wantOne(t, "no application", cluster(even, node(1, 0, 100, 100)), 1, assign.None)
	wantOne(t, "no asks", let(cluster(even, node(1, 0, 100, 100)), running(10, "root.a", 1)), 1, assign.None)
	wantOne(t, "over", let(cluster(even, node(1, 0, 100, 100)), app(10, api.Finished, "root.a", 1, ask(1, 5, 1, 1)), app(20, api.Killed, "root.b", 1, ask(1, 5, 1, 1)), app(30, api.Killed, "root.gone", 1, ask(1, 5, 1, 1))), 1, assign.None)
	wantBeat(t, "no asks", let(cluster(even, node(1, 0, 100, 100)), running(10, "root.a", 1)), 1, nil)
}

// A node may be used up to its Cap, component by component, and no further.
func TestP1401P1403Free(t *testing.T) {
	for _, x := range []struct {
		used, size api.Vec
		kind       int
	}{
		{v(0, 0), v(40, 40), assign.Grant}, {v(0, 0), v(41, 1), assign.None}, {v(0, 0), v(1, 41), assign.None}, {v(10, 10), v(30, 30), assign.Grant}, {v(10, 10), v(31, 30), assign.Hold}, {v(10, 10), v(30, 31), assign.Hold}, {v(10, 10), v(40, 40), assign.Hold}, {v(10, 0), v(1, 40), assign.Grant}, {v(39, 40), v(1, 1), assign.Hold}, {v(40, 40), v(1, 1), assign.Hold}, {v(39, 39), v(1, 1), assign.Grant},
	} {
		s := let(cluster(even, node(1, 0, 40, 40), node(2, 0, 160, 160)), running(10, "root.a", 1, ask(1, x.size.Mem, x.size.Cores, 1)), running(20, "root.b", 2))
		s = fill(s, 20, 1, x.used.Mem, x.used.Cores)
		l := map[int][]change{assign.Grant: {grants(10, 1, 1)}, assign.Hold: {holds(10, 1, 1)}}
		wantOne(t, "what is free", s, 1, x.kind, l[x.kind]...)
	}
}
