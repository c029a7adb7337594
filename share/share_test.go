package share_test

import (
	"math"
	"reflect"
	"slices"
	"strings"
	"testing"

	"dispatch/api"
	"dispatch/conf"
	"dispatch/rule"
	"dispatch/share"
)

// The numbers that the chapter and the words name.
const (
	whole    = 10000
	mostUser = 1000000
	mostPart = 1 << 50 // of a vector
	mostCap  = 1 << 30 // of a node that has registered
	mostRows = 12      // nodes, or plans
)

func v(mem, cores int) api.Vec { return api.Vec{Mem: mem, Cores: cores} }

// node is a live one.
func node(id, label, mem, cores int) api.Node {
	return api.Node{Id: id, Label: label, Cap: v(mem, cores), Up: true}
}

// down is a node that is not live.
func down(n api.Node) api.Node {
	n.Up = false
	return n
}

func plan(id, label, from, until, mem, cores int) api.Plan {
	return api.Plan{Id: id, Label: label, From: from, Until: until, Need: v(mem, cores)}
}

// queue is one of a configuration of one label.
func queue(path string, user, least, most int) api.Queue {
	return api.Queue{Path: path, Caps: []api.Cap{{Least: least, Most: most}}, User: user}
}

// smallText is a configuration of three labels.
const smallText = `labels gpu ssd
queue root 10000 10000/10000 10000/10000 10000/10000
queue root.a 5000 4000/10000 0/5000 9999/9999
queue root.a.x 1 10000/10000 3000/3000 5000/6000
queue root.a.y 1000000 0/0 7000/7000 5000/5000
queue root.b 20000 6000/7000 10000/10000 1/10000
`

// small is a new one of smallText.
func small() api.Conf {
	c, _ := conf.Parse(smallText)
	return c
}

// deep is a configuration of one label, with a queue three names below root: each queue named a or z has these parts of the one above it.
func deep(a, z api.Cap) api.Conf {
	c := api.Conf{Labels: []string{""}, Queues: []api.Queue{queue("root", whole, whole, whole)}}
	for _, path := range []string{"root.a", "root.a.a", "root.a.a.a", "root.a.a.z", "root.a.z", "root.z"} {
		k := a
		if strings.HasSuffix(path, "z") {
			k = z
		}
		c.Queues = append(c.Queues, api.Queue{Path: path, Caps: []api.Cap{k}, User: whole})
	}
	return c
}

// only is a configuration of root alone.
func only(user int) api.Conf {
	return api.Conf{Labels: []string{""}, Queues: []api.Queue{queue("root", user, whole, whole)}}
}

// rich is a state of small with nodes of each label, some of them down, and plans under way and not.
func rich() api.State {
	return api.State{
		Conf: small(),
		Nodes: []api.Node{
			node(0, 0, 1000, 10), node(3, 1, 770, 7), down(node(4, 0, 5, 5)), node(7, 0, 501, 9), down(node(9, 1, 1, 1)), node(11, 2, 20003, 33), node(12, 1, 8, 0),
		},
		Plans: []api.Plan{
			plan(1, 0, 5, 6, 10, 1), plan(2, 0, 0, 5, 100, 1), plan(3, 0, 6, 9, 100, 1), plan(4, 0, 0, 100, 5, 2), plan(5, 1, 4, 7, 7, 7), plan(6, 1, 5, 5, 900, 900),
		},
		Apps:  []api.App{{Id: 1, State: api.Running, Queue: "root.b", Master: v(1, 1)}},
		Conts: []api.Cont{{Id: 1, App: 1, Node: 7, Size: v(1, 1), Master: true}},
		Slots: []api.Slot{{Node: 0, App: 1, Prio: 1}},
		Now:   5,
	}
}

// of is a state of a configuration and nodes.
func of(t *testing.T, c api.Conf, nodes ...api.Node) api.State {
	t.Helper()
	if e := rule.Check(c); e != api.OK {
		t.Fatalf("a configuration that may not be: %+v: %v", c, e)
	}
	return api.State{Conf: c, Nodes: nodes}
}

func checkTotal(t *testing.T, what string, s api.State, label int, want api.Vec) {
	t.Helper()
	if got := share.Total(s, label); got != want {
		t.Errorf("P701: %s: Total of label %d: %v; want %v", what, label, got, want)
	}
}

func checkKept(t *testing.T, what string, s api.State, label int, want api.Vec) {
	t.Helper()
	if got := share.Kept(s, label); got != want {
		t.Errorf("P701: %s: Kept of label %d: %v; want %v", what, label, got, want)
	}
}

// checkQueue holds Least, Most and User of a queue against what is wanted.
func checkQueue(t *testing.T, what string, s api.State, path string, label int, least, most, user api.Vec) {
	t.Helper()
	if got := share.Least(s, path, label); got != least {
		t.Errorf("P702: %s: Least of %q, %d: %v; want %v", what, path, label, got, least)
	}
	if got := share.Most(s, path, label); got != most {
		t.Errorf("P702: %s: Most of %q, %d: %v; want %v", what, path, label, got, most)
	}
	if got := share.User(s, path, label); got != user {
		t.Errorf("P702: %s: User of %q, %d: %v; want %v", what, path, label, got, user)
	}
}

func checkNothing(t *testing.T, what string, s api.State, path string, label int) {
	t.Helper()
	checkQueue(t, what, s, path, label, v(0, 0), v(0, 0), v(0, 0))
}

func TestP701Total(t *testing.T) {
	s := of(t, small())
	for label := range 3 {
		checkTotal(t, "no nodes", s, label, v(0, 0))
	}
	s.Nodes = []api.Node{node(5, 0, 1000, 10)}
	checkTotal(t, "one node", s, 0, v(1000, 10))
	checkTotal(t, "no node of that label", s, 1, v(0, 0))
	checkTotal(t, "no node of that label", s, 2, v(0, 0))
	s.Nodes = []api.Node{node(5, 2, 1000, 10), node(6, 2, 1, 2), node(7, 2, 0, 0), node(8, 2, 30, 0)}
	checkTotal(t, "all nodes of another label", s, 0, v(0, 0))
	checkTotal(t, "all nodes of another label", s, 1, v(0, 0))
	checkTotal(t, "all nodes of this label", s, 2, v(1031, 12))
	s.Nodes = []api.Node{node(1, 0, 1, 100), node(2, 1, 2, 200), node(3, 2, 4, 400), node(4, 1, 8, 800), node(5, 0, 16, 1600), node(6, 1, 32, 3200)}
	checkTotal(t, "nodes of all labels", s, 0, v(17, 1700))
	checkTotal(t, "nodes of all labels", s, 1, v(42, 4200))
	checkTotal(t, "nodes of all labels", s, 2, v(4, 400))
	checkTotal(t, "much else", rich(), 0, v(1501, 19))
	checkTotal(t, "much else", rich(), 1, v(778, 7))
	checkTotal(t, "much else", rich(), 2, v(20003, 33))
}

func TestP701TotalIsOfLiveNodes(t *testing.T) {
	s := of(t, small(), down(node(1, 0, 9999, 9999)), down(node(2, 1, 9999, 9999)))
	checkTotal(t, "no node is up", s, 0, v(0, 0))
	checkTotal(t, "no node is up", s, 1, v(0, 0))
	s.Nodes = append(s.Nodes, node(3, 0, 7, 8), down(node(4, 0, 1, 1)), node(5, 0, 70, 80))
	checkTotal(t, "some are up", s, 0, v(77, 88))
	checkTotal(t, "some are up", s, 1, v(0, 0))
	silent := node(6, 0, 100, 100)
	s.Now, silent.Seen, silent.Beat, silent.Rack = 1000, 0, 900, 99
	s.Nodes = append(s.Nodes, silent)
	checkTotal(t, "a node that was silent for long is live as long as it is up", s, 0, v(177, 188))
}

func TestP701TotalOfTheMost(t *testing.T) {
	s, grown := of(t, only(whole)), of(t, only(whole))
	for i := range mostRows {
		s.Nodes = append(s.Nodes, node(i, 0, mostCap, mostCap-i))
		grown.Nodes = append(grown.Nodes, node(i, 0, mostPart, i))
	}
	checkTotal(t, "twelve great nodes", s, 0, v(12<<30, 12<<30-66))
	checkTotal(t, "twelve of the greatest vectors", grown, 0, v(12<<50, 66))
}

func TestP701Kept(t *testing.T) {
	s := of(t, small())
	checkKept(t, "no plans", s, 0, v(0, 0))
	s.Plans = []api.Plan{plan(1, 0, 10, 20, 3, 4)}
	for now, kept := range map[int]bool{0: false, 8: false, 9: false, 10: true, 11: true, 15: true, 18: true, 19: true, 20: false, 21: false, 1000: false} {
		s.Now = now
		want := v(0, 0)
		if kept {
			want = v(3, 4)
		}
		checkKept(t, "from 10 on, ahead of 20", s, 0, want)
		checkKept(t, "of another label", s, 1, v(0, 0))
	}
	s.Plans[0].From, s.Plans[0].Until = 0, 1
	s.Now = 0
	checkKept(t, "one tick from 0 on", s, 0, v(3, 4))
	s.Now = 1
	checkKept(t, "one tick from 0 on", s, 0, v(0, 0))
}

func TestP701KeptOfSeveralPlans(t *testing.T) {
	s := of(t, small())
	s.Plans = []api.Plan{
		plan(0, 0, 0, 10, 1, 100), plan(1, 0, 10, 20, 2, 200), plan(2, 1, 5, 15, 4, 400), plan(3, 0, 5, 15, 8, 800), plan(4, 2, 14, 15, 16, 0), plan(5, 0, 14, 15, 0, 1600),
	}
	for now, want := range map[int][3]api.Vec{
		0:  {v(1, 100), {}, {}},
		4:  {v(1, 100), {}, {}},
		5:  {v(9, 900), v(4, 400), {}},
		9:  {v(9, 900), v(4, 400), {}},
		10: {v(10, 1000), v(4, 400), {}},
		13: {v(10, 1000), v(4, 400), {}},
		14: {v(10, 2600), v(4, 400), v(16, 0)},
		15: {v(2, 200), {}, {}},
		19: {v(2, 200), {}, {}},
		20: {},
	} {
		s.Now = now
		for label := range want {
			checkKept(t, "several plans", s, label, want[label])
		}
	}
	checkKept(t, "much else", rich(), 0, v(15, 3))
	checkKept(t, "much else", rich(), 1, v(7, 7))
	checkKept(t, "much else", rich(), 2, v(0, 0))
}

func TestP701KeptOfTheMost(t *testing.T) {
	s, grown := of(t, only(whole)), of(t, only(whole))
	for i := range mostRows {
		s.Plans = append(s.Plans, plan(i, 0, 0, 1, mostCap-i, mostCap))
		grown.Plans = append(grown.Plans, plan(i, 0, 0, 1, i, mostPart))
	}
	checkKept(t, "twelve great plans", s, 0, v(12<<30-66, 12<<30))
	checkKept(t, "twelve of the greatest vectors", grown, 0, v(66, 12<<50))
}

func TestP702(t *testing.T) {
	s := rich() // has 1501, 19 of label 0; 778, 7 of label 1; 20003, 33 of label 2
	for path, want := range map[string][9]api.Vec{
		"root":     {v(1501, 19), v(1501, 19), v(1501, 19), v(778, 7), v(778, 7), v(778, 7), v(20003, 33), v(20003, 33), v(20003, 33)},
		"root.a":   {v(600, 7), v(1501, 19), v(300, 3), v(0, 0), v(389, 3), v(0, 0), v(20000, 32), v(20000, 32), v(10000, 16)},
		"root.a.x": {v(600, 7), v(1501, 19), v(0, 0), v(0, 0), v(116, 0), v(0, 0), v(10000, 16), v(12000, 19), v(1, 0)},
		"root.a.y": {v(0, 0), v(0, 0), v(0, 0), v(0, 0), v(272, 2), v(0, 0), v(10000, 16), v(10000, 16), v(1000000, 1600)},
		"root.b":   {v(900, 11), v(1050, 13), v(1800, 22), v(778, 7), v(778, 7), v(1556, 14), v(2, 0), v(20003, 33), v(4, 0)},
	} {
		for label := range 3 {
			checkQueue(t, "a rich state", s, path, label, want[3*label], want[3*label+1], want[3*label+2])
		}
	}
}

// Without live nodes all results are zero vectors (the chapter's example).
func TestP702WithoutLiveNodes(t *testing.T) {
	empty, dead, away := rich(), rich(), rich()
	empty.Nodes, away.Nodes = nil, away.Nodes[5:6]
	for i := range dead.Nodes {
		dead.Nodes[i].Up = false
	}
	for _, q := range small().Queues {
		for label := range 3 {
			checkNothing(t, "no nodes", empty, q.Path, label)
			checkNothing(t, "no node is up", dead, q.Path, label)
		}
		checkNothing(t, "all nodes of another label", away, q.Path, 0)
		checkNothing(t, "all nodes of another label", away, q.Path, 1)
	}
}

func TestP702RootAlone(t *testing.T) {
	for user, want := range map[int]api.Vec{1: v(1, 0), 5000: v(9998, 38), 9999: v(19995, 76), 10000: v(19997, 77), 10001: v(19998, 77), 20000: v(39994, 154), 999999: v(1999698, 7699), mostUser: v(1999700, 7700)} {
		s := of(t, only(user), node(1, 0, 19990, 70), node(2, 0, 7, 7))
		checkQueue(t, "root alone", s, "root", 0, v(19997, 77), v(19997, 77), want)
	}
}

func TestP702NoShareAndTheWhole(t *testing.T) {
	s := of(t, deep(api.Cap{Least: 0, Most: whole}, api.Cap{Least: whole, Most: whole}), node(1, 0, 1001, 3))
	for path, least := range map[string]api.Vec{"root": v(1001, 3), "root.z": v(1001, 3)} {
		checkQueue(t, "the whole", s, path, 0, least, v(1001, 3), least)
	}
	for _, path := range []string{"root.a", "root.a.a", "root.a.z", "root.a.a.a", "root.a.a.z"} {
		checkQueue(t, "none, or the whole of none", s, path, 0, v(0, 0), v(1001, 3), v(0, 0))
	}
	s.Conf = deep(api.Cap{Least: whole, Most: whole}, api.Cap{})
	for _, path := range []string{"root", "root.a", "root.a.a", "root.a.a.a"} {
		checkQueue(t, "the whole of the whole", s, path, 0, v(1001, 3), v(1001, 3), v(1001, 3))
	}
	for _, path := range []string{"root.z", "root.a.z", "root.a.a.z"} {
		checkNothing(t, "none of the whole, at most", s, path, 0)
	}
}

// What each queue on the way has is rounded down: rounded only at the end, 1000 would leave 37 for root.a.a.a, and rounded to the nearest 37 too.
func TestP702RoundsAtEachStep(t *testing.T) {
	s := of(t, deep(api.Cap{Least: 3333, Most: 6667}, api.Cap{Least: 6667, Most: 9999}), node(1, 0, 1000, 29))
	for path, want := range map[string][2]api.Vec{
		"root":       {v(1000, 29), v(1000, 29)},
		"root.a":     {v(333, 9), v(666, 19)},
		"root.a.a":   {v(110, 2), v(444, 12)},
		"root.a.a.a": {v(36, 0), v(296, 8)},
		"root.a.a.z": {v(73, 1), v(443, 11)},
		"root.a.z":   {v(222, 6), v(665, 18)},
		"root.z":     {v(666, 19), v(999, 28)},
	} {
		checkQueue(t, "three steps", s, path, 0, want[0], want[1], want[0])
	}
}

// Steps that are taken in another order round otherwise: two thirds of the half of 3 are none, half of its two thirds is 1.
func TestP702GoesDownFromRoot(t *testing.T) {
	c := api.Conf{Labels: []string{""}, Queues: []api.Queue{
		queue("root", whole, whole, whole),
		queue("root.a", whole, 5000, 5000), queue("root.a.a", whole, 6667, 6667), queue("root.a.b", whole, 3333, 3333),
		queue("root.b", whole, 5000, 5000),
	}}
	s := of(t, c, node(1, 0, 3, 5))
	checkQueue(t, "a half, and two thirds of it", s, "root.a.a", 0, v(0, 1), v(0, 1), v(0, 1))
	checkQueue(t, "a half, and a third of it", s, "root.a.b", 0, v(0, 0), v(0, 0), v(0, 0))
	s.Conf.Queues[1].Caps[0], s.Conf.Queues[4].Caps[0] = api.Cap{Least: 6667, Most: 6667}, api.Cap{Least: 3333, Most: 3333}
	s.Conf.Queues[2].Caps[0], s.Conf.Queues[3].Caps[0] = api.Cap{Least: 5000, Most: 5000}, api.Cap{Least: 5000, Most: 5000}
	s = of(t, s.Conf, s.Nodes...)
	checkQueue(t, "two thirds, and a half of them", s, "root.a.a", 0, v(1, 1), v(1, 1), v(1, 1))
}

func TestP702User(t *testing.T) {
	for user, want := range map[int][2]api.Vec{
		1: {v(0, 0), v(1, 0)}, 3: {v(1, 0), v(5, 0)}, 9999: {v(5999, 3), v(19997, 98)}, whole: {v(6000, 4), v(19999, 99)}, 10001: {v(6000, 4), v(20000, 99)}, mostUser: {v(600000, 400), v(1999900, 9900)},
	} {
		c := deep(api.Cap{Least: 3000, Most: 3000}, api.Cap{Least: 7000, Most: 7000})
		for i := range c.Queues {
			c.Queues[i].User = 7777
		}
		c.Queues[1].User = user
		s := of(t, c, node(1, 0, 20000, 14))
		if got := share.User(s, "root.a", 0); got != want[0] {
			t.Errorf("P702: User of %d basis points: %v; want %v", user, got, want[0])
		}
		s.Conf.Queues[0].User, s.Nodes[0].Cap = user, v(19999, 99)
		if got := share.User(s, "root", 0); got != want[1] {
			t.Errorf("P702: User of %d basis points of root: %v; want %v", user, got, want[1])
		}
	}
}

// What a user may have follows from Least, not from Most, and from the queue's own User alone.
func TestP702UserIsOfLeast(t *testing.T) {
	c := deep(api.Cap{Least: 0, Most: whole}, api.Cap{Least: whole, Most: whole})
	for i := range c.Queues {
		c.Queues[i].User = mostUser
	}
	s := of(t, c, node(1, 0, 1000, 1000))
	checkQueue(t, "no guarantee, much for a user", s, "root.a", 0, v(0, 0), v(1000, 1000), v(0, 0))
	checkQueue(t, "no guarantee, much for a user", s, "root.a.z", 0, v(0, 0), v(1000, 1000), v(0, 0))
	checkQueue(t, "a guarantee, much for a user", s, "root.z", 0, v(1000, 1000), v(1000, 1000), v(100000, 100000))
}

// The shares are of what nodes have, whatever is used, waited for or kept free, and whenever.
func TestP702HangsOnNodesAndConfAlone(t *testing.T) {
	s, bare := rich(), api.State{Conf: small(), Nodes: rich().Nodes}
	for _, q := range small().Queues {
		for label := range 3 {
			checkQueue(t, "nothing but nodes", bare, q.Path, label, share.Least(s, q.Path, label), share.Most(s, q.Path, label), share.User(s, q.Path, label))
		}
	}
}

// noQueues are paths, and strings that are none, which are not the Path of a queue of small.
func noQueues() []string {
	return []string{
		"", ".", "..", " ", "a", "x", "b", "a.x", ".a", "Root", "roo", "roots", "root.", "root..", ".root", "root ", " root", "root\x00", "root..a", "root.A", "root.c", "root.x", "root.a.", "root.a.z", "root.a.a", "root.a.x.",
		"root.a.x.y", "root.b.x", "root.b.a", "root.a-", "root.a.xy", "root.b.", "\xff", "root.\u00e9", "root.a.b.c.d", "root.root", strings.Repeat("root.", 1<<12), strings.Repeat(".", 1<<12), "root" + strings.Repeat(".a", 1<<12),
	}
}

func TestP702NoQueue(t *testing.T) {
	s := of(t, only(whole), rich().Nodes...)
	for _, path := range noQueues() {
		for label := range 3 {
			checkNothing(t, "no queue", rich(), path, label)
		}
		checkNothing(t, "no queue but root", s, path, 0)
	}
	checkNothing(t, "no queue but root", s, "root.a", 0)
	if share.Least(s, "root", 0) != v(1501, 19) {
		t.Error("P702: a state whose nodes have something gives nothing to root")
	}
}

// A part that would be beyond the bounds of a vector is none, as rvec.Scale tells none.
func TestP702BeyondTheBounds(t *testing.T) {
	s := of(t, deep(api.Cap{Least: 5000, Most: whole}, api.Cap{Least: 5000, Most: 5000}), node(1, 0, mostPart, 2))
	s.Conf.Queues[1].User, s.Conf.Queues[2].User = 20000, 20001
	checkQueue(t, "just the greatest vector", s, "root", 0, v(mostPart, 2), v(mostPart, 2), v(mostPart, 2))
	checkQueue(t, "a user has just the greatest vector", s, "root.a", 0, v(mostPart/2, 1), v(mostPart, 2), v(mostPart, 2))
	s.Conf.Queues[1].User = 20001
	checkQueue(t, "a user has more than the greatest vector", s, "root.a", 0, v(mostPart/2, 1), v(mostPart, 2), v(0, 0))
	s.Nodes = append(s.Nodes, node(2, 0, 1, 1))
	checkQueue(t, "more than the greatest vector", s, "root", 0, v(mostPart+1, 3), v(mostPart+1, 3), v(0, 0))
	checkNothing(t, "a part of more than the greatest vector", s, "root.a", 0)
	checkNothing(t, "a part of a part of more than the greatest vector", s, "root.a.a.z", 0)
}

// wild are states that are not sound, for which only P1 and P2 hold.
func wild() []api.State {
	least, most := math.MinInt, math.MaxInt
	few := queue("root.a", 1, whole, whole)
	nodes := []api.Node{node(1, 0, most, most), node(1, 0, most, least), node(-1, 0, -1, -1), node(2, -1, 1, 1), node(3, 99, 1, 1), node(least, most, most, most), {}}
	l := []api.State{{}, {Nodes: nodes}, rich()}
	for _, c := range []api.Conf{
		small(), {Labels: []string{"", "", ""}}, {Queues: []api.Queue{{}}}, {Queues: []api.Queue{queue("", 1, 1, 1), queue(".", 1, 1, 1), queue("..", 1, 1, 1), queue(".a", 1, 1, 1)}},
		{Queues: []api.Queue{{Path: "root"}, {Path: "root.a"}, {Path: "root.a.x"}}}, {Queues: []api.Queue{few, few, few}}, {Queues: []api.Queue{queue("x", 1, 1, 1), queue("a", 1, 1, 1), queue("a.x", 1, 1, 1)}},
		{Queues: []api.Queue{queue("root", most, most, most), queue("root.a", least, least, least), queue("root.a.x", -1, -1, -1)}}, {Queues: make([]api.Queue, 300)},
		{Queues: []api.Queue{queue("root"+strings.Repeat(".a", 1<<12), 1, whole, whole), queue(strings.Repeat(".", 1<<12), 1, whole, whole)}},
	} {
		l = append(l, api.State{Conf: c, Nodes: nodes, Plans: []api.Plan{plan(1, 0, least, most, most, most), plan(1, 0, least, most, most, least), plan(2, least, most, least, 1, 1)}, Now: least}, api.State{Conf: c, Nodes: rich().Nodes, Now: most})
	}
	return l
}

// askAll calls everything.
func askAll(s api.State, path string, label int) [5]api.Vec {
	return [5]api.Vec{share.Total(s, label), share.Kept(s, label), share.Least(s, path, label), share.Most(s, path, label), share.User(s, path, label)}
}

// roomy is a state with spare room behind each of its lists, and room all that stands in them, there too.
func roomy(s api.State) (api.State, func() any) {
	s.Conf.Labels = append(slices.Clone(s.Conf.Labels), "guard")[:len(s.Conf.Labels)]
	s.Conf.Queues = append(slices.Clone(s.Conf.Queues), queue("guard", 1, 77, 78))[:len(s.Conf.Queues)]
	for i, q := range s.Conf.Queues {
		s.Conf.Queues[i].Caps = append(slices.Clone(q.Caps), api.Cap{Least: 77, Most: 78})[:len(q.Caps)]
	}
	s.Nodes = append(slices.Clone(s.Nodes), node(77, 0, 7, 7))[:len(s.Nodes)]
	s.Plans = append(slices.Clone(s.Plans), plan(77, 0, 0, 77, 7, 7))[:len(s.Plans)]
	return s, func() any {
		room := []any{s.Conf.Labels[:len(s.Conf.Labels)+1], s.Conf.Queues[:len(s.Conf.Queues)+1], s.Nodes[:len(s.Nodes)+1], s.Plans[:len(s.Plans)+1]}
		for _, q := range s.Conf.Queues {
			room = append(room, q.Caps[:len(q.Caps)+1])
		}
		return room
	}
}

func TestP1P2P3OfAnyState(t *testing.T) {
	paths := append(noQueues(), "root", "root.a", "root.a.x", "root.a.y", "root.b")
	for i, s := range wild() {
		for _, path := range paths {
			for _, label := range []int{0, 1, 2, 3, 99, -1, math.MaxInt, math.MinInt} {
				a, room := roomy(s)
				_, before := roomy(s)
				first := askAll(a, path, label)
				if again := askAll(a, path, label); again != first {
					t.Errorf("P3: state %d, %q, %d: %v, and then %v", i, path, label, first, again)
				}
				if !reflect.DeepEqual(room(), before()) {
					t.Errorf("P2: state %d, %q, %d: the state has changed", i, path, label)
				}
			}
		}
	}
}

func TestP2P3KeepNoArgument(t *testing.T) {
	s := rich()
	first := askAll(s, "root.b", 0)
	for i := range s.Conf.Queues {
		clear(s.Conf.Queues[i].Caps)
	}
	clear(s.Nodes)
	clear(s.Plans)
	if second := askAll(s, "root.b", 0); second != [5]api.Vec{} {
		t.Errorf("P2: what a state had is told again: %v", second)
	}
	if third := askAll(rich(), "root.b", 0); third != first {
		t.Errorf("P3: %v, and then %v", first, third)
	}
}

// A label that the state does not have, of which no node is, has nothing.
func TestP701LabelsThatAreNone(t *testing.T) {
	for _, label := range []int{3, 4, -1, math.MaxInt, math.MinInt} {
		if got := askAll(rich(), "root.a", label); got != [5]api.Vec{} {
			t.Errorf("P701: label %d: %v", label, got)
		}
	}
}
