package qtree_test

import (
	"math"
	"slices"
	"strings"
	"testing"

	"dispatch/api"
	"dispatch/conf"
	"dispatch/qtree"
	"dispatch/rule"
)

// The numbers that the document names.
const (
	whole    = 10000
	mostPart = 1 << 50 // of a vector
	mostApps = 16
	mostRows = 12 // nodes, or plans
)

// tree is a configuration of three labels with queues of all depths, some of which have names that begin alike.
const tree = `labels gpu ssd
queue root 10000 10000/10000 10000/10000 10000/10000
queue root.a 10000 5000/6000 0/10000 10000/10000
queue root.a-b 10000 0/10000 4000/5000 0/0
queue root.a.x 10000 10000/10000 10000/10000 2000/9000
queue root.a.xy 10000 0/7000 0/10000 3000/10000
queue root.a.y 5000 0/5000 0/10000 5000/5000
queue root.a.y.p 10000 4000/8000 10000/10000 0/10000
queue root.a.y.q 10000 6000/10000 0/5000 10000/10000
queue root.ab 10000 5000/10000 6000/10000 0/10000
`

// alone is a configuration in which root has no kids, even one of two halves of it, and steep one in which each queue has less than the one above it.
const (
	alone = "labels\nqueue root 10000 10000/10000\n"
	even  = "labels\nqueue root 10000 10000/10000\nqueue root.a 10000 5000/10000\nqueue root.b 10000 5000/10000\n"
	steep = "labels\nqueue root 10000 10000/10000\nqueue root.a 10000 5000/8000\nqueue root.a.a 10000 5000/7500\nqueue root.a.a.a 10000 10000/10000\nqueue root.a.b 10000 5000/10000\nqueue root.b 10000 5000/10000\n"
)

// parsed is the configuration of a text that is known to be one.
func parsed(text string) api.Conf {
	c, _ := conf.Parse(text)
	return c
}

func v(mem, cores int) api.Vec { return api.Vec{Mem: mem, Cores: cores} }

// node is a live one.
func node(id, label, mem, cores int) api.Node {
	return api.Node{Id: id, Label: label, Cap: v(mem, cores), Up: true}
}

// down is a node that is not live.
func down(n api.Node) api.Node {
	n.Up = false
	return n
}

func plan(id, label, from, until, mem, cores int) api.Plan {
	return api.Plan{Id: id, Label: label, From: from, Until: until, Need: v(mem, cores)}
}

func ask(prio, label, mem, cores, count int) api.Ask {
	return api.Ask{Prio: prio, Label: label, Size: v(mem, cores), Count: count, Node: -1, Rack: -1}
}

// app is an application in a state, with asks.
func app(id, state int, queue string, user int, l ...api.Ask) api.App {
	return api.App{Id: id, State: state, Queue: queue, User: user, Prio: id % 10, Master: v(1, 1), Asks: l, Seen: 3}
}

func running(id int, queue string, user int, l ...api.Ask) api.App {
	return app(id, api.Running, queue, user, l...)
}

func waiting(id int, queue string, user int) api.App {
	return app(id, api.Waiting, queue, user, ask(0, 0, 70, 7, 1))
}

// cont is a container, which is on the node of its label that rich has.
func cont(id, app, label, mem, cores int) api.Cont {
	return api.Cont{Id: id, App: app, Node: label + 1, Size: v(mem, cores), Prio: 1 + id%9, Label: label}
}

func master(id, app, mem, cores int) api.Cont {
	c := cont(id, app, 0, mem, cores)
	c.Master, c.Prio = true, 0
	return c
}

// rich is a state of tree with applications in all states, of several users, and containers and asks of all labels.
func rich() api.State {
	return api.State{
		Conf:  parsed(tree),
		Nodes: []api.Node{node(1, 0, 1000, 100), node(2, 1, 500, 50), node(3, 2, 2000, 40), node(4, 0, 200, 20), down(node(5, 0, 7000, 700)), down(node(6, 1, 9, 9))},
		Apps: []api.App{
			running(10, "root.a.x", 7, ask(1, 0, 4, 1, 3), ask(2, 1, 9, 2, 1), ask(4, 0, 100, 10, 2)),
			running(20, "root.a.y.p", 7, ask(3, 2, 11, 1, 50)),
			running(30, "root.a.y.q", 8),
			waiting(40, "root.a.xy", 7),
			running(50, "root.ab", 8, ask(1, 0, 1000, 1, 1), ask(2, 1, 1000, 2, 4), ask(3, 2, 1000, 3, 9)),
			running(60, "root.a-b", 9, ask(0, 1, 3, 4, 5)),
			running(70, "root.a.x", 8),
			running(75, "root.a.x", 7, ask(9, 0, 2, 2, 2)),
			app(80, api.Finished, "root.a.x", 7, ask(1, 0, 77, 77, 7), ask(2, 1, 77, 77, 7)),
			app(90, api.Killed, "root.gone", 9, ask(1, 2, 77, 77, 7)),
			waiting(95, "root.a.y.q", 8),
		},
		Conts: []api.Cont{
			master(1, 10, 10, 1), cont(2, 10, 1, 20, 2), master(3, 20, 30, 3), cont(4, 20, 2, 40, 4), cont(5, 20, 2, 50, 5), master(6, 30, 60, 6),
			master(7, 50, 80, 8), cont(8, 50, 1, 90, 9), master(9, 60, 100, 10), master(10, 70, 110, 11), master(11, 75, 5, 20), cont(12, 75, 0, 3, 0),
		},
		Slots: []api.Slot{{Node: 1, App: 10, Prio: 4}},
		Plans: []api.Plan{plan(1, 1, 3, 9, 100, 40), plan(2, 0, 7, 9, 100, 10)},
		Now:   5,
	}
}

// wantSound asks for what chapter 19 says of a state.
func wantSound(t *testing.T, what string, s api.State) {
	t.Helper()
	if e := rule.Check(s.Conf); e != api.OK || len(s.Nodes) > mostRows || len(s.Plans) > mostRows || len(s.Apps) > mostApps {
		t.Errorf("%s: %v, or lists that are too long", what, e)
	}
	nodes, used, masters, all := map[int]api.Node{}, map[int]api.Vec{}, map[int]int{}, map[int]int{}
	for _, n := range s.Nodes {
		nodes[n.Id] = n
	}
	for i, c := range s.Conts {
		n := nodes[c.Node]
		used[c.Node] = v(used[c.Node].Mem+c.Size.Mem, used[c.Node].Cores+c.Size.Cores)
		if all[c.App]++; c.Master {
			masters[c.App]++
		}
		if !n.Up || n.Label != c.Label || used[c.Node].Mem > n.Cap.Mem || used[c.Node].Cores > n.Cap.Cores || i > 0 && s.Conts[i-1].Id >= c.Id {
			t.Errorf("%s: container %+v on node %+v", what, c, n)
		}
	}
	for i, a := range s.Apps {
		live := a.State == api.Waiting || a.State == api.Running
		if live && !rule.Leaf(s.Conf, a.Queue) || a.State == api.Running && masters[a.Id] != 1 || a.State != api.Running && all[a.Id] != 0 || i > 0 && s.Apps[i-1].Id >= a.Id {
			t.Errorf("%s: application %+v has %d masters, %d containers", what, a, masters[a.Id], all[a.Id])
		}
		delete(all, a.Id)
	}
	if len(all) > 0 {
		t.Errorf("%s: containers of no application: %v", what, all)
	}
}

func TestTheStatesAreSound(t *testing.T) {
	for _, text := range []string{tree, alone, even, steep} {
		wantSound(t, "a state without nodes", api.State{Conf: parsed(text)})
	}
	wantSound(t, "rich", rich())
	wantSound(t, "full", full())
}

// wantVec compares what was asked for.
func wantVec(t *testing.T, what, path string, label int, got, want api.Vec) {
	t.Helper()
	if got != want {
		t.Errorf("%s of %q, label %d: %v; want %v", what, path, label, got, want)
	}
}

func wantRoom(t *testing.T, what string, s api.State, path string, label int, size api.Vec, want bool) {
	t.Helper()
	if got := qtree.Room(s, path, label, size); got != want {
		t.Errorf("P1102: %s: Room of %q, label %d, for %v: %t", what, path, label, size, got)
	}
}

// wantEdge asks whether there is just so much room: there is none for one part more.
func wantEdge(t *testing.T, what string, s api.State, path string, label int, room api.Vec) {
	t.Helper()
	for _, size := range []api.Vec{room, {}, {Mem: room.Mem}, {Cores: room.Cores}, {Mem: max(0, room.Mem-1), Cores: room.Cores}, {Mem: room.Mem, Cores: max(0, room.Cores-1)}} {
		wantRoom(t, what, s, path, label, size, true)
	}
	for _, size := range []api.Vec{{Mem: room.Mem + 1, Cores: room.Cores}, {Mem: room.Mem, Cores: room.Cores + 1}, {Mem: room.Mem + 1}, {Cores: room.Cores + 1}, {Mem: room.Mem + 1, Cores: room.Cores + 1}, {Mem: mostPart}, {Cores: mostPart}} {
		wantRoom(t, what, s, path, label, size, false)
	}
}

// wantNone asks whether there is not even room for nothing.
func wantNone(t *testing.T, what string, s api.State, path string, label int) {
	t.Helper()
	for _, size := range []api.Vec{{}, v(1, 0), v(0, 1), v(1, 1), v(mostPart, mostPart)} {
		wantRoom(t, what, s, path, label, size, false)
	}
}

// In a state without containers Used is the zero vector everywhere (the chapter's example).
func TestP1101WithoutContainers(t *testing.T) {
	bare := rich()
	bare.Conts = nil
	for _, s := range []api.State{{Conf: parsed(tree)}, {Conf: parsed(alone)}, bare} {
		for _, q := range s.Conf.Queues {
			for label := range 4 {
				wantVec(t, "P1101: Used", q.Path, label, qtree.Used(s, q.Path, label), v(0, 0))
				wantVec(t, "P1101: UserUsed", q.Path, label, qtree.UserUsed(s, q.Path, label, 7), v(0, 0))
			}
		}
	}
	for _, path := range []string{"root", "root.a", "root.a.x"} {
		wantVec(t, "P1101: Pending without applications", path, 0, qtree.Pending(api.State{Conf: parsed(tree)}, path, 0), v(0, 0))
	}
}

func TestP1101Used(t *testing.T) {
	for path, want := range map[string][3]api.Vec{
		"root":       {v(398, 59), v(110, 11), v(90, 9)},
		"root.a":     {v(218, 41), v(20, 2), v(90, 9)},
		"root.a-b":   {v(100, 10)},
		"root.a.x":   {v(128, 32), v(20, 2)},
		"root.a.xy":  {},
		"root.a.y":   {v(90, 9), {}, v(90, 9)},
		"root.a.y.p": {v(30, 3), {}, v(90, 9)},
		"root.a.y.q": {v(60, 6)},
		"root.ab":    {v(80, 8), v(90, 9)},
	} {
		for label := range want {
			wantVec(t, "P1101: Used", path, label, qtree.Used(rich(), path, label), want[label])
		}
	}
}

func TestP1101Pending(t *testing.T) {
	for path, want := range map[string][3]api.Vec{
		"root":       {v(12+200+70+1000+4+70, 3+20+7+1+4+7), v(9+4000+15, 2+8+20), v(550+9000, 50+27)},
		"root.a":     {v(12+200+70+4+70, 3+20+7+4+7), v(9, 2), v(550, 50)},
		"root.a-b":   {{}, v(15, 20)},
		"root.a.x":   {v(12+200+4, 3+20+4), v(9, 2)},
		"root.a.xy":  {v(70, 7)},
		"root.a.y":   {v(70, 7), {}, v(550, 50)},
		"root.a.y.p": {{}, {}, v(550, 50)},
		"root.a.y.q": {v(70, 7)},
		"root.ab":    {v(1000, 1), v(4000, 8), v(9000, 27)},
	} {
		for label := range want {
			wantVec(t, "P1101: Pending", path, label, qtree.Pending(rich(), path, label), want[label])
		}
	}
}

func TestP1101UserUsed(t *testing.T) {
	for user, paths := range map[int]map[string][3]api.Vec{
		7: {
			"root": {v(48, 24), v(20, 2), v(90, 9)}, "root.a": {v(48, 24), v(20, 2), v(90, 9)}, "root.a.x": {v(18, 21), v(20, 2)}, "root.a.y": {v(30, 3), {}, v(90, 9)}, "root.a.y.p": {v(30, 3), {}, v(90, 9)},
			"root.a.y.q": {}, "root.a.xy": {}, "root.ab": {}, "root.a-b": {},
		},
		8: {
			"root": {v(250, 25), v(90, 9)}, "root.a": {v(170, 17)}, "root.a.x": {v(110, 11)}, "root.a.y": {v(60, 6)}, "root.a.y.q": {v(60, 6)}, "root.ab": {v(80, 8), v(90, 9)},
			"root.a.y.p": {}, "root.a.xy": {}, "root.a-b": {},
		},
		9: {"root": {v(100, 10)}, "root.a-b": {v(100, 10)}, "root.a": {}, "root.a.x": {}, "root.ab": {}},
		0: {"root": {}, "root.a": {}, "root.a.x": {}, "root.ab": {}}, 10: {"root": {}}, -1: {"root": {}}, math.MaxInt: {"root": {}}, math.MinInt: {"root": {}},
	} {
		for path, want := range paths {
			for label := range want {
				if got := qtree.UserUsed(rich(), path, label, user); got != want[label] {
					t.Errorf("P1101: UserUsed of %q, label %d, user %d: %v; want %v", path, label, user, got, want[label])
				}
			}
		}
	}
}

// User 0 is one like all others, and so is an application with the Id 0.
func TestP1101NoughtsAreNumbers(t *testing.T) {
	s := rich()
	s.Apps = []api.App{running(0, "root.a.x", 0, ask(0, 0, 1, 2, 3)), running(1, "root.a.x", 1), running(2, "root.ab", 0)}
	s.Conts = []api.Cont{master(0, 0, 5, 6), master(1, 1, 50, 60), master(2, 2, 500, 30)}
	wantSound(t, "noughts", s)
	wantVec(t, "P1101: Used", "root.a.x", 0, qtree.Used(s, "root.a.x", 0), v(55, 66))
	wantVec(t, "P1101: UserUsed by 0", "root.a.x", 0, qtree.UserUsed(s, "root.a.x", 0, 0), v(5, 6))
	wantVec(t, "P1101: UserUsed by 0", "root", 0, qtree.UserUsed(s, "root", 0, 0), v(505, 36))
	wantVec(t, "P1101: UserUsed by 1", "root", 0, qtree.UserUsed(s, "root", 0, 1), v(50, 60))
	wantVec(t, "P1101: Pending", "root.a", 0, qtree.Pending(s, "root.a", 0), v(3, 6))
}

// The label of a container counts, not that of its application's asks, nor where it is in the list; masters count like others.
func TestP1101Labels(t *testing.T) {
	s := rich()
	s.Apps = []api.App{running(4, "root.ab", 1, ask(1, 1, 1, 1, 1), ask(2, 1, 10, 10, 2), ask(3, 0, 100, 100, 3))}
	s.Conts = []api.Cont{master(1, 4, 1, 1), cont(2, 4, 1, 2, 3), cont(3, 4, 2, 4, 5), cont(4, 4, 1, 8, 7), cont(5, 4, 0, 16, 9)}
	wantSound(t, "labels", s)
	for label, want := range map[int][2]api.Vec{0: {v(17, 10), v(300, 300)}, 1: {v(10, 10), v(21, 21)}, 2: {v(4, 5), {}}, 3: {}, 4: {}, -1: {}, math.MaxInt: {}, math.MinInt: {}} {
		for _, path := range []string{"root", "root.ab"} {
			wantVec(t, "P1101: Used", path, label, qtree.Used(s, path, label), want[0])
			wantVec(t, "P1101: UserUsed", path, label, qtree.UserUsed(s, path, label, 1), want[0])
			wantVec(t, "P1101: Pending", path, label, qtree.Pending(s, path, label), want[1])
		}
		wantVec(t, "P1101: Used by nobody", "root.a", label, qtree.Used(s, "root.a", label), v(0, 0))
	}
}

// Pending is of applications that wait or run; one that is over wants nothing, whatever is left in it.
func TestP1101PendingIsOfLiveApplications(t *testing.T) {
	for state, live := range map[int]bool{api.Waiting: true, api.Running: true, api.Finished: false, api.Killed: false, 0: false, 5: false, -1: false} {
		for _, l := range [][]api.Ask{nil, {ask(0, 0, 5, 6, 1)}, {ask(0, 0, 5, 6, 50)}, {ask(0, 1, 5, 6, 50)}, {ask(1, 0, 5, 6, 2), ask(2, 1, 7, 8, 3), ask(9, 0, 100, 1000, 4)}} {
			s := rich()
			s.Apps = []api.App{running(1, "root.a.x", 3, ask(5, 0, 1, 1, 1)), app(2, state, "root.a.x", 3, l...), app(3, state, "root.ab", 3, ask(0, 0, 9, 9, 9))}
			want := v(1, 1)
			for _, a := range l {
				if live && a.Label == 0 {
					want = v(want.Mem+a.Count*a.Size.Mem, want.Cores+a.Count*a.Size.Cores)
				}
			}
			wantVec(t, "P1101: Pending", "root.a.x", 0, qtree.Pending(s, "root.a.x", 0), want)
			wantVec(t, "P1101: Pending", "root.a", 0, qtree.Pending(s, "root.a", 0), want)
		}
	}
}

// What is granted, lost or told counts in no sum, nor do Slots and plans.
func TestP1101HangsOnContainersAndAsksAlone(t *testing.T) {
	s, bare := rich(), rich()
	for i := range s.Apps {
		s.Apps[i].Grants, s.Apps[i].Kills, s.Apps[i].Told, s.Apps[i].Lost, s.Apps[i].Beat = []int{1, 2, 3}, []int{4}, []int{5}, []int{6}, 9
	}
	for i := range s.Conts {
		s.Conts[i].Notice, s.Conts[i].Prio = 3, 2
	}
	s.Slots = append(s.Slots, api.Slot{Node: 2, App: 60, Prio: 0}, api.Slot{Node: 3, App: 50, Prio: 3})
	s.Plans, s.Now, s.Seq = nil, 99, 7
	for _, q := range s.Conf.Queues {
		for label := range 3 {
			wantVec(t, "P1101: Used", q.Path, label, qtree.Used(s, q.Path, label), qtree.Used(bare, q.Path, label))
			wantVec(t, "P1101: Pending", q.Path, label, qtree.Pending(s, q.Path, label), qtree.Pending(bare, q.Path, label))
			wantVec(t, "P1101: UserUsed", q.Path, label, qtree.UserUsed(s, q.Path, label, 7), qtree.UserUsed(bare, q.Path, label, 7))
		}
	}
}

// noQueues are paths, and strings that are none, which are not the Path of a queue of tree.
func noQueues() []string {
	return []string{
		"", ".", "..", " ", "a", "x", "a.x", ".a", "Root", "roo", "roots", "root.", "root..", ".root", "root ", " root", "root\x00", "root..a", "root.A", "root.b", "root.x", "root.a.", "root.a.z", "root.a-", "root.a-b.", "root.a-b.x", "root.abc",
		"root.a.x.", "root.a.x.y", "root.a.xyz", "root.a.y.", "root.a.y.p.", "root.a.y.p.q", "root.a.y.r", "root.a.y.pq", "root.ab.x", "root.gone", "\xff", "root.\u00e9", "root.root", strings.Repeat("root.", 1<<12), strings.Repeat(".", 1<<12), "root" + strings.Repeat(".a", 1<<12),
	}
}

func wantNothing(t *testing.T, s api.State, path string) {
	t.Helper()
	for label := range 4 {
		wantVec(t, "P1101: no queue: Used", path, label, qtree.Used(s, path, label), v(0, 0))
		wantVec(t, "P1101: no queue: Pending", path, label, qtree.Pending(s, path, label), v(0, 0))
		for user := range 12 {
			wantVec(t, "P1101: no queue: UserUsed", path, label, qtree.UserUsed(s, path, label, user), v(0, 0))
		}
	}
}

func TestP1101NoQueue(t *testing.T) {
	for _, path := range noQueues() {
		wantNothing(t, rich(), path)
	}
}

// What is no queue has nothing, even if applications say that it is their leaf, or below it.
func TestP1101NoQueueThatIsNamed(t *testing.T) {
	for _, path := range []string{"root.gone", "root.gone.x", "root.a.x.y", "", "gone", "root.a.", ".", ".x"} {
		s := rich()
		for i := range s.Apps {
			s.Apps[i].Queue = path
		}
		wantNothing(t, s, path)
		wantNothing(t, s, "root.gone")
		wantNothing(t, s, "gone")
		wantNothing(t, s, "root.ab")
	}
}

// A queue's applications are those of its leaf and below it, not those of a path that only begins like its own.
func TestP1101PathsThatBeginAlike(t *testing.T) {
	c := parsed("labels\nqueue root 10000 10000/10000\nqueue root.a 1 1000/10000\nqueue root.a- 1 1000/10000\nqueue root.a-a 1 1000/10000\nqueue root.a.a 1 5000/10000\nqueue root.a.aa 1 5000/10000\nqueue root.a0 1 1000/10000\nqueue root.aa 1 5000/10000\nqueue root.aa.a 1 10000/10000\nqueue root.root 1 1000/10000\n")
	s := api.State{Conf: c, Nodes: []api.Node{node(1, 0, 1<<20, 1<<20)}}
	for i, path := range []string{"root.a-", "root.a-a", "root.a.a", "root.a.aa", "root.a0", "root.aa.a", "root.root"} {
		s.Apps = append(s.Apps, running(i, path, i, ask(1, 0, 1<<i, 1, 1)))
		s.Conts = append(s.Conts, master(i, i, 1<<i, 1<<(i+7)))
	}
	wantSound(t, "alike", s)
	for path, bits := range map[string]int{"root": 127, "root.a": 12, "root.a-": 1, "root.a-a": 2, "root.a.a": 4, "root.a.aa": 8, "root.a0": 16, "root.aa": 32, "root.aa.a": 32, "root.root": 64} {
		wantVec(t, "P1101: Used", path, 0, qtree.Used(s, path, 0), v(bits, bits<<7))
		if got := qtree.Pending(s, path, 0).Mem; got != bits {
			t.Errorf("P1101: Pending of %q: %d; want %d", path, got, bits)
		}
	}
}

// full is a state with as many containers as there may be, of the greatest sizes that may be asked for, in two queues.
func full() api.State {
	s := api.State{Conf: parsed(even)}
	for i := range mostRows {
		s.Nodes = append(s.Nodes, node(i, 0, 17<<30, 17<<30))
	}
	for i := range mostApps {
		s.Apps = append(s.Apps, running(i, []string{"root.a", "root.b"}[i%2], i%4))
		for prio := range 8 {
			s.Apps[i].Asks = append(s.Apps[i].Asks, ask(prio, 0, 1<<30, 1<<30-prio, 50))
		}
	}
	for i := range 200 {
		c := cont(i, i%mostApps, 0, 1<<30, 1<<30-i)
		c.Node, c.Master = i%mostRows, i < mostApps
		s.Conts = append(s.Conts, c)
	}
	return s
}

func TestP1101TheMost(t *testing.T) {
	s := full()
	wantVec(t, "P1101: Used", "root", 0, qtree.Used(s, "root", 0), v(200<<30, 200<<30-199*100))
	wantVec(t, "P1101: Used", "root.a", 0, qtree.Used(s, "root.a", 0), v(100<<30, 100<<30-99*100))
	wantVec(t, "P1101: Used", "root.b", 0, qtree.Used(s, "root.b", 0), v(100<<30, 100<<30-100*100))
	wantVec(t, "P1101: Pending", "root", 0, qtree.Pending(s, "root", 0), v(16*8*50<<30, 16*50*(8<<30-28)))
	wantVec(t, "P1101: Pending", "root.b", 0, qtree.Pending(s, "root.b", 0), v(8*8*50<<30, 8*50*(8<<30-28)))
	s.Apps, s.Conts = s.Apps[:2], s.Conts[:2]
	s.Nodes[0].Cap, s.Nodes[1].Cap, s.Conts[0].Size, s.Conts[1].Size = v(mostPart, mostPart), v(mostPart, mostPart), v(mostPart, mostPart), v(mostPart, 1)
	wantSound(t, "the greatest vectors", s)
	wantVec(t, "P1101: Used", "root", 0, qtree.Used(s, "root", 0), v(2*mostPart, mostPart+1))
	wantVec(t, "P1101: Used", "root.a", 0, qtree.Used(s, "root.a", 0), v(mostPart, mostPart))
	wantVec(t, "P1101: UserUsed", "root", 0, qtree.UserUsed(s, "root", 0, 1), v(mostPart, 1))
}

// The path itself, a queue above it or root may be the one that has the least room, in Mem and in Cores each.
func TestP1102(t *testing.T) {
	s := rich() // has 1200, 120 of label 0; 500, 50 of label 1; 2000, 40 of label 2; of label 1 a plan keeps 100, 40
	for path, room := range map[string]api.Vec{
		"root":       v(802, 61),
		"root.a":     v(502, 31), // 720, 72 at most
		"root.a-b":   v(802, 61), // 1200, 120 at most: root has less room
		"root.a.x":   v(502, 31), // root.a has less room than 592, 40
		"root.a.xy":  v(502, 31), // in Mem root.a, and in Cores too: 504, 50 at most
		"root.a.y":   v(270, 27), // 360, 36 at most
		"root.a.y.p": v(258, 25), // 288, 28 at most
		"root.a.y.q": v(270, 27), // root.a.y has less room than 300, 30
		"root.ab":    v(802, 61),
	} {
		wantEdge(t, "label 0", s, path, 0, room)
	}
	for path, mem := range map[string]int{"root": 290, "root.a": 290, "root.a.x": 290, "root.a.xy": 290, "root.a.y": 290, "root.a.y.p": 290, "root.a.y.q": 250, "root.a-b": 250, "root.ab": 290} {
		s.Plans[0].Need.Cores = 40
		wantNone(t, "label 1: more Cores are used than plans leave", s, path, 1)
		s.Plans[0].Need.Cores = 39
		wantEdge(t, "label 1: all Cores are used that plans leave", s, path, 1, v(mem, 0))
	}
	for path, room := range map[string]api.Vec{"root": v(1910, 31), "root.a": v(1910, 31), "root.a.x": v(1800, 31), "root.a.xy": v(1910, 31), "root.a.y": v(910, 11), "root.a.y.q": v(910, 11), "root.a-b": v(0, 0), "root.ab": v(1910, 31)} {
		wantEdge(t, "label 2", s, path, 2, room)
	}
}

// In a state of one label each queue of steep has less at most than the one above it, and who uses what decides which one has the least room.
func TestP1102EachQueueAbove(t *testing.T) {
	for _, x := range []struct {
		what       string
		own, bound int // what root.a.a.a and root.a.b have
		other      int // what root.b has
		room       int
	}{
		{"nobody has anything", 0, 0, 0, 600},
		{"the path itself has least room", 100, 50, 50, 500},
		{"the path itself and the queue above it have no room left", 600, 0, 0, 0},
		{"two above the path there is just as much", 100, 200, 0, 500},
		{"two above the path there is less", 100, 201, 0, 499},
		{"two above the path there is no room left", 100, 700, 0, 0},
		{"root has just as much as all others", 100, 200, 200, 500},
		{"root has less", 100, 200, 201, 499},
		{"root has no room left", 100, 200, 700, 0},
	} {
		for turn := range 2 {
			s := api.State{Conf: parsed(steep), Nodes: []api.Node{node(1, 0, 1000, 1000)}}
			for i, size := range []int{x.own, x.bound, x.other} {
				s.Apps = append(s.Apps, running(i, []string{"root.a.a.a", "root.a.b", "root.b"}[i], 1))
				s.Conts = append(s.Conts, master(i, i, size, 0))
				if turn == 1 {
					s.Conts[i].Size = v(0, size)
				}
			}
			wantSound(t, x.what, s)
			room := v(x.room, 600)
			if turn == 1 {
				room = v(600, x.room)
			}
			wantEdge(t, x.what, s, "root.a.a.a", 0, room)
		}
	}
}

// A queue that has more than it may have, because nodes are gone, has room for nothing, nor have those below it.
func TestP1102MoreThanTheMost(t *testing.T) {
	s := api.State{Conf: parsed(steep), Nodes: []api.Node{node(1, 0, 1000, 1000)}}
	s.Apps = []api.App{running(1, "root.a.b", 1)}
	s.Conts = []api.Cont{master(1, 1, 801, 0)}
	wantSound(t, "too much", s)
	for _, path := range []string{"root.a", "root.a.a", "root.a.a.a", "root.a.b"} {
		wantNone(t, "in Mem alone", s, path, 0)
	}
	wantEdge(t, "beside", s, "root.b", 0, v(199, 1000))
	wantEdge(t, "above", s, "root", 0, v(199, 1000))
	s.Conts[0].Size = v(0, 801)
	for _, path := range []string{"root.a", "root.a.a", "root.a.a.a", "root.a.b"} {
		wantNone(t, "in Cores alone", s, path, 0)
	}
	wantEdge(t, "beside", s, "root.b", 0, v(1000, 199))
}

// keeping is a state of steep in which containers have 300, 30 of 1000, 100, and plans keep a part of it.
func keeping(plans ...api.Plan) api.State {
	return api.State{Conf: parsed(steep), Nodes: []api.Node{node(1, 0, 600, 90), node(2, 0, 400, 10)}, Apps: []api.App{running(1, "root.b", 1)}, Conts: []api.Cont{master(1, 1, 300, 30)}, Plans: plans, Now: 5}
}

func TestP1102Plans(t *testing.T) {
	for _, x := range []struct {
		what string
		l    []api.Plan
		room api.Vec // of root.b
		deep api.Vec // of root.a.a.a, which has 600, 60 at most
	}{
		{"no plans", nil, v(700, 70), v(600, 60)},
		{"a part that leaves just as much as the path has", []api.Plan{plan(1, 0, 5, 6, 100, 10)}, v(600, 60), v(600, 60)},
		{"a greater part", []api.Plan{plan(1, 0, 0, 9, 101, 0)}, v(599, 70), v(599, 60)},
		{"a greater part", []api.Plan{plan(1, 0, 0, 9, 0, 11)}, v(700, 59), v(600, 59)},
		{"several plans", []api.Plan{plan(1, 0, 0, 9, 200, 10), plan(2, 0, 5, 6, 300, 20), plan(4, 0, 1, 6, 1, 0)}, v(199, 40), v(199, 40)},
		{"all that is not used", []api.Plan{plan(1, 0, 0, 9, 700, 70)}, v(0, 0), v(0, 0)},
		{"plans that are over or to come", []api.Plan{plan(1, 0, 0, 5, 700, 70), plan(2, 0, 6, 9, 700, 70)}, v(700, 70), v(600, 60)},
		{"a plan of a label that is not asked for", []api.Plan{plan(1, 1, 0, 9, 700, 70)}, v(700, 70), v(600, 60)},
	} {
		wantEdge(t, x.what, keeping(x.l...), "root.b", 0, x.room)
		wantEdge(t, x.what, keeping(x.l...), "root", 0, x.room)
		wantEdge(t, x.what, keeping(x.l...), "root.a.a.a", 0, x.deep)
	}
}

// Where plans keep more than is left, or more than there is, there is room for nothing that is used at all; but what is below nothing is nothing, so that noughts fit where nothing is used.
func TestP1102PlansThatKeepMoreThanThereIs(t *testing.T) {
	for _, need := range []api.Vec{v(701, 0), v(0, 71), v(1000, 100), v(1001, 0), v(0, 101), v(5000, 5000), v(mostPart, mostPart)} {
		s := keeping(plan(1, 0, 0, 9, need.Mem, need.Cores))
		for _, path := range []string{"root", "root.a", "root.a.a.a", "root.b"} {
			wantNone(t, "containers, and plans of more than is left", s, path, 0)
		}
		s.Apps, s.Conts = nil, nil
		room := v(max(0, 1000-need.Mem), max(0, 100-need.Cores))
		wantEdge(t, "plans alone", s, "root", 0, room)
		wantEdge(t, "plans alone", s, "root.a.a.a", 0, v(min(600, room.Mem), min(60, room.Cores)))
	}
	s := keeping(plan(1, 0, 0, 9, 0, 5000))
	s.Conts[0].Size.Cores = 0
	wantEdge(t, "plans keep more Cores than there are, and none is used", s, "root", 0, v(700, 0))
	s = keeping(plan(1, 0, 0, 9, 5000, 0))
	s.Conts[0].Size.Mem = 0
	wantEdge(t, "plans keep more Mem than there is, and none is used", s, "root.b", 0, v(0, 70))
}

// Plans bind what root has, not what others have at most.
func TestP1102PlansBindRootAlone(t *testing.T) {
	s := keeping(plan(1, 0, 0, 9, 100, 10))
	s.Conts[0].Size = v(0, 0)
	wantEdge(t, "root.a.a.a has 600, 60 at most", s, "root.a.a.a", 0, v(600, 60))
	wantEdge(t, "root.a has 800, 80 at most", s, "root.a", 0, v(800, 80))
	wantEdge(t, "root", s, "root", 0, v(900, 90))
}

// Of a label of which no live node is there is room for noughts alone.
func TestP1102NoLiveNodes(t *testing.T) {
	empty, dead := rich(), rich()
	empty.Nodes, empty.Apps, empty.Conts, empty.Plans = nil, nil, nil, nil
	dead.Apps, dead.Conts = nil, nil
	for i := range dead.Nodes {
		dead.Nodes[i].Up = false
	}
	for _, q := range empty.Conf.Queues {
		for label := range 3 {
			wantEdge(t, "no nodes", empty, q.Path, label, v(0, 0))
			wantEdge(t, "no live nodes", dead, q.Path, label, v(0, 0))
		}
	}
	some := rich()
	some.Nodes = slices.Delete(some.Nodes, 2, 3)
	some.Conts = slices.DeleteFunc(some.Conts, func(c api.Cont) bool { return c.Label == 2 })
	wantSound(t, "no nodes of one label", some)
	for _, path := range []string{"root", "root.a", "root.a.y.q", "root.a-b"} {
		wantEdge(t, "no nodes of this label", some, path, 2, v(0, 0))
	}
	wantEdge(t, "nodes of another label", some, "root.a", 0, v(502, 31))
}

// A size of noughts fits wherever no more is used than there may be.
func TestP1102Noughts(t *testing.T) {
	for _, q := range rich().Conf.Queues {
		wantRoom(t, "noughts", rich(), q.Path, 0, v(0, 0), true)
		wantRoom(t, "noughts, where too much is kept", rich(), q.Path, 1, v(0, 0), false)
		wantRoom(t, "noughts", rich(), q.Path, 2, v(0, 0), true)
	}
}

// What is no queue has nothing at most, so that there is no room in it.
func TestP1102NoQueue(t *testing.T) {
	for _, path := range noQueues() {
		for label := range 3 {
			for _, size := range []api.Vec{v(1, 0), v(0, 1), v(1, 1), v(100, 10)} {
				wantRoom(t, "no queue", rich(), path, label, size, false)
			}
		}
	}
}

// A size that is no vector has no room anywhere.
func TestP1102WrongSizes(t *testing.T) {
	s := api.State{Conf: parsed(alone), Nodes: []api.Node{node(1, 0, mostPart, mostPart)}, Apps: []api.App{running(1, "root", 1)}, Conts: []api.Cont{master(1, 1, 10, 10)}}
	wantSound(t, "a great node", s)
	wantEdge(t, "a great node", s, "root", 0, v(mostPart-10, mostPart-10))
	for _, part := range []int{-1, -10, -11, -1 << 40, math.MinInt, math.MinInt + 1, mostPart + 1, 1 << 62, math.MaxInt - 10, math.MaxInt - 9, math.MaxInt} {
		for _, size := range []api.Vec{v(part, 0), v(0, part), v(part, 1), v(1, part), v(part, part)} {
			wantRoom(t, "no vector", s, "root", 0, size, false)
			for _, q := range rich().Conf.Queues {
				wantRoom(t, "no vector", rich(), q.Path, 0, size, false)
			}
			wantRoom(t, "no vector, no queue", rich(), "", 0, size, false)
			wantRoom(t, "no vector, no queue", rich(), "root.gone", 0, size, false)
		}
	}
}

// What root has may be more than the greatest vector, and is asked for exactly.
func TestP1102BeyondTheGreatestVector(t *testing.T) {
	s := api.State{Conf: parsed(alone), Nodes: []api.Node{node(1, 0, mostPart, 3), node(2, 0, mostPart, 4)}, Apps: []api.App{running(1, "root", 1)}}
	s.Conts = []api.Cont{master(1, 1, mostPart, 1), cont(2, 1, 0, mostPart-9, 2)}
	s.Conts[1].Node = 2
	wantSound(t, "two great nodes", s)
	wantRoom(t, "just as much as is left", s, "root", 0, v(9, 4), true)
	wantRoom(t, "more than is left", s, "root", 0, v(10, 4), false)
	wantRoom(t, "more than is left", s, "root", 0, v(9, 5), false)
	s.Plans = []api.Plan{plan(1, 0, 0, 9, 9, 0)}
	wantRoom(t, "nothing is left", s, "root", 0, v(0, 4), true)
	wantRoom(t, "nothing is left", s, "root", 0, v(1, 4), false)
}

// sumOfKids is what all kids of a queue use.
func sumOfKids(s api.State, path string, used func(path string) api.Vec) (sum api.Vec) {
	for _, kid := range rule.Kids(s.Conf, path) {
		a := used(kid)
		sum = v(sum.Mem+a.Mem, sum.Cores+a.Cores)
	}
	return sum
}

// checkP1103 asks for P1103 of all queues with kids, and for what follows likewise for users and for Pending.
func checkP1103(t *testing.T, s api.State) {
	t.Helper()
	for _, q := range s.Conf.Queues {
		if rule.Leaf(s.Conf, q.Path) {
			continue
		}
		for label := range s.Conf.Labels {
			sum := sumOfKids(s, q.Path, func(path string) api.Vec { return qtree.Used(s, path, label) })
			wantVec(t, "P1103: Used", q.Path, label, qtree.Used(s, q.Path, label), sum)
			sum = sumOfKids(s, q.Path, func(path string) api.Vec { return qtree.Pending(s, path, label) })
			wantVec(t, "P1101: Pending", q.Path, label, qtree.Pending(s, q.Path, label), sum)
			for _, user := range []int{0, 1, 7, 8} {
				sum = sumOfKids(s, q.Path, func(path string) api.Vec { return qtree.UserUsed(s, path, label, user) })
				wantVec(t, "P1101: UserUsed", q.Path, label, qtree.UserUsed(s, q.Path, label, user), sum)
			}
		}
	}
}

func TestP1103(t *testing.T) {
	checkP1103(t, rich())
	checkP1103(t, full())
	s := rich()
	s.Conts = slices.DeleteFunc(s.Conts, func(c api.Cont) bool { return c.Id%2 == 0 })
	checkP1103(t, s)
	if root, kids := qtree.Used(rich(), "root.a", 0), sumOfKids(rich(), "root.a", func(path string) api.Vec { return qtree.Used(rich(), path, 0) }); root != v(218, 41) || kids != root {
		t.Errorf("P1103: root.a has %v, and its kids %v", root, kids)
	}
}
