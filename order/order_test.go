package order_test

import (
	"math"
	"slices"
	"strings"
	"testing"

	"dispatch/api"
	"dispatch/apps"
	"dispatch/conf"
	"dispatch/order"
	"dispatch/rule"
)

// The numbers that the document names.
const (
	mostPart = 1 << 50 // of a vector
	mostApps = 16
	mostRows = 12 // nodes, or plans
	mostCont = 200
)

// tree is a configuration of three labels with queues of all depths, some of which have names that begin alike.
const tree = `labels gpu ssd
queue root 10000 10000/10000 10000/10000 10000/10000
queue root.a 10000 5000/6000 0/10000 10000/10000
queue root.a-b 10000 0/10000 4000/5000 0/0
queue root.a.x 10000 10000/10000 10000/10000 2000/9000
queue root.a.xy 10000 0/7000 0/10000 3000/10000
queue root.a.y 5000 0/5000 0/10000 5000/5000
queue root.a.y.p 10000 4000/8000 10000/10000 0/10000
queue root.a.y.q 10000 6000/10000 0/5000 10000/10000
queue root.ab 10000 5000/10000 6000/10000 0/10000
`

// alone is a configuration in which root has no kids, three one of three unlike leaves, odd one of thirds, and zeros one in which two leaves are guaranteed nothing.
const (
	alone = "labels\nqueue root 10000 10000/10000\n"
	three = "labels\nqueue root 10000 10000/10000\nqueue root.a 10000 2000/10000\nqueue root.b 10000 3000/10000\nqueue root.c 10000 5000/10000\n"
	odd   = "labels\nqueue root 10000 10000/10000\nqueue root.a 10000 3333/10000\nqueue root.b 10000 3333/10000\nqueue root.c 10000 3334/10000\n"
	zeros = "labels\nqueue root 10000 10000/10000\nqueue root.a 10000 0/10000\nqueue root.b 10000 10000/10000\nqueue root.c 10000 0/10000\n"
)

// parsed is the configuration of a text that is known to be one.
func parsed(text string) api.Conf {
	c, _ := conf.Parse(text)
	return c
}

func v(mem, cores int) api.Vec { return api.Vec{Mem: mem, Cores: cores} }

// node is a live one.
func node(id, label, mem, cores int) api.Node {
	return api.Node{Id: id, Label: label, Cap: v(mem, cores), Up: true}
}

// down is a node that is not live.
func down(n api.Node) api.Node {
	n.Up = false
	return n
}

func app(id, state int, queue string, prio int) api.App {
	return api.App{Id: id, State: state, Queue: queue, User: 3, Prio: prio, Master: v(1, 1)}
}

// uses lets a queue use so much of a label, on the label's node: by one more application, which has its master alone.
func uses(s api.State, queue string, label int, size api.Vec) api.State {
	id := len(s.Apps)
	s.Apps = append(slices.Clone(s.Apps), app(id, api.Running, queue, id%10))
	s.Conts = append(slices.Clone(s.Conts), api.Cont{Id: id, App: id, Node: label + 1, Size: size, Label: label, Master: true})
	return s
}

// cluster is a state with one node for each label, of 1000 and 1000.
func cluster(text string) api.State {
	s := api.State{Conf: parsed(text)}
	for label := range s.Conf.Labels {
		s.Nodes = append(s.Nodes, node(label+1, label, 1000, 1000))
	}
	return s
}

// beside lets the leaves a, b, c below root use so much of label 0.
func beside(s api.State, a, b, c api.Vec) api.State {
	return uses(uses(uses(s, "root.a", 0, a), "root.b", 0, b), "root.c", 0, c)
}

// rich is a state of tree in which all leaves use something; of each label the order is another one.
func rich() api.State {
	s := cluster(tree)
	for i, leaf := range []string{"root.a.x", "root.a.xy", "root.a.y.p", "root.a.y.q", "root.ab", "root.a-b"} {
		s = uses(s, leaf, 0, v([]int{400, 0, 3, 2, 100, 0}[i], 1))
		s = uses(s, leaf, 1, v(1, []int{5, 0, 0, 7, 300, 250}[i]))
	}
	s = uses(uses(uses(s, "root.a.y.q", 2, v(250, 2)), "root.a.xy", 2, v(3, 1)), "root.a.x", 2, v(4, 30))
	s.Apps = append(s.Apps, app(20, api.Finished, "root.gone", 9))
	s.Plans = []api.Plan{{Id: 1, From: 0, Until: 9, Need: v(100, 100)}}
	return s
}

// wantSound asks for what chapter 19 says of a state.
func wantSound(t *testing.T, what string, s api.State) {
	t.Helper()
	if e := rule.Check(s.Conf); e != api.OK || len(s.Nodes) > mostRows || len(s.Plans) > mostRows || len(s.Apps) > mostApps || len(s.Conts) > mostCont {
		t.Errorf("%s: %v, or lists that are too long", what, e)
	}
	nodes, used, masters, all := map[int]api.Node{}, map[int]api.Vec{}, map[int]int{}, map[int]int{}
	for _, n := range s.Nodes {
		nodes[n.Id] = n
	}
	for i, c := range s.Conts {
		n := nodes[c.Node]
		used[c.Node] = v(used[c.Node].Mem+c.Size.Mem, used[c.Node].Cores+c.Size.Cores)
		if all[c.App]++; c.Master {
			masters[c.App]++
		}
		if !n.Up || n.Label != c.Label || used[c.Node].Mem > n.Cap.Mem || used[c.Node].Cores > n.Cap.Cores || i > 0 && s.Conts[i-1].Id >= c.Id {
			t.Errorf("%s: container %+v on node %+v", what, c, n)
		}
	}
	for i, a := range s.Apps {
		live := a.State == api.Waiting || a.State == api.Running
		if live && !rule.Leaf(s.Conf, a.Queue) || a.State == api.Running && masters[a.Id] != 1 || a.State != api.Running && all[a.Id] != 0 || i > 0 && s.Apps[i-1].Id >= a.Id {
			t.Errorf("%s: application %+v has %d masters, %d containers", what, a, masters[a.Id], all[a.Id])
		}
		delete(all, a.Id)
	}
	if len(all) > 0 {
		t.Errorf("%s: containers of no application: %v", what, all)
	}
}

func TestTheStatesAreSound(t *testing.T) {
	for _, text := range []string{tree, alone, three, odd, zeros} {
		wantSound(t, "without nodes", api.State{Conf: parsed(text)})
		wantSound(t, "without applications", cluster(text))
	}
	wantSound(t, "rich", rich())
}

func wantKids(t *testing.T, what string, s api.State, path string, label int, want ...string) {
	t.Helper()
	if got := order.Kids(s, path, label); !slices.Equal(got, want) {
		t.Errorf("P1201: %s: Kids of %q, label %d: %q; want %q", what, path, label, got, want)
	}
}

func wantLeaves(t *testing.T, what string, s api.State, label int, want ...string) {
	t.Helper()
	if got := order.Leaves(s, label); !slices.Equal(got, want) {
		t.Errorf("P1201: %s: Leaves of label %d: %q; want %q", what, label, got, want)
	}
}

func wantApps(t *testing.T, what string, s api.State, queue string, want ...int) {
	t.Helper()
	if got := order.Apps(s, queue); !slices.Equal(got, want) {
		t.Errorf("P1202: %s: Apps of %q: %v; want %v", what, queue, got, want)
	}
}

// spelt are the paths of kids of root by the ends of their names.
func spelt(ends string) (l []string) {
	for _, end := range ends {
		l = append(l, "root."+string(end))
	}
	return l
}

// wantBeside asks for the order of root's kids, which are leaves.
func wantBeside(t *testing.T, what string, s api.State, want string) {
	t.Helper()
	wantSound(t, what, s)
	wantKids(t, what, s, "root", 0, spelt(want)...)
	wantLeaves(t, what, s, 0, spelt(want)...)
}

// Kids that use nothing are in the order of their paths, whatever is guaranteed to them.
func TestP1201NothingUsed(t *testing.T) {
	gone := cluster(tree)
	for i := range gone.Nodes {
		gone.Nodes[i].Up = false
	}
	for _, s := range []api.State{{Conf: parsed(tree)}, cluster(tree), gone} {
		for _, label := range []int{0, 1, 2, 3, 4, -1, math.MaxInt, math.MinInt} {
			wantKids(t, "nothing is used", s, "root", label, "root.a", "root.a-b", "root.ab")
			wantKids(t, "nothing is used", s, "root.a", label, "root.a.x", "root.a.xy", "root.a.y")
			wantKids(t, "nothing is used", s, "root.a.y", label, "root.a.y.p", "root.a.y.q")
			wantLeaves(t, "nothing is used", s, label, "root.a.x", "root.a.xy", "root.a.y.p", "root.a.y.q", "root.a-b", "root.ab")
		}
	}
}

// A leaf has no kids, and root may be one.
func TestP1201Leaf(t *testing.T) {
	for label := range 4 {
		for _, leaf := range []string{"root.a-b", "root.a.x", "root.a.xy", "root.a.y.p", "root.a.y.q", "root.ab"} {
			wantKids(t, "a leaf", rich(), leaf, label)
			wantKids(t, "a leaf that uses nothing", cluster(tree), leaf, label)
		}
		for _, s := range []api.State{{Conf: parsed(alone)}, cluster(alone), uses(cluster(alone), "root", 0, v(5, 5))} {
			wantSound(t, "root alone", s)
			wantKids(t, "root alone", s, "root", label)
			wantLeaves(t, "root alone", s, label, "root")
		}
	}
}

// noQueues are paths, and strings that are none, which are not the Path of a queue of tree.
func noQueues() []string {
	return []string{
		"", ".", "..", " ", "a", "x", "a.x", ".a", "Root", "roo", "roots", "root.", "root..", ".root", "root ", " root", "root\x00", "root..a", "root.A", "root.b", "root.x", "root.a.", "root.a.z", "root.a-", "root.a-b.", "root.a-b.x", "root.abc",
		"root.a.x.", "root.a.x.y", "root.a.xyz", "root.a.y.", "root.a.y.p.", "root.a.y.p.q", "root.a.y.r", "root.a.y.pq", "root.ab.x", "root.gone", "\xff", "root.\u00e9", "root.root", strings.Repeat("root.", 1<<12), strings.Repeat(".", 1<<12), "root" + strings.Repeat(".a", 1<<12),
	}
}

func TestP1201P1202NoQueue(t *testing.T) {
	for _, path := range noQueues() {
		for label := range 4 {
			wantKids(t, "no queue", rich(), path, label)
			wantKids(t, "no queue", cluster(alone), path, label)
		}
		wantApps(t, "no queue", rich(), path)
		wantApps(t, "no queue", cluster(alone), path)
	}
}

// What a queue uses is taken as a part of its guarantee; root.a has 200 of it, root.b 300 and root.c 500.
func TestP1201PartsOfGuarantees(t *testing.T) {
	for _, x := range []struct {
		a, b, c int
		want    string
	}{
		{0, 0, 0, "abc"}, {1, 0, 0, "bca"}, {0, 1, 0, "acb"}, {0, 0, 1, "abc"}, {1, 1, 0, "cba"}, {1, 0, 1, "bca"}, {0, 1, 1, "acb"}, {1, 1, 1, "cba"},
		{2, 3, 5, "abc"}, {3, 3, 5, "bca"}, {2, 4, 5, "acb"}, {2, 3, 6, "abc"}, {2, 2, 5, "bac"}, {2, 3, 4, "cab"}, {2, 2, 4, "bca"}, {1, 3, 5, "abc"}, {1, 2, 5, "abc"}, {2, 4, 6, "acb"}, {3, 4, 5, "cba"},
		{200, 300, 500, "abc"}, {200, 299, 500, "bac"}, {200, 300, 499, "cab"}, {199, 300, 500, "abc"}, {199, 299, 499, "abc"}, {201, 300, 499, "cba"}, {199, 301, 500, "acb"}, {20, 15, 25, "bca"},
		{100, 150, 249, "cab"}, {100, 150, 251, "abc"}, {100, 151, 250, "acb"}, {99, 150, 249, "acb"}, {101, 151, 251, "cba"}, {400, 0, 500, "bca"}, {1000, 0, 0, "bca"}, {0, 1000, 0, "acb"}, {0, 0, 1000, "abc"}, {300, 301, 399, "cba"},
	} {
		for _, s := range []api.State{
			beside(cluster(three), v(x.a, x.a), v(x.b, x.b), v(x.c, x.c)), beside(cluster(three), v(x.a, 0), v(x.b, 0), v(x.c, 0)), beside(cluster(three), v(0, x.a), v(0, x.b), v(0, x.c)),
			beside(cluster(three), v(x.a, x.a/2), v(x.b, x.b/2), v(x.c, x.c/2)), beside(cluster(three), v(x.a/3, x.a), v(x.b/3, x.b), v(x.c/3, x.c)),
			beside(cluster(three), v(x.a, 0), v(0, x.b), v(x.c, 0)), beside(cluster(three), v(0, x.a), v(x.b, x.b), v(x.c, 0)),
		} {
			wantBeside(t, "parts of guarantees", s, x.want)
		}
	}
}

// It is the greater one of the parts of Mem and Cores that counts, not their sum and not the lesser one.
func TestP1201GreaterPart(t *testing.T) {
	for _, x := range []struct {
		a, b, c api.Vec
		want    string
	}{
		{v(100, 0), v(149, 149), v(250, 250), "bac"}, {v(100, 0), v(0, 150), v(250, 250), "abc"}, {v(100, 1), v(2, 149), v(3, 248), "cba"}, {v(100, 100), v(150, 0), v(249, 249), "cab"}, {v(101, 0), v(150, 150), v(250, 250), "bca"},
		{v(1, 60), v(60, 89), v(149, 100), "bca"}, {v(60, 1), v(90, 60), v(1, 149), "cab"}, {v(20, 20), v(30, 29), v(50, 49), "abc"}, {v(20, 21), v(30, 30), v(50, 50), "bca"}, {v(21, 20), v(30, 30), v(50, 50), "bca"}, {v(20, 20), v(31, 30), v(50, 50), "acb"}, {v(20, 20), v(30, 31), v(50, 50), "acb"},
	} {
		wantBeside(t, "the greater part", beside(cluster(three), x.a, x.b, x.c), x.want)
	}
}

// Of a node with unlike Mem and Cores each one has its own guarantee: of (1000, 20) root.a has (200, 4), root.b (300, 6) and root.c (500, 10).
func TestP1201UnlikeMemAndCores(t *testing.T) {
	for _, x := range []struct {
		a, b, c api.Vec
		want    string
	}{
		{v(50, 1), v(75, 1), v(124, 2), "cab"}, {v(51, 1), v(75, 1), v(125, 2), "bca"}, {v(0, 1), v(75, 0), v(125, 2), "abc"}, {v(0, 1), v(74, 1), v(125, 3), "bac"}, {v(199, 0), v(1, 6), v(1, 9), "cab"}, {v(0, 4), v(299, 1), v(499, 1), "bca"},
	} {
		s := cluster(three)
		s.Nodes[0].Cap = v(1000, 20)
		wantBeside(t, "unlike Mem and Cores", beside(s, x.a, x.b, x.c), x.want)
	}
}

// A queue whose guarantee is nought comes last as soon as it uses something, and first as long as it uses nothing.
func TestP1201NoughtsOfGuarantees(t *testing.T) {
	for _, x := range []struct {
		a, b, c api.Vec
		want    string
	}{
		{v(0, 0), v(0, 0), v(0, 0), "abc"}, {v(1, 0), v(0, 0), v(0, 0), "bca"}, {v(0, 1), v(0, 0), v(0, 0), "bca"}, {v(0, 0), v(1, 1), v(0, 0), "acb"}, {v(0, 0), v(0, 0), v(0, 1), "abc"},
		{v(1, 0), v(999, 1000), v(0, 0), "cba"}, {v(0, 0), v(900, 900), v(1, 0), "abc"}, {v(1, 1), v(998, 998), v(1, 1), "bac"}, {v(900, 900), v(0, 0), v(1, 0), "bac"}, {v(0, 1), v(0, 0), v(900, 900), "bac"}, {v(500, 500), v(1, 0), v(0, 500), "bac"},
	} {
		wantBeside(t, "a guarantee of nought", beside(cluster(zeros), x.a, x.b, x.c), x.want)
	}
}

// A guarantee may be rounded down to nought, also in one component alone.
func TestP1201GuaranteesRoundedDown(t *testing.T) {
	for _, x := range []struct {
		cap, a, b, c api.Vec
		want         string
	}{
		{v(4, 4), v(1, 0), v(1, 0), v(2, 2), "bca"}, {v(4, 4), v(1, 0), v(0, 0), v(2, 2), "bca"}, {v(5, 5), v(1, 1), v(1, 1), v(2, 2), "abc"}, {v(100, 4), v(20, 0), v(0, 1), v(60, 2), "abc"}, {v(100, 4), v(0, 1), v(40, 0), v(60, 2), "cba"}, {v(100, 4), v(19, 1), v(30, 1), v(51, 2), "bca"},
		{v(4, 100), v(1, 0), v(0, 40), v(2, 60), "cba"}, {v(1, 1), v(1, 0), v(0, 1), v(0, 0), "cab"}, {v(1, 1), v(0, 0), v(0, 0), v(1, 1), "abc"}, {v(9, 9), v(2, 2), v(4, 4), v(3, 3), "cab"}, {v(19, 19), v(3, 3), v(5, 5), v(9, 9), "abc"}, {v(19, 19), v(3, 3), v(4, 4), v(8, 8), "bca"},
	} {
		s := cluster(three)
		s.Nodes[0].Cap = x.cap
		wantBeside(t, "guarantees rounded down", beside(s, x.a, x.b, x.c), x.want)
	}
}

// Parts may differ by one part of as many as there may be; they are told apart exactly. In odd root.c is guaranteed one basis point more than root.a and root.b.
func TestP1201ExactParts(t *testing.T) {
	s := cluster(odd)
	s.Nodes[0].Cap = v(mostPart, mostPart)
	least := func(bp int) int { return mostPart/10000*bp + mostPart%10000*bp/10000 }
	a, c := least(3333), least(3334)
	for _, x := range []struct {
		a, b, c int
		want    string
	}{
		{a, a, c, "abc"}, {a, a - 1, c, "bac"}, {a - 1, a, c, "abc"}, {a, a, c - 1, "cab"}, {a - 1, a - 1, c - 1, "abc"}, {a, a - 1, c - 1, "bca"}, {a + 1, a, c + 1, "bca"}, {a + 1, a, c, "bca"}, {1, 1, 1, "cab"}, {0, 1, 1, "acb"}, {mostPart/3 - 1, mostPart / 3, mostPart / 3, "cab"}, {a - 1, a - 2, c - 2, "bca"},
	} {
		wantBeside(t, "exact parts", beside(s, v(x.a, 0), v(x.b, 0), v(x.c, 0)), x.want)
		wantBeside(t, "exact parts", beside(s, v(x.a/2, x.a), v(x.b/3, x.b), v(0, x.c)), x.want)
	}
}

// What a queue uses is what all containers of all its applications have, in all leaves below it.
func TestP1201UsedBelow(t *testing.T) {
	s := cluster(tree)
	for _, x := range []struct {
		leaf         string
		size         api.Vec
		first, below []string
		leaves       []string
	}{
		{"root.ab", v(3, 3), []string{"root.a", "root.a-b", "root.ab"}, []string{"root.a.x", "root.a.xy", "root.a.y"}, []string{"root.a.x", "root.a.xy", "root.a.y.p", "root.a.y.q", "root.a-b", "root.ab"}},
		{"root.a.x", v(2, 2), []string{"root.a-b", "root.a", "root.ab"}, []string{"root.a.xy", "root.a.y", "root.a.x"}, []string{"root.a-b", "root.a.xy", "root.a.y.p", "root.a.y.q", "root.a.x", "root.ab"}},
		{"root.a.xy", v(1, 1), []string{"root.a-b", "root.a", "root.ab"}, []string{"root.a.y", "root.a.x", "root.a.xy"}, []string{"root.a-b", "root.a.y.p", "root.a.y.q", "root.a.x", "root.a.xy", "root.ab"}},
		{"root.a.y.p", v(0, 1), []string{"root.a-b", "root.ab", "root.a"}, []string{"root.a.x", "root.a.xy", "root.a.y"}, []string{"root.a-b", "root.ab", "root.a.x", "root.a.xy", "root.a.y.q", "root.a.y.p"}},
		{"root.a.y.q", v(1, 0), []string{"root.a-b", "root.ab", "root.a"}, []string{"root.a.x", "root.a.xy", "root.a.y"}, []string{"root.a-b", "root.ab", "root.a.x", "root.a.xy", "root.a.y.p", "root.a.y.q"}},
		{"root.a-b", v(1, 0), []string{"root.ab", "root.a", "root.a-b"}, []string{"root.a.x", "root.a.xy", "root.a.y"}, []string{"root.ab", "root.a.x", "root.a.xy", "root.a.y.p", "root.a.y.q", "root.a-b"}},
		{"root.a.y.q", v(1, 1), []string{"root.ab", "root.a", "root.a-b"}, []string{"root.a.x", "root.a.xy", "root.a.y"}, []string{"root.ab", "root.a.x", "root.a.xy", "root.a.y.p", "root.a.y.q", "root.a-b"}},
	} {
		s = uses(s, x.leaf, 0, x.size)
		wantSound(t, x.leaf, s)
		wantKids(t, "and so much in "+x.leaf, s, "root", 0, x.first...)
		wantKids(t, "and so much in "+x.leaf, s, "root.a", 0, x.below...)
		wantLeaves(t, "and so much in "+x.leaf, s, 0, x.leaves...)
	}
}

// Each label has its own order, also below.
func TestP1201Labels(t *testing.T) {
	s := rich()
	wantKids(t, "rich", s, "root", 0, "root.ab", "root.a", "root.a-b")
	wantKids(t, "rich", s, "root", 1, "root.ab", "root.a-b", "root.a")
	wantKids(t, "rich", s, "root", 2, "root.a-b", "root.ab", "root.a")
	wantKids(t, "rich", s, "root.a", 0, "root.a.x", "root.a.xy", "root.a.y")
	wantKids(t, "rich", s, "root.a", 2, "root.a.xy", "root.a.x", "root.a.y")
	wantKids(t, "rich", s, "root.a.y", 2, "root.a.y.p", "root.a.y.q")
	wantLeaves(t, "rich", s, 0, "root.ab", "root.a.x", "root.a.xy", "root.a.y.p", "root.a.y.q", "root.a-b")
	wantLeaves(t, "rich", s, 1, "root.ab", "root.a-b", "root.a.x", "root.a.xy", "root.a.y.p", "root.a.y.q")
	wantLeaves(t, "rich", s, 2, "root.a-b", "root.ab", "root.a.xy", "root.a.x", "root.a.y.p", "root.a.y.q")
	for _, label := range []int{3, 4, -1, math.MaxInt, math.MinInt} {
		wantKids(t, "no label", s, "root", label, "root.a", "root.a-b", "root.ab")
		wantLeaves(t, "no label", s, label, "root.a.x", "root.a.xy", "root.a.y.p", "root.a.y.q", "root.a-b", "root.ab")
	}
}

// What is used of one label moves nothing of another one, and one whose nodes are gone is used by nobody.
func TestP1201LabelsApart(t *testing.T) {
	s := api.State{Conf: parsed("labels gpu ssd\nqueue root 10000 10000/10000 10000/10000 10000/10000\nqueue root.a 1 5000/10000 1000/10000 5000/10000\nqueue root.b 1 5000/10000 9000/10000 5000/10000\n")}
	s.Nodes = []api.Node{node(1, 0, 100, 100), node(2, 1, 100, 100), down(node(3, 2, 100, 100)), down(node(4, 0, 100, 100))}
	s = uses(uses(uses(s, "root.a", 0, v(10, 10)), "root.b", 1, v(20, 20)), "root.a", 1, v(3, 3))
	wantSound(t, "labels apart", s)
	for label, want := range map[int]string{0: "ba", 1: "ba", 2: "ab", 3: "ab"} {
		wantKids(t, "labels apart", s, "root", label, spelt(want)...)
	}
	s.Conts[2].Size = v(2, 2)
	for label, want := range map[int]string{0: "ba", 1: "ab", 2: "ab", 3: "ab"} {
		wantKids(t, "labels apart", s, "root", label, spelt(want)...)
	}
}

// Nothing but containers and guarantees has a say in the order: not what is wanted, kept free, or allowed at most, nor who is urgent.
func TestP1201WhatHasNoSay(t *testing.T) {
	s := beside(cluster(three), v(30, 30), v(30, 30), v(20, 20))
	wantBeside(t, "as it is", s, "cba")
	for i := range s.Apps {
		s.Apps[i].Prio, s.Apps[i].User = 9-3*i, i
		s.Apps[i].Asks = []api.Ask{{Prio: 1, Size: v(500, 500), Count: 1 + 20*i, Node: -1, Rack: -1}}
		s.Conts[i].Notice, s.Conts[i].Prio = 1, 9-i
		s.Conf.Queues[1+i].User, s.Conf.Queues[1+i].Caps[0].Most = 1+i, 9999-1000*i
	}
	s.Apps = append(s.Apps, app(5, api.Waiting, "root.c", 9), app(6, api.Finished, "root.c", 9), app(7, api.Killed, "root.c", 9))
	s.Plans, s.Now = []api.Plan{{Id: 1, From: 0, Until: 99, Need: v(900, 900)}}, 5
	s.Slots = []api.Slot{{Node: 1, App: 2, Prio: 1}}
	wantBeside(t, "with much beside", s, "cba")
}

// A queue may have as many kids as there may be queues beside root, and come in any order. Those of root.a are taken as parts of a greater guarantee.
func TestP1201ManyKids(t *testing.T) {
	text := "labels\nqueue root 10000 10000/10000\nqueue root.a 10000 1600/10000\n"
	for i := range 14 {
		text += "queue root." + string(rune('b'+i)) + " 10000 600/10000\n"
	}
	s := cluster(text)
	s.Nodes[0].Cap = v(10000, 10000)
	for i, size := range []int{16, 3, 0, 9, 3, 14, 2, 11, 0, 5, 8, 1, 7, 4, 2} {
		s = uses(s, "root."+string(rune('a'+i)), 0, v(size, 0))
	}
	wantBeside(t, "many kids", s, "cilgobenjamkdhf")
}

// permuted is all orders of a list.
func permuted[T any](l []T) (all [][]T) {
	if len(l) == 0 {
		return [][]T{nil}
	}
	for i, first := range l {
		for _, rest := range permuted(slices.Concat(l[:i], l[i+1:])) {
			all = append(all, append([]T{first}, rest...))
		}
	}
	return all
}

// submitted is a state to which applications were submitted, one after the other.
func submitted(t *testing.T, s api.State, l []api.App) api.State {
	t.Helper()
	for _, a := range l {
		var e api.Errno
		if s, e = apps.Submit(s, a); e != api.OK {
			t.Fatalf("%+v: %v", a, e)
		}
	}
	return s
}

// Whatever the order in which they are submitted, the greater Prio comes first, and of equal ones the lesser Id.
func TestP1202SubmittedInAnyOrder(t *testing.T) {
	for _, x := range []struct {
		prios []int // by Ids from 5 on
		want  []int
	}{
		{[]int{0, 0, 0, 0, 0}, []int{5, 6, 7, 8, 9}}, {[]int{9, 9, 9, 9, 9}, []int{5, 6, 7, 8, 9}}, {[]int{0, 1, 2, 3, 4}, []int{9, 8, 7, 6, 5}}, {[]int{9, 8, 7, 6, 5}, []int{5, 6, 7, 8, 9}}, {[]int{3, 9, 3, 0, 9}, []int{6, 9, 5, 7, 8}}, {[]int{1, 0, 1, 0, 1}, []int{5, 7, 9, 6, 8}}, {[]int{0, 9}, []int{6, 5}}, {[]int{4}, []int{5}}, {nil, nil},
	} {
		var l []api.App
		for i, prio := range x.prios {
			l = append(l, app(5+i, 0, "root.a", prio))
		}
		for _, some := range permuted(l) {
			s := submitted(t, cluster(three), some)
			wantSound(t, "submitted", s)
			wantApps(t, "submitted", s, "root.a", x.want...)
			wantApps(t, "submitted to another leaf", s, "root.b")
		}
	}
}

// Ids are compared as numbers, from the least to the greatest that there may be.
func TestP1202Ids(t *testing.T) {
	var l []api.App
	for _, id := range []int{1000, 9999, 10, 0, 9, 2, 100, 1} {
		l = append(l, app(id, 0, "root", 5))
	}
	l = append(l, app(9998, 0, "root", 6), app(3, 0, "root", 4))
	wantApps(t, "Ids", submitted(t, cluster(alone), l), "root", 9998, 0, 1, 2, 9, 10, 100, 1000, 9999, 3)
}

// An application counts as long as it waits or runs.
func TestP1202Live(t *testing.T) {
	for state, live := range map[int]bool{api.Waiting: true, api.Running: true, api.Finished: false, api.Killed: false, 0: false, 5: false, -1: false, math.MaxInt: false, math.MinInt: false} {
		s := cluster(three)
		s.Apps = []api.App{app(1, api.Running, "root.b", 4), app(2, state, "root.b", 9), app(3, state, "root.b", 4), app(4, api.Waiting, "root.b", 4), app(5, state, "root.b", 0)}
		want := []int{1, 4}
		if live {
			want = []int{2, 1, 3, 4, 5}
		}
		wantApps(t, "a state", s, "root.b", want...)
	}
}

// One that ends is not told any more; one that loses its master is, as it starts again.
func TestP1202EndAndLose(t *testing.T) {
	s := submitted(t, cluster(three), []api.App{app(1, 0, "root.a", 1), app(2, 0, "root.a", 2)})
	s = uses(s, "root.a", 0, v(1, 1))
	s.Apps[2].Id, s.Apps[2].Prio, s.Conts[0].App = 3, 3, 3
	wantSound(t, "two that wait and one that runs", s)
	wantApps(t, "two that wait and one that runs", s, "root.a", 3, 2, 1)
	s = apps.Lose(s, []int{s.Conts[0].Id})
	wantApps(t, "three that wait", s, "root.a", 3, 2, 1)
	s, _ = apps.End(s, 2, api.Killed)
	wantApps(t, "one is killed", s, "root.a", 3, 1)
	s, _ = apps.End(s, 3, api.Finished)
	wantApps(t, "one is done", s, "root.a", 1)
	s, _ = apps.End(s, 1, api.Finished)
	wantApps(t, "all are over", s, "root.a")
}

// Each leaf has its own applications; a queue that is no leaf has none, and no leaf has those of one whose path begins or ends like its own.
func TestP1202Leaves(t *testing.T) {
	s := cluster(tree)
	for i, leaf := range []string{"root.ab", "root.a.xy", "root.a-b", "root.a.y.p", "root.a.x", "root.a.y.q", "root.a.x", "root.ab", "root.a.y.p"} {
		s = submitted(t, s, []api.App{app(i, 0, leaf, i/3)})
	}
	s.Apps = append(s.Apps, app(20, api.Finished, "root.gone", 9), app(21, api.Killed, "root.a", 9), app(22, api.Finished, "root.a.x", 9), app(23, api.Finished, "root", 9))
	wantSound(t, "leaves", s)
	for leaf, want := range map[string][]int{"root.ab": {7, 0}, "root.a.xy": {1}, "root.a-b": {2}, "root.a.y.p": {8, 3}, "root.a.x": {6, 4}, "root.a.y.q": {5}, "root": nil, "root.a": nil, "root.a.y": nil, "root.gone": nil} {
		wantApps(t, "leaves", s, leaf, want...)
	}
	for _, q := range s.Conf.Queues {
		wantApps(t, "no applications", cluster(tree), q.Path)
	}
}

// What is no leaf has no applications, even if some say that it is theirs.
func TestP1202NoLeafThatIsNamed(t *testing.T) {
	for _, queue := range []string{"root", "root.a", "root.a.y", "root.gone", "root.a.x.y", "", "a", ".", "root.a.x."} {
		s := rich()
		for i := range s.Apps {
			s.Apps[i].Queue = queue
		}
		wantApps(t, "no leaf", s, queue)
		wantApps(t, "no leaf", s, "root.a.x")
	}
}

// Nothing but Prio and Id has a say among the applications of a leaf: not what they use, want or were told, nor who waits.
func TestP1202WhatHasNoSay(t *testing.T) {
	s := uses(uses(uses(cluster(three), "root.a", 0, v(900, 900)), "root.a", 0, v(1, 1)), "root.a", 0, v(50, 50))
	s.Apps = append(s.Apps, app(3, api.Waiting, "root.a", 1), app(4, api.Waiting, "root.a", 9))
	for i, prio := range []int{1, 2, 1, 1, 2} {
		a := &s.Apps[i]
		a.Prio, a.User, a.Seen, a.Beat, a.Grants, a.Kills = prio, 9-i, 50-i, i, []int{i}, []int{9 - i}
		a.Asks = []api.Ask{{Prio: 9 - i, Size: v(10*i, 1), Count: 1 + i, Node: -1, Rack: -1, Missed: i}}
	}
	s.Slots, s.Now = []api.Slot{{Node: 1, App: 2, Prio: 7}}, 60
	wantSound(t, "with much beside", s)
	wantApps(t, "with much beside", s, "root.a", 1, 4, 0, 2, 3)
}

// As many applications as there may be.
func TestP1202ManyApplications(t *testing.T) {
	var l []api.App
	for i, prio := range []int{3, 1, 4, 1, 5, 9, 2, 6, 5, 3, 5, 8, 9, 7, 9, 3} {
		l = append(l, app(100-i, 0, "root", prio))
	}
	s := submitted(t, cluster(alone), l)
	wantSound(t, "many applications", s)
	wantApps(t, "many applications", s, "root", 86, 88, 95, 89, 87, 93, 90, 92, 96, 98, 85, 91, 100, 94, 97, 99)
}

// checkP1203 asks whether each leaf occurs once, and nothing else.
func checkP1203(t *testing.T, s api.State, label int) {
	t.Helper()
	var want []string
	for _, q := range s.Conf.Queues {
		if rule.Leaf(s.Conf, q.Path) {
			want = append(want, q.Path)
		}
	}
	got := order.Leaves(s, label)
	if slices.Sort(got); !slices.Equal(got, want) {
		t.Errorf("P1203: the leaves of label %d are %q; want %q", label, got, want)
	}
}

// Each leaf occurs once, whatever is used, also in deep and in broad trees, and below queues of which one is named like the other.
func TestP1203(t *testing.T) {
	deep := "labels\nqueue root 1 10000/10000\nqueue root.root 1 10000/10000\nqueue root.root.root 1 10000/10000\nqueue root.root.root.root 1 10000/10000\n"
	alike := "labels\nqueue root 1 10000/10000\nqueue root.a 1 5000/10000\nqueue root.a-a 1 0/10000\nqueue root.a.a 1 10000/10000\nqueue root.a.a.a 1 5000/10000\nqueue root.a.a.aa 1 5000/10000\nqueue root.aa 1 5000/10000\nqueue root.aa.a 1 10000/10000\nqueue root.aa.a.a 1 10000/10000\n"
	for _, text := range []string{tree, alone, three, odd, zeros, deep, alike} {
		s := cluster(text)
		checkP1203(t, s, 0)
		for i, q := range s.Conf.Queues {
			if rule.Leaf(s.Conf, q.Path) {
				s = uses(s, q.Path, 0, v(3*i%7, i%3))
				wantSound(t, text, s)
				checkP1203(t, s, 0)
				checkP1203(t, s, 1)
			}
		}
	}
	for label := range 4 {
		checkP1203(t, rich(), label)
	}
}
