package order_test

import (
	"math"
	"reflect"
	"slices"
	"strings"
	"testing"

	"dispatch/api"
	"dispatch/order"
)

// guarded copies a list, with room behind it in which something stands, so that a write into it can be told; wide is the list with this room.
func guarded[T any](l []T, guard T) []T { return append(slices.Clone(l), guard, guard)[:len(l)] }

func wide[T any](l []T) []T { return l[:cap(l)] }

// roomy copies a state with room behind each list.
func roomy(s api.State) api.State {
	s.Conf.Labels, s.Conf.Queues = guarded(s.Conf.Labels, "guard"), guarded(s.Conf.Queues, api.Queue{User: 77})
	for i, q := range s.Conf.Queues {
		s.Conf.Queues[i].Caps = guarded(q.Caps, api.Cap{Least: 77})
	}
	s.Nodes, s.Apps, s.Conts = guarded(s.Nodes, node(77, 0, 7, 7)), guarded(s.Apps, app(77, api.Running, "root", 7)), guarded(s.Conts, api.Cont{Id: 77})
	for i, a := range s.Apps {
		a.Asks, a.Grants, a.Kills, a.Told, a.Lost = guarded(a.Asks, api.Ask{Count: 7}), guarded(a.Grants, 77), guarded(a.Kills, 77), guarded(a.Told, 77), guarded(a.Lost, 77)
		s.Apps[i] = a
	}
	s.Slots, s.Plans = guarded(s.Slots, api.Slot{App: 77}), guarded(s.Plans, api.Plan{Id: 77})
	return s
}

// all is a state, and its lists with the room behind them.
func all(s api.State) []any {
	l := []any{s, wide(s.Conf.Labels), wide(s.Conf.Queues), wide(s.Nodes), wide(s.Apps), wide(s.Conts), wide(s.Slots), wide(s.Plans)}
	for _, q := range s.Conf.Queues {
		l = append(l, wide(q.Caps))
	}
	for _, a := range s.Apps {
		l = append(l, wide(a.Asks), wide(a.Grants), wide(a.Kills), wide(a.Told), wide(a.Lost))
	}
	return l
}

// answers is what all functions tell.
type answers struct {
	kids, leaves []string
	apps         []int
}

func askAll(s api.State, path string, label int) answers {
	return answers{kids: order.Kids(s, path, label), leaves: order.Leaves(s, label), apps: order.Apps(s, path)}
}

// equal takes nil and empty lists as equal.
func (a answers) equal(b answers) bool {
	return slices.Equal(a.kids, b.kids) && slices.Equal(a.leaves, b.leaves) && slices.Equal(a.apps, b.apps)
}

// copied is what was told, in memory of the test's own.
func (a answers) copied() answers {
	return answers{kids: slices.Clone(a.kids), leaves: slices.Clone(a.leaves), apps: slices.Clone(a.apps)}
}

// spoil writes over all that was told, and the room behind it.
func (a answers) spoil() {
	for _, l := range [][]string{wide(a.kids), wide(a.leaves)} {
		for i := range l {
			l[i] = "spoilt"
		}
	}
	for i := range wide(a.apps) {
		wide(a.apps)[i] = -7
	}
}

// wildConfs are configurations that rule.Check refuses, beside some that it accepts.
func wildConfs() []api.Conf {
	least, most := math.MinInt, math.MaxInt
	queue := func(path string, least, most int) api.Queue {
		return api.Queue{Path: path, Caps: []api.Cap{{Least: least, Most: most}}, User: most}
	}
	broad := api.Conf{Labels: []string{""}, Queues: []api.Queue{queue("root", 10000, 10000)}}
	for i := range 60 {
		broad.Queues = append(broad.Queues, queue("root."+strings.Repeat("a", 59-i), 5000, 10000))
	}
	return []api.Conf{
		parsed(tree), parsed(alone), broad, {Labels: []string{"", "", ""}}, {Queues: []api.Queue{{}}}, {Queues: []api.Queue{queue("", 1, 1), queue(".", 1, 1), queue("..", 1, 1), queue(".a", 1, 1)}}, {Queues: []api.Queue{{Path: "root"}, {Path: "root.a"}, {Path: "root.a.x"}}},
		{Queues: []api.Queue{queue("root.a", 1, 1), queue("root.a", 1, 1)}}, {Queues: []api.Queue{queue("root", most, most), queue("root.a", least, least), queue("root.a.x", -1, -1)}}, {Queues: make([]api.Queue, 300)}, {Queues: []api.Queue{queue("root", 10000, 10000), queue("root"+strings.Repeat(".a", 1<<10), 1, 10000)}},
	}
}

// wild are states that are not sound, for which only P1 to P3 hold, beside some that are.
func wild() []api.State {
	least, most := math.MinInt, math.MaxInt
	loose := api.State{
		Nodes: []api.Node{node(1, 0, most, most), node(1, 0, most, least), node(-1, 0, -1, -1), node(2, -1, 1, 1), node(least, most, most, most), {}},
		Apps:  []api.App{app(1, api.Running, "", least), app(1, api.Running, "root.a", most), app(-1, api.Waiting, "root.a.x", 7), app(2, most, "..", 0), app(3, api.Running, "root"+strings.Repeat(".a", 1<<10), 7), app(4, api.Running, "root.a.y.p", least), app(least, api.Running, "root.a.y.p", most), app(most, api.Running, "root.a.y.p", most), app(1, api.Waiting, "root.a.y.p", least), {}},
		Conts: []api.Cont{{Id: 1, App: 1, Size: v(most, most)}, {Id: 1, App: 1, Size: v(most, least)}, {Id: 2, App: 2, Label: least, Size: v(1, 1)}, {Id: 3, App: 77, Size: v(1, 1)}, {Id: -1, App: -1, Node: -1, Label: -1, Size: v(-1, -1)}, {Id: 4, App: 4, Size: v(least, least)}, {}},
		Now:   least,
	}
	l := []api.State{{}, rich(), loose, manifold()}
	for _, c := range wildConfs() {
		loose.Conf = c
		strange, mixed := rich(), rich()
		strange.Conf, mixed.Conf = c, c
		for i := range mixed.Apps {
			mixed.Apps[i].Queue = append(c.Queues, api.Queue{})[7*i%(len(c.Queues)+1)].Path
		}
		for i := range mixed.Conts {
			mixed.Conts[i].Size = v([]int{0, mostPart + 1, 1, -1, 5, most}[i%6], i%3)
		}
		l = append(l, loose, strange, mixed)
	}
	return l
}

// manifold has queues thrice, one below the other, with uses beyond all bounds between them: if each one were gone through as often as it is there, there would be a power of three of leaves.
func manifold() api.State {
	s := api.State{Conf: api.Conf{Labels: []string{""}}}
	queue := func(path string) api.Queue {
		return api.Queue{Path: path, Caps: []api.Cap{{Least: 10000, Most: 10000}}, User: 1}
	}
	for i := range 8 {
		path := "root" + strings.Repeat(".a", i)
		for _, name := range []string{".a", ".b", ".a", ".c", ".a"} {
			s.Conf.Queues = append(s.Conf.Queues, queue(path+name))
		}
		s.Apps = append(s.Apps, app(i, api.Running, path+".b", 1), app(1000+i, api.Running, path+".c", 1))
		s.Conts = append(s.Conts, api.Cont{Id: i, App: i, Size: v(mostPart+1, 0)}, api.Cont{Id: 1000 + i, App: 1000 + i, Size: v(1, 0)})
	}
	s.Conf.Queues = append(s.Conf.Queues, queue("root"))
	return s
}

func TestP1P2P3OfAnyState(t *testing.T) {
	paths := []string{"", ".", "..", "root", "root.", "root.a", "root.a.x", "root.a.y.p", "root.ab", "root.gone", "\xff", "root" + strings.Repeat(".a", 1<<10)}
	for i, s := range wild() {
		a := roomy(s)
		for n, path := range paths {
			other := []int{0, 1, 2, 3, -1, math.MaxInt, math.MinInt}[(i+n)%7]
			for _, label := range []int{0, other} {
				first := askAll(a, path, label)
				kept := first.copied()
				first.spoil()
				if again := askAll(a, path, label); !again.equal(kept) {
					t.Errorf("P2, P3: state %d, %q, %d: %v, and then %v", i, path, label, kept, again)
				}
			}
		}
		if !reflect.DeepEqual(all(a), all(roomy(s))) {
			t.Errorf("P2: state %d has changed", i)
		}
	}
}

// A path of many names is gone through in steps that are no more than its bytes.
func TestP1LongPaths(t *testing.T) {
	for _, path := range []string{"root" + strings.Repeat(".a", 1<<17), strings.Repeat(".", 1<<17), strings.Repeat("a", 1<<20)} {
		wantKids(t, "a long path", rich(), path, 0)
		wantApps(t, "a long path", rich(), path)
	}
}

// What is asked of a sound state leaves it as it was passed, with what stands behind its lists; and what was told may be written over.
func TestP2LeavesTheState(t *testing.T) {
	busy := submitted(t, cluster(three), []api.App{app(4, 0, "root.a", 1), app(3, 0, "root.a", 9), app(9, 0, "root.b", 0), app(1, 0, "root.a", 1)})
	for i, s := range []api.State{rich(), busy, cluster(alone), {Conf: parsed(tree)}} {
		a := roomy(s)
		for _, path := range append(noQueues(), "root", "root.a", "root.b", "root.a.x", "root.ab") {
			for label := range 3 {
				first := askAll(a, path, label)
				kept := first.copied()
				first.spoil()
				if again := askAll(a, path, label); !again.equal(kept) {
					t.Errorf("P2, P3: state %d, %q, %d: %v, and then %v", i, path, label, kept, again)
				}
			}
		}
		if !reflect.DeepEqual(all(a), all(roomy(s))) {
			t.Errorf("P2: state %d has changed", i)
		}
	}
	for i, spoil := range []func(s *api.State){
		func(s *api.State) { slices.Reverse(s.Apps) }, func(s *api.State) { s.Conf.Queues[1].Caps[0].Least++ }, func(s *api.State) { slices.Reverse(s.Conf.Queues) }, func(s *api.State) { _ = append(s.Apps, api.App{}) }, func(s *api.State) { clear(s.Apps[2:]) }, func(s *api.State) { s.Conts[3].Size.Mem++ },
	} {
		a := roomy(rich())
		if spoil(&a); reflect.DeepEqual(all(a), all(roomy(rich()))) {
			t.Errorf("change %d is not told", i)
		}
	}
}

// Two answers share no memory with one another either: two calls are asked, and one is written over.
func TestP2AnswersAreApart(t *testing.T) {
	s := rich()
	for _, path := range []string{"root", "root.a", "root.a.x"} {
		first, second := askAll(s, path, 0), askAll(s, path, 0)
		kept := second.copied()
		first.spoil()
		if !second.equal(kept) {
			t.Errorf("P2: %q: %v has become %v", path, kept, second)
		}
	}
}

// What a state had is not told again when it is another one.
func TestP2P3KeepNoArgument(t *testing.T) {
	s := rich()
	first := askAll(s, "root.a.x", 0).copied()
	clear(s.Conts)
	clear(s.Apps)
	if second := askAll(s, "root.a.x", 0); !second.equal(answers{leaves: []string{"root.a.x", "root.a.xy", "root.a.y.p", "root.a.y.q", "root.a-b", "root.ab"}}) {
		t.Errorf("P2: what a state had is told again: %v", second)
	}
	if third := askAll(rich(), "root.a.x", 0); !third.equal(first) {
		t.Errorf("P3: %v, and then %v", first, third)
	}
}

// Each leaf is told once even where queues are there more than once and their loads can't be held against each other.
func TestP1ManifoldQueues(t *testing.T) {
	if got := order.Leaves(manifold(), 0); len(got) != 2*8+1 {
		t.Errorf("P1: %d leaves", len(got))
	}
}
