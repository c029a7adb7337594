package qtree_test

import (
	"math"
	"reflect"
	"slices"
	"strings"
	"testing"

	"dispatch/api"
	"dispatch/qtree"
)

// guarded copies a list, with room behind it in which something stands, so that a write into it can be told; wide is the list with this room.
func guarded[T any](l []T, guard T) []T { return append(slices.Clone(l), guard, guard)[:len(l)] }

func wide[T any](l []T) []T { return l[:cap(l)] }

// roomy copies a state with room behind each list.
func roomy(s api.State) api.State {
	s.Conf.Labels, s.Conf.Queues = guarded(s.Conf.Labels, "guard"), guarded(s.Conf.Queues, api.Queue{User: 77})
	for i, q := range s.Conf.Queues {
		s.Conf.Queues[i].Caps = guarded(q.Caps, api.Cap{Least: 77})
	}
	s.Nodes, s.Apps, s.Conts = guarded(s.Nodes, node(77, 0, 7, 7)), guarded(s.Apps, running(77, "root", 7)), guarded(s.Conts, cont(77, 10, 0, 7, 7))
	for i, a := range s.Apps {
		a.Asks, a.Grants, a.Kills, a.Told, a.Lost = guarded(a.Asks, ask(7, 0, 7, 7, 7)), guarded(a.Grants, 77), guarded(a.Kills, 77), guarded(a.Told, 77), guarded(a.Lost, 77)
		s.Apps[i] = a
	}
	s.Slots, s.Plans = guarded(s.Slots, api.Slot{App: 77}), guarded(s.Plans, plan(77, 0, 0, 77, 7, 7))
	return s
}

// all is a state, and its lists with the room behind them.
func all(s api.State) []any {
	l := []any{s, wide(s.Conf.Labels), wide(s.Conf.Queues), wide(s.Nodes), wide(s.Apps), wide(s.Conts), wide(s.Slots), wide(s.Plans)}
	for _, q := range s.Conf.Queues {
		l = append(l, wide(q.Caps))
	}
	for _, a := range s.Apps {
		l = append(l, wide(a.Asks), wide(a.Grants), wide(a.Kills), wide(a.Told), wide(a.Lost))
	}
	return l
}

// answers is what all functions tell.
type answers struct {
	used, pending, user api.Vec
	room                [3]bool
}

func askAll(s api.State, path string, label, user int, size api.Vec) answers {
	return answers{
		used: qtree.Used(s, path, label), pending: qtree.Pending(s, path, label), user: qtree.UserUsed(s, path, label, user),
		room: [3]bool{qtree.Room(s, path, label, size), qtree.Room(s, path, label, api.Vec{}), qtree.Room(s, path, label, v(user, label))},
	}
}

// wild are states that are not sound, for which only P1 to P3 hold, beside one that is.
func wild() []api.State {
	least, most := math.MinInt, math.MaxInt
	queue := func(path string, least, most int) api.Queue {
		return api.Queue{Path: path, Caps: []api.Cap{{Least: least, Most: most}}, User: most}
	}
	deep := "root" + strings.Repeat(".a", 1<<10)
	loose := api.State{
		Nodes: []api.Node{node(1, 0, most, most), node(1, 0, most, least), node(-1, 0, -1, -1), node(2, -1, 1, 1), node(least, most, most, most), {}},
		Apps:  []api.App{running(1, "", least), running(1, "root.a", most, ask(1, 0, most, least, most), ask(1, 0, least, -1, least)), running(-1, "root.a.x", 7, ask(0, most, 1, 1, 1)), app(2, most, "..", 0), running(3, deep, 7), {}},
		Conts: []api.Cont{cont(1, 1, 0, most, most), cont(1, 1, 0, most, least), cont(2, 2, least, 1, 1), cont(3, 77, 0, 1, 1), cont(-1, -1, -1, -1, -1), cont(4, 3, 0, least, least), {}},
		Plans: []api.Plan{plan(1, 0, least, most, most, most), plan(1, 0, least, most, most, least), plan(2, 0, least, most, least, 1)},
		Now:   least,
	}
	l := []api.State{{}, rich(), loose}
	for _, c := range []api.Conf{
		parsed(tree), parsed(alone), {Labels: []string{"", "", ""}}, {Queues: []api.Queue{{}}}, {Queues: []api.Queue{queue("", 1, 1), queue(".", 1, 1), queue("..", 1, 1), queue(".a", 1, 1)}}, {Queues: []api.Queue{{Path: "root"}, {Path: "root.a"}, {Path: "root.a.x"}}},
		{Queues: []api.Queue{queue("root.a", 1, 1), queue("root.a", 1, 1)}}, {Queues: []api.Queue{queue("root", most, most), queue("root.a", least, least), queue("root.a.x", -1, -1)}}, {Queues: make([]api.Queue, 300)}, {Queues: []api.Queue{queue("root", whole, whole), queue(deep, 1, whole)}},
	} {
		loose.Conf = c
		strange := rich()
		strange.Conf, strange.Now = c, most
		l = append(l, loose, strange)
	}
	return l
}

func TestP1P2P3OfAnyState(t *testing.T) {
	paths := append(noQueues(), "root", "root.a", "root.a.x", "root.a.y.p", "root.ab", "root"+strings.Repeat(".a", 1<<10))
	for i, s := range wild() {
		a := roomy(s)
		for n, path := range paths {
			for m, label := range []int{0, 1, 2, 3, -1, math.MaxInt, math.MinInt} {
				user := []int{7, 0, -1, math.MaxInt, math.MinInt}[(n+m)%5]
				size := []api.Vec{v(1, 1), v(math.MaxInt, 0), v(0, math.MinInt), v(-1, 5), v(mostPart, mostPart)}[(n+3*m)%5]
				first := askAll(a, path, label, user, size)
				if again := askAll(a, path, label, user, size); again != first {
					t.Errorf("P3: state %d, %q, %d: %v, and then %v", i, path, label, first, again)
				}
			}
		}
		if !reflect.DeepEqual(all(a), all(roomy(s))) {
			t.Errorf("P2: state %d has changed", i)
		}
	}
}

// A path of many names is gone through in steps that are no more than its bytes, whatever is asked for.
func TestP1LongPaths(t *testing.T) {
	for _, path := range []string{"root" + strings.Repeat(".a", 1<<17), strings.Repeat(".", 1<<17), strings.Repeat("a", 1<<20)} {
		if got := askAll(rich(), path, 0, 7, v(1, 1)); got.used != (api.Vec{}) || got.pending != (api.Vec{}) || got.user != (api.Vec{}) || got.room[0] {
			t.Errorf("P1101, P1102: a path of %d bytes: %v", len(path), got)
		}
	}
}

func TestP2P3KeepNoArgument(t *testing.T) {
	s := rich()
	first := askAll(s, "root.a.x", 0, 7, v(1, 1))
	clear(s.Conts)
	clear(s.Apps)
	clear(s.Nodes)
	if second := askAll(s, "root.a.x", 0, 7, v(1, 1)); second != (answers{room: [3]bool{false, true, false}}) {
		t.Errorf("P2: what a state had is told again: %v", second)
	}
	if third := askAll(rich(), "root.a.x", 0, 7, v(1, 1)); third != first {
		t.Errorf("P3: %v, and then %v", first, third)
	}
}

// What is asked of a sound state leaves it as it was passed, with what stands behind its lists.
func TestP2LeavesTheState(t *testing.T) {
	for i, s := range []api.State{rich(), full(), keeping(plan(1, 0, 0, 9, 100, 10)), {Conf: parsed(tree)}} {
		a := roomy(s)
		for _, path := range append(noQueues(), "root", "root.a", "root.b", "root.a.x", "root.a.a.a") {
			for label := range 3 {
				askAll(a, path, label, 1, v(10, 10))
			}
		}
		if !reflect.DeepEqual(all(a), all(roomy(s))) {
			t.Errorf("P2: state %d has changed", i)
		}
	}
	for i, spoil := range []func(s *api.State){
		func(s *api.State) { s.Conf.Queues[1].Caps[0].Most++ }, func(s *api.State) { s.Apps[1].Asks[0].Count++ }, func(s *api.State) { s.Conts[3].Size.Mem++ }, func(s *api.State) { _ = append(s.Conts, api.Cont{}) }, func(s *api.State) { _ = append(s.Apps[1].Kills, 1) }, func(s *api.State) { s.Seq++ },
	} {
		a := roomy(rich())
		if spoil(&a); reflect.DeepEqual(all(a), all(roomy(rich()))) {
			t.Errorf("change %d is not told", i)
		}
	}
}
