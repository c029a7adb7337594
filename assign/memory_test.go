package assign_test

import (
	"cmp"
	"math"
	"slices"
	"strings"
	"testing"
	"unsafe"

	"dispatch/api"
	"dispatch/assign"
	"dispatch/conf"
)

// same compares states, and sameApp applications; a nil list is held for equal to an empty one.
func same(a, b api.State) bool {
	return conf.Same(a.Conf, b.Conf) && slices.Equal(a.Nodes, b.Nodes) && slices.EqualFunc(a.Apps, b.Apps, sameApp) && slices.Equal(a.Conts, b.Conts) && slices.Equal(a.Slots, b.Slots) && slices.Equal(a.Plans, b.Plans) && a.Now == b.Now && a.Epoch == b.Epoch && a.Seq == b.Seq
}

func sameApp(a, b api.App) bool {
	return a.Id == b.Id && a.State == b.State && a.Queue == b.Queue && a.User == b.User && a.Prio == b.Prio && a.Master == b.Master && slices.Equal(a.Asks, b.Asks) && a.Seen == b.Seen && a.Beat == b.Beat && slices.Equal(a.Grants, b.Grants) && slices.Equal(a.Kills, b.Kills) && slices.Equal(a.Told, b.Told) && slices.Equal(a.Lost, b.Lost)
}

// guarded copies a list, with room behind it in which something stands, so that a write into it can be told; whole is the list with this room.
func guarded[T any](l []T, guard T) []T { return append(slices.Clone(l), guard, guard)[:len(l)] }

func whole[T any](l []T) []T { return l[:cap(l)] }

func each[T any](l []T, done func(T) T) (out []T) {
	for _, x := range l {
		out = append(out, done(x))
	}
	return out
}

// roomy copies a state with room behind each list.
func roomy(s api.State) api.State {
	s.Conf.Labels, s.Conf.Queues = guarded(s.Conf.Labels, "guard"), guarded(each(s.Conf.Queues, roomyQueue), api.Queue{User: 77})
	s.Nodes, s.Apps = guarded(s.Nodes, api.Node{Id: 77}), guarded(each(s.Apps, roomyApp), api.App{Id: 77})
	s.Conts, s.Slots = guarded(s.Conts, api.Cont{Id: 77}), guarded(s.Slots, api.Slot{App: 77})
	s.Plans = guarded(s.Plans, api.Plan{Id: 77})
	return s
}

func roomyQueue(q api.Queue) api.Queue {
	q.Caps = guarded(q.Caps, api.Cap{Least: 77})
	return q
}

func roomyApp(a api.App) api.App {
	a.Asks = guarded(a.Asks, api.Ask{Prio: 77})
	a.Grants, a.Kills, a.Told, a.Lost = guarded(a.Grants, 77), guarded(a.Kills, 77), guarded(a.Told, 77), guarded(a.Lost, 77)
	return a
}

// wide is a state whose lists take in the room behind them.
func wide(s api.State) api.State {
	s.Conf.Labels, s.Conf.Queues = whole(s.Conf.Labels), each(whole(s.Conf.Queues), wideQueue)
	s.Nodes, s.Apps, s.Conts, s.Slots, s.Plans = whole(s.Nodes), each(whole(s.Apps), wideApp), whole(s.Conts), whole(s.Slots), whole(s.Plans)
	return s
}

func wideQueue(q api.Queue) api.Queue {
	q.Caps = whole(q.Caps)
	return q
}

func wideApp(a api.App) api.App {
	a.Asks, a.Grants, a.Kills, a.Told, a.Lost = whole(a.Asks), whole(a.Grants), whole(a.Kills), whole(a.Told), whole(a.Lost)
	return a
}

// sameRoom compares states and what stands behind their lists.
func sameRoom(a, b api.State) bool { return same(a, b) && same(wide(a), wide(b)) }

// span is the memory of a list, with the room behind it.
type span struct{ from, until uintptr }

func spanOf[T any](l []T) span {
	var x T
	from := uintptr(unsafe.Pointer(unsafe.SliceData(l)))
	return span{from, from + uintptr(cap(l))*unsafe.Sizeof(x)}
}

func spans(s api.State) []span {
	l := []span{spanOf(s.Conf.Labels), spanOf(s.Conf.Queues), spanOf(s.Nodes), spanOf(s.Apps), spanOf(s.Conts), spanOf(s.Slots), spanOf(s.Plans)}
	for _, q := range whole(s.Conf.Queues) {
		l = append(l, spanOf(q.Caps))
	}
	for _, a := range whole(s.Apps) {
		l = append(l, spanOf(a.Asks), spanOf(a.Grants), spanOf(a.Kills), spanOf(a.Told), spanOf(a.Lost))
	}
	return l
}

// apart tells whether no two lists share memory.
func apart(lists ...[]span) bool {
	l := slices.DeleteFunc(slices.Concat(lists...), func(x span) bool { return x.from == x.until })
	slices.SortFunc(l, func(a, b span) int { return cmp.Compare(a.from, b.from) })
	for i := 1; i < len(l); i++ {
		if l[i-1].until > l[i].from {
			return false
		}
	}
	return true
}

// held makes a call twice, and holds it against P2 and P3.
func held(t *testing.T, what string, s api.State, call func(api.State) (api.State, int, []api.Cont)) (api.State, int, []api.Cont) {
	t.Helper()
	a, b := roomy(s), roomy(s)
	r, kind, l := call(a)
	again, other, more := call(b)
	if !sameRoom(a, roomy(s)) || !sameRoom(b, roomy(s)) {
		t.Errorf("P2: %s: the state that was passed has changed, or the room behind its lists", what)
	}
	if !same(r, again) || kind != other || !slices.Equal(l, more) {
		t.Errorf("P3: %s: %+v, %d, %v, and then %+v, %d, %v", what, r, kind, l, again, other, more)
	}
	if !apart(spans(a), spans(b), spans(r), spans(again), []span{spanOf(l), spanOf(more)}) {
		t.Errorf("P2: %s: the new state shares memory with the one that was passed, or lists of it do", what)
	}
	return r, kind, l
}

// one and beat are the calls, so held.
func one(t *testing.T, what string, s api.State, node int) (api.State, int, api.Cont) {
	t.Helper()
	r, kind, l := held(t, what, s, func(s api.State) (api.State, int, []api.Cont) {
		r, kind, c := assign.One(s, node)
		return r, kind, []api.Cont{c}
	})
	if kind != assign.Grant && l[0] != (api.Cont{}) {
		t.Errorf("P4: %s: %d, and container %+v", what, kind, l[0])
	}
	return r, kind, l[0]
}

func beat(t *testing.T, what string, s api.State, node int) (api.State, []api.Cont) {
	t.Helper()
	r, _, l := held(t, what, s, func(s api.State) (api.State, int, []api.Cont) {
		r, l := assign.Beat(s, node)
		return r, 0, l
	})
	return r, l
}

// What the holds compare is told apart, also in the room behind a list.
func TestP2TheHoldsHold(t *testing.T) {
	for i, spoil := range []func(s *api.State){
		func(s *api.State) { s.Conf.Labels[1] = "x" }, func(s *api.State) { s.Conf.Queues[1].Caps[0].Most++ }, func(s *api.State) { s.Nodes[0].Beat++ },
		func(s *api.State) { s.Apps[1].State++ }, func(s *api.State) { s.Apps[1].Asks[0].Missed++ }, func(s *api.State) { s.Apps[1].Lost[0]++ }, func(s *api.State) { s.Apps[1].Master.Cores++ },
		func(s *api.State) { s.Conts[3].Size.Mem++ }, func(s *api.State) { s.Slots[0].Prio++ }, func(s *api.State) { s.Plans = nil }, func(s *api.State) { s.Seq++ },
		func(s *api.State) { _ = append(s.Conts, api.Cont{}) }, func(s *api.State) { _ = append(s.Slots, api.Slot{}) }, func(s *api.State) { _ = append(s.Apps[1].Grants, 1) }, func(s *api.State) { _ = append(s.Apps[0].Told, 1) },
	} {
		a := roomy(rich())
		if spoil(&a); sameRoom(a, roomy(rich())) {
			t.Errorf("change %d is not told", i)
		}
	}
	a, b := roomy(rich()), roomy(rich())
	if !sameRoom(a, b) || !apart(spans(a), spans(b)) || apart(spans(a), spans(a)) {
		t.Error("states that share memory are not told from those that don't")
	}
	if b.Apps[0].Kills = a.Apps[1].Kills[:0]; apart(spans(a), spans(b)) {
		t.Error("states that share the room of one list are not told")
	}
}

// The strings of a new state are its own, too.
func TestP2Strings(t *testing.T) {
	s := rich()
	for i := range s.Apps {
		s.Apps[i].Queue = strings.Clone(s.Apps[i].Queue)
	}
	for _, node := range []int{1, 2, 3, 77} {
		r, _, _ := assign.One(s, node)
		q, _ := assign.Beat(s, node)
		for i := range s.Apps {
			for _, x := range []api.State{r, q} {
				if unsafe.StringData(x.Apps[i].Queue) == unsafe.StringData(s.Apps[i].Queue) {
					t.Errorf("P2: node %d: application %d has the Queue of the state that was passed", node, i)
				}
			}
		}
	}
}

// wildApps are applications and asks that no calls bring: of the ends of the numbers, of no queue, with Prios twice and out of order.
func wildApps() []api.App {
	least, most := math.MinInt, math.MaxInt
	odd := []api.Ask{
		{Prio: 3, Size: v(5, 5), Count: 0, Node: -1, Rack: -1}, {Prio: 3, Size: v(5, 5), Count: -1, Node: 7, Rack: 7, Missed: most}, {Prio: 3, Size: v(1, 1), Count: most, Node: 7, Rack: 7, Missed: least}, {Prio: -1, Size: v(-1, -1), Count: 1, Node: -1, Rack: -1},
		{Prio: most, Label: least, Size: v(most, most), Count: 1}, {Prio: least, Label: 9, Size: v(least, least), Count: least, Node: least, Rack: most}, {Prio: 2, Size: v(least, most), Count: 1, Node: -1, Rack: -1}, {},
	}
	return []api.App{
		app(1, api.Running, "root.a", 1, odd...), app(1, api.Waiting, "root.b", most, odd...), app(-1, api.Waiting, "", least, odd...), app(2, most, "root.a", 1, odd...), app(3, api.Running, "root.gone", 1, odd...),
		app(least, api.Running, "root.a.x", 1, odd...), app(most, api.Waiting, "root", 1, odd...), app(1, api.Killed, "root.b", 1, odd...), app(4, api.Waiting, "root.b", 1), {},
	}
}

// wild are states that are not sound, for which only P1 to P3 hold, beside some that are.
func wild() []api.State {
	least, most := math.MinInt, math.MaxInt
	loose := api.State{
		Nodes: []api.Node{node(1, 0, most, most), node(1, 0, most, least), node(2, 0, -1, -1), node(3, 7, 50, 50), node(least, -1, most, most), node(most, 0, 100, 100), node(2, 1, 9, 9), {}},
		Apps:  wildApps(),
		Conts: []api.Cont{{Id: 9, App: 1, Node: 1, Size: v(most, most)}, {Id: 9, App: 1, Node: 1, Size: v(most, least)}, {Id: 2, App: 2, Node: most, Label: least, Size: v(1, 1)}, {Id: -1, App: -1, Node: -1, Label: -1, Size: v(-1, -1)}, {}},
		Slots: []api.Slot{{Node: most, App: 1, Prio: 3}, {Node: 1, App: 77}, {Node: 1, App: 1, Prio: 3}, {Node: 1, App: 1, Prio: 3}, {Node: least, App: most, Prio: least}, {}},
		Plans: []api.Plan{{Id: 1, From: least, Until: most, Need: v(least, most)}, {}},
		Now:   least, Epoch: most, Seq: least,
	}
	l := []api.State{{}, {Conf: parsed(even)}, rich(), loose}
	for _, text := range []string{even, deep, alone} {
		loose.Conf, loose.Epoch, loose.Seq = parsed(text), least, 1<<20-2
		few := rich()
		few.Conf, few.Nodes, few.Plans = loose.Conf, loose.Nodes[5:], nil
		l = append(l, loose, few)
		few.Apps, few.Seq, few.Conts = loose.Apps, -1, few.Conts[:1]
		l = append(l, few)
	}
	refused := rich()
	refused.Conf.Queues = append(refused.Conf.Queues, refused.Conf.Queues...)
	empty := rich()
	empty.Conf.Queues = make([]api.Queue, 50)
	return append(l, refused, empty)
}

func TestP1P2P3OfAnyState(t *testing.T) {
	for _, s := range wild() {
		for _, node := range []int{0, 1, 2, 3, 4, 77, -1, math.MinInt, math.MaxInt} {
			_, kind, _ := one(t, "a wild state", s, node)
			if kind < assign.None || kind > assign.Wait {
				t.Errorf("P1401: kind %d", kind)
			}
			if _, l := beat(t, "a wild state", s, node); len(l) > 3 {
				t.Errorf("P1402: %d containers", len(l))
			}
		}
	}
}

// What was given out may be written over, and what was passed too, without changing what is answered next.
func TestP2P3KeepNothing(t *testing.T) {
	s := rich()
	first, kind, c := assign.One(s, 1)
	want := roomy(first)
	clear(s.Apps)
	clear(s.Conts)
	clear(s.Nodes)
	if !sameRoom(roomy(first), want) {
		t.Error("P2: the new state has changed with the one that was passed")
	}
	again, other, d := assign.One(rich(), 1)
	if !same(first, again) || kind != other || c != d {
		t.Errorf("P3: %+v, %d, %+v, and then %+v, %d, %+v", first, kind, c, again, other, d)
	}
	clear(first.Apps)
	clear(first.Conts)
	if third, _, _ := assign.One(rich(), 1); !same(third, again) {
		t.Errorf("P3: %+v, and then %+v", again, third)
	}
}
