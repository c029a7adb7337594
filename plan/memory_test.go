package plan_test

import (
	"cmp"
	"math"
	"slices"
	"strings"
	"testing"
	"unsafe"

	"dispatch/api"
	"dispatch/conf"
	"dispatch/plan"
)

// same compares states, and sameApp applications; a nil list is held for equal to an empty one.
func same(a, b api.State) bool {
	return conf.Same(a.Conf, b.Conf) && slices.Equal(a.Nodes, b.Nodes) && slices.EqualFunc(a.Apps, b.Apps, sameApp) && slices.Equal(a.Conts, b.Conts) && slices.Equal(a.Slots, b.Slots) && slices.Equal(a.Plans, b.Plans) && a.Now == b.Now && a.Epoch == b.Epoch && a.Seq == b.Seq
}

func sameApp(a, b api.App) bool {
	return a.Id == b.Id && a.State == b.State && a.Queue == b.Queue && a.User == b.User && a.Prio == b.Prio && a.Master == b.Master && slices.Equal(a.Asks, b.Asks) && a.Seen == b.Seen && a.Beat == b.Beat && slices.Equal(a.Grants, b.Grants) && slices.Equal(a.Kills, b.Kills) && slices.Equal(a.Told, b.Told) && slices.Equal(a.Lost, b.Lost)
}

// guarded copies a list, with room behind it in which something stands, so that a write into it can be told; whole is the list with this room.
func guarded[T any](l []T, guard T) []T { return append(slices.Clone(l), guard, guard)[:len(l)] }

func whole[T any](l []T) []T { return l[:cap(l)] }

func each[T any](l []T, done func(T) T) (out []T) {
	for _, x := range l {
		out = append(out, done(x))
	}
	return out
}

// roomy copies a state with room behind each list.
func roomy(s api.State) api.State {
	s.Conf.Labels, s.Conf.Queues = guarded(s.Conf.Labels, "guard"), guarded(each(s.Conf.Queues, roomyQueue), api.Queue{User: 77})
	s.Nodes, s.Apps = guarded(s.Nodes, api.Node{Id: 77}), guarded(each(s.Apps, roomyApp), api.App{Id: 77})
	s.Conts, s.Slots = guarded(s.Conts, api.Cont{Id: 77}), guarded(s.Slots, api.Slot{App: 77})
	s.Plans = guarded(s.Plans, api.Plan{Id: 77})
	return s
}

func roomyQueue(q api.Queue) api.Queue {
	q.Caps = guarded(q.Caps, api.Cap{Least: 77})
	return q
}

func roomyApp(a api.App) api.App {
	a.Asks = guarded(a.Asks, api.Ask{Prio: 77})
	a.Grants, a.Kills, a.Told, a.Lost = guarded(a.Grants, 77), guarded(a.Kills, 77), guarded(a.Told, 77), guarded(a.Lost, 77)
	return a
}

// wide is a state whose lists take in the room behind them.
func wide(s api.State) api.State {
	s.Conf.Labels, s.Conf.Queues = whole(s.Conf.Labels), each(whole(s.Conf.Queues), wideQueue)
	s.Nodes, s.Apps, s.Conts, s.Slots, s.Plans = whole(s.Nodes), each(whole(s.Apps), wideApp), whole(s.Conts), whole(s.Slots), whole(s.Plans)
	return s
}

func wideQueue(q api.Queue) api.Queue {
	q.Caps = whole(q.Caps)
	return q
}

func wideApp(a api.App) api.App {
	a.Asks, a.Grants, a.Kills, a.Told, a.Lost = whole(a.Asks), whole(a.Grants), whole(a.Kills), whole(a.Told), whole(a.Lost)
	return a
}

// sameRoom compares states and what stands behind their lists.
func sameRoom(a, b api.State) bool { return same(a, b) && same(wide(a), wide(b)) }

// span is the memory of a list, with the room behind it.
type span struct{ from, until uintptr }

func spanOf[T any](l []T) span {
	var x T
	from := uintptr(unsafe.Pointer(unsafe.SliceData(l)))
	return span{from, from + uintptr(cap(l))*unsafe.Sizeof(x)}
}

func spans(s api.State) []span {
	l := []span{spanOf(s.Conf.Labels), spanOf(s.Conf.Queues), spanOf(s.Nodes), spanOf(s.Apps), spanOf(s.Conts), spanOf(s.Slots), spanOf(s.Plans)}
	for _, q := range whole(s.Conf.Queues) {
		l = append(l, spanOf(q.Caps))
	}
	for _, a := range whole(s.Apps) {
		l = append(l, spanOf(a.Asks), spanOf(a.Grants), spanOf(a.Kills), spanOf(a.Told), spanOf(a.Lost))
	}
	return l
}

// apart tells whether no two lists share memory.
func apart(lists ...[]span) bool {
	l := slices.DeleteFunc(slices.Concat(lists...), func(x span) bool { return x.from == x.until })
	slices.SortFunc(l, func(a, b span) int { return cmp.Compare(a.from, b.from) })
	for i := 1; i < len(l); i++ {
		if l[i-1].until > l[i].from {
			return false
		}
	}
	return true
}

// held makes a call twice, and holds it against P2, P3, and, where it tells an error, P4 and P5.
func held(t *testing.T, what string, s api.State, call func(api.State) (api.State, int, api.Errno)) (api.State, int, api.Errno) {
	t.Helper()
	a, b := roomy(s), roomy(s)
	r, n, e := call(a)
	again, other, err := call(b)
	if !sameRoom(a, roomy(s)) || !sameRoom(b, roomy(s)) {
		t.Errorf("P2: %s: the state that was passed has changed, or the room behind its lists", what)
	}
	if !same(r, again) || n != other || e != err {
		t.Errorf("P3: %s: %+v, %d, %v, and then %+v, %d, %v", what, r, n, e, again, other, err)
	}
	if !apart(spans(a), spans(b), spans(r), spans(again)) {
		t.Errorf("P2: %s: the new state shares memory with the one that was passed, or lists of it do", what)
	}
	if e != api.OK && (n != 0 || !same(r, s)) {
		t.Errorf("P4: %s: %v, beside %d, and the state that was %+v is %+v", what, e, n, s, r)
	}
	return r, n, e
}

// add and drop are the calls, so held.
func add(t *testing.T, what string, s api.State, p api.Plan, long int) (api.State, int, api.Errno) {
	t.Helper()
	return held(t, what, s, func(s api.State) (api.State, int, api.Errno) { return plan.Add(s, p, long) })
}

func drop(t *testing.T, what string, s api.State, id int) (api.State, api.Errno) {
	t.Helper()
	r, _, e := held(t, what, s, func(s api.State) (api.State, int, api.Errno) {
		r, e := plan.Drop(s, id)
		return r, 0, e
	})
	return r, e
}

// asked makes a call of a list twice, and holds it against P2 and P3.
func asked[T comparable](t *testing.T, what string, l []api.Plan, call func([]api.Plan) T) T {
	t.Helper()
	a, b := guarded(l, api.Plan{Id: 77}), guarded(l, api.Plan{Id: 77})
	x, again := call(a), call(b)
	if want := guarded(l, api.Plan{Id: 77}); !slices.Equal(whole(a), whole(want)) || !slices.Equal(whole(b), whole(want)) {
		t.Errorf("P2: %s: the list that was passed has changed, or the room behind it", what)
	}
	if x != again {
		t.Errorf("P3: %s: %v, and then %v", what, x, again)
	}
	return x
}

// at and place are the calls, so held.
func at(t *testing.T, what string, l []api.Plan, label, x int) api.Vec {
	t.Helper()
	return asked(t, what, l, func(l []api.Plan) api.Vec { return plan.At(l, label, x) })
}

func place(t *testing.T, what string, l []api.Plan, total api.Vec, p api.Plan, long int) (int, api.Errno) {
	t.Helper()
	type answer struct {
		at int
		e  api.Errno
	}
	x := asked(t, what, l, func(l []api.Plan) answer {
		at, e := plan.Place(l, total, p, long)
		return answer{at, e}
	})
	return x.at, x.e
}

// What the holds compare is told apart, also in the room behind a list.
func TestP2TheHoldsHold(t *testing.T) {
	for i, spoil := range []func(s *api.State){
		func(s *api.State) { s.Conf.Labels[1] = "x" }, func(s *api.State) { s.Conf.Queues[1].Caps[0].Most++ }, func(s *api.State) { s.Nodes[0].Beat++ },
		func(s *api.State) { s.Apps[1].State++ }, func(s *api.State) { s.Apps[1].Asks[0].Missed++ }, func(s *api.State) { s.Apps[0].Lost[0]++ }, func(s *api.State) { s.Apps[1].Master.Cores++ },
		func(s *api.State) { s.Conts[1].Size.Mem++ }, func(s *api.State) { s.Slots[0].Prio++ }, func(s *api.State) { s.Plans = nil }, func(s *api.State) { s.Plans[1].Need.Cores++ }, func(s *api.State) { s.Seq++ },
		func(s *api.State) { _ = append(s.Plans, api.Plan{}) }, func(s *api.State) { _ = append(s.Slots, api.Slot{}) }, func(s *api.State) { _ = append(s.Apps[1].Grants, 1) }, func(s *api.State) { _ = append(s.Apps[0].Told, 1) },
	} {
		a := roomy(rich())
		if spoil(&a); sameRoom(a, roomy(rich())) {
			t.Errorf("change %d is not told", i)
		}
	}
	a, b := roomy(rich()), roomy(rich())
	if !sameRoom(a, b) || !apart(spans(a), spans(b)) || apart(spans(a), spans(a)) {
		t.Error("states that share memory are not told from those that don't")
	}
	if b.Apps[0].Kills = a.Apps[1].Kills[:0]; apart(spans(a), spans(b)) {
		t.Error("states that share the room of one list are not told")
	}
}

// The strings of a new state are its own, too.
func TestP2Strings(t *testing.T) {
	s := rich()
	s.Conf.Labels[1] = strings.Clone(s.Conf.Labels[1])
	done, _, e := plan.Add(s, the(1, 0, 25, 99, v(1, 1)), 1)
	left, err := plan.Drop(s, 60)
	if e != api.OK || err != api.OK {
		t.Fatalf("P1502: %v, %v", e, err)
	}
	for _, r := range []api.State{done, left} {
		if unsafe.StringData(r.Conf.Labels[1]) == unsafe.StringData(s.Conf.Labels[1]) || unsafe.StringData(r.Apps[0].Queue) == unsafe.StringData(s.Apps[0].Queue) {
			t.Error("P2: the new state has a string of the one that was passed")
		}
	}
}

// wildPlans are plans that no calls bring: of the ends of the numbers, out of order, with one Id twice.
func wildPlans() []api.Plan {
	least, most := math.MinInt, math.MaxInt
	return []api.Plan{
		the(5, 0, least, most, v(least, most)), the(5, 0, most, least, v(most, most)), the(-1, -1, -5, 5, v(-3, -3)), the(least, 7, 3, 3, v(1, 1)), the(most, 0, 9, 2, v(1, 1)), {}, the(1, least, 0, most, v(most, least)),
		the(1, 0, least, 4, v(1, 2)), the(1, 0, 4, most, v(-1, 2)), the(0, 1, 0, 9, v(0, -9)),
	}
}

// wild are states that are not sound, for which only P1 to P3 hold, beside some that are.
func wild() []api.State {
	least, most := math.MinInt, math.MaxInt
	loose := rich()
	loose.Plans, loose.Now = wildPlans(), least
	loose.Nodes = []api.Node{node(1, 0, most, most), node(1, 0, most, least), node(2, 7, -1, -1), node(least, -1, most, most), {}}
	late := loose
	late.Now, late.Plans = most, slices.Concat(wildPlans(), wildPlans())
	bare := api.State{Plans: wildPlans()}
	odd := rich()
	odd.Conf.Queues, odd.Plans = append(odd.Conf.Queues, odd.Conf.Queues...), wildPlans()[:3]
	return []api.State{{}, {Now: least}, rich(), loose, late, bare, odd}
}

// numbers are what any argument may be.
func numbers() []int { return []int{math.MinInt, -1, 0, 1, 5, 1000, math.MaxInt} }

func TestP1P2P3OfAnyState(t *testing.T) {
	for _, s := range wild() {
		for _, id := range numbers() {
			drop(t, "a wild state", s, id)
			for _, long := range numbers() {
				add(t, "a wild state", s, the(id, 0, 0, 50, v(1, 1)), long)
				add(t, "a wild state", s, the(7, 0, id, long, v(1, 1)), 1)
				add(t, "a wild state", s, the(7, id, 30, 50, v(long, 1)), 3)
			}
		}
	}
}

func TestP1P2P3OfAnyPlans(t *testing.T) {
	lists := [][]api.Plan{nil, wildPlans(), slices.Repeat(wildPlans(), 30)}
	for _, l := range lists {
		for _, x := range numbers() {
			for _, y := range numbers() {
				at(t, "wild plans", l, x, y)
				for _, total := range []api.Vec{v(x, y), v(1<<50, 1<<50)} {
					place(t, "wild plans", l, total, ask(0, 1000, v(1, 1)), x)
					place(t, "wild plans", l, total, ask(x, y, v(1, 1)), 1)
					place(t, "wild plans", l, total, ask(0, 1000, v(x, y)), 5)
				}
			}
		}
	}
}

// What was given out may be written over, and what was passed too, without changing what is answered next.
func TestP2P3KeepNothing(t *testing.T) {
	s, p := rich(), the(65, 0, 25, 99, v(1, 1))
	first, n, _ := plan.Add(s, p, 5)
	want := roomy(first)
	clear(s.Plans)
	clear(s.Nodes)
	if !sameRoom(roomy(first), want) {
		t.Error("P2: the new state has changed with the one that was passed")
	}
	clear(first.Plans)
	again, other, e := plan.Add(rich(), p, 5)
	if !same(again, want) || n != other || e != api.OK {
		t.Errorf("P3: %+v, %d, and then %+v, %d, %v", want, n, again, other, e)
	}
}
