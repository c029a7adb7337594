package apps_test

import (
	"cmp"
	"slices"
	"testing"
	"unsafe"

	"dispatch/api"
	"dispatch/apps"
	"dispatch/conf"
)

// same compares states, and sameApp applications; a nil list is held for equal to an empty one.
func same(a, b api.State) bool {
	return conf.Same(a.Conf, b.Conf) && slices.Equal(a.Nodes, b.Nodes) && slices.EqualFunc(a.Apps, b.Apps, sameApp) && slices.Equal(a.Conts, b.Conts) && slices.Equal(a.Slots, b.Slots) && slices.Equal(a.Plans, b.Plans) && a.Now == b.Now && a.Epoch == b.Epoch && a.Seq == b.Seq
}

func sameApp(a, b api.App) bool {
	return a.Id == b.Id && a.State == b.State && a.Queue == b.Queue && a.User == b.User && a.Prio == b.Prio && a.Master == b.Master && slices.Equal(a.Asks, b.Asks) && a.Seen == b.Seen && a.Beat == b.Beat && slices.Equal(a.Grants, b.Grants) && slices.Equal(a.Kills, b.Kills) && slices.Equal(a.Told, b.Told) && slices.Equal(a.Lost, b.Lost)
}

// guarded copies a list, with room behind it in which something stands, so that a write into it can be told; whole is the list with this room.
func guarded[T any](l []T, guard T) []T { return append(slices.Clone(l), guard, guard)[:len(l)] }

func whole[T any](l []T) []T { return l[:cap(l)] }

func each[T any](l []T, done func(T) T) (out []T) {
	for _, x := range l {
		out = append(out, done(x))
	}
	return out
}

// roomy copies a state with room behind each list, roomyApp an application.
func roomy(s api.State) api.State {
	s.Conf.Labels, s.Conf.Queues = guarded(s.Conf.Labels, "guard"), guarded(each(s.Conf.Queues, roomyQueue), api.Queue{User: 77})
	s.Nodes, s.Apps = guarded(s.Nodes, api.Node{Id: 77}), guarded(each(s.Apps, roomyApp), api.App{Id: 77})
	s.Conts, s.Slots = guarded(s.Conts, api.Cont{Id: 77}), guarded(s.Slots, api.Slot{App: 77})
	s.Plans = guarded(s.Plans, api.Plan{Id: 77})
	return s
}

func roomyQueue(q api.Queue) api.Queue {
	q.Caps = guarded(q.Caps, api.Cap{Least: 77})
	return q
}

func roomyApp(a api.App) api.App {
	a.Asks = guarded(a.Asks, api.Ask{Prio: 77})
	a.Grants, a.Kills, a.Told, a.Lost = guarded(a.Grants, 77), guarded(a.Kills, 77), guarded(a.Told, 77), guarded(a.Lost, 77)
	return a
}

// wide is a state whose lists take in the room behind them.
func wide(s api.State) api.State {
	s.Conf.Labels, s.Conf.Queues = whole(s.Conf.Labels), each(whole(s.Conf.Queues), wideQueue)
	s.Nodes, s.Apps, s.Conts, s.Slots, s.Plans = whole(s.Nodes), each(whole(s.Apps), wideApp), whole(s.Conts), whole(s.Slots), whole(s.Plans)
	return s
}

func wideQueue(q api.Queue) api.Queue {
	q.Caps = whole(q.Caps)
	return q
}

func wideApp(a api.App) api.App {
	a.Asks, a.Grants, a.Kills, a.Told, a.Lost = whole(a.Asks), whole(a.Grants), whole(a.Kills), whole(a.Told), whole(a.Lost)
	return a
}

// sameRoom compares states and what stands behind their lists.
func sameRoom(a, b api.State) bool { return same(a, b) && same(wide(a), wide(b)) }

// span is the memory of a list, with the room behind it.
type span struct{ from, until uintptr }

func spanOf[T any](l []T) span {
	var x T
	from := uintptr(unsafe.Pointer(unsafe.SliceData(l)))
	return span{from, from + uintptr(cap(l))*unsafe.Sizeof(x)}
}

func spans(s api.State) []span {
	l := []span{spanOf(s.Conf.Labels), spanOf(s.Conf.Queues), spanOf(s.Nodes), spanOf(s.Apps), spanOf(s.Conts), spanOf(s.Slots), spanOf(s.Plans)}
	for _, q := range whole(s.Conf.Queues) {
		l = append(l, spanOf(q.Caps))
	}
	for _, a := range whole(s.Apps) {
		l = append(l, spansOfApp(a)...)
	}
	return l
}

func spansOfApp(a api.App) []span {
	return []span{spanOf(a.Asks), spanOf(a.Grants), spanOf(a.Kills), spanOf(a.Told), spanOf(a.Lost)}
}

// apart tells whether no two lists share memory.
func apart(lists ...[]span) bool {
	l := slices.DeleteFunc(slices.Concat(lists...), func(x span) bool { return x.from == x.until })
	slices.SortFunc(l, func(a, b span) int { return cmp.Compare(a.from, b.from) })
	for i := 1; i < len(l); i++ {
		if l[i-1].until > l[i].from {
			return false
		}
	}
	return true
}

// change makes a call that gives a state twice, and holds it against P2, P3 and P4.
func change(t *testing.T, what string, s api.State, call func(api.State) (api.State, []int, api.Errno)) (api.State, []int, api.Errno) {
	t.Helper()
	a, b := roomy(s), roomy(s)
	r, ids, e := call(a)
	again, more, other := call(b)
	if !sameRoom(a, roomy(s)) || !sameRoom(b, roomy(s)) {
		t.Errorf("P2: %s: the state that was passed has changed, or the room behind its lists", what)
	}
	if !same(r, again) || !slices.Equal(ids, more) || e != other {
		t.Errorf("P3: %s: %+v, %v, %v, and then %+v, %v, %v", what, r, ids, e, again, more, other)
	}
	if !apart(spans(a), spans(b), spans(r), spans(again), []span{spanOf(ids), spanOf(more)}) {
		t.Errorf("P2: %s: the new state shares memory with the one that was passed, or lists of it do", what)
	}
	if e != api.OK && !same(r, s) {
		t.Errorf("P4: %s: %v, and the state that was %+v is %+v", what, e, s, r)
	}
	return r, ids, e
}

// submit, put, end and lose are the calls, so held.
func submit(t *testing.T, what string, s api.State, a api.App) (api.State, api.Errno) {
	t.Helper()
	r, _, e := change(t, what, s, func(s api.State) (api.State, []int, api.Errno) {
		b := roomyApp(a)
		r, e := apps.Submit(s, b)
		checkPassed(t, what, a, b, r)
		return r, nil, e
	})
	return r, e
}

func put(t *testing.T, what string, s api.State, a api.App) api.State {
	t.Helper()
	r, _, _ := change(t, what, s, func(s api.State) (api.State, []int, api.Errno) {
		b := roomyApp(a)
		r := apps.Put(s, b)
		checkPassed(t, what, a, b, r)
		return r, nil, api.OK
	})
	return r
}

// checkPassed holds an application that was passed, b, against the one it was made of, and against the new state.
func checkPassed(t *testing.T, what string, a, b api.App, r api.State) {
	t.Helper()
	if a = roomyApp(a); !sameApp(a, b) || !sameApp(wideApp(a), wideApp(b)) || !apart(spansOfApp(b), spans(r)) {
		t.Errorf("P2: %s: the application that was passed has changed, or shares memory with the new state", what)
	}
}

func end(t *testing.T, what string, s api.State, id, state int) (api.State, []int) {
	t.Helper()
	r, ids, _ := change(t, what, s, func(s api.State) (api.State, []int, api.Errno) {
		r, ids := apps.End(s, id, state)
		return r, ids, api.OK
	})
	return r, ids
}

func lose(t *testing.T, what string, s api.State, ids ...int) api.State {
	t.Helper()
	r, _, _ := change(t, what, s, func(s api.State) (api.State, []int, api.Errno) {
		l := guarded(ids, 77)
		r := apps.Lose(s, l)
		if !slices.Equal(whole(l), whole(guarded(ids, 77))) || !apart(spans(r), []span{spanOf(l)}) {
			t.Errorf("P2: %s: the list of Ids has changed, or shares memory with the new state", what)
		}
		return r, nil, api.OK
	})
	return r
}

// find and silent are the questions, so held.
func find(t *testing.T, what string, s api.State, id int) (api.App, bool) {
	t.Helper()
	b := roomy(s)
	a, is := apps.Find(b, id)
	again, still := apps.Find(b, id)
	if !sameRoom(b, roomy(s)) || !sameApp(a, again) || is != still || !apart(spans(b), spansOfApp(a), spansOfApp(again)) {
		t.Errorf("P2, P3: %s: Find of %d: %+v, %t, and then %+v, %t; or shared memory, or a state that has changed", what, id, a, is, again, still)
	}
	return a, is
}

func silent(t *testing.T, what string, s api.State) []int {
	t.Helper()
	b := roomy(s)
	l := apps.Silent(b)
	again := apps.Silent(b)
	if !sameRoom(b, roomy(s)) || !slices.Equal(l, again) || !apart(spans(b), []span{spanOf(l), spanOf(again)}) {
		t.Errorf("P2, P3: %s: Silent: %v, and then %v; or shared memory, or a state that has changed", what, l, again)
	}
	return l
}

// What the holds compare is told apart, also in the room behind a list.
func TestP2TheHoldsHold(t *testing.T) {
	for i, spoil := range []func(s *api.State){
		func(s *api.State) { s.Conf.Labels[1] = "x" }, func(s *api.State) { s.Conf.Queues[1].Caps[0].Most++ }, func(s *api.State) { s.Nodes[0].Beat++ },
		func(s *api.State) { s.Apps[1].State++ }, func(s *api.State) { s.Apps[1].Asks[0].Count++ }, func(s *api.State) { s.Apps[1].Lost[0]++ }, func(s *api.State) { s.Apps[1].Master.Cores++ },
		func(s *api.State) { s.Conts[3].Size.Mem++ }, func(s *api.State) { s.Slots[0].Prio++ }, func(s *api.State) { s.Plans = nil }, func(s *api.State) { s.Seq++ },
		func(s *api.State) { _ = append(s.Conts, api.Cont{}) }, func(s *api.State) { _ = append(s.Apps, api.App{}) }, func(s *api.State) { _ = append(s.Apps[1].Kills, 1) }, func(s *api.State) { _ = append(s.Apps[0].Told, 1) },
	} {
		a := roomy(rich())
		if spoil(&a); sameRoom(a, roomy(rich())) {
			t.Errorf("change %d is not told", i)
		}
	}
	a, b := roomy(rich()), roomy(rich())
	if !sameRoom(a, b) || !apart(spans(a), spans(b)) || apart(spans(a), spans(a)) {
		t.Error("states that share memory are not told from those that don't")
	}
	if b.Apps[0].Kills = a.Apps[1].Kills[:0]; apart(spans(a), spans(b)) {
		t.Error("states that share the room of one list are not told")
	}
}
