package asks_test

import (
	"slices"
	"testing"

	"dispatch/api"
	"dispatch/asks"
)

// guard stands in room where nothing may be written.
var guard = api.Ask{Prio: 77, Label: 77, Size: api.Vec{Mem: 77, Cores: 77}, Count: 77, Node: 77, Rack: 77, Missed: 77}

// roomy copies a list, with room behind it, so that a write into it can be told.
func roomy(l []api.Ask) []api.Ask {
	room := append(slices.Clone(l), guard, guard)
	return room[:len(l)]
}

// sameRoom compares lists and what stands behind them.
func sameRoom(a, b []api.Ask) bool {
	return len(a) == len(b) && slices.Equal(a[:cap(a)], b[:cap(b)])
}

// spoil writes over a list and the room behind it.
func spoil(l []api.Ask) {
	for i := range l[:cap(l)] {
		l[:cap(l)][i] = api.Ask{Prio: 55, Missed: 55}
	}
}

// held makes a call that gives a list twice, and holds it against P2 and P3.
func held[T comparable](t *testing.T, what string, l []api.Ask, call func([]api.Ask) ([]api.Ask, T)) ([]api.Ask, T) {
	t.Helper()
	a, b := roomy(l), roomy(l)
	r, told := call(a)
	want := slices.Clone(r)
	if !sameRoom(a, roomy(l)) {
		t.Errorf("P2: %s: the list that was passed is %+v, or the room behind it", what, a[:cap(a)])
	}
	spoil(r)
	if !sameRoom(a, roomy(l)) {
		t.Errorf("P2: %s: the result shares memory with the list that was passed", what)
	}
	spoil(a)
	again, other := call(b)
	if other != told || !slices.Equal(again, want) {
		t.Errorf("P2, P3: %s: %+v, %v, and then %+v, %v", what, want, told, again, other)
	}
	spoil(b)
	spoil(r)
	if !slices.Equal(again, want) {
		t.Errorf("P2: %s: the result is kept, or shares memory", what)
	}
	return want, told
}

// set, take, miss and pending are the calls, so held.
func set(t *testing.T, what string, l []api.Ask, a api.Ask) ([]api.Ask, api.Errno) {
	t.Helper()
	return held(t, what, l, func(l []api.Ask) ([]api.Ask, api.Errno) { return asks.Set(l, a) })
}

func take(t *testing.T, what string, l []api.Ask, prio int) ([]api.Ask, bool) {
	t.Helper()
	return held(t, what, l, func(l []api.Ask) ([]api.Ask, bool) { return asks.Take(l, prio) })
}

func miss(t *testing.T, what string, l []api.Ask, prio int) []api.Ask {
	t.Helper()
	r, _ := held(t, what, l, func(l []api.Ask) ([]api.Ask, bool) { return asks.Miss(l, prio), true })
	return r
}

func pending(t *testing.T, what string, l []api.Ask, label int) api.Vec {
	t.Helper()
	_, sum := held(t, what, l, func(l []api.Ask) ([]api.Ask, api.Vec) { return nil, asks.Pending(l, label) })
	return sum
}

// What the holds compare is told apart, also in the room behind a list.
func TestP2TheHoldsHold(t *testing.T) {
	l := some(1, 4, 8)
	for i, change := range []func([]api.Ask){
		func(l []api.Ask) { l[0].Missed++ },
		func(l []api.Ask) { l[2].Size.Cores++ },
		func(l []api.Ask) { _ = append(l, api.Ask{}) },
		func(l []api.Ask) { l[:5][4].Count++ },
		spoil,
	} {
		a := roomy(l)
		if change(a); sameRoom(a, roomy(l)) {
			t.Errorf("change %d is not told", i)
		}
	}
	if !sameRoom(roomy(l), roomy(l)) || sameRoom(roomy(l), roomy(l[:2])) || !sameRoom(roomy(nil), roomy([]api.Ask{})) {
		t.Error("lists that are equal are not told from those that aren't")
	}
}
