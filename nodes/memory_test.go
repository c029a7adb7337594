package nodes_test

import (
	"cmp"
	"reflect"
	"slices"
	"testing"

	"dispatch/api"
	"dispatch/nodes"
)

// roomy copies a state, with room behind each of its lists in which something stands, so that a write into it can be told.
func roomy(s api.State) api.State {
	return roomyValue(reflect.ValueOf(s)).Interface().(api.State)
}

func roomyValue(v reflect.Value) reflect.Value {
	out := reflect.New(v.Type()).Elem()
	switch v.Kind() {
	case reflect.Struct:
		for i := range v.NumField() {
			out.Field(i).Set(roomyValue(v.Field(i)))
		}
	case reflect.Slice:
		l := reflect.MakeSlice(v.Type(), v.Len()+1, v.Len()+1)
		for i := range v.Len() {
			l.Index(i).Set(roomyValue(v.Index(i)))
		}
		guard(l.Index(v.Len()))
		out.Set(l.Slice(0, v.Len()))
	default:
		out.Set(v)
	}
	return out
}

func guard(v reflect.Value) {
	switch v.Kind() {
	case reflect.Struct:
		for i := range v.NumField() {
			guard(v.Field(i))
		}
	case reflect.Int:
		v.SetInt(77)
	case reflect.String:
		v.SetString("guard")
	}
}

// same compares states, and holds a nil list for equal to an empty one; sameRoom compares what stands behind their lists too.
func same(a, b api.State) bool { return alike(reflect.ValueOf(a), reflect.ValueOf(b), false) }

func sameRoom(a, b api.State) bool { return alike(reflect.ValueOf(a), reflect.ValueOf(b), true) }

func alike(a, b reflect.Value, room bool) bool {
	switch a.Kind() {
	case reflect.Struct:
		for i := range a.NumField() {
			if !alike(a.Field(i), b.Field(i), room) {
				return false
			}
		}
		return true
	case reflect.Slice:
		if a.Len() != b.Len() {
			return false
		}
		if room {
			a, b = a.Slice(0, a.Cap()), b.Slice(0, b.Cap())
		}
		for i := range a.Len() {
			if !alike(a.Index(i), b.Index(i), room) {
				return false
			}
		}
		return true
	}
	return a.Interface() == b.Interface()
}

// span is the memory of a list, with the room behind it.
type span struct{ from, until uintptr }

func spans(v reflect.Value) (l []span) {
	switch v.Kind() {
	case reflect.Struct:
		for i := range v.NumField() {
			l = append(l, spans(v.Field(i))...)
		}
	case reflect.Slice:
		if v.Cap() > 0 {
			l = append(l, span{v.Pointer(), v.Pointer() + uintptr(v.Cap())*v.Type().Elem().Size()})
		}
		for i := range v.Cap() {
			l = append(l, spans(v.Slice(0, v.Cap()).Index(i))...)
		}
	}
	return l
}

// apart tells whether no two lists of the values share memory.
func apart(values ...any) bool {
	var l []span
	for _, v := range values {
		l = append(l, spans(reflect.ValueOf(v))...)
	}
	slices.SortFunc(l, func(a, b span) int { return cmp.Compare(a.from, b.from) })
	for i := range len(l) - 1 {
		if l[i].until > l[i+1].from {
			return false
		}
	}
	return true
}

// change makes a call that gives a state twice, and holds it against P2, P3, and, where the state is a sound one, P803.
func change(t *testing.T, what string, s api.State, sound bool, call func(api.State) (api.State, api.Errno)) (api.State, api.Errno) {
	t.Helper()
	a, b := roomy(s), roomy(s)
	r, e := call(a)
	again, other := call(b)
	if !sameRoom(a, roomy(s)) || !sameRoom(b, roomy(s)) {
		t.Errorf("P2: %s: the state that was passed has changed, or the room behind its lists", what)
	}
	if other != e || !same(again, r) {
		t.Errorf("P3: %s: %+v, %v, and then %+v, %v", what, r, e, again, other)
	}
	if e == api.OK && !apart(a, b, r, again) {
		t.Errorf("P2: %s: the new state shares memory with the one that was passed, or lists of it do", what)
	}
	if sound && e != api.OK && !same(r, s) {
		t.Errorf("P803: %s: %v, and the state that was %+v is %+v", what, e, s, r)
	}
	return r, e
}

// register, beat are the calls, so held.
func register(t *testing.T, what string, s api.State, n api.Node) (api.State, api.Errno) {
	t.Helper()
	return change(t, what, s, true, func(s api.State) (api.State, api.Errno) { return nodes.Register(s, n) })
}

func beat(t *testing.T, what string, s api.State, id, number int) (api.State, api.Errno) {
	t.Helper()
	return change(t, what, s, true, func(s api.State) (api.State, api.Errno) { return nodes.Beat(s, id, number) })
}

// The states that change is used with have lists of every kind, so that what it asks for asks something.
func TestP2TheHoldsHold(t *testing.T) {
	s := rich()
	for i, spoil := range []func(api.State) api.State{
		func(s api.State) api.State { s.Conf.Labels[0] = "x"; return s },
		func(s api.State) api.State { s.Conf.Queues[1].Caps[0].Most++; return s },
		func(s api.State) api.State { s.Nodes[0].Beat++; return s },
		func(s api.State) api.State { s.Apps[0].Asks[0].Count++; return s },
		func(s api.State) api.State { s.Apps[0].Lost[0]++; return s },
		func(s api.State) api.State { _ = append(s.Plans, api.Plan{}); return s },
		func(s api.State) api.State { _ = append(s.Apps[0].Told, 1); return s },
	} {
		if a := spoil(roomy(s)); sameRoom(a, roomy(s)) {
			t.Errorf("change %d is not told", i)
		}
	}
	a, b := roomy(s), roomy(s)
	if !apart(a, b) || apart(a, a) {
		t.Error("states that share memory are not told from those that don't")
	}
	if b.Apps[0].Kills = a.Apps[0].Kills[:0]; apart(a, b) {
		t.Error("states that share the room of one list are not told")
	}
}
