package fresh_test

import (
	"reflect"
	"strconv"
	"testing"
	"unsafe"

	"dispatch/api"
	"dispatch/fresh"
)

// rich is a new state in which no list is empty and no number is 0.
func rich() api.State {
	caps := func() []api.Cap { return []api.Cap{{Least: 1, Most: 2}, {Least: 3, Most: 4}} }
	ask := api.Ask{Prio: 1, Label: 2, Size: api.Vec{Mem: 3, Cores: 4}, Count: 5, Node: 6, Rack: 7, Missed: 8}
	app := func(id int) api.App {
		return api.App{Id: id, State: 2, Queue: "root.a", User: 3, Prio: 4, Master: api.Vec{Mem: 5, Cores: 6}, Asks: []api.Ask{ask, ask}, Seen: 7, Beat: 8, Grants: []int{9, 10}, Kills: []int{11}, Told: []int{12}, Lost: []int{13, 14}}
	}
	return api.State{
		Conf:  api.Conf{Labels: []string{"none", "gpu"}, Queues: []api.Queue{{Path: "root", Caps: caps(), User: 5}, {Path: "root.a", Caps: caps(), User: 6}}},
		Nodes: []api.Node{{Id: 1, Label: 2, Rack: 3, Cap: api.Vec{Mem: 4, Cores: 5}, Seen: 6, Beat: 7, Up: true}, {Id: 8}},
		Apps:  []api.App{app(1), app(2)},
		Conts: []api.Cont{{Id: 1, App: 2, Node: 3, Size: api.Vec{Mem: 4, Cores: 5}, Prio: 6, Label: 7, Master: true, Notice: 8}},
		Slots: []api.Slot{{Node: 1, App: 2, Prio: 3}},
		Plans: []api.Plan{{Id: 1, Label: 2, From: 3, Until: 4, Need: api.Vec{Mem: 5, Cores: 6}}},
		Now:   1, Epoch: 2, Seq: 3,
	}
}

// lists are all lists of a value that have room for something, each ahead of those in it.
func lists(v reflect.Value) (l []reflect.Value) {
	switch v.Kind() {
	case reflect.Struct:
		for i := range v.NumField() {
			l = append(l, lists(v.Field(i))...)
		}
	case reflect.Slice:
		if v.Cap() > 0 {
			l = append(l, v.Slice(0, v.Cap()))
		}
		for i := range v.Len() {
			l = append(l, lists(v.Index(i))...)
		}
	}
	return l
}

func TestStateIsEqual(t *testing.T) {
	for _, s := range []api.State{{}, {Now: 5}, rich(), {Nodes: []api.Node{}, Apps: []api.App{{}}}, {Conf: api.Conf{Queues: make([]api.Queue, 300)}, Now: -1}} {
		if c := fresh.State(s); !reflect.DeepEqual(c, s) {
			t.Errorf("the copy of %+v is %+v", s, c)
		}
	}
}

// Each list of a copy is cleared alone, with the room behind it: nothing else of the copy changes, and nothing of the state.
func TestStateSharesNoMemory(t *testing.T) {
	s := rich()
	for i, l := range lists(reflect.ValueOf(rich())) {
		c, want := fresh.State(s), rich()
		lists(reflect.ValueOf(c))[i].Clear()
		lists(reflect.ValueOf(want))[i].Clear()
		if !reflect.DeepEqual(s, rich()) {
			t.Fatalf("list %d, of %s: the state has changed: %+v", i, l.Type(), s)
		}
		if !reflect.DeepEqual(c, want) {
			t.Errorf("list %d, of %s: the copy is %+v; want %+v", i, l.Type(), c, want)
		}
	}
}

// The same of an application alone.
func TestAppIsEqualAndSharesNoMemory(t *testing.T) {
	a := rich().Apps[0]
	for i, l := range lists(reflect.ValueOf(rich().Apps[0])) {
		c, want := fresh.App(a), rich().Apps[0]
		if !reflect.DeepEqual(c, want) {
			t.Fatalf("the copy of %+v is %+v", want, c)
		}
		lists(reflect.ValueOf(c))[i].Clear()
		lists(reflect.ValueOf(want))[i].Clear()
		if !reflect.DeepEqual(a, rich().Apps[0]) {
			t.Fatalf("list %d, of %s: the application has changed: %+v", i, l.Type(), a)
		}
		if !reflect.DeepEqual(c, want) {
			t.Errorf("list %d, of %s: the copy is %+v; want %+v", i, l.Type(), c, want)
		}
	}
	if c := fresh.App(api.App{Id: 4}); !reflect.DeepEqual(c, api.App{Id: 4}) {
		t.Errorf("the copy of an application without lists is %+v", c)
	}
}

func TestStateCopiesStrings(t *testing.T) {
	s := rich()
	s.Conf.Labels[1], s.Conf.Queues[1].Path, s.Apps[1].Queue = strconv.Itoa(1000), strconv.Itoa(2000), strconv.Itoa(3000)
	c := fresh.State(s)
	one := fresh.App(s.Apps[1])
	for _, x := range [][2]string{{s.Apps[1].Queue, one.Queue}, {s.Conf.Labels[1], c.Conf.Labels[1]}, {s.Conf.Queues[1].Path, c.Conf.Queues[1].Path}, {s.Apps[1].Queue, c.Apps[1].Queue}} {
		if x[0] != x[1] || unsafe.StringData(x[0]) == unsafe.StringData(x[1]) {
			t.Errorf("%s and its copy %s, or their memory", x[0], x[1])
		}
	}
}
