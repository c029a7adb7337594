package apps_test

import (
	"maps"
	"slices"
	"strconv"
	"strings"
	"testing"

	"dispatch/api"
	"dispatch/apps"
)

// toldLive says which applications are live.
func toldLive(a api.App) bool { return slices.Contains([]int{api.Waiting, api.Running}, a.State) }

// byId gathers applications, laid lays them out in the order of Ids.
func byId(l []api.App) map[int]api.App {
	m := map[int]api.App{}
	for _, a := range l {
		m[a.Id] = a
	}
	return m
}

func laid(m map[int]api.App) (l []api.App) {
	for _, id := range slices.Sorted(maps.Keys(m)) {
		l = append(l, m[id])
	}
	return l
}

// toldLeaf is what chapter 6 says of leaves.
func toldLeaf(c api.Conf, path string) bool {
	is := false
	for _, q := range c.Queues {
		if strings.HasPrefix(q.Path, path+".") {
			return false
		}
		is = is || q.Path == path
	}
	return is
}

// toldSubmit is P1001 written down as the chapter tells it.
func toldSubmit(s api.State, a api.App) (api.State, api.Errno) {
	for _, part := range []struct{ number, least, most int }{{a.Id, 0, 9999}, {a.User, 0, 99}, {a.Prio, 0, 9}, {a.Master.Mem, 1, 1 << 30}, {a.Master.Cores, 1, 1 << 30}} {
		if part.number < part.least || part.number > part.most {
			return s, api.ErrArg
		}
	}
	m := byId(s.Apps)
	if _, is := m[a.Id]; is {
		return s, api.ErrIs
	}
	dead := slices.DeleteFunc(laid(m), toldLive)
	if len(m)-len(dead) == 16 {
		return s, api.ErrMany
	}
	if !toldLeaf(s.Conf, a.Queue) {
		return s, api.ErrQueue
	}
	if len(m) == 16 {
		delete(m, dead[0].Id)
	}
	m[a.Id] = waiting(a, s.Now)
	s.Apps = laid(m)
	return s, api.OK
}

func toldPut(s api.State, a api.App) api.State {
	m := byId(s.Apps)
	m[a.Id] = a
	s.Apps = laid(m)
	return s
}

// notOf are the containers, and the Slots, that don't belong to an application.
func notOf(s api.State, app int) (conts []api.Cont, slots []api.Slot) {
	for _, c := range s.Conts {
		if c.App != app {
			conts = append(conts, c)
		}
	}
	for _, x := range s.Slots {
		if x.App != app {
			slots = append(slots, x)
		}
	}
	return conts, slots
}

// toldEnd and toldLose are P1002 likewise.
func toldEnd(s api.State, id, state int) (api.State, []int) {
	a, is := byId(s.Apps)[id]
	if !is || !toldLive(a) {
		return s, nil
	}
	var ids []int
	for _, c := range s.Conts {
		if c.App == id {
			ids = append(ids, c.Id)
		}
	}
	a.State, a.Asks, a.Grants, a.Kills, a.Told, a.Lost = state, nil, nil, nil, nil, nil
	s.Conts, s.Slots = notOf(s, id)
	return toldPut(s, a), ids
}

func toldLose(s api.State, ids ...int) api.State {
	for _, id := range ids {
		for _, c := range s.Conts {
			if c.Id == id {
				s = toldLost(s, c)
			}
		}
	}
	return s
}

func toldLost(s api.State, c api.Cont) api.State {
	a := byId(s.Apps)[c.App]
	if c.Master {
		a.State, a.Asks, a.Beat, a.Seen = api.Waiting, []api.Ask{masterAsk(a.Master)}, 0, s.Now
		a.Grants, a.Kills, a.Told, a.Lost = nil, nil, nil, nil
		s.Conts, s.Slots = notOf(s, c.App)
		return toldPut(s, a)
	}
	var others []int
	for _, id := range a.Grants {
		if id != c.Id {
			others = append(others, id)
		}
	}
	if len(others) == len(a.Grants) {
		a.Kills = append(slices.Clone(a.Kills), c.Id)
	}
	a.Grants = others
	s.Conts = slices.DeleteFunc(slices.Clone(s.Conts), func(x api.Cont) bool { return x.Id == c.Id })
	return toldPut(s, a)
}

func toldSilent(s api.State) (ids []int) {
	for _, a := range laid(byId(s.Apps)) {
		if a.State == api.Running && a.Seen+15 <= s.Now {
			ids = append(ids, a.Id)
		}
	}
	return ids
}

// checkTold holds what is asked of a state against the plain answers.
func checkTold(t *testing.T, what string, s api.State) {
	t.Helper()
	if l, want := apps.Silent(s), toldSilent(s); !slices.Equal(l, want) {
		t.Errorf("P1002: %s: Silent: %v; want %v", what, l, want)
	}
	m := byId(s.Apps)
	for id := range 5 {
		want, there := m[id]
		if a, is := apps.Find(s, id); is != there || !sameApp(a, want) {
			t.Errorf("P1001: %s: Find of %d: %+v, %t; want %+v, %t", what, id, a, is, want, there)
		}
		if is, live := apps.Live(want), toldLive(want); is != live {
			t.Errorf("P1001: %s: Live of %d: %t; want %t", what, id, is, live)
		}
	}
}

func TestP1001AllEdgesTogether(t *testing.T) {
	grid := [][]int{{-1, 0, 20, 9999, 10000}, {-1, 0, 99, 100}, {-1, 0, 9, 10}, {0, 1, 1 << 30, 1<<30 + 1}, {0, 1, 1 << 30, 1<<30 + 1}}
	states := []api.State{of(3), rich(), full(15), full(16), over(16, 4), over(16, 15, 1)}
	states[1].Apps[0].Id, states[5].Apps[15].Id = 0, 9999
	var numbers []int
	var fill func()
	fill = func() {
		for _, number := range grid[len(numbers)] {
			numbers = append(numbers, number)
			if len(numbers) < len(grid) {
				fill()
			} else {
				checkSubmits(t, states, numbers)
			}
			numbers = numbers[:len(numbers)-1]
		}
	}
	fill()
}

func checkSubmits(t *testing.T, states []api.State, n []int) {
	t.Helper()
	for i, s := range states {
		for _, queue := range []string{"root.a", "root.b.y", "root.b", "root.d"} {
			a := api.App{Id: n[0], User: n[1], Prio: n[2], Master: v(n[3], n[4]), Queue: queue, State: 4, Beat: 3}
			r, e := apps.Submit(s, a)
			told, want := toldSubmit(s, a)
			if e != want || !same(r, told) {
				t.Errorf("P1001: state %d: Submit of %+v: %v, %+v; want %v, %+v", i, a, e, r.Apps, want, told.Apps)
			}
		}
	}
}

func TestP1001AllThatMayBeOver(t *testing.T) {
	for mask := range 1 << mostApps {
		if mask%7 > 0 && mask>>8 > 0 { // a part of them, and all of the lower half
			continue
		}
		s := full(mostApps)
		for at := range s.Apps {
			if mask>>at&1 == 1 {
				s.Apps[at].State = 3 + at%2
			}
		}
		a := usual(mask % 10000)
		r, e := apps.Submit(s, a)
		if told, want := toldSubmit(s, a); e != want || !same(r, told) {
			t.Errorf("P1001: %b are over: %v, %+v; want %v, %+v", mask, e, r.Apps, want, told.Apps)
		}
	}
}

func TestP1002P1003AllShortListsOfIds(t *testing.T) {
	pool := []int{101, 102, 103, 104, 105, 106, 107, 108, 109, 110, 20}
	var lost func(l []int, want api.State)
	lost = func(l []int, want api.State) {
		if r := apps.Lose(rich(), l); !same(r, want) {
			t.Errorf("P1002: Lose of %v: %+v, %+v, %+v; want %+v, %+v, %+v", l, r.Apps, r.Conts, r.Slots, want.Apps, want.Conts, want.Slots)
		} else {
			wantSound(t, "P1003: Lose", r)
		}
		for _, id := range pool {
			if len(l) < 4 && !t.Failed() {
				lost(append(l[:len(l):len(l)], id), toldLose(want, id))
			}
		}
	}
	lost(nil, rich())
}

func TestP1002AllShortListsOfApplications(t *testing.T) {
	ages := []int{0, 14, 15, 16, 40}
	for i := range len(ages) * len(ages) * 125 {
		s := of(50)
		for id, age := range []int{ages[i%5], ages[i/5%5], 15} {
			a := in(i/25/[]int{1, 5, 25}[id]%5, id)
			a.Seen = 50 - age
			s.Apps = append(s.Apps, a)
		}
		checkTold(t, "three applications", s)
	}
}

// call is one of a script: of the program, and as it is told.
type call struct {
	what            string
	done, plainDone func(api.State) (api.State, []int, api.Errno)
}

func submitCall(a api.App) call {
	return call{"Submit " + strconv.Itoa(a.Id),
		func(s api.State) (api.State, []int, api.Errno) { r, e := apps.Submit(s, a); return r, nil, e },
		func(s api.State) (api.State, []int, api.Errno) { r, e := toldSubmit(s, a); return r, nil, e }}
}

func endCall(id, state int) call {
	return call{"End " + strconv.Itoa(id),
		func(s api.State) (api.State, []int, api.Errno) { r, ids := apps.End(s, id, state); return r, ids, 0 },
		func(s api.State) (api.State, []int, api.Errno) { r, ids := toldEnd(s, id, state); return r, ids, 0 }}
}

func loseCall(ids ...int) call {
	return call{"Lose",
		func(s api.State) (api.State, []int, api.Errno) { return apps.Lose(s, ids), nil, 0 },
		func(s api.State) (api.State, []int, api.Errno) { return toldLose(s, ids...), nil, 0 }}
}

// between is what others do to a state between the calls; it is made by Find and Put, and by their plain writings.
func between(what string, done func(s *api.State, a *api.App), id int) call {
	return call{what + " " + strconv.Itoa(id),
		func(s api.State) (api.State, []int, api.Errno) {
			if a, is := apps.Find(s, id); is {
				done(&s, &a)
				s = apps.Put(s, a)
			}
			return s, nil, 0
		},
		func(s api.State) (api.State, []int, api.Errno) {
			if a, is := byId(s.Apps)[id]; is {
				done(&s, &a)
				s = toldPut(s, a)
			}
			return s, nil, 0
		}}
}

// grant gives a live application a container, its master first, and a Slot.
func grant(s *api.State, a *api.App) {
	if !toldLive(*a) {
		return
	}
	s.Seq++
	c := api.Cont{Id: s.Seq, App: a.Id, Node: 1 + s.Seq%3, Size: a.Master, Master: a.State == api.Waiting}
	s.Conts = append(slices.Clone(s.Conts), c)
	s.Slots = append(slices.Clone(s.Slots), api.Slot{Node: s.Seq, App: a.Id, Prio: 1})
	if c.Master {
		a.State, a.Asks, a.Seen, a.Beat = api.Running, nil, s.Now, 0
	} else {
		a.Grants = append(slices.Clone(a.Grants), c.Id)
	}
}

// tell is a heartbeat of a master.
func tell(s *api.State, a *api.App) {
	if a.State == api.Running {
		a.Told, a.Lost, a.Grants, a.Kills, a.Seen, a.Beat = a.Grants, a.Kills, nil, nil, s.Now, a.Beat+1
	}
}

func calls() []call {
	tick := func(s api.State) (api.State, []int, api.Errno) { s.Now += 8; return s, nil, 0 }
	wrong := usual(4)
	wrong.Queue = "root.b"
	return []call{
		submitCall(usual(1)), submitCall(usual(2)), submitCall(wrong), endCall(1, api.Finished), endCall(2, api.Killed),
		loseCall(1), loseCall(2, 2), loseCall(3, 0), loseCall(4, 1, 2), loseCall(3, 2, 4, 1),
		between("grant", grant, 1), between("grant", grant, 2), between("tell", tell, 1), {"tick", tick, tick},
	}
}

// play goes through all scripts of so many calls from a state on.
func play(t *testing.T, what string, s api.State, length int) {
	t.Helper()
	checkTold(t, what, s)
	wantSound(t, "P1003: "+what, s)
	for _, c := range calls() {
		if length == 0 || t.Failed() {
			return
		}
		r, ids, e := c.done(s)
		told, want, other := c.plainDone(s)
		if e != other || !slices.Equal(ids, want) || !same(r, told) {
			t.Errorf("P1001, P1002: %s; %s: %v, %v, %+v, %+v; want %v, %v, %+v, %+v", what, c.what, e, ids, r.Apps, r.Conts, other, want, told.Apps, told.Conts)
		}
		play(t, what+"; "+c.what, told, length-1)
	}
}

func TestP1001P1002P1003AllShortScripts(t *testing.T) {
	play(t, "no applications", of(0), 4)
	s := of(20)
	for _, c := range []call{submitCall(usual(2)), submitCall(usual(1)), between("grant", grant, 1), between("grant", grant, 1), between("grant", grant, 1), between("grant", grant, 2)} {
		s, _, _ = c.plainDone(s)
	}
	play(t, "containers of two", s, 4)
	play(t, "much else", rich(), 3)
	s = over(15, 0, 9)
	play(t, "fifteen, of which two are over", s, 3)
	s, _ = toldSubmit(s, usual(3))
	play(t, "sixteen, of which two are over", s, 3)
	play(t, "sixteen that are live", full(16), 2)
}
