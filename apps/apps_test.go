package apps_test

import (
	"math"
	"slices"
	"strconv"
	"strings"
	"testing"

	"dispatch/api"
	"dispatch/apps"
	"dispatch/conf"
	"dispatch/rule"
)

// The numbers that the chapter names.
const (
	maxId    = 9999
	maxUser  = 99
	maxPrio  = 9
	maxSize  = 1 << 30
	mostApps = 16
	life     = 15
)

// extremes are numbers far beyond all bounds of the chapter.
var extremes = []int{math.MinInt, math.MinInt + 1, -1 << 40, -1000000, 1 << 31, 1 << 40, 1 << 50, 1 << 62, math.MaxInt - 1, math.MaxInt}

// tree is a configuration in which root and root.b have kids, alone one in which root has none.
const (
	tree = `labels gpu
queue root 10000 10000/10000 10000/10000
queue root.a 10000 5000/10000 5000/10000
queue root.b 5000 5000/10000 0/5000
queue root.b.x 10000 4000/9000 10000/10000
queue root.b.y 100 6000/6000 0/10000
queue root.c 10000 0/10000 5000/5000
`
	alone = "labels\nqueue root 10000 10000/10000\n"
)

// of is a state of tree at a time, with applications.
func of(now int, l ...api.App) api.State {
	c, _ := conf.Parse(tree)
	return api.State{Conf: c, Now: now, Apps: l}
}

func v(mem, cores int) api.Vec { return api.Vec{Mem: mem, Cores: cores} }

// in is an application in that state, which has nothing.
func in(state, id int) api.App {
	return api.App{Id: id, State: state, Queue: "root.a", User: id % 100, Prio: id % 10, Master: v(5+id, 1+id%7), Seen: 3, Beat: 4}
}

// masterAsk is the ask of an application that waits for its master.
func masterAsk(size api.Vec) api.Ask {
	return api.Ask{Prio: 0, Label: 0, Size: size, Count: 1, Node: -1, Rack: -1}
}

// waiting is one that was submitted at a time.
func waiting(a api.App, now int) api.App {
	return api.App{Id: a.Id, State: api.Waiting, Queue: a.Queue, User: a.User, Prio: a.Prio, Master: a.Master, Asks: []api.Ask{masterAsk(a.Master)}, Seen: now}
}

// busy is one that runs, with something in each of its lists.
func busy(id, seen int, grants, kills []int) api.App {
	a := in(api.Running, id)
	a.Asks = []api.Ask{{Prio: 1, Size: v(7, 1), Count: 3, Node: 2, Rack: 1, Missed: 2}, {Prio: 4, Label: 1, Size: v(9, 2), Count: 1, Node: -1, Rack: -1}}
	a.Seen, a.Beat, a.Grants, a.Kills, a.Told, a.Lost = seen, 6, grants, kills, []int{103}, []int{88, 87}
	return a
}

func cont(id, app, node int) api.Cont {
	return api.Cont{Id: id, App: app, Node: node, Size: v(id, 1), Prio: id % 10, Label: node % 2, Notice: id % 3}
}

func master(id, app, node int) api.Cont {
	c := cont(id, app, node)
	c.Master, c.Prio = true, 0
	return c
}

// rich is a state with lists of every kind, and applications in all states.
func rich() api.State {
	s := of(30, waiting(in(api.Waiting, 10), 12), busy(20, 15, []int{106, 109}, []int{90}), busy(30, 16, []int{107}, nil), in(api.Finished, 40), in(api.Running, 50), in(api.Killed, 60), busy(70, 14, nil, []int{91, 92}))
	s.Apps[2].Queue, s.Apps[4].Queue = "root.b.x", "root.c"
	for id := 1; id <= 6; id++ {
		s.Nodes = append(s.Nodes, api.Node{Id: id, Label: id % 2, Rack: 1, Cap: v(100000, 100), Seen: 29, Beat: 3, Up: id != 3})
	}
	s.Conts = []api.Cont{master(101, 20, 2), master(102, 30, 4), cont(103, 20, 2), cont(104, 30, 1), master(105, 50, 6), cont(106, 20, 1), cont(107, 30, 4), cont(108, 70, 2), cont(109, 20, 5), master(110, 70, 6)}
	s.Slots = []api.Slot{{Node: 1, App: 20, Prio: 4}, {Node: 2, App: 30, Prio: 1}, {Node: 4, App: 20, Prio: 1}, {Node: 5, App: 70, Prio: 4}}
	s.Plans = []api.Plan{{Id: 3, Label: 1, From: 20, Until: 40, Need: v(5, 1)}}
	s.Epoch, s.Seq = 2, 110
	return s
}

// full is a state of so many applications that wait, with the Ids 10, 20 and so on.
func full(count int) api.State {
	s := of(6)
	for i := range count {
		s.Apps = append(s.Apps, waiting(in(0, 10+10*i), 2))
	}
	return s
}

// over is such a state in which some are over, by their places.
func over(count int, places ...int) api.State {
	s := full(count)
	for i, at := range places {
		s.Apps[at] = in([]int{api.Finished, api.Killed}[i%2], s.Apps[at].Id)
	}
	return s
}

// usual is an application that may be submitted; what doesn't count in it is set all the same.
func usual(id int) api.App {
	a := busy(id, 99, []int{1}, []int{2, 3})
	a.State, a.Queue = api.Finished, "root.b.y"
	return a
}

func wantError(t *testing.T, what string, got, want api.Errno) {
	t.Helper()
	if got != want {
		t.Errorf("%s: %v; want %v", what, got, want)
	}
}

func wantState(t *testing.T, what string, got, want api.State) {
	t.Helper()
	if !same(got, want) {
		t.Errorf("%s: %+v, %+v, %+v; want %+v, %+v, %+v", what, got.Apps, got.Conts, got.Slots, want.Apps, want.Conts, want.Slots)
	}
}

func wantIds(t *testing.T, what string, got []int, want ...int) {
	t.Helper()
	if !slices.Equal(got, want) {
		t.Errorf("%s: %v; want %v", what, got, want)
	}
}

// wantOwners asks for P1003.
func wantOwners(t *testing.T, what string, s api.State) {
	t.Helper()
	for _, c := range s.Conts {
		if !slices.ContainsFunc(s.Apps, func(a api.App) bool { return a.Id == c.App && (a.State == 1 || a.State == 2) }) {
			t.Errorf("P1003: %s: container %d belongs to %d, which is not live: %+v", what, c.Id, c.App, s.Apps)
		}
	}
}

// wantSound asks for what chapter 19 says of applications and containers.
func wantSound(t *testing.T, what string, s api.State) {
	t.Helper()
	wantOwners(t, what, s)
	masters, all := map[int]int{}, map[int]int{}
	for i, c := range s.Conts {
		all[c.App]++
		if c.Master {
			masters[c.App]++
		}
		if i > 0 && s.Conts[i-1].Id >= c.Id {
			t.Errorf("%s: %d is behind %d", what, c.Id, s.Conts[i-1].Id)
		}
	}
	for i, a := range s.Apps {
		if a.State == api.Running && masters[a.Id] != 1 || a.State == api.Waiting && all[a.Id] != 0 || i > 0 && s.Apps[i-1].Id >= a.Id || len(s.Apps) > mostApps {
			t.Errorf("%s: %+v has %d masters and %d containers", what, a, masters[a.Id], all[a.Id])
		}
	}
}

func TestTheStatesAreSound(t *testing.T) {
	for _, text := range []string{tree, alone} {
		if c, e := conf.Parse(text); e != api.OK || rule.Check(c) != api.OK {
			t.Errorf("%s: %v, %v", text, e, rule.Check(c))
		}
	}
	for _, s := range []api.State{of(1), rich(), full(mostApps), over(mostApps, 3, 4)} {
		wantSound(t, "a state of the tests", s)
	}
}

func TestP1001SubmitTheFirst(t *testing.T) {
	for _, now := range []int{0, 1, 7, 1000000000} {
		for _, a := range []api.App{
			usual(0), usual(5), usual(maxId), {Queue: "root.a", Master: v(1, 1)}, {Id: 3, State: api.Running, Queue: "root.c", Master: v(2, 3), Seen: -1, Beat: -1}, {Id: 4, State: math.MinInt, Queue: "root.b.x", User: 9, Prio: 9, Master: v(2, 3), Asks: []api.Ask{{}, {Prio: -5}}, Seen: math.MaxInt, Beat: math.MinInt},
		} {
			r, e := submit(t, "P1001: a first application", of(now), a)
			wantError(t, "P1001: a first application", e, api.OK)
			wantState(t, "P1001: a first application", r, of(now, waiting(a, now)))
		}
	}
}

// An application that has been submitted is Waiting and has one ask (the chapter's example).
func TestP1001MastersAsk(t *testing.T) {
	s, _ := submit(t, "P1001", of(8), usual(20))
	a, is := find(t, "P1001", s, 20)
	if !is || a.State != api.Waiting || len(a.Asks) != 1 || !apps.Live(a) {
		t.Fatalf("P1001: %+v, %t", a, is)
	}
	if a.Asks[0] != (api.Ask{Prio: 0, Label: 0, Size: v(25, 7), Count: 1, Node: -1, Rack: -1, Missed: 0}) {
		t.Errorf("P1001: the master's ask: %+v", a.Asks[0])
	}
	if len(a.Grants)+len(a.Kills)+len(a.Told)+len(a.Lost) != 0 || a.Seen != 8 || a.Beat != 0 {
		t.Errorf("P1001: %+v", a)
	}
}

func TestP1001SubmitLeavesTheRest(t *testing.T) {
	for at, id := range []int{5, 15, 25, 35, 45, 55, 65, 71} {
		r, e := submit(t, "P1001: a state with much else", rich(), usual(id))
		wantError(t, "P1001: a state with much else", e, api.OK)
		want := rich()
		want.Apps = slices.Insert(want.Apps, at, waiting(usual(id), 30))
		wantState(t, "P1001: a state with much else", r, want)
		wantSound(t, "P1001: a state with much else", r)
	}
}

// orders are all orders of a list.
func orders(l []int) (all [][]int) {
	if len(l) == 0 {
		return [][]int{nil}
	}
	for i, x := range l {
		rest := slices.Delete(slices.Clone(l), i, i+1)
		for _, order := range orders(rest) {
			all = append(all, append([]int{x}, order...))
		}
	}
	return all
}

func TestP1001OrderOfIds(t *testing.T) {
	for _, order := range orders([]int{0, 3, 400, 401, maxId}) {
		s, want, byPut := of(0), of(0), of(0)
		for at, id := range order {
			s.Now, want.Now, byPut.Now = 2*at, 2*at, 2*at
			want.Apps = append(want.Apps, waiting(usual(id), 2*at))
			slices.SortFunc(want.Apps, func(a, b api.App) int { return a.Id - b.Id })
			var e api.Errno
			s, e = submit(t, "P1001: mixed order", s, usual(id))
			wantError(t, "P1001: mixed order", e, api.OK)
			wantState(t, "P1001: mixed order", s, want)
			byPut = put(t, "P1001: Put in mixed order", byPut, waiting(usual(id), 2*at))
			wantState(t, "P1001: Put in mixed order", byPut, want)
		}
	}
}

func TestP1001RisingAndFalling(t *testing.T) {
	rising, falling := of(4), of(4)
	for i := range mostApps {
		var e, other api.Errno
		rising, e = submit(t, "P1001: rising", rising, usual(3*i))
		falling, other = submit(t, "P1001: falling", falling, usual(3*(mostApps-1-i)))
		if e != api.OK || other != api.OK || len(rising.Apps) != i+1 || len(falling.Apps) != i+1 {
			t.Fatalf("P1001: application %d: %v, %v: %+v, %+v", i, e, other, rising.Apps, falling.Apps)
		}
	}
	wantState(t, "P1001: rising and falling", rising, falling)
	for i, a := range rising.Apps {
		if !sameApp(a, waiting(usual(3*i), 4)) {
			t.Errorf("P1001: application %d of sixteen: %+v", i, a)
		}
	}
	for _, s := range []api.State{rising, falling} {
		_, e := submit(t, "P1001: a seventeenth", s, usual(1))
		wantError(t, "P1001: a seventeenth", e, api.ErrMany)
	}
}

// part is one number of an application, and its bounds.
type part struct {
	name        string
	put         func(a *api.App, number int)
	least, most int
}

func parts() []part {
	return []part{
		{"Id", func(a *api.App, number int) { a.Id = number }, 0, maxId},
		{"User", func(a *api.App, number int) { a.User = number }, 0, maxUser},
		{"Prio", func(a *api.App, number int) { a.Prio = number }, 0, maxPrio},
		{"Master.Mem", func(a *api.App, number int) { a.Master.Mem = number }, 1, maxSize},
		{"Master.Cores", func(a *api.App, number int) { a.Master.Cores = number }, 1, maxSize},
	}
}

func TestP1001Bounds(t *testing.T) {
	for _, p := range parts() {
		for _, number := range []int{p.least, p.least + 1, (p.least + p.most) / 2, p.most - 1, p.most} {
			a, what := usual(500), "P1001: "+p.name+" as "+strconv.Itoa(number)
			p.put(&a, number)
			r, e := submit(t, what, of(4), a)
			wantError(t, what, e, api.OK)
			wantState(t, what, r, of(4, waiting(a, 4)))
		}
		for _, number := range append([]int{p.least - 1, p.most + 1}, extremes...) {
			a, what := usual(500), "P1001: "+p.name+" as "+strconv.Itoa(number)
			p.put(&a, number)
			_, e := submit(t, what, of(4), a)
			wantError(t, what, e, api.ErrArg)
			_, e = submit(t, what, rich(), a)
			wantError(t, what, e, api.ErrArg)
		}
	}
}

func TestP1001AllAtTheirBounds(t *testing.T) {
	least, most := usual(0), usual(0)
	for _, p := range parts() {
		p.put(&least, p.least)
		p.put(&most, p.most)
	}
	r, e := submit(t, "P1001: all at their least", of(4), least)
	wantError(t, "P1001: all at their least", e, api.OK)
	r, e = submit(t, "P1001: all at their most", r, most)
	wantError(t, "P1001: all at their most", e, api.OK)
	wantState(t, "P1001: all at their bounds", r, of(4, waiting(least, 4), waiting(most, 4)))
}

func TestP1001Queue(t *testing.T) {
	leaves := map[string]string{tree: " root.a root.b.x root.b.y root.c ", alone: " root "}
	for text := range leaves {
		c, _ := conf.Parse(text)
		for _, queue := range []string{"root", "root.a", "root.b", "root.b.x", "root.b.y", "root.c"} {
			a := usual(7)
			a.Queue = queue
			want := api.ErrQueue
			if strings.Contains(leaves[text], " "+queue+" ") {
				want = api.OK
			}
			r, e := submit(t, "P1001: "+queue, api.State{Conf: c}, a)
			wantError(t, "P1001: "+queue, e, want)
			if e == api.OK {
				wantState(t, "P1001: "+queue, r, api.State{Conf: c, Apps: []api.App{waiting(a, 0)}})
			}
		}
		for _, queue := range []string{"", ".", "a", "b.x", "root.", ".root", "root.d", "root.a.x", "root.a.", "root.aa", "root.A", "Root.a", "root.a ", " root.a", "root..a", "root.b.", "root.b.z", "root.b.x.y", "root.b.x.y.z", "root.c\x00", "\xff\xfe", "root,a", "roo", "root.root"} {
			a := usual(7)
			a.Queue = queue
			_, e := submit(t, "P1001: "+queue, api.State{Conf: c}, a)
			wantError(t, "P1001: "+strconv.Quote(queue), e, api.ErrQueue)
		}
	}
}

func TestP1001IsThere(t *testing.T) {
	for _, s := range []api.State{rich(), full(1), full(mostApps - 1), full(mostApps), over(mostApps, 0, 7), over(mostApps, 0, 1, 2, 3, 4, 5, 6, 7, 8, 9, 10, 11, 12, 13, 14, 15)} {
		for _, known := range s.Apps {
			_, e := submit(t, "P1001: as it is", s, known)
			wantError(t, "P1001: as it is", e, api.ErrIs)
			_, e = submit(t, "P1001: with its Id alone", s, usual(known.Id))
			wantError(t, "P1001: with its Id alone", e, api.ErrIs)
		}
	}
	s, e := submit(t, "P1001: once", of(1), usual(3))
	wantError(t, "P1001: once", e, api.OK)
	_, e = submit(t, "P1001: twice", s, usual(3))
	wantError(t, "P1001: twice", e, api.ErrIs)
	s, _ = end(t, "P1001", s, 3, api.Finished)
	_, e = submit(t, "P1001: when it is over", s, usual(3))
	wantError(t, "P1001: when it is over", e, api.ErrIs)
}

func TestP1001ManyAreLive(t *testing.T) {
	for _, id := range []int{0, 9, 11, 85, 155, 161, maxId} {
		_, e := submit(t, "P1001: a sixteenth", full(mostApps-1), usual(id))
		wantError(t, "P1001: a sixteenth", e, api.OK)
		_, e = submit(t, "P1001: a seventeenth", full(mostApps), usual(id))
		wantError(t, "P1001: a seventeenth", e, api.ErrMany)
		s := full(mostApps)
		for i := range s.Apps {
			s.Apps[i].State = 1 + i%2
			s.Conts = append(s.Conts, master(i+1, s.Apps[i].Id, 1))
		}
		_, e = submit(t, "P1001: a seventeenth, of which half run", s, usual(id))
		wantError(t, "P1001: a seventeenth, of which half run", e, api.ErrMany)
	}
}

func TestP1001OneMakesRoom(t *testing.T) {
	for at := range mostApps {
		for _, id := range []int{0, 9, 11, 85, 155, 161, maxId} {
			s := over(mostApps, at)
			r, e := submit(t, "P1001: one is over", s, usual(id))
			wantError(t, "P1001: one is over", e, api.OK)
			want := full(mostApps)
			want.Apps = inOrder(slices.Delete(want.Apps, at, at+1), waiting(usual(id), 6))
			wantState(t, "P1001: one is over", r, want)
			_, e = submit(t, "P1001: none is over any more", r, usual(77))
			wantError(t, "P1001: none is over any more", e, api.ErrMany)
		}
	}
}

// inOrder is a list of its own, by Ids.
func inOrder(l []api.App, more ...api.App) []api.App {
	l = append(slices.Clone(l), more...)
	slices.SortFunc(l, func(a, b api.App) int { return a.Id - b.Id })
	return l
}

func TestP1001TheLeastIdMakesRoom(t *testing.T) {
	for _, places := range [][]int{{0, 1}, {1, 0}, {3, 9}, {9, 3}, {15, 14}, {2, 5, 15}, {15, 7, 1, 3}, {4, 5, 6, 7, 8, 9, 10, 11, 12, 13, 14, 15}, {15, 14, 13, 12, 11, 10, 9, 8, 7, 6, 5, 4, 3, 2, 1, 0}} {
		s, left := over(mostApps, places...), slices.Sorted(slices.Values(places))
		for i := range left {
			want := s
			at := slices.IndexFunc(s.Apps, func(a api.App) bool { return a.Id == 10+10*left[i] })
			want.Apps = inOrder(slices.Delete(slices.Clone(s.Apps), at, at+1), waiting(usual(5+10*i), 6))
			var e api.Errno
			s, e = submit(t, "P1001: several are over", s, usual(5+10*i))
			wantError(t, "P1001: several are over", e, api.OK)
			wantState(t, "P1001: several are over", s, want)
		}
		_, e := submit(t, "P1001: none is over any more", s, usual(199))
		wantError(t, "P1001: none is over any more", e, api.ErrMany)
	}
}

func TestP1001NoneMakesRoomBelowSixteen(t *testing.T) {
	for count := range mostApps {
		for _, places := range [][]int{{0}, {0, 1}, {count - 1}, {count / 2, count - 1}} {
			if count < 2 {
				continue
			}
			s := over(count, places...)
			r, e := submit(t, "P1001: fewer than sixteen", s, usual(85))
			wantError(t, "P1001: fewer than sixteen", e, api.OK)
			want := s
			want.Apps = inOrder(s.Apps, waiting(usual(85), 6))
			wantState(t, "P1001: fewer than sixteen", r, want)
		}
	}
}

// A refusal doesn't make room: sixteen are still there, those that are over too.
func TestP1001NoneMakesRoomForARefusal(t *testing.T) {
	for _, places := range [][]int{{0}, {4, 9}, {15}} {
		s := over(mostApps, places...)
		a := usual(5)
		a.Queue = "root.b"
		r, e := submit(t, "P1001: a queue that has kids", s, a)
		wantError(t, "P1001: a queue that has kids", e, api.ErrQueue)
		wantState(t, "P1001: a queue that has kids", r, s)
	}
}

func TestP1001TheFirstErrorIsTold(t *testing.T) {
	refused := usual(15)
	refused.Queue = "root"
	_, e := submit(t, "P1001: too many, and no leaf", full(mostApps), refused)
	wantError(t, "P1001: too many, and no leaf", e, api.ErrMany)
	refused.Id = 20
	_, e = submit(t, "P1001: there, too many, and no leaf", full(mostApps), refused)
	wantError(t, "P1001: there, too many, and no leaf", e, api.ErrIs)
	_, e = submit(t, "P1001: there, and no leaf", full(3), refused)
	wantError(t, "P1001: there, and no leaf", e, api.ErrIs)
	for _, p := range parts() {
		for _, number := range []int{p.least - 1, p.most + 1} {
			a := refused
			p.put(&a, number)
			_, e := submit(t, "P1001: everything at once", full(mostApps), a)
			wantError(t, "P1001: everything at once, and "+p.name, e, api.ErrArg)
		}
	}
}

func TestP1001RefusedBetweenOthers(t *testing.T) {
	s, without := of(1), of(1)
	for id := range 4 {
		s, _ = submit(t, "P1001", s, usual(id))
		without, _ = submit(t, "P1001", without, usual(id))
		for _, p := range parts() {
			a := usual(id + 100)
			p.put(&a, p.least-1)
			var e api.Errno
			if s, e = submit(t, "P1001", s, a); e == api.OK {
				t.Errorf("P1001: %+v is not refused", a)
			}
		}
		s, _ = submit(t, "P1001", s, usual(id))
		s, _ = end(t, "P1002", s, id+1, api.Killed)
		s = lose(t, "P1002", s, id, id+1)
	}
	wantState(t, "P1001: after refusals", s, without)
}

func TestP1001Find(t *testing.T) {
	for _, s := range []api.State{rich(), of(3), of(0, in(api.Waiting, 0)), of(0, in(api.Killed, maxId)), over(mostApps, 2, 3)} {
		known := map[int]api.App{}
		for _, a := range s.Apps {
			known[a.Id] = a
		}
		for _, id := range append([]int{-1, 0, 1, 9, 10, 11, 15, 20, 29, 30, 31, 40, 50, 60, 69, 70, 71, 101, 160, 161, maxId - 1, maxId, maxId + 1}, extremes...) {
			want, there := known[id]
			if a, is := find(t, "P1001", s, id); !sameApp(a, want) || is != there {
				t.Errorf("P1001: Find of %d: %+v, %t; want %+v, %t", id, a, is, want, there)
			}
		}
	}
}

func TestP1001PutInItsPlace(t *testing.T) {
	for at, known := range rich().Apps {
		for _, a := range []api.App{{Id: known.Id}, usual(known.Id), busy(known.Id, 1, nil, nil), in(api.Killed, known.Id)} {
			want := rich()
			want.Apps[at] = a
			wantState(t, "P1001: Put of an Id that is there", put(t, "P1001: Put of an Id that is there", rich(), a), want)
		}
		wantState(t, "P1001: Put of what is there", put(t, "P1001: Put of what is there", rich(), known), rich())
	}
}

func TestP1001PutAnother(t *testing.T) {
	for at, id := range []int{5, 15, 25, 35, 45, 55, 65, 75} {
		want := rich()
		want.Apps = slices.Insert(want.Apps, at, usual(id))
		wantState(t, "P1001: Put of another Id", put(t, "P1001: Put of another Id", rich(), usual(id)), want)
	}
	wantState(t, "P1001: Put of the only one", put(t, "P1001: Put of the only one", of(2), usual(3)), of(2, usual(3)))
}

// What Find gives and Put takes is one and the same application.
func TestP1001FindWhatWasPut(t *testing.T) {
	for _, id := range []int{0, 10, 25, 70, maxId} {
		s := put(t, "P1001", rich(), usual(id))
		if a, is := find(t, "P1001", s, id); !is || !sameApp(a, usual(id)) {
			t.Errorf("P1001: Find of %d, which was put: %+v, %t", id, a, is)
		}
	}
}

func TestP1001Live(t *testing.T) {
	for _, state := range append([]int{-1, 0, 1, 2, 3, 4, 5}, extremes...) {
		for _, a := range []api.App{{State: state}, in(state, 4), {State: state, Seen: -1, Grants: []int{1}}} {
			if is, want := apps.Live(a), state == api.Waiting || state == api.Running; is != want {
				t.Errorf("P1001: Live in state %d: %t", state, is)
			}
		}
	}
}

// gone is an application that was ended.
func gone(a api.App, state int) api.App {
	return api.App{Id: a.Id, State: state, Queue: a.Queue, User: a.User, Prio: a.Prio, Master: a.Master, Seen: a.Seen, Beat: a.Beat}
}

// without is a state without some containers, and without the Slots of some applications.
func without(s api.State, conts []int, slots ...int) api.State {
	s.Conts = slices.DeleteFunc(s.Conts, func(c api.Cont) bool { return slices.Contains(conts, c.Id) })
	s.Slots = slices.DeleteFunc(s.Slots, func(x api.Slot) bool { return slices.Contains(slots, x.App) })
	return s
}

func TestP1002End(t *testing.T) {
	for _, x := range []struct {
		at    int
		conts []int
	}{{0, nil}, {1, []int{101, 103, 106, 109}}, {2, []int{102, 104, 107}}, {4, []int{105}}, {6, []int{108, 110}}} {
		for _, state := range []int{api.Finished, api.Killed, 0, 7, -1, math.MaxInt} {
			id := rich().Apps[x.at].Id
			what := "P1002: End of " + strconv.Itoa(id)
			r, ids := end(t, what, rich(), id, state)
			wantIds(t, what, ids, x.conts...)
			want := without(rich(), x.conts, id)
			want.Apps[x.at] = gone(want.Apps[x.at], state)
			wantState(t, what, r, want)
			wantSound(t, what, r)
		}
	}
}

func TestP1002EndOfWhatIsNotLive(t *testing.T) {
	for _, id := range append([]int{40, 60, -1, 0, 1, 9, 11, 25, 71, 101, 104, maxId, maxId + 1}, extremes...) {
		for _, state := range []int{api.Waiting, api.Running, api.Finished, api.Killed} {
			r, ids := end(t, "P1002: End of what is over, or not there", rich(), id, state)
			wantIds(t, "P1002: End of what is over, or not there", ids)
			wantState(t, "P1002: End of what is over, or not there", r, rich())
		}
	}
	r, ids := end(t, "P1002: no applications", of(3), 5, api.Killed)
	wantIds(t, "P1002: no applications", ids)
	wantState(t, "P1002: no applications", r, of(3))
}

func TestP1002EndTwice(t *testing.T) {
	once, ids := end(t, "P1002: once", rich(), 20, api.Finished)
	wantIds(t, "P1002: once", ids, 101, 103, 106, 109)
	twice, ids := end(t, "P1002: twice", once, 20, api.Killed)
	wantIds(t, "P1002: twice", ids)
	wantState(t, "P1002: twice", twice, once)
}

// A state in which an application ended may be a live one: it has lost everything all the same.
func TestP1002EndInALiveState(t *testing.T) {
	for _, state := range []int{api.Waiting, api.Running} {
		r, ids := end(t, "P1002: a live state", rich(), 30, state)
		wantIds(t, "P1002: a live state", ids, 102, 104, 107)
		want := without(rich(), []int{102, 104, 107}, 30)
		want.Apps[2] = gone(want.Apps[2], state)
		wantState(t, "P1002: a live state", r, want)
		wantOwners(t, "P1002: a live state", r)
	}
}

func TestP1002EndOfAll(t *testing.T) {
	for _, order := range orders([]int{10, 20, 30, 50, 70}) {
		s, all := rich(), []int{}
		for _, id := range order {
			var ids []int
			s, ids = end(t, "P1002: one after the other", s, id, api.Finished)
			wantSound(t, "P1002: one after the other", s)
			if !slices.IsSorted(ids) {
				t.Errorf("P1002: End of %d: %v", id, ids)
			}
			all = append(all, ids...)
		}
		wantIds(t, "P1002: all containers", slices.Sorted(slices.Values(all)), 101, 102, 103, 104, 105, 106, 107, 108, 109, 110)
		if len(s.Conts)+len(s.Slots) != 0 {
			t.Errorf("P1002: %+v, %+v are left", s.Conts, s.Slots)
		}
	}
}

func TestP1002LoseOfOthersThanMasters(t *testing.T) {
	for _, x := range []struct {
		ids, conts []int
		done       func(l []api.App)
	}{
		{nil, nil, func([]api.App) {}},
		{[]int{103}, []int{103}, func(l []api.App) { l[1].Kills = []int{90, 103} }},
		{[]int{106}, []int{106}, func(l []api.App) { l[1].Grants = []int{109} }},
		{[]int{109}, []int{109}, func(l []api.App) { l[1].Grants = []int{106} }},
		{[]int{106, 109}, []int{106, 109}, func(l []api.App) { l[1].Grants = nil }},
		{[]int{109, 103, 106}, []int{103, 106, 109}, func(l []api.App) { l[1].Grants, l[1].Kills = nil, []int{90, 103} }},
		{[]int{104}, []int{104}, func(l []api.App) { l[2].Kills = []int{104} }},
		{[]int{107}, []int{107}, func(l []api.App) { l[2].Grants = nil }},
		{[]int{107, 107, 107}, []int{107}, func(l []api.App) { l[2].Grants = nil }},
		{[]int{104, 104, 107, 104}, []int{104, 107}, func(l []api.App) { l[2].Grants, l[2].Kills = nil, []int{104} }},
		{[]int{108, 104, 103, 108}, []int{103, 104, 108}, func(l []api.App) {
			l[1].Kills, l[2].Kills, l[6].Kills = []int{90, 103}, []int{104}, []int{91, 92, 108}
		}},
		{[]int{0, -1, 1, 10, 20, 77, 90, 88, 100, 111, math.MinInt, math.MaxInt}, nil, func([]api.App) {}},
		{[]int{5, 103, 111, 0, 106, 90}, []int{103, 106}, func(l []api.App) { l[1].Grants, l[1].Kills = []int{109}, []int{90, 103} }},
	} {
		r := lose(t, "P1002: not a master", rich(), x.ids...)
		want := without(rich(), x.conts)
		x.done(want.Apps)
		wantState(t, "P1002: not a master", r, want)
		wantSound(t, "P1002: not a master", r)
	}
}

// Kills are in the order in which containers were lost, not in that of Ids.
func TestP1002LoseInTheOrderOfIds(t *testing.T) {
	s := of(9, busy(20, 1, []int{4}, []int{50}))
	s.Conts = []api.Cont{master(1, 20, 1), cont(2, 20, 1), cont(3, 20, 1), cont(4, 20, 1), cont(5, 20, 1)}
	for _, order := range orders([]int{2, 3, 4, 5}) {
		r := lose(t, "P1002: the order", s, order...)
		want := append([]int{50}, slices.DeleteFunc(slices.Clone(order), func(id int) bool { return id == 4 })...)
		wantIds(t, "P1002: Kills", r.Apps[0].Kills, want...)
		wantIds(t, "P1002: Grants", r.Apps[0].Grants)
		if len(r.Conts) != 1 || r.Conts[0] != s.Conts[0] {
			t.Errorf("P1002: %+v are left", r.Conts)
		}
	}
}

func TestP1002LoseOfMasters(t *testing.T) {
	for _, x := range []struct {
		ids, conts, places, slots []int
		kills                     []int // of application 30
	}{
		{[]int{101}, []int{101, 103, 106, 109}, []int{1}, []int{20}, nil},
		{[]int{101, 101}, []int{101, 103, 106, 109}, []int{1}, []int{20}, nil},
		{[]int{101, 103}, []int{101, 103, 106, 109}, []int{1}, []int{20}, nil},
		{[]int{103, 101}, []int{101, 103, 106, 109}, []int{1}, []int{20}, nil},
		{[]int{106, 103, 101, 109, 106}, []int{101, 103, 106, 109}, []int{1}, []int{20}, nil},
		{[]int{101, 104}, []int{101, 103, 104, 106, 109}, []int{1}, []int{20}, []int{104}},
		{[]int{104, 101}, []int{101, 103, 104, 106, 109}, []int{1}, []int{20}, []int{104}},
		{[]int{105}, []int{105}, []int{4}, []int{50}, nil},
		{[]int{110}, []int{108, 110}, []int{6}, []int{70}, nil},
		{[]int{110, 108}, []int{108, 110}, []int{6}, []int{70}, nil},
		{[]int{108, 110}, []int{108, 110}, []int{6}, []int{70}, nil},
		{[]int{110, 0, 101, 7, 105}, []int{101, 103, 105, 106, 108, 109, 110}, []int{1, 4, 6}, []int{20, 50, 70}, nil},
	} {
		r := lose(t, "P1002: masters", rich(), x.ids...)
		want := without(rich(), x.conts, x.slots...)
		for _, at := range x.places {
			want.Apps[at] = waiting(want.Apps[at], 30)
		}
		want.Apps[2].Kills = x.kills
		wantState(t, "P1002: masters", r, want)
		wantSound(t, "P1002: masters", r)
	}
}

func TestP1002LoseAll(t *testing.T) {
	for _, l := range [][]int{{101, 102, 103, 104, 105, 106, 107, 108, 109, 110}, {110, 109, 108, 107, 106, 105, 104, 103, 102, 101}, {104, 110, 102, 105, 101}} {
		r := lose(t, "P1002: all", rich(), l...)
		want := without(rich(), []int{101, 102, 103, 104, 105, 106, 107, 108, 109, 110}, 20, 30, 70)
		for _, at := range []int{1, 2, 4, 6} {
			want.Apps[at] = waiting(want.Apps[at], 30)
		}
		wantState(t, "P1002: all", r, want)
	}
}

// A very long list of Ids takes no more than the list does.
func TestP1002LoseOfManyIds(t *testing.T) {
	l := slices.Repeat([]int{7, 103, -5, 106}, 1<<18)
	r := apps.Lose(rich(), append(l, 101))
	want := without(rich(), []int{101, 103, 106, 109}, 20)
	want.Apps[1] = waiting(want.Apps[1], 30)
	wantState(t, "P1002: a million Ids", r, want)
}

func wantSilent(t *testing.T, what string, s api.State, want ...int) {
	t.Helper()
	wantIds(t, "P1002: Silent: "+what, silent(t, what, s), want...)
}

// seen is an application in that state that was heard of at a time.
func seen(state, id, at int) api.App {
	a := in(state, id)
	a.Seen = at
	return a
}

func TestP1002Silent(t *testing.T) {
	wantSilent(t, "no applications", of(1000))
	for _, now := range []int{life + 1, 30, 1000, 1000000000} {
		for _, age := range []int{0, 1, life - 1, life, life + 1, life * 2} {
			var want []int
			if age >= life {
				want = []int{5}
			}
			wantSilent(t, "one that runs", of(now, seen(api.Running, 5, now-age)), want...)
			for _, state := range []int{-1, 0, api.Waiting, api.Finished, api.Killed, 5, math.MaxInt} {
				wantSilent(t, "one that does not run", of(now, seen(state, 5, now-age)))
			}
		}
		wantSilent(t, "several", of(now, seen(2, 0, now-15), seen(2, 1, now-14), seen(1, 2, now-16), seen(2, 400, now-16), seen(3, 401, now-15), seen(2, 402, now), seen(4, 500, now-99), seen(2, maxId, now-15)), 0, 400, maxId)
	}
	wantSilent(t, "much else", rich(), 20, 50, 70)
	wantSilent(t, "fourteen ticks from 0 on", of(life-1, seen(api.Running, 0, 0)))
	wantSilent(t, "fifteen ticks from 0 on", of(life, seen(api.Running, 0, 0)), 0)
}

// manager.Sound bounds neither Seen nor Now.
func TestP1002SilentOfExtremes(t *testing.T) {
	least, most := math.MinInt, math.MaxInt
	for _, x := range []struct {
		now, seen int
		is        bool
	}{{most, least, true}, {most, most, false}, {most, most - 14, false}, {most, most - 15, true}, {least, least, false}, {least, most, false}, {least + 14, least, false}, {least + 15, least, true}, {0, least, true}, {0, most, false}, {-1, most, false}, {most, -1, true}, {5, 6, false}, {5, 100, false}, {-2, -17, true}, {-2, -16, false}, {7, -8, true}, {6, -8, false}} {
		var want []int
		if x.is {
			want = []int{8}
		}
		wantSilent(t, strconv.Itoa(x.seen)+" at "+strconv.Itoa(x.now), of(x.now, seen(api.Running, 8, x.seen)), want...)
	}
}

func TestP1003AfterEndAndLose(t *testing.T) {
	for _, c := range rich().Conts {
		for _, a := range rich().Apps {
			lost := lose(t, "P1003", rich(), c.Id)
			wantSound(t, "P1003: lost "+strconv.Itoa(c.Id), lost)
			ended, _ := end(t, "P1003", lost, a.Id, api.Finished)
			wantSound(t, "P1003: lost, and then ended", ended)
			ended, _ = end(t, "P1003", rich(), a.Id, api.Killed)
			wantSound(t, "P1003: ended, and then lost", lose(t, "P1003", ended, c.Id))
		}
	}
}

// wild are states that are not sound, for which only P1 and P2 hold.
func wild() []api.State {
	least, most := math.MinInt, math.MaxInt
	strange := []api.App{busy(7, least, []int{1, 1, 9}, []int{1}), busy(7, most, nil, nil), in(api.Killed, 7), busy(3, 0, []int{least}, nil), {Id: -1, State: most, Seen: least}, {Id: most, State: api.Running, Seen: most}, {Id: least, State: api.Waiting}}
	l := []api.State{{}, {Apps: strange}, {Apps: make([]api.App, 300)}, {Conts: make([]api.Cont, 500)}, {Slots: make([]api.Slot, 100)}, full(mostApps + 1), full(40), over(20, 0, 19), over(40, 39)}
	for _, now := range []int{least, -1, 0, most} {
		s := rich()
		s.Now, s.Apps = now, strange
		s.Conts = []api.Cont{master(9, 7, 1), cont(1, 7, 1), master(1, 7, 2), cont(1, 99, 2), master(0, 98, 1), cont(0, 3, 1), master(-5, most, 1), cont(most, least, most)}
		l = append(l, s, api.State{Now: now, Apps: slices.Repeat(strange, 9), Conts: slices.Repeat(s.Conts, 9), Conf: api.Conf{Labels: []string{"x"}, Queues: make([]api.Queue, 3)}})
	}
	return l
}

func TestP1P2P3OfAnyState(t *testing.T) {
	numbers := []int{math.MinInt, -1, 0, 1, 3, 7, 9, 20, 101, maxId, 1 << 50, math.MaxInt}
	for i, s := range append(wild(), rich()) {
		what := "state " + strconv.Itoa(i)
		silent(t, what, s)
		for _, id := range numbers {
			find(t, what, s, id)
			lose(t, what, s, id)
			lose(t, what, s, id, 9, id, 1, 0)
			put(t, what, s, usual(id))
			submit(t, what, s, usual(id))
			for _, number := range numbers {
				end(t, what, s, id, number)
				submit(t, what, s, api.App{Id: id, User: number, Prio: id, Master: v(number, id), Queue: "root", Seen: number})
			}
		}
	}
}

func TestP2P3KeepNothing(t *testing.T) {
	s, a := rich(), usual(5)
	r, _ := apps.Submit(s, a)
	p := apps.Put(s, a)
	q := apps.Lose(s, []int{103, 102})
	found, _ := apps.Find(s, 20)
	ended, ids := apps.End(s, 20, api.Killed)
	wants := []api.State{roomy(r), roomy(p), roomy(q), roomy(ended)}
	clear(a.Asks)
	clear(s.Apps[1].Asks)
	clear(s.Apps[2].Grants)
	clear(s.Apps)
	clear(s.Conts)
	clear(s.Slots)
	clear(s.Conf.Queues[0].Caps)
	clear(s.Conf.Queues)
	for i, got := range []api.State{r, p, q, ended} {
		wantState(t, "P2: what was passed is cleared", got, wants[i])
	}
	wantIds(t, "P2: what was passed is cleared", ids, 101, 103, 106, 109)
	if !sameApp(found, rich().Apps[1]) {
		t.Errorf("P2: what was found is %+v", found)
	}
	clear(r.Apps)
	clear(p.Conts)
	clear(ids)
	wantState(t, "P2: other new states are cleared", ended, wants[3])
}
