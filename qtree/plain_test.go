package qtree_test

import (
	"strconv"
	"strings"
	"testing"

	"dispatch/api"
	"dispatch/qtree"
	"dispatch/share"
)

// toldSum goes down from a queue to its leaves, and sums up there what those are told to have. (By P1103 it is the same as going through all that is below the queue.)
func toldSum(c api.Conf, path string, leaf func(path string) api.Vec) (sum api.Vec) {
	is, kids := false, 0
	for _, q := range c.Queues {
		is = is || q.Path == path
		if above, _, _ := cutLast(q.Path); above == path {
			a := toldSum(c, q.Path, leaf)
			sum, kids = v(sum.Mem+a.Mem, sum.Cores+a.Cores), kids+1
		}
	}
	if is && kids == 0 {
		return leaf(path)
	}
	return sum
}

// cutLast divides a path at its last dot.
func cutLast(path string) (above, name string, is bool) {
	at := strings.LastIndexByte(path, '.')
	if at < 0 {
		return "-", path, false
	}
	return path[:at], path[at+1:], true
}

// toldUsed is what containers have that meet a condition.
func toldUsed(s api.State, path string, label int, of func(api.App) bool) api.Vec {
	return toldSum(s.Conf, path, func(leaf string) (sum api.Vec) {
		for _, a := range s.Apps {
			for _, c := range s.Conts {
				if a.Queue == leaf && of(a) && c.App == a.Id && c.Label == label {
					sum = v(sum.Mem+c.Size.Mem, sum.Cores+c.Size.Cores)
				}
			}
		}
		return sum
	})
}

// toldPending adds an ask as often as its Count says.
func toldPending(s api.State, path string, label int) api.Vec {
	return toldSum(s.Conf, path, func(leaf string) (sum api.Vec) {
		for _, a := range s.Apps {
			for _, x := range a.Asks {
				for i := 0; i < x.Count && x.Label == label && a.Queue == leaf && (a.State == api.Waiting || a.State == api.Running); i++ {
					sum = v(sum.Mem+x.Size.Mem, sum.Cores+x.Size.Cores)
				}
			}
		}
		return sum
	})
}

// toldRoom is how much room there is, at most: the least that one of the bounds leaves; parts below 0 say that there is not even room for nothing.
func toldRoom(s api.State, path string, label int) api.Vec {
	least := func(a, b api.Vec) api.Vec { return v(min(a.Mem, b.Mem), min(a.Cores, b.Cores)) }
	left := func(bound api.Vec, path string) api.Vec {
		used := toldUsed(s, path, label, func(api.App) bool { return true })
		return v(bound.Mem-used.Mem, bound.Cores-used.Cores)
	}
	total, kept := share.Total(s, label), share.Kept(s, label)
	room := left(v(max(0, total.Mem-kept.Mem), max(0, total.Cores-kept.Cores)), "root")
	for more := true; more; path, _, more = cutLast(path) {
		room = least(room, left(share.Most(s, path, label), path))
	}
	return room
}

// checkTold holds everything of a sound state against the plain one, and P1103 of it.
func checkTold(t *testing.T, s api.State, users ...int) {
	t.Helper()
	wantSound(t, "told", s)
	for label := range s.Conf.Labels {
		for _, q := range s.Conf.Queues {
			wantVec(t, "P1101: Used", q.Path, label, qtree.Used(s, q.Path, label), toldUsed(s, q.Path, label, func(api.App) bool { return true }))
			wantVec(t, "P1101: Pending", q.Path, label, qtree.Pending(s, q.Path, label), toldPending(s, q.Path, label))
			for _, user := range users {
				wantVec(t, "P1101: UserUsed by "+strconv.Itoa(user), q.Path, label, qtree.UserUsed(s, q.Path, label, user), toldUsed(s, q.Path, label, func(a api.App) bool { return a.User == user }))
			}
			checkToldRoom(t, s, q.Path, label)
		}
	}
	checkP1103(t, s)
}

// checkToldRoom asks for sizes around the room that there is.
func checkToldRoom(t *testing.T, s api.State, path string, label int) {
	t.Helper()
	room := toldRoom(s, path, label)
	for _, mem := range []int{0, room.Mem, room.Mem + 1} {
		for _, cores := range []int{0, room.Cores, room.Cores + 1} {
			is := 0 <= mem && mem <= room.Mem && 0 <= cores && cores <= room.Cores
			wantRoom(t, "told", s, path, label, v(mem, cores), is)
		}
	}
}

func TestP1101P1102P1103Rich(t *testing.T) {
	checkTold(t, full(), 0, 1, 2, 3, 4)
	for now := range 11 {
		s := rich()
		s.Now = now
		checkTold(t, s, 0, 7, 8, 9, 10)
	}
}

// Without any one of its containers, applications or plans, a state has what the rest has.
func TestP1101P1102P1103RichWithoutOne(t *testing.T) {
	for i := range rich().Conts {
		s := rich()
		if c := s.Conts[i]; c.Master {
			continue
		}
		s.Conts = append(s.Conts[:i], s.Conts[i+1:]...)
		checkTold(t, s, 7, 8, 9)
	}
	for i, a := range rich().Apps {
		s := rich()
		s.Apps, s.Conts = append(s.Apps[:i], s.Apps[i+1:]...), nil
		for _, c := range rich().Conts {
			if c.App != a.Id {
				s.Conts = append(s.Conts, c)
			}
		}
		checkTold(t, s, 7, 8, 9)
	}
	for i := range rich().Plans {
		s := rich()
		s.Plans, s.Now = append(s.Plans[:i], s.Plans[i+1:]...), 8
		checkTold(t, s, 7)
	}
}

// wood is a configuration of two labels, in which the shares of kids differ from label to label.
const wood = `labels gpu
queue root 10000 10000/10000 10000/10000
queue root.a 10000 6000/7000 0/10000
queue root.a.a 10000 5000/9000 10000/10000
queue root.a.a-a 10000 5000/5000 0/6000
queue root.a.a.a 10000 10000/10000 10000/10000
queue root.aa 10000 4000/4000 10000/10000
`

// All states with up to three applications, each in any of the leaves, of any of two users, waiting or running.
func TestP1101P1102P1103AllShortListsOfApplications(t *testing.T) {
	var pool []api.App
	for i, leaf := range []string{"root.a.a-a", "root.a.a.a", "root.aa"} {
		for user := range 2 {
			pool = append(pool, running(0, leaf, user, ask(1, user, 1+i, 2, 2)), waiting(0, leaf, user))
		}
	}
	var place func(s api.State)
	place = func(s api.State) {
		checkTold(t, s, 0, 1, 2)
		for _, a := range pool {
			next := s
			if a.Id = len(s.Apps); a.Id == 3 {
				return
			}
			next.Apps = append(s.Apps[:a.Id:a.Id], a)
			if a.State == api.Running {
				next.Conts = append(s.Conts[:len(s.Conts):len(s.Conts)], master(a.Id, a.Id, 4+a.Id, 3-a.Id))
			}
			place(next)
		}
	}
	place(api.State{Conf: parsed(wood), Nodes: []api.Node{node(1, 0, 20, 10), node(2, 1, 10, 10)}})
}

// All states of three applications with up to three containers beside their masters, of each two labels and sizes, with and without a plan.
func TestP1101P1102P1103AllShortListsOfContainers(t *testing.T) {
	var pool []api.Cont
	for app := range 3 {
		for label := range 2 {
			pool = append(pool, cont(0, app, label, 2, 0), cont(0, app, label, 1, 3))
		}
	}
	base := api.State{Conf: parsed(wood), Nodes: []api.Node{node(1, 0, 16, 16), node(2, 1, 11, 12)}, Now: 3}
	base.Apps = []api.App{running(0, "root.a.a-a", 1), running(1, "root.a.a.a", 2), running(2, "root.aa", 1)}
	base.Conts = []api.Cont{master(0, 0, 1, 1), master(1, 1, 2, 1), master(2, 2, 1, 2)}
	var place func(s api.State)
	place = func(s api.State) {
		kept := s
		checkTold(t, s, 1, 2)
		kept.Plans = []api.Plan{plan(1, len(s.Conts)%2, 3, 4, 5, 7)}
		checkTold(t, kept, 1)
		for _, c := range pool {
			if c.Id = len(s.Conts); c.Id == 6 {
				return
			}
			next := s
			next.Conts = append(s.Conts[:c.Id:c.Id], c)
			place(next)
		}
	}
	place(base)
}

// Each queue on the way from root.a.a.a to root has so much, and is full by one part less, just full, or by one part more.
func TestP1102AllEdgesTogether(t *testing.T) {
	for _, own := range []int{0, 598, 599, 600} {
		for _, beside := range []int{0, 199, 200, 201, 300, 1000} {
			for _, away := range []int{0, 100, 199, 200, 201, 1000} {
				for _, need := range []int{0, 99, 100, 101, 400, 999, 1000, 1001} {
					s := api.State{Conf: parsed(steep), Nodes: []api.Node{node(1, 0, 3000, 3000), down(node(2, 0, 1, 1))}}
					s.Conf.Queues[1].Caps[0].Most = 8000 / 3
					for i, size := range []int{own, beside, away} {
						s.Apps = append(s.Apps, running(i, []string{"root.a.a.a", "root.a.b", "root.b"}[i], i))
						s.Conts = append(s.Conts, master(i, i, size, (size+i)/2))
					}
					s.Conf.Queues[1].Caps[0].Least, s.Conf.Queues[5].Caps[0].Least = 2000, 8000
					s.Conf.Queues[5].Caps[0].Most = 8000
					s.Plans = []api.Plan{plan(1, 0, 0, 1, need, 2000+need)}
					checkTold(t, s, 0)
				}
			}
		}
	}
}
