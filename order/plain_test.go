package order_test

import (
	"math/big"
	"slices"
	"strings"
	"testing"

	"dispatch/api"
	"dispatch/order"
	"dispatch/share"
)

// toldUsed sums up what is used of a label in a queue, in all leaves below it.
func toldUsed(s api.State, path string, label int) (sum api.Vec) {
	for _, c := range s.Conts {
		for _, a := range s.Apps {
			if c.Label == label && a.Id == c.App && strings.HasPrefix(a.Queue+".", path+".") {
				sum = v(sum.Mem+c.Size.Mem, sum.Cores+c.Size.Cores)
			}
		}
	}
	return sum
}

// toldPart is x / y as chapter 1 takes it; it is nil if it is greater than every number.
func toldPart(x, y int) *big.Rat {
	switch {
	case x == 0:
		return new(big.Rat)
	case y == 0:
		return nil
	}
	return big.NewRat(int64(x), int64(y))
}

func toldCompare(x, y *big.Rat) int {
	switch {
	case x == nil && y == nil:
		return 0
	case x == nil:
		return 1
	case y == nil:
		return -1
	}
	return x.Cmp(y)
}

// toldLoad is the greater part of a queue's guarantee that is used.
func toldLoad(s api.State, path string, label int) *big.Rat {
	used, least := toldUsed(s, path, label), share.Least(s, path, label)
	mem, cores := toldPart(used.Mem, least.Mem), toldPart(used.Cores, least.Cores)
	if toldCompare(mem, cores) < 0 {
		return cores
	}
	return mem
}

// toldKids asks of each queue directly below a path how many of the others come first.
func toldKids(s api.State, path string, label int) []string {
	var kids []string
	for _, q := range s.Conf.Queues {
		if rest, below := strings.CutPrefix(q.Path, path+"."); below && !strings.Contains(rest, ".") {
			kids = append(kids, q.Path)
		}
	}
	list := make([]string, len(kids))
	for _, kid := range kids {
		first := 0
		for _, other := range kids {
			c := toldCompare(toldLoad(s, other, label), toldLoad(s, kid, label))
			if c < 0 || c == 0 && other < kid {
				first++
			}
		}
		list[first] = kid
	}
	return list
}

// toldPlaces is the place of each queue from below root down to a leaf, among those beside it.
func toldPlaces(s api.State, leaf string, label int) (places []int) {
	for i, c := range leaf + "." {
		if above, _, is := cutLast(leaf[:i]); c == '.' && is {
			places = append(places, slices.Index(toldKids(s, above, label), leaf[:i]))
		}
	}
	return places
}

// cutLast divides a path at its last dot.
func cutLast(path string) (above, name string, is bool) {
	at := strings.LastIndexByte(path, '.')
	if at < 0 {
		return "", path, false
	}
	return path[:at], path[at+1:], true
}

// toldLeaves holds the leaves against each other from root down, by what is beside one another there.
func toldLeaves(s api.State, label int) (leaves []string) {
	for _, q := range s.Conf.Queues {
		if len(toldKids(s, q.Path, label)) == 0 {
			leaves = append(leaves, q.Path)
		}
	}
	places := map[string][]int{}
	for _, leaf := range leaves {
		places[leaf] = toldPlaces(s, leaf, label)
	}
	slices.SortFunc(leaves, func(a, b string) int { return slices.Compare(places[a], places[b]) })
	return leaves
}

// toldApps goes through all Prios and Ids that there may be in the tests.
func toldApps(s api.State, queue string) (ids []int) {
	for prio := 9; prio >= 0; prio-- {
		for id := range 100 {
			for _, a := range s.Apps {
				if a.Id == id && a.Prio == prio && a.Queue == queue && a.State != api.Finished && a.State != api.Killed {
					ids = append(ids, id)
				}
			}
		}
	}
	return ids
}

// checkTold holds everything of a sound state against the plain one.
func checkTold(t *testing.T, s api.State) {
	t.Helper()
	wantSound(t, "told", s)
	for label := range len(s.Conf.Labels) + 1 {
		for _, q := range s.Conf.Queues {
			wantKids(t, "told", s, q.Path, label, toldKids(s, q.Path, label)...)
		}
		wantLeaves(t, "told", s, label, toldLeaves(s, label)...)
		checkP1203(t, s, label)
	}
	for _, q := range s.Conf.Queues {
		wantApps(t, "told", s, q.Path, toldApps(s, q.Path)...)
	}
}

func TestP1201P1202P1203Rich(t *testing.T) {
	checkTold(t, rich())
	for i := range rich().Conts {
		s := rich()
		s.Conts = slices.Delete(s.Conts, i, i+1)
		s.Apps[i].State = api.Waiting
		checkTold(t, s)
	}
}

// wood is a configuration of two labels, in which the shares of kids differ from label to label.
const wood = `labels gpu
queue root 10000 10000/10000 10000/10000
queue root.a 10000 6000/7000 0/10000
queue root.a.a 10000 5000/9000 10000/10000
queue root.a.a-a 10000 5000/5000 0/6000
queue root.a.a.a 10000 4000/10000 5000/10000
queue root.a.a.b 10000 6000/10000 5000/10000
queue root.aa 10000 4000/4000 10000/10000
`

// All states in which each leaf of wood uses so much or so much, of clusters of unlike sizes; of the other label it uses what the one beside it uses of this one.
func TestP1201P1203AllShortUses(t *testing.T) {
	sizes := []api.Vec{v(0, 0), v(1, 0), v(0, 2), v(3, 1)}
	leaves := []string{"root.a.a-a", "root.a.a.a", "root.a.a.b", "root.aa"}
	for n := range 4 * 4 * 4 * 4 {
		for _, total := range []api.Vec{v(12, 12), v(20, 10), v(100, 100)} {
			s := api.State{Conf: parsed(wood), Nodes: []api.Node{node(1, 0, total.Mem, total.Cores), node(2, 1, total.Mem, total.Cores)}}
			for i, leaf := range leaves {
				s = uses(s, leaf, 0, sizes[n>>(2*i)%4])
				s = uses(s, leaf, 1, sizes[n>>(2*(3-i))%4])
			}
			checkTold(t, s)
		}
	}
}

// All pairs of parts around each other, of guarantees that are unlike, and that have common divisors.
func TestP1201AllShortParts(t *testing.T) {
	for _, least := range []string{"2000/10000\nqueue root.b 1 8000/10000\n", "4000/10000\nqueue root.b 1 6000/10000\n", "0/10000\nqueue root.b 1 10000/10000\n", "5000/10000\nqueue root.b 1 5000/10000\n", "10000/10000\nqueue root.b 1 0/10000\n"} {
		s := api.State{Conf: parsed("labels\nqueue root 1 10000/10000\nqueue root.a 1 " + least), Nodes: []api.Node{node(1, 0, 10, 10)}}
		for n := range 6 * 6 * 6 * 6 {
			checkTold(t, uses(uses(s, "root.a", 0, v(n%6, n/6%6)), "root.b", 0, v(n/36%6, n/216)))
		}
	}
}

// All lists of up to three applications, of each leaf, state and Prio.
func TestP1202AllShortListsOfApplications(t *testing.T) {
	var pool []api.App
	for _, queue := range []string{"root.a.a.a", "root.aa"} {
		for _, state := range []int{api.Waiting, api.Running, api.Finished, api.Killed} {
			for _, prio := range []int{0, 5, 9} {
				pool = append(pool, app(0, state, queue, prio))
			}
		}
	}
	var place func(s api.State)
	place = func(s api.State) {
		wantSound(t, "told", s)
		for _, q := range s.Conf.Queues {
			wantApps(t, "told", s, q.Path, toldApps(s, q.Path)...)
		}
		for _, a := range pool {
			next := s
			if a.Id = len(s.Apps); a.Id == 3 {
				return
			}
			next.Apps = append(s.Apps[:a.Id:a.Id], a)
			if a.State == api.Running {
				next.Conts = append(s.Conts[:len(s.Conts):len(s.Conts)], api.Cont{Id: a.Id, App: a.Id, Node: 1, Size: v(1, 1), Master: true})
			}
			place(next)
		}
	}
	place(api.State{Conf: parsed(wood), Nodes: []api.Node{node(1, 0, 20, 10), node(2, 1, 10, 10)}})
}

// The order is the same whatever is asked first, and Leaves is made of Kids: each one has its place in what stands for the queue above it.
func TestP1201LeavesAreMadeOfKids(t *testing.T) {
	s := rich()
	for label := range 4 {
		l := slices.Clone(order.Kids(s, "root", label))
		for i := 0; i < len(l); {
			kids := order.Kids(s, l[i], label)
			if len(kids) == 0 {
				i++
				continue
			}
			l = slices.Concat(l[:i], kids, l[i+1:])
		}
		wantLeaves(t, "made of Kids", s, label, l...)
	}
}
