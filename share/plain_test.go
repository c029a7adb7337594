package share_test

import (
	"math/big"
	"strings"
	"testing"

	"dispatch/api"
	"dispatch/rule"
	"dispatch/share"
)

// toldPart is so many basis points of a number, rounded down, as chapter 1 tells it.
func toldPart(number, points int) int {
	n := big.NewInt(int64(number))
	n.Mul(n, big.NewInt(int64(points)))
	return int(n.Div(n, big.NewInt(whole)).Int64())
}

func toldScale(a api.Vec, points int) api.Vec {
	return v(toldPart(a.Mem, points), toldPart(a.Cores, points))
}

// toldShares are Least, Most and User of a queue written down as the chapter tells them, from the queue up to root.
func toldShares(s api.State, path string, label int) (least, most, user api.Vec) {
	for _, q := range s.Conf.Queues {
		if q.Path != path {
			continue
		}
		least, most = toldTotal(s, label), toldTotal(s, label)
		if path != "root" {
			least, most, _ = toldShares(s, path[:strings.LastIndexByte(path, '.')], label)
			least, most = toldScale(least, q.Caps[label].Least), toldScale(most, q.Caps[label].Most)
		}
		return least, most, toldScale(least, q.User)
	}
	return least, most, user
}

func toldTotal(s api.State, label int) (sum api.Vec) {
	for i := range s.Nodes {
		if s.Nodes[i].Up && s.Nodes[i].Label == label {
			sum.Mem += s.Nodes[i].Cap.Mem
			sum.Cores += s.Nodes[i].Cap.Cores
		}
	}
	return sum
}

// toldKept counts at which of the plan's ticks the time stands: once, or never.
func toldKept(s api.State, label int) (sum api.Vec) {
	for _, p := range s.Plans {
		for t := p.From; t < p.Until; t++ {
			if t == s.Now && p.Label == label {
				sum.Mem += p.Need.Mem
				sum.Cores += p.Need.Cores
			}
		}
	}
	return sum
}

// checkTold holds everything of a state against the plain one, and P703 of it.
func checkTold(t *testing.T, s api.State) {
	t.Helper()
	if e := rule.Check(s.Conf); e != api.OK {
		t.Fatalf("a configuration that may not be: %+v: %v", s.Conf, e)
	}
	for label := range s.Conf.Labels {
		checkTotal(t, "told", s, label, toldTotal(s, label))
		checkKept(t, "told", s, label, toldKept(s, label))
		for _, q := range s.Conf.Queues {
			least, most, user := toldShares(s, q.Path, label)
			checkQueue(t, "told", s, q.Path, label, least, most, user)
			checkP703(t, s, q.Path, label)
		}
	}
}

// checkP703 holds Least of a queue against its Most, and against what its kids have together.
func checkP703(t *testing.T, s api.State, path string, label int) {
	t.Helper()
	least, most := share.Least(s, path, label), share.Most(s, path, label)
	if least.Mem > most.Mem || least.Cores > most.Cores {
		t.Errorf("P703: Least of %s, %d, is %v, and Most %v", path, label, least, most)
	}
	var sum api.Vec
	for _, kid := range rule.Kids(s.Conf, path) {
		a := share.Least(s, kid, label)
		sum.Mem += a.Mem
		sum.Cores += a.Cores
	}
	if sum.Mem > least.Mem || sum.Cores > least.Cores {
		t.Errorf("P703: Least of %s, %d, is %v, and of its kids together %v", path, label, least, sum)
	}
}

func TestP702P703AllPartsOfAllTotals(t *testing.T) {
	totals := []int{0, 1, 2, 3, 7, 9999, 10000, 10001, 123456789, mostCap, 12 * mostCap, mostPart/100 - 1}
	parts := []int{0, 1, 3333, 5000, 6667, 9999, whole}
	for _, least := range parts {
		for _, most := range parts {
			if most < least || most < whole-least {
				continue
			}
			s := api.State{Conf: deep(api.Cap{Least: least, Most: most}, api.Cap{Least: whole - least, Most: most})}
			for i := range s.Conf.Queues {
				s.Conf.Queues[i].User = []int{1, 77, 9999, whole, 10001, 54321, mostUser}[(i+most)%7]
			}
			for i, total := range totals {
				s.Nodes = []api.Node{node(1, 0, total, totals[len(totals)-1-i])}
				checkTold(t, s)
			}
		}
	}
}

// The parts of fifteen kids, each of them rounded, are no more than the whole, for each label.
func TestP703ManyKids(t *testing.T) {
	all := api.Cap{Least: whole, Most: whole}
	s := api.State{Conf: api.Conf{Labels: []string{"", "gpu", "ssd"}, Queues: []api.Queue{{Path: "root", Caps: []api.Cap{all, all, all}, User: whole}}}}
	for i := range 15 {
		least := [3]int{666 + i%2, 0, 1}
		if i == 14 {
			least = [3]int{whole - 14*666 - 7, whole, whole - 14}
		}
		q := api.Queue{Path: "root." + string(rune('a'+i)), User: 1 + i*71428}
		for label, most := range []int{least[0], whole, whole - i} {
			q.Caps = append(q.Caps, api.Cap{Least: least[label], Most: most})
		}
		s.Conf.Queues = append(s.Conf.Queues, q)
	}
	for total := range 200 {
		s.Nodes = []api.Node{node(1, 0, total, 10*total), node(2, 1, 100*total, total), node(3, 2, 1000*total, 10001*total), node(4, 0, total, 1)}
		checkTold(t, s)
	}
}

// All states of up to three nodes, live and not, of each label.
func TestP701AllShortListsOfNodes(t *testing.T) {
	var pool []api.Node
	for label := range 3 {
		pool = append(pool, node(0, label, 15001, 7), down(node(0, label, 333, 33)), node(0, label, 1, 50000))
	}
	var place func(nodes []api.Node)
	place = func(nodes []api.Node) {
		checkTold(t, api.State{Conf: small(), Nodes: nodes})
		for _, n := range pool {
			if n.Id = len(nodes); len(nodes) < 3 {
				place(append(nodes[:len(nodes):len(nodes)], n))
			}
		}
	}
	place(nil)
}

// All states of up to two plans, of each two labels, at each time around them.
func TestP701AllShortListsOfPlans(t *testing.T) {
	var pool []api.Plan
	for label := range 2 {
		for from := range 4 {
			for until := from + 1; until <= 4; until++ {
				pool = append(pool, plan(1, label, from, until, 1+from, 100*until))
			}
		}
	}
	for _, first := range pool {
		for _, second := range pool {
			second.Id = 2
			for now := range 6 {
				s := api.State{Conf: small(), Plans: []api.Plan{first, second}, Now: now}
				for label := range 3 {
					checkKept(t, "told", s, label, toldKept(s, label))
				}
				s.Plans = s.Plans[1:]
				checkKept(t, "told, of one", s, first.Label, toldKept(s, first.Label))
			}
		}
	}
}

func TestP701P702P703Rich(t *testing.T) {
	s := rich()
	for now := range 12 {
		s.Now = now
		checkTold(t, s)
	}
}
