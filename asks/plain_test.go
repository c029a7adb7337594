package asks_test

import (
	"slices"
	"strconv"
	"testing"

	"dispatch/api"
	"dispatch/asks"
)

// toldCheck is P901 written down as the chapter tells it.
func toldCheck(a api.Ask, labels int) api.Errno {
	for _, part := range []struct{ number, least, most int }{
		{a.Prio, 0, 9}, {a.Label, 0, labels - 1}, {a.Size.Mem, 1, 1 << 30}, {a.Size.Cores, 1, 1 << 30}, {a.Node, -1, 999}, {a.Rack, -1, 99},
	} {
		if part.number < part.least || part.number > part.most {
			return api.ErrArg
		}
	}
	if a.Rack == -1 && a.Node != -1 {
		return api.ErrArg
	}
	if a.Count > 50 || a.Count < 0 {
		return api.ErrMany
	}
	return api.OK
}

// byPrio gathers the asks of a list, inOrder lays them out again.
func byPrio(l []api.Ask) map[int]api.Ask {
	m := map[int]api.Ask{}
	for _, a := range l {
		m[a.Prio] = a
	}
	return m
}

func inOrder(m map[int]api.Ask) (l []api.Ask) {
	for prio := range 10 {
		if a, is := m[prio]; is && a.Count != 0 {
			l = append(l, a)
		}
	}
	return l
}

// toldSet, toldTake and toldMiss are P902 likewise.
func toldSet(l []api.Ask, a api.Ask) ([]api.Ask, api.Errno) {
	m := byPrio(l)
	a.Missed = 0
	m[a.Prio] = a
	if l = inOrder(m); len(l) > 8 {
		return nil, api.ErrMany
	}
	return l, api.OK
}

func toldTake(l []api.Ask, prio int) ([]api.Ask, bool) {
	m := byPrio(l)
	a, is := m[prio]
	if is {
		a.Count, a.Missed = a.Count-1, 0
		m[prio] = a
	}
	return inOrder(m), is
}

func toldMiss(l []api.Ask, prio int) []api.Ask {
	m := byPrio(l)
	if a, is := m[prio]; is {
		a.Missed = min(a.Missed+1, 100)
		m[prio] = a
	}
	return inOrder(m)
}

// toldPending adds the sizes up one container after the other.
func toldPending(l []api.Ask, label int) (sum api.Vec) {
	for _, a := range l {
		for range a.Count {
			if a.Label == label {
				sum = api.Vec{Mem: sum.Mem + a.Size.Mem, Cores: sum.Cores + a.Size.Cores}
			}
		}
	}
	return sum
}

func TestP901AllEdgesTogether(t *testing.T) {
	grid := [][]int{{-1, 0, 9, 10}, {-1, 0, 1, 2, 3}, {0, 1, 1 << 30, 1<<30 + 1}, {0, 1, 1 << 30, 1<<30 + 1}, {-1, 0, 1, 50, 51}, {-2, -1, 0, 999, 1000}, {-2, -1, 0, 99, 100}}
	var numbers []int
	var fill func()
	fill = func() {
		if len(numbers) == len(grid) {
			n := numbers
			a := api.Ask{Prio: n[0], Label: n[1], Size: api.Vec{Mem: n[2], Cores: n[3]}, Count: n[4], Node: n[5], Rack: n[6]}
			for labels := range 4 {
				if e, want := asks.Check(a, labels), toldCheck(a, labels); e != want {
					t.Errorf("P901: %+v, of %d labels: %v; want %v", a, labels, e, want)
				}
			}
			return
		}
		for _, number := range grid[len(numbers)] {
			numbers = append(numbers, number)
			fill()
			numbers = numbers[:len(numbers)-1]
		}
	}
	fill()
}

// call is one of a script: of the program, and as it is told. The third result is an error's number, or whether there was such an ask.
type call struct {
	what      string
	done      func(t *testing.T, what string, l []api.Ask) ([]api.Ask, int)
	plainDone func(l []api.Ask) ([]api.Ask, int)
}

func number(is bool) int {
	if is {
		return 1
	}
	return 0
}

func setCall(a api.Ask) call {
	return call{"Set " + strconv.Itoa(a.Prio) + " " + strconv.Itoa(a.Count),
		func(t *testing.T, what string, l []api.Ask) ([]api.Ask, int) {
			r, e := set(t, what, l, a)
			return r, int(e)
		},
		func(l []api.Ask) ([]api.Ask, int) {
			r, e := toldSet(l, a)
			return r, int(e)
		}}
}

func takeCall(prio int) call {
	return call{"Take " + strconv.Itoa(prio),
		func(t *testing.T, what string, l []api.Ask) ([]api.Ask, int) {
			r, is := take(t, what, l, prio)
			return r, number(is)
		},
		func(l []api.Ask) ([]api.Ask, int) {
			r, is := toldTake(l, prio)
			return r, number(is)
		}}
}

func missCall(prio int) call {
	return call{"Miss " + strconv.Itoa(prio),
		func(t *testing.T, what string, l []api.Ask) ([]api.Ask, int) { return miss(t, what, l, prio), 0 },
		func(l []api.Ask) ([]api.Ask, int) { return toldMiss(l, prio), 0 }}
}

func calls(prios []int, counts ...int) (l []call) {
	for _, prio := range prios {
		for i, count := range counts {
			l = append(l, setCall(api.Ask{Prio: prio, Label: i % 2, Size: api.Vec{Mem: 10 + prio, Cores: 1 + i}, Count: count, Node: -1, Rack: i, Missed: 9}))
		}
		l = append(l, takeCall(prio), missCall(prio))
	}
	return l
}

// play goes through all scripts of so many calls from a list on.
func play(t *testing.T, what string, l []api.Ask, length int, of []call) {
	t.Helper()
	for label := -1; label <= 2; label++ {
		if sum, want := pending(t, what, l, label), toldPending(l, label); sum != want {
			t.Errorf("P902: %s: Pending of %d: %v; want %v", what, label, sum, want)
		}
	}
	for _, c := range of {
		if length == 0 || t.Failed() {
			return
		}
		here := what + "; " + c.what
		r, told := c.done(t, here, l)
		plain, want := c.plainDone(l)
		if told != want || !slices.Equal(r, plain) {
			t.Errorf("P902: %s: %+v, %d; want %+v, %d", here, r, told, plain, want)
		}
		play(t, here, plain, length-1, of)
	}
}

func TestP902AllShortScripts(t *testing.T) {
	play(t, "the empty list", nil, 4, calls([]int{0, 5, 9}, 0, 1, 2))
	play(t, "three asks", some(1, 4, 8), 3, calls([]int{0, 1, 3, 4, 6, 8, 9}, 0, 1, 50))
	play(t, "seven asks", some(1, 2, 3, 5, 6, 7, 8), 3, calls([]int{0, 2, 4, 8, 9}, 0, 1, 3))
	play(t, "eight asks", some(0, 1, 2, 3, 4, 5, 6, 7), 3, calls([]int{0, 4, 7, 8, 9}, 0, 2))
}
