package asks_test

import (
	"math"
	"slices"
	"strconv"
	"testing"

	"dispatch/api"
	"dispatch/asks"
)

// The numbers that the chapter names.
const (
	maxPrio   = 9
	maxSize   = 1 << 30
	maxNode   = 999
	maxRack   = 99
	maxCount  = 50
	mostAsks  = 8
	maxMissed = 100
)

// extremes are numbers far beyond all bounds of the chapter.
var extremes = []int{math.MinInt, math.MinInt + 1, -1 << 40, -1000000, 1 << 31, 1 << 40, 1 << 50, 1 << 62, math.MaxInt - 1, math.MaxInt}

// one is an ask of which each part hangs on its Prio.
func one(prio int) api.Ask {
	return api.Ask{Prio: prio, Label: prio % 3, Size: api.Vec{Mem: 100 + prio, Cores: 1 + prio}, Count: 3 + prio, Node: 10 * prio, Rack: prio, Missed: 20 + prio}
}

// some are such asks as a list.
func some(prios ...int) (l []api.Ask) {
	for _, prio := range prios {
		l = append(l, one(prio))
	}
	return l
}

// plain is an ask of so many, for wherever.
func plain(prio, count int) api.Ask {
	return api.Ask{Prio: prio, Size: api.Vec{Mem: 5, Cores: 2}, Count: count, Node: -1, Rack: -1}
}

func wantList(t *testing.T, what string, got, want []api.Ask) {
	t.Helper()
	if !slices.Equal(got, want) {
		t.Errorf("%s: %+v; want %+v", what, got, want)
	}
}

func wantSet(t *testing.T, what string, l []api.Ask, a api.Ask, want []api.Ask) {
	t.Helper()
	r, e := set(t, what, l, a)
	if e != api.OK {
		t.Errorf("%s: %v", what, e)
	}
	wantList(t, what, r, want)
}

func wantTake(t *testing.T, what string, l []api.Ask, prio int, want []api.Ask, there bool) {
	t.Helper()
	r, is := take(t, what, l, prio)
	if is != there {
		t.Errorf("%s: %t; want %t", what, is, there)
	}
	wantList(t, what, r, want)
}

func wantCheck(t *testing.T, what string, a api.Ask, labels int, want api.Errno) {
	t.Helper()
	if e := asks.Check(a, labels); e != want {
		t.Errorf("P901: %s: %+v, of %d labels: %v; want %v", what, a, labels, e, want)
	}
}

// part is one number of an ask, and its bounds.
type part struct {
	name        string
	put         func(a *api.Ask, number int)
	least, most int
	want        api.Errno
}

// parts are those of an ask, where there are three labels.
func parts() []part {
	return []part{
		{"Prio", func(a *api.Ask, number int) { a.Prio = number }, 0, maxPrio, api.ErrArg},
		{"Label", func(a *api.Ask, number int) { a.Label = number }, 0, 2, api.ErrArg},
		{"Size.Mem", func(a *api.Ask, number int) { a.Size.Mem = number }, 1, maxSize, api.ErrArg},
		{"Size.Cores", func(a *api.Ask, number int) { a.Size.Cores = number }, 1, maxSize, api.ErrArg},
		{"Node", func(a *api.Ask, number int) { a.Node = number }, -1, maxNode, api.ErrArg},
		{"Rack", func(a *api.Ask, number int) { a.Rack, a.Node = number, -1 }, -1, maxRack, api.ErrArg},
		{"Count", func(a *api.Ask, number int) { a.Count = number }, 0, maxCount, api.ErrMany},
	}
}

func TestP901Bounds(t *testing.T) {
	for _, p := range parts() {
		for _, base := range []api.Ask{one(4), one(8), plain(0, 1)} {
			if p.name == "Node" {
				base.Rack = 7
			}
			for _, number := range []int{p.least, p.least + 1, (p.least + p.most) / 2, p.most - 1, p.most} {
				a := base
				p.put(&a, number)
				wantCheck(t, p.name+" within", a, 3, api.OK)
			}
			for _, number := range append([]int{p.least - 1, p.most + 1}, extremes...) {
				a := base
				p.put(&a, number)
				wantCheck(t, p.name+" beyond", a, 3, p.want)
			}
		}
	}
}

func TestP901AllAtTheirBounds(t *testing.T) {
	least := api.Ask{Size: api.Vec{Mem: 1, Cores: 1}, Node: -1, Rack: -1}
	most := api.Ask{Prio: maxPrio, Label: 2, Size: api.Vec{Mem: maxSize, Cores: maxSize}, Count: maxCount, Node: maxNode, Rack: maxRack}
	wantCheck(t, "all at their least", least, 1, api.OK)
	wantCheck(t, "all at their most", most, 3, api.OK)
	for _, p := range parts() {
		a, b := least, most
		p.put(&a, p.least-1)
		p.put(&b, p.most+1)
		wantCheck(t, p.name+" below, the rest at its least", a, 3, p.want)
		wantCheck(t, p.name+" above, the rest at its most", b, 3, p.want)
	}
}

func TestP901Labels(t *testing.T) {
	for labels := range 5 {
		for label := -1; label <= 5; label++ {
			want := api.ErrArg
			if 0 <= label && label < labels {
				want = api.OK
			}
			a := plain(3, 5)
			a.Label = label
			wantCheck(t, "labels", a, labels, want)
		}
	}
	for _, labels := range []int{0, -1, -2, -1000000, math.MinInt + 1, math.MinInt} {
		for _, label := range append([]int{-2, -1, 0, 1}, extremes...) {
			a := plain(3, 5)
			a.Label = label
			wantCheck(t, "no label at all", a, labels, api.ErrArg)
		}
	}
}

func TestP901NodeAndRack(t *testing.T) {
	for _, x := range []struct {
		what       string
		node, rack int
		want       api.Errno
	}{
		{"neither", -1, -1, api.OK},
		{"a Rack without a Node", -1, 0, api.OK}, {"a Rack without a Node", -1, 42, api.OK}, {"a Rack without a Node", -1, maxRack, api.OK},
		{"a Node with a Rack", 0, 0, api.OK}, {"a Node with a Rack", 5, 42, api.OK}, {"a Node with a Rack", maxNode, maxRack, api.OK},
		{"a Node without a Rack", 0, -1, api.ErrArg}, {"a Node without a Rack", 5, -1, api.ErrArg}, {"a Node without a Rack", maxNode, -1, api.ErrArg},
		{"no Node", -2, -1, api.ErrArg}, {"no Node", -2, 5, api.ErrArg}, {"no Node", maxNode + 1, 5, api.ErrArg}, {"no Node", maxNode + 1, -1, api.ErrArg},
		{"no Rack", -1, -2, api.ErrArg}, {"no Rack", 5, -2, api.ErrArg}, {"no Rack", 5, maxRack + 1, api.ErrArg}, {"no Rack", -1, maxRack + 1, api.ErrArg},
	} {
		a := plain(0, 1)
		a.Node, a.Rack = x.node, x.rack
		wantCheck(t, x.what, a, 1, x.want)
	}
}

func TestP901TheFirstErrorIsTold(t *testing.T) {
	for _, p := range parts()[:6] {
		for _, number := range []int{p.least - 1, p.most + 1} {
			for _, count := range append([]int{-1, maxCount + 1}, extremes...) {
				a := one(4)
				p.put(&a, number)
				a.Count = count
				wantCheck(t, p.name+" and Count beyond", a, 3, api.ErrArg)
			}
		}
	}
	a := plain(4, maxCount+1)
	a.Node = 3
	wantCheck(t, "a Node without a Rack, and too many", a, 1, api.ErrArg)
	wantCheck(t, "no label at all, and too many", plain(4, -1), 0, api.ErrArg)
	for i, p := range parts()[:6] {
		for _, q := range parts()[:i] {
			a := one(4)
			p.put(&a, p.most+1)
			q.put(&a, q.least-1)
			wantCheck(t, p.name+" and "+q.name+" beyond", a, 3, api.ErrArg)
		}
	}
}

func TestP901MissedCountsForNothing(t *testing.T) {
	for _, missed := range append([]int{-1, 0, 1, maxMissed, maxMissed + 1}, extremes...) {
		a, b, c := one(4), one(4), one(4)
		a.Missed, b.Missed, c.Missed = missed, missed, missed
		b.Prio, c.Count = maxPrio+1, maxCount+1
		wantCheck(t, "Missed", a, 3, api.OK)
		wantCheck(t, "Missed", b, 3, api.ErrArg)
		wantCheck(t, "Missed", c, 3, api.ErrMany)
	}
}

func TestP902SetOfTheEmptyList(t *testing.T) {
	for _, empty := range [][]api.Ask{nil, {}, make([]api.Ask, 0, 9)} {
		// The chapter's example.
		wantSet(t, "P902: Prio 3 and Count 0", empty, plain(3, 0), nil)
		for prio := range maxPrio + 1 {
			a := one(prio)
			a.Count = 0
			wantSet(t, "P902: Count 0", empty, a, nil)
			a.Count = 1
			want := a
			want.Missed = 0
			wantSet(t, "P902: Count 1", empty, a, []api.Ask{want})
		}
	}
}

func TestP902SetOfAPrioThatIsNotThere(t *testing.T) {
	l := some(1, 4, 8)
	for _, x := range []struct{ prio, at int }{{0, 0}, {2, 1}, {3, 1}, {5, 2}, {7, 2}, {9, 3}} {
		what := "P902: Prio " + strconv.Itoa(x.prio) + " to 1, 4, 8"
		want := one(x.prio)
		want.Missed = 0
		wantSet(t, what, l, one(x.prio), slices.Insert(slices.Clone(l), x.at, want))
		wantSet(t, what+", with Count 0", l, plain(x.prio, 0), l)
	}
}

func TestP902SetOfAPrioThatIsThere(t *testing.T) {
	l := some(1, 4, 8)
	for at, known := range l {
		for _, count := range []int{1, 2, maxCount} {
			a := api.Ask{Prio: known.Prio, Label: 2, Size: api.Vec{Mem: maxSize, Cores: 1}, Count: count, Node: 999, Rack: 99, Missed: 66}
			want := slices.Clone(l)
			want[at] = a
			want[at].Missed = 0
			wantSet(t, "P902: in its place", l, a, want)
		}
		wantSet(t, "P902: Count 0", l, plain(known.Prio, 0), slices.Delete(slices.Clone(l), at, at+1))
		wantSet(t, "P902: the only one, Count 0", []api.Ask{known}, plain(known.Prio, 0), nil)
	}
}

func TestP902SetInAnyOrder(t *testing.T) {
	for _, order := range [][]int{{0, 1, 2, 3, 4, 5, 6, 7}, {9, 8, 7, 6, 5, 4, 3, 2}, {5, 0, 9, 3, 7, 1, 8, 2}, {4, 5, 3, 6, 2, 7, 1, 8}} {
		var l, want []api.Ask
		for i, prio := range order {
			want = append(want, plain(prio, 1+i))
			slices.SortFunc(want, func(a, b api.Ask) int { return a.Prio - b.Prio })
			wantSet(t, "P902: mixed order", l, plain(prio, 1+i), want)
			l, _ = asks.Set(l, plain(prio, 1+i))
		}
	}
}

func TestP902Many(t *testing.T) {
	for _, lacking := range [][2]int{{8, 9}, {0, 9}, {0, 1}, {4, 5}, {3, 8}} {
		var l []api.Ask
		for prio := range maxPrio + 1 {
			if prio != lacking[0] && prio != lacking[1] {
				l = append(l, one(prio))
			}
		}
		for _, prio := range lacking {
			for _, count := range []int{1, 2, maxCount} {
				if r, e := set(t, "P902: a ninth", l, plain(prio, count)); e != api.ErrMany || len(r) != 0 {
					t.Errorf("P902, P4: a ninth, of Prio %d: %v, %+v", prio, e, r)
				}
				if r, e := set(t, "P902: an eighth", l[:mostAsks-1], plain(l[mostAsks-1].Prio, count)); e != api.OK || len(r) != mostAsks {
					t.Errorf("P902: an eighth: %v, %+v", e, r)
				}
			}
			wantSet(t, "P902: a ninth of its own Prio, with Count 0", l, plain(prio, 0), l)
		}
		for at, known := range l {
			wantSet(t, "P902: a ninth of a Prio that is there, with Count 0", l, plain(known.Prio, 0), slices.Delete(slices.Clone(l), at, at+1))
			want := slices.Clone(l)
			want[at] = plain(known.Prio, 17)
			wantSet(t, "P902: a ninth of a Prio that is there", l, plain(known.Prio, 17), want)
		}
	}
}

// A refused ask has no effect, and one of eight that is taken away makes room.
func TestP902RoomAfterMany(t *testing.T) {
	l := some(0, 1, 2, 3, 4, 5, 6, 7)
	if _, e := set(t, "P902: a ninth", l, plain(9, 1)); e != api.ErrMany {
		t.Errorf("P902: a ninth: %v", e)
	}
	l, _ = set(t, "P902: Count 0", l, plain(3, 0))
	wantSet(t, "P902: room again", l, plain(9, 1), append(some(0, 1, 2, 4, 5, 6, 7), plain(9, 1)))
}

func TestP902Take(t *testing.T) {
	for at, prio := range []int{1, 4, 8} {
		l := some(1, 4, 8)
		for count := maxCount; count > 1; count-- {
			l[at].Count, l[at].Missed = count, 1+count
			want := slices.Clone(l)
			want[at].Count, want[at].Missed = count-1, 0
			wantTake(t, "P902: Count "+strconv.Itoa(count), l, prio, want, true)
		}
		l[at].Count = 1
		wantTake(t, "P902: Count 1", l, prio, slices.Delete(slices.Clone(l), at, at+1), true)
		wantTake(t, "P902: Count 1 of the only one", l[at:at+1], prio, nil, true)
	}
	a, want := one(0), one(0)
	a.Count, want.Count, want.Missed = 2, 1, 0
	wantTake(t, "P902: Count 2 of the only one", []api.Ask{a}, 0, []api.Ask{want}, true)
	wantTake(t, "P902: Count 1 of the only one", []api.Ask{want}, 0, nil, true)
}

func TestP902TakeAndMissWhatIsNotThere(t *testing.T) {
	for _, l := range [][]api.Ask{nil, {}, some(0), some(9), some(1, 4, 8), some(0, 1, 2, 3, 4, 5, 6, 7), some(2, 3, 4, 5, 6, 7, 8, 9)} {
		for _, prio := range append([]int{-1, 0, 1, 2, 3, 4, 5, 6, 7, 8, 9, 10}, extremes...) {
			if slices.ContainsFunc(l, func(a api.Ask) bool { return a.Prio == prio }) {
				continue
			}
			what := "P902: Prio " + strconv.Itoa(prio) + ", that is not there"
			wantTake(t, what, l, prio, l, false)
			wantList(t, what, miss(t, what, l, prio), l)
		}
	}
}

func TestP902Miss(t *testing.T) {
	for at, prio := range []int{1, 4, 8} {
		for _, x := range [][2]int{{0, 1}, {1, 2}, {50, 51}, {98, 99}, {99, maxMissed}, {maxMissed, maxMissed}} {
			l := some(1, 4, 8)
			l[at].Missed = x[0]
			want := slices.Clone(l)
			want[at].Missed = x[1]
			what := "P902: missed " + strconv.Itoa(x[0]) + " times"
			wantList(t, what, miss(t, what, l, prio), want)
		}
	}
}

func TestP902MissOneAfterTheOther(t *testing.T) {
	l := []api.Ask{plain(2, 4), plain(3, 5), plain(7, 6)}
	for i := range 2 * maxMissed {
		l = miss(t, "P902: missed once more", l, 3)
		want := []api.Ask{plain(2, 4), plain(3, 5), plain(7, 6)}
		want[1].Missed = min(i+1, maxMissed)
		wantList(t, "P902: missed once more", l, want)
	}
	wantTake(t, "P902: taken when it was missed", l, 3, []api.Ask{plain(2, 4), plain(3, 4), plain(7, 6)}, true)
	wantSet(t, "P902: set anew when it was missed", l, plain(3, 5), []api.Ask{plain(2, 4), plain(3, 5), plain(7, 6)})
	a := plain(3, 5)
	a.Missed = maxMissed
	wantSet(t, "P902: set anew as it is", l, a, []api.Ask{plain(2, 4), plain(3, 5), plain(7, 6)})
}

func wantPending(t *testing.T, what string, l []api.Ask, label int, want api.Vec) {
	t.Helper()
	if sum := pending(t, what, l, label); sum != want {
		t.Errorf("P902: %s: Pending of %d: %v; want %v", what, label, sum, want)
	}
}

func TestP902Pending(t *testing.T) {
	l := []api.Ask{plain(0, 2), plain(3, 3), plain(4, 1), plain(6, maxCount), plain(9, 7)}
	l[1].Label, l[1].Size = 1, api.Vec{Mem: 10, Cores: 20}
	l[2].Label, l[2].Size, l[2].Missed = 3, api.Vec{Mem: 1000, Cores: 7}, 8
	l[3].Size, l[3].Rack, l[3].Missed = api.Vec{Mem: 300, Cores: 1}, 4, 99
	l[4].Label, l[4].Size, l[4].Node, l[4].Rack = 1, api.Vec{Mem: 1, Cores: 3}, 5, 6
	wantPending(t, "several asks", l, 0, api.Vec{Mem: 2*5 + 50*300, Cores: 2*2 + 50*1})
	wantPending(t, "several asks", l, 1, api.Vec{Mem: 3*10 + 7*1, Cores: 3*20 + 7*3})
	wantPending(t, "one ask", l, 3, api.Vec{Mem: 1000, Cores: 7})
	for _, label := range append([]int{-1, 2, 4, 9}, extremes...) {
		wantPending(t, "no ask", l, label, api.Vec{})
	}
	for label := -1; label < 4; label++ {
		wantPending(t, "the empty list", nil, label, api.Vec{})
	}
}

func TestP902PendingOfTheMost(t *testing.T) {
	var l []api.Ask
	for prio := range mostAsks {
		l = append(l, api.Ask{Prio: prio, Label: 2, Size: api.Vec{Mem: maxSize, Cores: maxSize - 1}, Count: maxCount, Node: -1, Rack: -1})
	}
	wantPending(t, "eight of the greatest", l, 2, api.Vec{Mem: 429496729600, Cores: 429496729200})
	wantPending(t, "eight of the greatest", l, 0, api.Vec{})
}

// What is taken is pending no more.
func TestP902PendingAndTake(t *testing.T) {
	l := []api.Ask{plain(0, 2), plain(5, 3)}
	for i, prio := range []int{5, 0, 5, 5, 0} {
		left := 4 - i
		l, _ = take(t, "P902: Take", l, prio)
		wantPending(t, "after Take", l, 0, api.Vec{Mem: 5 * left, Cores: 2 * left})
	}
}

// wantTakes takes of a Prio so often, and then once in vain. What else happens may not count.
func wantTakes(t *testing.T, what string, l []api.Ask, prio, times int, between func([]api.Ask) []api.Ask) {
	t.Helper()
	for i := range times {
		r, is := take(t, what, between(l), prio)
		if !is {
			t.Errorf("P903: %s: taken %d times; want %d", what, i, times)
		}
		l = r
	}
	l = between(l)
	wantTake(t, "P903: "+what+": once more", l, prio, l, false)
}

func TestP903(t *testing.T) {
	nothing := func(l []api.Ask) []api.Ask { return l }
	for count := range maxCount + 1 {
		for _, prio := range []int{0, 1, 3, 8, 9} {
			what := "Prio " + strconv.Itoa(prio) + ", Count " + strconv.Itoa(count)
			alone, _ := set(t, what, nil, plain(prio, count))
			among, _ := set(t, what, some(1, 4, 8), plain(prio, count))
			wantTakes(t, what+", alone", alone, prio, count, nothing)
			wantTakes(t, what+", among others", among, prio, count, nothing)
			wantTakes(t, what+", missed ahead of each time", among, prio, count, func(l []api.Ask) []api.Ask { return asks.Miss(l, prio) })
			wantTakes(t, what+", while others are set and taken", among, prio, count, func(l []api.Ask) []api.Ask {
				l, _ = asks.Take(l, 4)
				l, _ = asks.Set(l, plain(6, 2))
				l, _ = asks.Set(l, plain(4, 2))
				return l
			})
		}
	}
}

// An ask that is set anew can be taken as often as it says, whatever was taken of it before.
func TestP903SetAnew(t *testing.T) {
	for _, first := range []int{1, 2, 7, maxCount} {
		for taken := range min(first, 8) {
			for _, count := range []int{0, 1, 2, 7, maxCount} {
				l, _ := asks.Set(some(1, 8), plain(4, first))
				for range taken {
					l, _ = asks.Take(l, 4)
				}
				l, _ = asks.Set(l, plain(4, count))
				wantTakes(t, "set anew", l, 4, count, func(l []api.Ask) []api.Ask { return l })
			}
		}
	}
}

// wild are lists that are none of the chapter's, for which only P1 and P2 hold.
func wild() [][]api.Ask {
	least, most := math.MinInt, math.MaxInt
	strange := []api.Ask{one(4), one(2), one(2), one(4), {}, {Prio: 1}, {Prio: least, Label: most, Size: api.Vec{Mem: most, Cores: least}, Count: most, Node: least, Rack: most, Missed: most}, {Prio: most, Label: least, Size: api.Vec{Mem: least, Cores: most}, Count: least, Node: most, Rack: least, Missed: least}, {Prio: 3, Count: -1, Missed: maxMissed + 1}}
	turned := slices.Clone(strange)
	slices.Reverse(turned)
	return [][]api.Ask{strange, turned, slices.Repeat(strange, 40), make([]api.Ask, 500), some(9, 8, 7, 6, 5, 4, 3, 2, 1, 0), some(0, 1, 2, 3, 4, 5, 6, 7, 8, 9), {{Count: most}}, {{Count: least}}, {{Count: 0}}}
}

func TestP1P2P3OfAnyList(t *testing.T) {
	numbers := append([]int{-2, -1, 0, 1, 2, 3, 4, 9, 10, maxMissed}, extremes...)
	for i, l := range append(wild(), nil, some(1, 4, 8)) {
		what := "list " + strconv.Itoa(i)
		for _, number := range numbers {
			take(t, what, l, number)
			miss(t, what, l, number)
			pending(t, what, l, number)
			for _, count := range numbers {
				if _, e := set(t, what, l, api.Ask{Prio: number, Count: count, Missed: count}); e != api.OK && e != api.ErrMany {
					t.Errorf("%s: %v", what, e)
				}
			}
		}
	}
}

func TestP1P3CheckOfAnyAsk(t *testing.T) {
	for _, a := range slices.Concat(wild()...) {
		for _, labels := range append([]int{-1, 0, 1, 3}, extremes...) {
			e := asks.Check(a, labels)
			if again := asks.Check(a, labels); again != e {
				t.Errorf("P3: %+v: %v, and then %v", a, e, again)
			}
		}
	}
}
