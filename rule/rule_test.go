package rule_test

import (
	"reflect"
	"slices"
	"strconv"
	"strings"
	"testing"

	"dispatch/api"
	"dispatch/rule"
)

// The numbers that the chapter and the words name.
const (
	whole      = 10000
	mostUser   = 1000000
	mostName   = 12
	mostDepth  = 4
	mostLabels = 3
	mostQueues = 16
)

// queue is one with a Cap of each two numbers.
func queue(path string, user int, numbers ...int) api.Queue {
	q := api.Queue{Path: path, User: user}
	for pair := range slices.Chunk(numbers, 2) {
		q.Caps = append(q.Caps, api.Cap{Least: pair[0], Most: pair[1]})
	}
	return q
}

// small is a configuration that may be; most tests change it.
func small() api.Conf {
	return api.Conf{Labels: []string{"", "gpu", "ssd"}, Queues: []api.Queue{
		queue("root", 10000, 10000, 10000, 10000, 10000, 10000, 10000),
		queue("root.a", 5000, 4000, 10000, 0, 5000, 9999, 9999),
		queue("root.a.x", 1, 10000, 10000, 3000, 3000, 5000, 6000),
		queue("root.a.y", 1000000, 0, 0, 7000, 7000, 5000, 5000),
		queue("root.b", 20000, 6000, 7000, 10000, 10000, 1, 10000),
	}}
}

// changed is small after a change.
func changed(change func(c *api.Conf)) api.Conf {
	c := small()
	change(&c)
	return c
}

// tree is a configuration of the empty label and these queues, where the first kid of a queue is guaranteed all of it.
func tree(paths ...string) api.Conf {
	c := api.Conf{Labels: []string{""}}
	kids := map[string]int{}
	for _, path := range paths {
		parent := path[:max(0, strings.LastIndex(path, "."))]
		least := whole
		if kids[parent] > 0 {
			least = 0
		}
		kids[parent]++
		c.Queues = append(c.Queues, queue(path, 1, least, whole))
	}
	return c
}

// wide is a root with kids, so that there are that many queues.
func wide(count int) api.Conf {
	paths := []string{"root"}
	for i := range count - 1 {
		paths = append(paths, "root.q"+strconv.Itoa(100000+i))
	}
	return tree(paths...)
}

func checkCheck(t *testing.T, what string, c api.Conf, want api.Errno) {
	t.Helper()
	if e := rule.Check(c); e != want {
		t.Errorf("%s: %+v: %v; want %v", what, c, e, want)
	}
}

func checkName(t *testing.T, s string, want bool) {
	t.Helper()
	if rule.Name(s) != want {
		t.Errorf("P601: Name of %q: %v", s, !want)
	}
}

// inName is what W1 says of a byte.
func inName(b byte) bool { return strings.IndexByte("abcdefghijklmnopqrstuvwxyz0123456789-", b) >= 0 }

func TestP601NameOfEachByte(t *testing.T) {
	for i := range 256 {
		b, s := byte(i), string([]byte{byte(i)})
		checkName(t, s, inName(b))
		for length := 2; length <= mostName+1; length++ {
			for at := range length {
				checkName(t, strings.Repeat("q", at)+s+strings.Repeat("q", length-at-1), inName(b) && length <= mostName)
			}
		}
	}
}

func TestP601NameOfEachLength(t *testing.T) {
	for _, piece := range []string{"a", "z", "0", "9", "-", "root"} {
		for count := range 30 {
			s := strings.Repeat(piece, count)
			checkName(t, s, 1 <= len(s) && len(s) <= mostName)
		}
		checkName(t, strings.Repeat(piece, 1<<20), false)
	}
}

func TestP601Name(t *testing.T) {
	for _, s := range []string{"a", "z", "0", "9", "-", "root", "gpu", "a-0", "-a", "a-", "--", "007", "abcdefghijkl", "mnopqrstuvwx", "yz0123456789", "------------"} {
		checkName(t, s, true)
	}
	for _, s := range []string{
		"", " ", "abcdefghijklm", "root.a", ".", "a.", ".a", "a b", " a", "a ", "a\n", "\na", "a\x00", "A", "aZ", "a_b", "a+b", "a/b", "a,b",
		"\u00e9", "\u00e9\u00e9\u00e9\u00e9\u00e9\u00e9", "a\u0301", "\uff41", "\u0661", "\u2010", "\u2011", "\u2212", "\u0161", "\u0130", "\u012d", "\u212a", "\u017f", "\U00010061", "\ufeffa", "\ufffd",
		"\xff", "a\xff", "\xe9", "\xc1\xa1", "a\xc3", "\xed\xa0\x80",
	} {
		checkName(t, s, false)
	}
}

// checkUp holds Up of a path against want.
func checkUp(t *testing.T, path string, want ...string) {
	t.Helper()
	if l := rule.Up(path); !slices.Equal(l, want) {
		t.Errorf("P601: Up of %q: %q; want %q", path, l, want)
	}
}

func TestP601Up(t *testing.T) {
	checkUp(t, "")
	checkUp(t, "root.a", "root.a", "root")
	checkUp(t, "root", "root")
	checkUp(t, "a.b.c", "a.b.c", "a.b", "a")
	checkUp(t, "root.a.b.c", "root.a.b.c", "root.a.b", "root.a", "root")
	checkUp(t, "root.a.b.c.d.e", "root.a.b.c.d.e", "root.a.b.c.d", "root.a.b.c", "root.a.b", "root.a", "root")
	checkUp(t, ".", ".")
	checkUp(t, "..", "..", ".")
	checkUp(t, "...", "...", "..", ".")
	checkUp(t, ".a", ".a")
	checkUp(t, "a.", "a.", "a")
	checkUp(t, "a..", "a..", "a.", "a")
	checkUp(t, "..a", "..a", ".")
	checkUp(t, "a..b", "a..b", "a.", "a")
	checkUp(t, ".a.b.", ".a.b.", ".a.b", ".a")
	checkUp(t, "root..a.", "root..a.", "root..a", "root.", "root")
}

func TestP601UpOfAnyString(t *testing.T) {
	for _, s := range []string{"x", " ", "X y", "/", "a/b", "a-b", "\n", "\x00", "\xff", "\u00e9", "\u3002", "\uff0e", "\u2024", "abcdefghijklmnop"} {
		checkUp(t, s, s)
		checkUp(t, s+"."+s, s+"."+s, s)
	}
}

func TestP601UpOfManyDots(t *testing.T) {
	const many = 1 << 19
	for _, c := range []struct {
		piece string
		extra int // bytes of each step
	}{{".", 1}, {".a", 2}, {".\xff", 2}} {
		s := "root" + strings.Repeat(c.piece, many)
		l := rule.Up(s)
		if len(l) != many+1 || l[0] != s || l[many] != "root" || l[many-1] != "root"+c.piece {
			t.Fatalf("P601: Up of %d times %q: %d", many, c.piece, len(l))
		}
		for i, up := range l {
			if len(up) != len(s)-i*c.extra {
				t.Fatalf("P601: Up of %d times %q: %d has %d bytes", many, c.piece, i, len(up))
			}
		}
	}
	if l := rule.Up(strings.Repeat("a", many)); len(l) != 1 || len(l[0]) != many {
		t.Errorf("P601: Up of a long name: %d", len(l))
	}
}

func TestP602Small(t *testing.T) {
	checkCheck(t, "P602", small(), api.OK)
	checkCheck(t, "P602: root alone", tree("root"), api.OK)
	checkCheck(t, "P602: all that may be", tree("root", "root.-", "root.0", "root.a", "root.a-b", "root.a.b", "root.a.b.c", "root.a.b.d", "root.a0", "root.ab", "root.z9-"), api.OK)
}

func TestP602CountOfLabels(t *testing.T) {
	all := []string{"", "b", "a", "d", "c"}
	for count := range len(all) + 1 {
		c := api.Conf{Labels: all[:count], Queues: []api.Queue{{Path: "root", User: 1, Caps: slices.Repeat([]api.Cap{{Least: whole, Most: whole}}, count)}}}
		want := api.OK
		if count == 0 || count > mostLabels {
			want = api.ErrMany
		}
		checkCheck(t, "P602: count of labels", c, want)
	}
	checkCheck(t, "P602: a list of labels with nothing in it", api.Conf{Labels: []string{}, Queues: tree("root").Queues}, api.ErrMany)
	checkCheck(t, "P602: far too many labels", api.Conf{Labels: make([]string, 1<<16), Queues: tree("root").Queues}, api.ErrMany)
}

func TestP602CountOfQueues(t *testing.T) {
	for count := 1; count <= mostQueues; count++ {
		checkCheck(t, "P602: count of queues", wide(count), api.OK)
	}
	for _, count := range []int{mostQueues + 1, mostQueues + 2, 2 * mostQueues, 300, 1 << 12} {
		if e := rule.Check(wide(count)); e != api.ErrMany {
			t.Errorf("P602: %d queues: %v", count, e)
		}
	}
	checkCheck(t, "P602: no queues", tree(), api.ErrName)
	checkCheck(t, "P602: no queues", api.Conf{Labels: []string{""}, Queues: []api.Queue{}}, api.ErrName)
}

func TestP602Labels(t *testing.T) {
	for _, x := range []struct {
		want   api.Errno
		labels []string
	}{
		{api.OK, []string{"", "a", "b"}},
		{api.OK, []string{"", "b", "a"}},
		{api.OK, []string{"", "root", "labels"}},
		{api.OK, []string{"", "abcdefghijkl", "abcdefghijk"}},
		{api.OK, []string{"", "-", "0"}},
		{api.ErrName, []string{"x", "a", "b"}},
		{api.ErrName, []string{" ", "a", "b"}},
		{api.ErrName, []string{"\x00", "a", "b"}},
		{api.ErrName, []string{"a", "", "b"}},
		{api.ErrName, []string{"a", "a", "b"}},
		{api.ErrName, []string{"a", "b", "b"}},
		{api.ErrName, []string{"a", "b", "a"}},
		{api.ErrName, []string{"", "", "a"}},
		{api.ErrName, []string{"", "a", ""}},
		{api.ErrName, []string{"", "", ""}},
		{api.ErrName, []string{"", "A", "a"}},
		{api.ErrName, []string{"", "a", "A"}},
		{api.ErrName, []string{"", "A", "A"}},
		{api.ErrName, []string{"", "a.b", "a"}},
		{api.ErrName, []string{"", "a", "abcdefghijklm"}},
		{api.ErrName, []string{"", "a b", "a"}},
		{api.ErrName, []string{"", "a", "\xff"}},
		{api.ErrIs, []string{"", "a", "a"}},
		{api.ErrIs, []string{"", "abcdefghijkl", "abcdefghijkl"}},
	} {
		checkCheck(t, "P602: labels", changed(func(c *api.Conf) { c.Labels = x.labels }), x.want)
	}
}

func TestP602TheFirstQueue(t *testing.T) {
	for _, path := range []string{"", "Root", "roo", "roots", "root.", ".root", "root ", " root", "root.a", "root.root", "a", "-", "root\x00"} {
		checkCheck(t, "P602: a first queue that isn't root", changed(func(c *api.Conf) { c.Queues[0].Path = path }), api.ErrName)
		checkCheck(t, "P602: only a queue that isn't root", tree(path), api.ErrName)
		checkCheck(t, "P602: a queue ahead of root", tree(path, "root"), api.ErrName)
	}
}

func TestP602Paths(t *testing.T) {
	const long = "abcdefghijkl"
	deep := []string{"root", "root." + long, "root." + long + "." + long, "root." + long + "." + long + "." + long, "root." + long + "." + long + "." + long + ".a"}
	for depth := 1; depth <= mostDepth; depth++ {
		checkCheck(t, "P602: a path of few names", tree(deep[:depth]...), api.OK)
	}
	checkCheck(t, "P602: a path of five names", tree(deep...), api.ErrName)
	for _, path := range []string{
		"", ".", "..", "a", "z", "zoot", "roots", "root-", "roota", "Root.a", "a.root", "x.a", ".root", ".a", "root.", "root..", "root..a", "root.a.", "root.a..b",
		"root.A", "root. a", "root.a b", "root.a_b", "root.a/b", "root.\u00e9", "root.\xff", "root.a\n", "root\x00.a", "root/a", "root." + long + "m", "root.a." + long + "m", "root.a.b." + long + "m",
		"root.a.b.c.d", "root.a.b.c.d.e", "root.a.b.c.", "root" + strings.Repeat(".a", 1<<12), "root." + strings.Repeat("a", 1<<12), strings.Repeat(".", 1<<12), strings.Repeat("root", 1<<12),
	} {
		checkCheck(t, "P602: a path that is none", tree("root", path), api.ErrName)
		checkCheck(t, "P602: a path that is none, behind others", tree("root", "root.-", path), api.ErrName)
	}
}

func TestP602OrderOfPaths(t *testing.T) {
	for _, l := range [][]string{
		{"root", "root"}, {"root", "root.a", "root.a"}, {"root", "root.a", "root"}, {"root", "root.b", "root.a"}, {"root", "root.a", "root.b", "root.a"}, {"root", "root.a", "root.a.b", "root.a"},
		{"root", "root.a.b", "root.a"}, {"root", "root.b", "root.b.a", "root.a"}, {"root", "root.a0", "root.a.b", "root.a"},
		{"root", "root.a", "root.a.b", "root.a-b"}, {"root", "root.a", "root.a0", "root.a.b"}, {"root", "root.ab", "root.a"}, {"root", "root.9", "root.10"}, {"root", "root.a", "root.9"}, {"root", "root.0", "root.-"},
	} {
		checkCheck(t, "P602: queues out of order, or twice", tree(l...), api.ErrIs)
	}
	for _, l := range [][]string{
		{"root", "root.a", "root.a-b", "root.a.b", "root.a0", "root.ab"}, {"root", "root.10", "root.9", "root.a"}, {"root", "root.-", "root.--", "root.0"}, {"root", "root.root", "root.root.root", "root.root.root.root"},
	} {
		checkCheck(t, "P602: queues in order", tree(l...), api.OK)
	}
}

func TestP602TheQueueAbove(t *testing.T) {
	for _, l := range [][]string{
		{"root", "root.a.b"}, {"root", "root.a", "root.b.c"}, {"root", "root.a", "root.a-b.c"}, {"root", "root.a", "root.a.b.c"}, {"root", "root.a", "root.aa.b"}, {"root", "root.ab", "root.b.a"},
		{"root", "root.a", "root.a.a", "root.a.b.c"}, {"root", "root.root.root"}, {"root", "root.a.root"},
	} {
		checkCheck(t, "P602: a queue whose parent is no queue", tree(l...), api.ErrName)
	}
	late := tree("root", "root.a.b", "root.a")
	checkCheck(t, "P602: a queue ahead of its parent", late, api.ErrIs)
	late.Queues[1].User = 0
	checkCheck(t, "P602: a queue with a wrong number, ahead of its parent", late, api.ErrArg)
}

func TestP602User(t *testing.T) {
	for i := range small().Queues {
		for _, user := range []int{1, 2, 9999, 10000, 10001, mostUser - 1, mostUser} {
			checkCheck(t, "P602: User", changed(func(c *api.Conf) { c.Queues[i].User = user }), api.OK)
		}
		for _, user := range []int{0, -1, -mostUser, mostUser + 1, 2 * mostUser, 1<<32 + 1, 1<<63 - 1, -1 << 63} {
			checkCheck(t, "P602: User out of bounds", changed(func(c *api.Conf) { c.Queues[i].User = user }), api.ErrArg)
		}
	}
}

func TestP602CountOfCaps(t *testing.T) {
	for i, q := range small().Queues {
		for count := range 6 {
			want := api.OK
			if count != len(q.Caps) {
				want = api.ErrArg
			}
			caps := append(slices.Clone(q.Caps), q.Caps...)[:count]
			checkCheck(t, "P602: count of Caps", changed(func(c *api.Conf) { c.Queues[i].Caps = caps }), want)
		}
		checkCheck(t, "P602: no Caps", changed(func(c *api.Conf) { c.Queues[i].Caps = nil }), api.ErrArg)
	}
	checkCheck(t, "P602: Caps for labels that are gone", changed(func(c *api.Conf) { c.Labels = c.Labels[:2] }), api.ErrArg)
}

func TestP602Caps(t *testing.T) {
	root := api.Conf{Labels: []string{""}, Queues: []api.Queue{queue("root", 1, whole, whole), queue("root.a", 1, whole, whole), queue("root.b", 1)}}
	for _, most := range []int{0, 1, 2, whole - 1, whole} {
		root.Queues[2].Caps = []api.Cap{{Least: 0, Most: most}}
		checkCheck(t, "P602: nothing guaranteed", root, api.OK)
	}
	for _, least := range []int{0, 1, 5000, whole - 1, whole} {
		root.Queues[1].Caps = []api.Cap{{Least: whole - least, Most: whole - least}}
		root.Queues[2].Caps = []api.Cap{{Least: least, Most: least}}
		checkCheck(t, "P602: a Least like its Most", root, api.OK)
		root.Queues[2].Caps = []api.Cap{{Least: least, Most: whole}}
		checkCheck(t, "P602: a Least, all of it at most", root, api.OK)
		root.Queues[2].Caps = []api.Cap{{Least: least, Most: least - 1}}
		checkCheck(t, "P602: a Least above its Most", root, api.ErrArg)
	}
}

func TestP602CapsOutOfBounds(t *testing.T) {
	bad := []api.Cap{
		{Least: -1, Most: whole}, {Least: -1, Most: -1}, {Least: 0, Most: -1}, {Least: -2, Most: -1}, {Least: -1 << 63, Most: whole}, {Least: -1, Most: 0},
		{Least: 0, Most: whole + 1}, {Least: whole + 1, Most: whole + 1}, {Least: whole, Most: whole + 1}, {Least: whole + 1, Most: whole}, {Least: 0, Most: 1<<63 - 1}, {Least: 1<<63 - 1, Most: 1<<63 - 1}, {Least: -1 << 63, Most: 1<<63 - 1},
		{Least: 1, Most: 0}, {Least: whole, Most: whole - 1}, {Least: 5001, Most: 5000}, {Least: whole, Most: 0},
	}
	for i, q := range small().Queues {
		for k := range q.Caps {
			for _, b := range bad {
				checkCheck(t, "P602: a Cap out of bounds", changed(func(c *api.Conf) { c.Queues[i].Caps[k] = b }), api.ErrArg)
			}
		}
	}
}

func TestP602Root(t *testing.T) {
	for k := range small().Labels {
		for _, cap := range []api.Cap{{Least: 0, Most: whole}, {Least: whole - 1, Most: whole}, {Least: whole - 1, Most: whole - 1}, {}} {
			checkCheck(t, "P602: shares of root", changed(func(c *api.Conf) { c.Queues[0].Caps[k] = cap }), api.ErrSum)
			checkCheck(t, "P602: shares of root alone", changed(func(c *api.Conf) { c.Queues, c.Queues[0].Caps[k] = c.Queues[:1], cap }), api.ErrSum)
		}
	}
}

// The kids of root are queues 1 and 4, those of root.a are 2 and 3.
func TestP602SumOfKids(t *testing.T) {
	for _, i := range []int{1, 2, 3, 4} {
		for k := range small().Labels {
			least := small().Queues[i].Caps[k].Least
			for _, other := range []int{0, 1, least - 1, least, least + 1, whole - 1, whole} {
				want := api.ErrSum
				switch {
				case other < 0 || other > whole:
					want = api.ErrArg
				case other == least:
					want = api.OK
				}
				checkCheck(t, "P602: sum of kids", changed(func(c *api.Conf) { c.Queues[i].Caps[k] = api.Cap{Least: other, Most: max(other, min(whole, least+1))} }), want)
			}
		}
	}
}

func TestP602SumOfFewAndManyKids(t *testing.T) {
	checkCheck(t, "P602: an only kid", changed(func(c *api.Conf) { c.Queues = append(c.Queues[:2], c.Queues[4]) }), api.OK)
	checkCheck(t, "P602: an only kid that has less", changed(func(c *api.Conf) { c.Queues = c.Queues[:2] }), api.ErrSum)
	checkCheck(t, "P602: no kid has any", changed(func(c *api.Conf) { c.Queues[1].Caps[0].Least, c.Queues[4].Caps[0].Least = 0, 0 }), api.ErrSum)
	checkCheck(t, "P602: what one kid has too much, a kid elsewhere has too little", changed(func(c *api.Conf) { c.Queues[1].Caps[0].Least++; c.Queues[3].Caps[1].Least-- }), api.ErrSum)
	checkCheck(t, "P602: too much of one label, too little of another", changed(func(c *api.Conf) { c.Queues[1].Caps[0].Least++; c.Queues[1].Caps[2].Least-- }), api.ErrSum)
	c := wide(mostQueues)
	for i := range c.Queues[1:] {
		c.Queues[1+i].Caps[0].Least = whole / (mostQueues - 1)
	}
	checkCheck(t, "P602: fifteen kids that have less", c, api.ErrSum)
	c.Queues[mostQueues-1].Caps[0].Least += whole % (mostQueues - 1)
	checkCheck(t, "P602: fifteen kids", c, api.OK)
	for i := range c.Queues[1:] {
		c.Queues[1+i].Caps[0].Least = whole
	}
	checkCheck(t, "P602: fifteen kids that all have all", c, api.ErrSum)
}

func TestP602SumsAreOfKidsAlone(t *testing.T) {
	c := tree("root", "root.a", "root.a.b", "root.a.b.c")
	checkCheck(t, "P602: a kid's kids count for nothing", c, api.OK)
	for i := range c.Queues[1:] {
		c := tree("root", "root.a", "root.a.b", "root.a.b.c")
		c.Queues[1+i].Caps[0].Least--
		checkCheck(t, "P602: a queue down below that has less", c, api.ErrSum)
	}
	c = tree("root", "root.a", "root.a-", "root.a.b", "root.aa")
	checkCheck(t, "P602: a queue whose name begins alike is no kid", c, api.OK)
}

func TestP602TheFirstErrorDecides(t *testing.T) {
	noName := func(c *api.Conf) { c.Labels[1] = "X" }
	for _, x := range []struct {
		what   string
		change func(c *api.Conf)
		want   api.Errno
	}{
		{"nothing at all", func(c *api.Conf) { *c = api.Conf{} }, api.ErrMany},
		{"no labels, no queues", func(c *api.Conf) { c.Labels, c.Queues = nil, nil }, api.ErrMany},
		{"too many labels, two equal", func(c *api.Conf) { c.Labels = []string{"", "a", "a", "b"} }, api.ErrMany},
		{"too many labels, one no name", func(c *api.Conf) { c.Labels = []string{"x", "a", "b", "c"} }, api.ErrMany},
		{"too many queues, labels equal", func(c *api.Conf) { c.Labels[2], c.Queues = "gpu", make([]api.Queue, 17) }, api.ErrMany},
		{"too many queues, none of them root", func(c *api.Conf) { c.Queues = make([]api.Queue, 17) }, api.ErrMany},
		{"a label that is no name, no queues", func(c *api.Conf) { noName(c); c.Queues = nil }, api.ErrName},
		{"a label that is no name, a queue twice", func(c *api.Conf) { noName(c); c.Queues[4] = c.Queues[3] }, api.ErrName},
		{"a label that is no name, a sum", func(c *api.Conf) { noName(c); c.Queues[0].Caps[0].Least = 0 }, api.ErrName},
		{"labels equal, no queues", func(c *api.Conf) { c.Labels[2], c.Queues = "gpu", nil }, api.ErrIs},
		{"labels equal, first queue not root", func(c *api.Conf) { c.Labels[2], c.Queues[0].Path = "gpu", "x" }, api.ErrIs},
		{"labels equal, wrong number", func(c *api.Conf) { c.Labels[2], c.Queues[0].User = "gpu", 0 }, api.ErrIs},
		{"first queue not root, with a wrong number", func(c *api.Conf) { c.Queues[0].Path, c.Queues[0].User = "x", 0 }, api.ErrName},
		{"first queue with a wrong number, second one no path", func(c *api.Conf) { c.Queues[0].User, c.Queues[1].Path = 0, "x" }, api.ErrArg},
		{"first queue with a wrong number, the rest twice", func(c *api.Conf) { c.Queues[0].Caps, c.Queues[1].Path = nil, "root" }, api.ErrArg},
		{"no path, and less than the one before", func(c *api.Conf) { c.Queues[3].Path = "a" }, api.ErrName},
		{"no path, with a wrong number", func(c *api.Conf) { c.Queues[3].Path, c.Queues[3].User = "root.a.Y", 0 }, api.ErrName},
		{"out of order, without a parent", func(c *api.Conf) { c.Queues[3].Path = "root.9.y" }, api.ErrIs},
		{"out of order, with a wrong number", func(c *api.Conf) { c.Queues[3].Path, c.Queues[3].User = "root.9", 0 }, api.ErrIs},
		{"twice, with a wrong number", func(c *api.Conf) { c.Queues[3].Path, c.Queues[3].Caps = "root.a.x", nil }, api.ErrIs},
		{"without a parent, with a wrong number", func(c *api.Conf) { c.Queues[3].Path, c.Queues[3].Caps[0].Least = "root.aa.y", -1 }, api.ErrName},
		{"without a parent, the next one no path", func(c *api.Conf) { c.Queues[3].Path, c.Queues[4].Path = "root.aa.y", "" }, api.ErrName},
		{"a wrong number, the next one twice", func(c *api.Conf) { c.Queues[3].User, c.Queues[4].Path = 0, "root.a.y" }, api.ErrArg},
		{"twice, a wrong number behind it", func(c *api.Conf) { c.Queues[3].Path, c.Queues[4].User = "root.a.x", 0 }, api.ErrIs},
		{"a sum of root, a wrong number of the last one", func(c *api.Conf) { c.Queues[0].Caps[0].Least, c.Queues[4].User = 0, 0 }, api.ErrArg},
		{"a sum of root, the last one twice", func(c *api.Conf) { c.Queues[0].Caps[0].Least, c.Queues[4] = 0, c.Queues[3] }, api.ErrIs},
		{"a sum of kids, the last one no path", func(c *api.Conf) { c.Queues[1].Caps[0].Least, c.Queues[4].Path = 0, "root.b." }, api.ErrName},
		{"a sum of kids, a wrong number of the last one", func(c *api.Conf) { c.Queues[1].Caps[0].Least, c.Queues[4].Caps[2].Most = 0, 10001 }, api.ErrArg},
		{"a sum of root and of kids", func(c *api.Conf) { c.Queues[0].Caps[0].Least, c.Queues[1].Caps[0].Least = 0, 0 }, api.ErrSum},
	} {
		checkCheck(t, "P602, P6: "+x.what, changed(x.change), x.want)
	}
}

func TestP603Find(t *testing.T) {
	c := small()
	for _, want := range small().Queues {
		if q, is := rule.Find(c, want.Path); !is || !reflect.DeepEqual(q, want) {
			t.Errorf("P603: Find of %s: %+v, %v; want %+v", want.Path, q, is, want)
		}
	}
	for _, path := range noQueues() {
		if q, is := rule.Find(c, path); is || q.Path != "" || q.User != 0 || len(q.Caps) != 0 {
			t.Errorf("P603, P4: Find of %q: %+v, %v", path, q, is)
		}
	}
}

// noQueues are paths, and strings that are none, which are not the Path of a queue of small.
func noQueues() []string {
	return []string{
		"", ".", "..", " ", "a", "x", "b", "gpu", "a.x", ".a", "Root", "ROOT", "roo", "roots", "root.", "root..", ".root", "root ", "root\x00", "root..a", "root.A", "root.c", "root.x", "root.a.", "root.a.z", "root.a.a", "root.a.x.",
		"root.a.x.y", "root.b.x", "root.a-", "root.a.xy", "root.b.", "\xff", "root.\u00e9", "root.a.b.c.d", strings.Repeat("root.", 1<<12), strings.Repeat(".", 1<<12),
	}
}

func checkKids(t *testing.T, c api.Conf, path string, want ...string) {
	t.Helper()
	if l := rule.Kids(c, path); !slices.Equal(l, want) {
		t.Errorf("P603: Kids of %q: %q; want %q", path, l, want)
	}
}

func TestP603Kids(t *testing.T) {
	c := small()
	checkKids(t, c, "root", "root.a", "root.b")
	checkKids(t, c, "root.a", "root.a.x", "root.a.y")
	checkKids(t, c, "root.a.x")
	checkKids(t, c, "root.a.y")
	checkKids(t, c, "root.b")
	checkKids(t, tree("root"), "root")
	for _, path := range noQueues() {
		checkKids(t, c, path)
		checkKids(t, tree("root"), path)
	}
}

// alikes is a tree of names that begin with each other; the order by bytes puts root.a-b ahead of what is below root.a.
func alikes() api.Conf {
	return tree("root", "root.a", "root.a-b", "root.a-b.a", "root.a.a", "root.a.a.a", "root.a.ab", "root.a.b", "root.a.b.a", "root.a.b.b", "root.a0", "root.ab", "root.root", "root.root.a", "root.root.root")
}

func TestP603KidsOfAlikes(t *testing.T) {
	c := alikes()
	checkCheck(t, "P602", c, api.OK)
	checkKids(t, c, "root", "root.a", "root.a-b", "root.a0", "root.ab", "root.root")
	checkKids(t, c, "root.a", "root.a.a", "root.a.ab", "root.a.b")
	checkKids(t, c, "root.a-b", "root.a-b.a")
	checkKids(t, c, "root.a.a", "root.a.a.a")
	checkKids(t, c, "root.a.b", "root.a.b.a", "root.a.b.b")
	checkKids(t, c, "root.root", "root.root.a", "root.root.root")
	for _, path := range []string{"root.a-b.a", "root.a.a.a", "root.a.ab", "root.a.b.a", "root.a.b.b", "root.a0", "root.ab", "root.root.a", "root.root.root", "a", "root.a-", "root.a.", "root.a-b.", ""} {
		checkKids(t, c, path)
	}
}

func checkLeaf(t *testing.T, c api.Conf, path string, want bool) {
	t.Helper()
	if rule.Leaf(c, path) != want {
		t.Errorf("P603: Leaf of %q: %v", path, !want)
	}
}

func TestP603Leaf(t *testing.T) {
	for path, want := range map[string]bool{"root": false, "root.a": false, "root.a.x": true, "root.a.y": true, "root.b": true} {
		checkLeaf(t, small(), path, want)
	}
	for path, want := range map[string]bool{"root": false, "root.a": false, "root.a-b": false, "root.a.a": false, "root.a.b": false, "root.root": false, "root.a-b.a": true, "root.a.a.a": true, "root.a.ab": true, "root.a.b.a": true, "root.a0": true, "root.ab": true, "root.root.root": true} {
		checkLeaf(t, alikes(), path, want)
	}
	checkLeaf(t, tree("root"), "root", true)
	for _, path := range noQueues() {
		checkLeaf(t, small(), path, false)
		checkLeaf(t, tree("root"), path, false)
	}
}

func TestP603TheMostQueues(t *testing.T) {
	c := wide(mostQueues)
	var paths []string
	for i, want := range c.Queues {
		if q, is := rule.Find(c, want.Path); !is || !reflect.DeepEqual(q, want) {
			t.Errorf("P603: Find of %s: %+v, %v", want.Path, q, is)
		}
		checkLeaf(t, c, want.Path, i > 0)
		paths = append(paths, want.Path)
	}
	checkKids(t, c, "root", paths[1:]...)
	deep := tree("root", "root.a", "root.a.b", "root.a.b.c")
	checkKids(t, deep, "root.a.b", "root.a.b.c")
	checkKids(t, deep, "root.a.b.c")
	checkLeaf(t, deep, "root.a.b.c", true)
}

func TestP604(t *testing.T) {
	for _, c := range []api.Conf{small(), alikes(), tree("root"), wide(mostQueues), tree("root", "root.a", "root.a.b", "root.a.b.c")} {
		for _, q := range c.Queues {
			checkUpOf(t, c, q.Path)
		}
	}
}

// checkUpOf fails unless Up of a queue ends with root; what it passes are queues, each a kid of the next one.
func checkUpOf(t *testing.T, c api.Conf, path string) {
	t.Helper()
	l := rule.Up(path)
	if len(l) == 0 || l[0] != path || l[len(l)-1] != "root" {
		t.Fatalf("P604: Up of %s: %q", path, l)
	}
	for i, up := range l[1:] {
		if !slices.Contains(rule.Kids(c, up), l[i]) {
			t.Errorf("P604: Up of %s: %s is no kid of %s", path, l[i], up)
		}
	}
}

// wild are configurations that Check refuses, for which only P1 and P2 hold of the functions of P603.
func wild() []api.Conf {
	twice := tree("root", "root", "root.a", "root.a")
	return []api.Conf{
		{}, {Labels: []string{""}}, {Queues: []api.Queue{{}}}, {Queues: []api.Queue{{}, {Path: "."}, {Path: ".."}, {Path: ".a"}}}, {Labels: make([]string, 300), Queues: make([]api.Queue, 300)},
		{Labels: []string{""}, Queues: []api.Queue{{Path: "root", User: 1}}}, {Queues: []api.Queue{queue("root", 1, whole, whole)}}, tree("", "a", "a.b"), tree("root.a", "root"), twice,
		{Labels: []string{""}, Queues: []api.Queue{queue("root", 1, whole, whole), queue("root.a", 1), queue("root.b", 1, whole, whole)}},
		{Labels: []string{"", "a"}, Queues: []api.Queue{queue("root", 1, whole, whole, whole, whole), queue("root.a", 1, 1<<63-1, 1<<63-1), queue("root.b", -1, -1, -1)}},
	}
}

func TestP1WildConfigurations(t *testing.T) {
	for _, c := range wild() {
		if e := rule.Check(c); e == api.OK {
			t.Errorf("P602: %+v: %v", c, e)
		}
		for _, path := range append(noQueues(), "root", "root.a") {
			a, room := roomy(c)
			_, before := roomy(c)
			rule.Find(a, path)
			rule.Kids(a, path)
			rule.Leaf(a, path)
			if !reflect.DeepEqual(room(), before()) {
				t.Errorf("P2: %+v has changed: %+v", c, a)
			}
		}
	}
}

// roomy is c with spare room behind each of its lists, and room all that stands in them, there too.
func roomy(c api.Conf) (api.Conf, func() any) {
	c.Labels = append(slices.Clone(c.Labels), "guard")[:len(c.Labels)]
	c.Queues = append(slices.Clone(c.Queues), queue("guard", 1))[:len(c.Queues)]
	for i, q := range c.Queues {
		c.Queues[i].Caps = append(slices.Clone(q.Caps), api.Cap{Least: 77, Most: 78})[:len(q.Caps)]
	}
	return c, func() any {
		room := []any{c.Labels[:len(c.Labels)+1], c.Queues[:len(c.Queues)+1]}
		for _, q := range c.Queues {
			room = append(room, q.Caps[:len(q.Caps)+1])
		}
		return room
	}
}

func TestP602P603ChangeNoArgument(t *testing.T) {
	for _, c := range []api.Conf{small(), alikes(), tree("root"), wide(mostQueues), wide(mostQueues + 1), tree("root", "root.b", "root.a"), changed(func(c *api.Conf) { c.Queues[1].Caps[0].Least = 0 })} {
		a, room := roomy(c)
		_, before := roomy(c)
		rule.Check(a)
		for _, path := range []string{"root", "root.a", "root.a.x", "root.b", "root.none", ""} {
			rule.Find(a, path)
			rule.Kids(a, path)
			rule.Leaf(a, path)
		}
		if !reflect.DeepEqual(room(), before()) {
			t.Errorf("P2: %+v has changed: %+v", c, a)
		}
	}
}

// overwrite fills a list, and its spare room, with v.
func overwrite[T any](l []T, v T) {
	l = l[:cap(l)]
	for i := range l {
		l[i] = v
	}
}

func TestP601P603ResultsAreNew(t *testing.T) {
	c, room := roomy(small())
	_, before := roomy(small())
	for range 2 {
		for _, want := range small().Queues {
			q, is := rule.Find(c, want.Path)
			if !is || !reflect.DeepEqual(q, want) {
				t.Errorf("P2: Find of %s: %+v", want.Path, q)
			}
			overwrite(q.Caps, api.Cap{Least: -7, Most: -8})
		}
		checkKids(t, c, "root", "root.a", "root.b")
		checkUp(t, "root.a.x", "root.a.x", "root.a", "root")
		overwrite(rule.Kids(c, "root"), "x")
		overwrite(rule.Up("root.a.x"), "x")
	}
	if !reflect.DeepEqual(room(), before()) {
		t.Errorf("P2: what was given is the argument's own memory: %+v", c)
	}
}

func TestP603KeepNoArgument(t *testing.T) {
	c := small()
	q, _ := rule.Find(c, "root.a")
	kids := rule.Kids(c, "root")
	for i := range c.Queues {
		overwrite(c.Queues[i].Caps, api.Cap{})
	}
	overwrite(c.Queues, api.Queue{})
	if !reflect.DeepEqual(q, small().Queues[1]) || !slices.Equal(kids, []string{"root.a", "root.b"}) {
		t.Errorf("P2: what was given shares memory with the argument: %+v, %q", q, kids)
	}
	if _, is := rule.Find(c, "root.a"); is || rule.Leaf(c, "root.b") || len(rule.Kids(c, "root")) > 0 {
		t.Error("P7: what was asked of another configuration is told again")
	}
}

func TestP601P603AnswerTheSameAgain(t *testing.T) {
	for range 100 {
		checkName(t, "a-0", true)
		checkName(t, "a.0", false)
		checkUp(t, "a..b", "a..b", "a.", "a")
		checkCheck(t, "P3", small(), api.OK)
		checkCheck(t, "P3", changed(func(c *api.Conf) { c.Queues[4].Caps[2].Least = 2 }), api.ErrSum)
		checkKids(t, alikes(), "root.a", "root.a.a", "root.a.ab", "root.a.b")
		checkLeaf(t, small(), "root.b", true)
	}
}
