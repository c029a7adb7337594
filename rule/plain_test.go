package rule_test

import (
	"regexp"
	"slices"
	"strings"
	"testing"

	"dispatch/api"
	"dispatch/rule"
)

// Names and paths as W1 tells them.
var (
	plainName = regexp.MustCompile(`^[a-z0-9-]{1,12}$`)
	plainPath = regexp.MustCompile(`^root(\.[a-z0-9-]{1,12}){0,3}$`)
)

// toldUp is Up written down by the names between the dots.
func toldUp(path string) (l []string) {
	names := strings.Split(path, ".")
	for count := len(names); count > 0; count-- {
		if s := strings.Join(names[:count], "."); s != "" {
			l = append(l, s)
		}
	}
	return l
}

// told is Check written down as the chapter tells it, step for step.
func told(c api.Conf) api.Errno {
	if len(c.Labels) == 0 || len(c.Labels) > mostLabels || len(c.Queues) > mostQueues {
		return api.ErrMany
	}
	if e := toldLabels(c.Labels); e != api.OK {
		return e
	}
	if len(c.Queues) == 0 || c.Queues[0].Path != "root" {
		return api.ErrName
	}
	for i := range c.Queues {
		if e := toldQueue(c, i); e != api.OK {
			return e
		}
	}
	for label := range c.Labels {
		if !toldSums(c, label) {
			return api.ErrSum
		}
	}
	return api.OK
}

func toldLabels(labels []string) api.Errno {
	for i, name := range labels {
		if i == 0 && name != "" || i > 0 && !plainName.MatchString(name) {
			return api.ErrName
		}
	}
	for i := range labels {
		for k := range labels {
			if i != k && labels[i] == labels[k] {
				return api.ErrIs
			}
		}
	}
	return api.OK
}

func toldQueue(c api.Conf, i int) api.Errno {
	q := c.Queues[i]
	if !plainPath.MatchString(q.Path) {
		return api.ErrName
	}
	if i > 0 && strings.Compare(q.Path, c.Queues[i-1].Path) != 1 {
		return api.ErrIs
	}
	if i > 0 && len(toldFind(c, toldUp(q.Path)[1])) == 0 {
		return api.ErrName
	}
	if q.User < 1 || q.User > mostUser || len(q.Caps) != len(c.Labels) {
		return api.ErrArg
	}
	for _, k := range q.Caps {
		if k.Least < 0 || k.Least > whole || k.Most < 0 || k.Most > whole || k.Least > k.Most {
			return api.ErrArg
		}
	}
	return api.OK
}

func toldSums(c api.Conf, label int) bool {
	if c.Queues[0].Caps[label].Least != whole || c.Queues[0].Caps[label].Most != whole {
		return false
	}
	for _, q := range c.Queues {
		sum, kids := 0, toldKids(c, q.Path)
		for _, kid := range kids {
			sum += toldFind(c, kid)[0].Caps[label].Least
		}
		if len(kids) > 0 && sum != whole {
			return false
		}
	}
	return true
}

// toldFind is the queues with that path.
func toldFind(c api.Conf, path string) (l []api.Queue) {
	for _, q := range c.Queues {
		if q.Path == path {
			l = append(l, q)
		}
	}
	return l
}

// toldKids are the paths that have one name more, and begin with the path.
func toldKids(c api.Conf, path string) (l []string) {
	for _, q := range c.Queues {
		if name, below := strings.CutPrefix(q.Path, path+"."); below && !strings.Contains(name, ".") && len(toldFind(c, path)) > 0 {
			l = append(l, q.Path)
		}
	}
	return l
}

// checkTold holds Check of c against the plain one, and if c may be, the other functions too.
func checkTold(t *testing.T, c api.Conf) {
	t.Helper()
	want := told(c)
	checkCheck(t, "P602", c, want)
	if want != api.OK {
		return
	}
	for _, q := range c.Queues {
		checkUpOf(t, c, q.Path)
		checkToldPath(t, c, q.Path)
		checkToldPath(t, c, q.Path+".")
		checkToldPath(t, c, q.Path+".a")
		checkToldPath(t, c, q.Path[:len(q.Path)-1])
		checkToldPath(t, c, q.Path[1:])
	}
	checkToldPath(t, c, "")
}

func checkToldPath(t *testing.T, c api.Conf, path string) {
	t.Helper()
	found, kids := toldFind(c, path), toldKids(c, path)
	q, is := rule.Find(c, path)
	if is != (len(found) > 0) || is && (q.Path != path || q.User != found[0].User || !slices.Equal(q.Caps, found[0].Caps)) {
		t.Errorf("P603: Find of %q in %+v: %+v, %v", path, c, q, is)
	}
	checkKids(t, c, path, kids...)
	checkLeaf(t, c, path, is && len(kids) == 0)
}

// strung calls see with each sequence of at most that many pieces.
func strung(begin string, pieces []string, most int, see func(string)) {
	see(begin)
	if most == 0 {
		return
	}
	for _, piece := range pieces {
		strung(begin+piece, pieces, most-1, see)
	}
}

func TestP601AllShortStrings(t *testing.T) {
	pieces := []string{".", "a", "z", "0", "9", "-", "A", "_", " ", "\n", "\u00e9", "\xff", "root", "abcdefghij"}
	strung("", pieces, 5, func(s string) {
		checkName(t, s, plainName.MatchString(s))
		checkUp(t, s, toldUp(s)...)
	})
}

func TestP602AllShortPaths(t *testing.T) {
	strung("", []string{".", "a", "-", "A", "root", "abcdefghijkl", "\u00e9"}, 6, func(path string) {
		c := tree("root", path)
		if up := toldUp(path); len(up) > 2 {
			slices.Reverse(up)
			c = tree(up...)
		}
		checkTold(t, c)
	})
}

// listed calls see with each sequence of at most that many of the queues, one memory for all.
func listed(queues, pool []api.Queue, most int, see func([]api.Queue)) {
	see(queues)
	if most == 0 {
		return
	}
	for _, q := range pool {
		listed(append(queues, q), pool, most-1, see)
	}
}

func TestP602P603AllShortListsOfQueues(t *testing.T) {
	var pool []api.Queue
	for _, path := range []string{"root", "root.a", "root.a.b", "root.a.c", "root.b", "root.a-", "root."} {
		pool = append(pool, queue(path, 1, whole, whole), queue(path, 1, 5000, whole), queue(path, 1, 0, 0))
	}
	pool = append(pool, queue("root.a", 0, whole, whole), queue("root.b", 1))
	c := api.Conf{Labels: []string{""}}
	listed(nil, pool, 3, func(l []api.Queue) {
		c.Queues = l
		checkTold(t, c)
	})
	listed([]api.Queue{pool[0]}, pool, 3, func(l []api.Queue) {
		c.Queues = l
		checkTold(t, c)
	})
}

func TestP602AllShortListsOfLabels(t *testing.T) {
	names := []string{"", "a", "b", "A", "abcdefghijkl", "abcdefghijklm"}
	var place func(labels []string)
	place = func(labels []string) {
		c := api.Conf{Labels: labels, Queues: []api.Queue{{Path: "root", User: 1, Caps: slices.Repeat([]api.Cap{{Least: whole, Most: whole}}, len(labels))}}}
		checkTold(t, c)
		c.Queues = nil
		checkTold(t, c)
		for _, name := range names {
			if len(labels) <= mostLabels {
				place(append(slices.Clone(labels), name))
			}
		}
	}
	place(nil)
}

// changes are what may be done to small, each of them to a queue or label that may be gone.
func changes() []func(c *api.Conf) {
	l := []func(c *api.Conf){
		func(c *api.Conf) { c.Labels = nil },
		func(c *api.Conf) { c.Labels = c.Labels[:min(1, len(c.Labels))] },
		func(c *api.Conf) { c.Labels = append(c.Labels, "a") },
		func(c *api.Conf) { c.Labels = append(c.Labels, "gpu") },
		func(c *api.Conf) { c.Queues = nil },
		func(c *api.Conf) { c.Queues = append(c.Queues, c.Queues...) },
		func(c *api.Conf) { c.Queues = append(c.Queues, make([]api.Queue, 12)...) },
		func(c *api.Conf) { c.Queues = c.Queues[min(1, len(c.Queues)):] },
		func(c *api.Conf) { c.Queues = c.Queues[:min(1, len(c.Queues))] },
		func(c *api.Conf) { c.Queues = c.Queues[:max(0, len(c.Queues)-1)] },
		func(c *api.Conf) { slices.Reverse(c.Queues) },
	}
	for i := range mostLabels {
		for _, name := range []string{"", "a", "gpu", "X", "abcdefghijklm"} {
			l = append(l, func(c *api.Conf) {
				if i < len(c.Labels) {
					c.Labels[i] = name
				}
			})
		}
	}
	for i := range small().Queues {
		for _, change := range queueChanges() {
			l = append(l, func(c *api.Conf) {
				if i < len(c.Queues) {
					change(&c.Queues[i])
				}
			})
		}
	}
	return l
}

func queueChanges() (l []func(q *api.Queue)) {
	for _, path := range []string{"root", "root.a", "root.a.x", "root.a.z", "root.b.x", "root.c", "root.b.", "x"} {
		l = append(l, func(q *api.Queue) { q.Path = path })
	}
	for _, user := range []int{0, 1, mostUser, mostUser + 1} {
		l = append(l, func(q *api.Queue) { q.User = user })
	}
	l = append(l, func(q *api.Queue) { q.Caps = nil }, func(q *api.Queue) { q.Caps = append(q.Caps, api.Cap{}) })
	for _, k := range []int{0, 2} {
		for _, cap := range []api.Cap{{Least: -1}, {Most: whole + 1}, {Least: 2, Most: 1}, {}, {Most: whole}, {Least: 4000, Most: whole}, {Least: 6000, Most: whole}, {Least: whole, Most: whole}} {
			l = append(l, func(q *api.Queue) {
				if k < len(q.Caps) {
					q.Caps[k] = cap
				}
			})
		}
	}
	return l
}

// Of several errors the first one decides, whichever they are.
func TestP602P603AllPairsOfChanges(t *testing.T) {
	l := changes()
	for _, first := range l {
		for _, second := range l {
			checkTold(t, changed(func(c *api.Conf) {
				first(c)
				second(c)
			}))
		}
	}
}
