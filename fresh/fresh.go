// Package fresh: copies that share no memory with what they were made of. It is no layer: it stands beside them because each one that gives out a new state needs such a copy.
package fresh

import (
	"slices"
	"strings"

	"dispatch/api"
)

// State returns a state equal to s, in memory of its own.
func State(s api.State) api.State {
	return api.State{
		Conf:  conf(s.Conf),
		Nodes: slices.Clone(s.Nodes),
		Apps:  each(s.Apps, App),
		Conts: slices.Clone(s.Conts),
		Slots: slices.Clone(s.Slots),
		Plans: slices.Clone(s.Plans),
		Now:   s.Now,
		Epoch: s.Epoch,
		Seq:   s.Seq,
	}
}

// App returns an application equal to a, in memory of its own.
func App(a api.App) api.App {
	a.Queue, a.Asks = strings.Clone(a.Queue), slices.Clone(a.Asks)
	a.Grants, a.Kills = slices.Clone(a.Grants), slices.Clone(a.Kills)
	a.Told, a.Lost = slices.Clone(a.Told), slices.Clone(a.Lost)
	return a
}

func conf(c api.Conf) api.Conf {
	return api.Conf{Labels: each(c.Labels, strings.Clone), Queues: each(c.Queues, queue)}
}

func queue(q api.Queue) api.Queue {
	q.Path, q.Caps = strings.Clone(q.Path), slices.Clone(q.Caps)
	return q
}

// each is for lists whose elements hold memory themselves.
func each[T any](l []T, copied func(T) T) []T {
	l = slices.Clone(l)
	for i, x := range l {
		l[i] = copied(x)
	}
	return l
}
