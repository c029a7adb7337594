// Package rvec: vectors of what there is. See doc/01-rvec.md.
package rvec

import (
	"cmp"
	"math/bits"

	"dispatch/api"
)

const (
	maxPart   = 1 << 50 // of a vector (W5)
	maxPoints = 1000000 // that Scale takes
)

// vec is a vector with the operations that this package works by.
type vec api.Vec

// Add returns the sum, part by part.
func Add(a, b api.Vec) (api.Vec, api.Errno) { return combine(vec(a), vec(b), vec.plus) }

// Sub returns the difference, part by part.
func Sub(a, b api.Vec) (api.Vec, api.Errno) { return combine(vec(a), vec(b), vec.minus) }

// Fits reports whether no part of a is greater than that of b, whatever they are.
func Fits(a, b api.Vec) bool { return a.Mem <= b.Mem && a.Cores <= b.Cores }

// Scale returns bp basis points of a, rounded down.
func Scale(a api.Vec, bp int) (api.Vec, api.Errno) {
	if !vec(a).bounded() || bp < 0 || bp > maxPoints {
		return api.Vec{}, api.ErrArg
	}
	return within(vec(a).each(points(bp).of))
}

// Order compares how much a is of p with how much b is of q, by the greater share of each: -1, 0, 1.
func Order(a, p, b, q api.Vec) int {
	if !vec(a).bounded() || !vec(p).bounded() || !vec(b).bounded() || !vec(q).bounded() {
		return 0
	}
	return load(a, p).compare(load(b, q))
}

func (a vec) plus(b vec) vec { return vec{Mem: a.Mem + b.Mem, Cores: a.Cores + b.Cores} }

func (a vec) minus(b vec) vec { return vec{Mem: a.Mem - b.Mem, Cores: a.Cores - b.Cores} }

func (a vec) each(f func(part int) int) vec { return vec{Mem: f(a.Mem), Cores: f(a.Cores)} }

func (a vec) bounded() bool { return inBounds(a.Mem) && inBounds(a.Cores) }

func inBounds(part int) bool { return 0 <= part && part <= maxPart }

// combine asks for bounded parts ahead of the operation, so that it can't wrap round.
func combine(a, b vec, operation func(a, b vec) vec) (api.Vec, api.Errno) {
	if !a.bounded() || !b.bounded() {
		return api.Vec{}, api.ErrArg
	}
	return within(operation(a, b))
}

// within lets only a result through that is a vector itself.
func within(a vec) (api.Vec, api.Errno) {
	if !a.bounded() {
		return api.Vec{}, api.ErrOver
	}
	return api.Vec(a), api.OK
}

// points is a share in basis points.
type points int

// of divides ahead of multiplying, because the product itself may have more than 64 bits.
func (p points) of(part int) int {
	whole, rest := part/api.Whole, part%api.Whole
	return whole*int(p) + rest*int(p)/api.Whole
}

// ratio is an exact fraction; beneath is 0 only for one that is greater than every number.
type ratio struct{ above, beneath uint64 }

// ratioOf makes nothing of nothing a true 0, because 0 / 0 would be equal to every ratio.
func ratioOf(part, whole int) ratio {
	if part == 0 {
		return ratio{0, 1}
	}
	return ratio{uint64(part), uint64(whole)}
}

// compare multiplies crosswise in 128 bits, because the products have up to 100.
func (r ratio) compare(o ratio) int {
	high, low := bits.Mul64(r.above, o.beneath)
	otherHigh, otherLow := bits.Mul64(o.above, r.beneath)
	return cmp.Or(cmp.Compare(high, otherHigh), cmp.Compare(low, otherLow))
}

func load(a, p api.Vec) ratio {
	mem, cores := ratioOf(a.Mem, p.Mem), ratioOf(a.Cores, p.Cores)
	if mem.compare(cores) < 0 {
		return cores
	}
	return mem
}
