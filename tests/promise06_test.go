package tests

import (
	"testing"

	"loop.example/g01152/impl"
)

// homomorphism is a curve from one law to another one that was found to lead sums to sums.
type homomorphism struct {
	from  impl.Plane
	to    impl.Plane
	curve impl.Series
}

// check checks that the curve is a homomorphism as the program sees it.
func (h homomorphism) check(t *testing.T, call string) {
	t.Helper()
	yes, code := impl.IsHomomorphism(h.from, h.to, h.curve)
	if !yes || code != impl.ErrNone {
		t.Errorf("%s: %v from %s to %s: %v, %d", call, h.curve, textOf(h.from), textOf(h.to), yes, code)
	}
}

// composed returns g after h, for a homomorphism g from the law to which h leads.
func (h homomorphism) composed(t *testing.T, g homomorphism) homomorphism {
	t.Helper()
	return homomorphism{from: h.from, to: g.to, curve: made(t, "ComposeSeries")(impl.ComposeSeries(g.curve, h.curve))}
}

// with returns another curve between the same laws.
func (h homomorphism) with(a impl.Series) homomorphism {
	return homomorphism{from: h.from, to: h.to, curve: a}
}

// coordinate returns the homomorphism from a law to that in a coordinate.
func coordinate(t *testing.T, f impl.Plane, a impl.Series) homomorphism {
	t.Helper()
	return homomorphism{from: f, to: madePlane(t, "LawInCoordinate")(impl.LawInCoordinate(f, a)), curve: a}
}

// homomorphismsBetween returns all homomorphisms between laws of a small modulus and degree.
func homomorphismsBetween(t *testing.T, f impl.Plane, g impl.Plane) []homomorphism {
	t.Helper()
	curves, code := impl.AllHomomorphisms(f, g)
	if code != impl.ErrNone || len(curves) == 0 {
		t.Fatalf("AllHomomorphisms(%s, %s): %d curves, code %d", textOf(f), textOf(g), len(curves), code)
	}
	var list []homomorphism
	for _, a := range curves {
		list = append(list, homomorphism{from: f, to: g, curve: a})
	}
	return list
}

// smallLaws are lists of laws that are alike, between which all homomorphisms may be composed.
func smallLaws(t *testing.T) [][]impl.Plane {
	t.Helper()
	lists := lawsOfManyKinds(t)[:4]
	for _, kind := range [][2]int64{{2, 1}, {2, 4}, {2, 5}, {2, 8}, {3, 1}, {3, 3}, {3, 4}, {4, 3}, {5, 2}, {5, 5}, {6, 2}, {6, 3}, {8, 2}, {9, 3}, {10, 2}, {12, 2}} {
		lists = append(lists, sampleLaws(t, kind[0], kind[1]))
	}
	return lists
}

// isAmong reports whether a curve is that of one of the homomorphisms.
func isAmong(a impl.Series, list []homomorphism) bool {
	for _, h := range list {
		if isSame(a, h.curve) {
			return true
		}
	}
	return false
}

// TestPromise6Compositions checks that compositions of homomorphisms are homomorphisms, and among all.
func TestPromise6Compositions(t *testing.T) {
	for _, laws := range smallLaws(t) {
		for n, f := range laws {
			g, h := laws[(n*3+1)%len(laws)], laws[(n*5+4)%len(laws)]
			first, second := homomorphismsBetween(t, f, g), homomorphismsBetween(t, g, h)
			all := homomorphismsBetween(t, f, h)
			for i, a := range first {
				for k, b := range second {
					if (i+k)%(len(first)*len(second)/40+1) != 0 {
						continue
					}
					both := a.composed(t, b)
					both.check(t, "a composition")
					if !isAmong(both.curve, all) {
						t.Errorf("AllHomomorphisms(%s, %s) has no %v", textOf(f), textOf(h), both.curve)
					}
				}
			}
		}
	}
}

// TestPromise6Sums checks that sums, opposites and multiples of homomorphisms under the law to which
// they lead are homomorphisms, and among all.
func TestPromise6Sums(t *testing.T) {
	for _, laws := range smallLaws(t) {
		for n, f := range laws {
			g := laws[(n*3+1)%len(laws)]
			all, u := homomorphismsBetween(t, f, g), underLaw{t: t, f: g}
			for i, a := range all {
				list := []impl.Series{u.opposite(a.curve), u.multiple(int64(i)-3, a.curve), u.multiple(1000000, a.curve)}
				for k, b := range all {
					if (i+k)%(len(all)*len(all)/40+1) == 0 {
						list = append(list, u.sum(a.curve, b.curve), u.difference(a.curve, b.curve))
					}
				}
				for _, b := range list {
					a.with(b).check(t, "a sum")
					if !isAmong(b, all) {
						t.Errorf("AllHomomorphisms(%s, %s) has no %v", textOf(f), textOf(g), b)
					}
				}
			}
		}
	}
}

// TestPromise6Coordinates checks for all moduli that laws in coordinates are laws, that the coordinates
// are homomorphisms to them, and their reversions back; that one coordinate after the other is the
// composition; and that these homomorphisms are composed and added to homomorphisms.
func TestPromise6Coordinates(t *testing.T) {
	for _, list := range lawsOfManyKinds(t) {
		m, d := list[0].Modulus, degreeOfPlane(list[0])
		units := []int64{1, m - 1}
		for _, c := range sample(m) {
			if isUnitOf(m, c) {
				units = append(units, c)
			}
		}
		coordinates := invertibleCurves(m, d)
		for n, f := range list {
			a, b := coordinates[n*5%len(coordinates)], coordinates[(n*7+3)%len(coordinates)]
			a.Coefficients[1], b.Coefficients[1] = units[n%len(units)], units[n*3%len(units)]
			first := coordinate(t, f, a)
			second := coordinate(t, first.to, b)
			if !impl.IsLaw(first.to) || !impl.IsLaw(second.to) || first.to.Modulus != m || degreeOfPlane(first.to) != d {
				t.Errorf("LawInCoordinate(%s, %v) = %v", textOf(f), a, first.to)
			}
			first.check(t, "a coordinate")
			second.check(t, "a coordinate")
			back := homomorphism{from: first.to, to: f, curve: made(t, "ReverseSeries")(impl.ReverseSeries(a))}
			back.check(t, "a reversion")
			wantsPlane(t, "LawInCoordinate, back", f, impl.ErrNone)(impl.LawInCoordinate(first.to, back.curve))
			both := first.composed(t, second)
			both.check(t, "a composition")
			wantsPlane(t, "LawInCoordinate of a composition", second.to, impl.ErrNone)(impl.LawInCoordinate(f, both.curve))
			u := underLaw{t: t, f: second.to}
			multiple := u.multiple(int64(n*37)-100, both.curve)
			both.with(multiple).check(t, "a multiple")
			both.with(u.sum(multiple, both.curve)).check(t, "a sum")
			both.with(u.difference(both.curve, multiple)).check(t, "a difference")
		}
	}
}

// TestPromise6Isomorphisms checks that a law in the coordinate that is an isomorphism to another law is
// this one, and that isomorphic laws have the same number of homomorphisms, to each other and to
// themselves.
func TestPromise6Isomorphisms(t *testing.T) {
	count := 0
	for _, laws := range smallLaws(t) {
		for n, f := range laws {
			g := laws[(n+4)%len(laws)]
			own := int64(len(homomorphismsBetween(t, f, f)))
			for _, h := range homomorphismsBetween(t, f, g) {
				if !isUnitOf(f.Modulus, h.curve.Coefficients[1]) {
					continue
				}
				count++
				wantsPlane(t, "LawInCoordinate of an isomorphism", g, impl.ErrNone)(impl.LawInCoordinate(f, h.curve))
				wants(t, "CountHomomorphisms", own, impl.ErrNone)(impl.CountHomomorphisms(f, g))
				wants(t, "CountHomomorphisms", own, impl.ErrNone)(impl.CountHomomorphisms(g, f))
				wants(t, "CountHomomorphisms", own, impl.ErrNone)(impl.CountHomomorphisms(g, g))
			}
			found, code := impl.IsomorphismOf(f, g)
			if code == impl.ErrNone {
				homomorphism{from: f, to: g, curve: found}.check(t, "IsomorphismOf")
			}
			strict, code := impl.StrictIsomorphism(f, g)
			if code == impl.ErrNone {
				homomorphism{from: f, to: g, curve: strict}.check(t, "StrictIsomorphism")
				wantsPlane(t, "LawInCoordinate of a strict isomorphism", g, impl.ErrNone)(impl.LawInCoordinate(f, strict))
			}
		}
	}
	if count < 200 {
		t.Errorf("only %d isomorphisms", count)
	}
}

// TestGuarantee6Multiples checks that multiples of a law are homomorphisms from it to itself, for all
// moduli.
func TestGuarantee6Multiples(t *testing.T) {
	numbers := []int64{-1000000, -65537, -1001, -12, -2, -1, 0, 1, 2, 3, 5, 7, 97, 1000, 524287, 1000000}
	for _, list := range lawsOfManyKinds(t) {
		for k, f := range list {
			for n := range 3 {
				number := numbers[(k*5+n*7)%len(numbers)]
				multiple := made(t, "MultipleOf")(impl.MultipleOf(f, number))
				homomorphism{from: f, to: f, curve: multiple}.check(t, "a multiple of a law")
			}
		}
	}
}

// TestGuarantee6Powers checks that over prime fields t^p and its compositions are homomorphisms from
// each law to itself, and from no other law with the coefficient 1 at x y to x + y.
func TestGuarantee6Powers(t *testing.T) {
	for _, p := range []int64{2, 3, 5, 7} {
		for d := p; d <= 10; d++ {
			for _, f := range sampleLaws(t, p, d) {
				for k := p; k <= d; k *= p {
					homomorphism{from: f, to: f, curve: monomialOf(p, d, k, 1)}.check(t, "a power")
				}
				if f.Table[1][1] == 1 && 2*p <= d {
					wants(t, "IsHomomorphism", false, impl.ErrNone)(impl.IsHomomorphism(f, bilinearLaw(p, d, 0), monomialOf(p, d, p, 1)))
				}
			}
		}
	}
	// Behind the degree p the power is 0; without a prime field it is none: (x + y)^2 is x^2 + 2 x y + y^2.
	for _, d := range degreesOfLaws {
		homomorphism{from: bilinearLaw(97, d, 1), to: bilinearLaw(97, d, 1), curve: monomialOf(97, d, 1, 0)}.check(t, "0")
	}
	wants(t, "IsHomomorphism", false, impl.ErrNone)(impl.IsHomomorphism(bilinearLaw(4, 2, 0), bilinearLaw(4, 2, 0), monomialOf(4, 2, 2, 1)))
}
