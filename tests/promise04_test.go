package tests

import (
	"testing"

	"loop.example/g01152/impl"
)

// lawsOfManyKinds are lists of laws that are alike: all those of small moduli and degrees, and some of
// all other ones.
func lawsOfManyKinds(t *testing.T) [][]impl.Plane {
	var lists [][]impl.Plane
	for _, kind := range [][2]int64{{2, 2}, {3, 2}, {4, 2}, {2, 3}} {
		var laws []impl.Plane
		for _, f := range allPlanes(kind[0], kind[1]) {
			if impl.IsLaw(f) {
				laws = append(laws, f)
			}
		}
		lists = append(lists, laws)
	}
	for _, m := range moduliOfLaws {
		for _, d := range degreesOfLaws {
			lists = append(lists, sampleLaws(t, m, d))
		}
	}
	return lists
}

// underLaw are the operations of a law, each of which has to succeed.
type underLaw struct {
	t *testing.T
	f impl.Plane
}

func (u underLaw) sum(a impl.Series, b impl.Series) impl.Series {
	u.t.Helper()
	return made(u.t, "SumUnder")(impl.SumUnder(u.f, a, b))
}

func (u underLaw) opposite(a impl.Series) impl.Series {
	u.t.Helper()
	return made(u.t, "OppositeUnder")(impl.OppositeUnder(u.f, a))
}

func (u underLaw) difference(a impl.Series, b impl.Series) impl.Series {
	u.t.Helper()
	return made(u.t, "DifferenceUnder")(impl.DifferenceUnder(u.f, a, b))
}

func (u underLaw) multiple(n int64, a impl.Series) impl.Series {
	u.t.Helper()
	return made(u.t, "MultipleUnder")(impl.MultipleUnder(u.f, n, a))
}

// same checks that two ways lead to the same curve of the law.
func (u underLaw) same(call string, left impl.Series, right impl.Series) {
	u.t.Helper()
	isOfLaw := impl.IsCurve(left) && left.Modulus == u.f.Modulus && degreeOf(left) == degreeOfPlane(u.f)
	if !isSame(left, right) || !isOfLaw {
		u.t.Errorf("%s = %v; want %v under %s", call, left, right, textOf(u.f))
	}
}

// checkGroup checks that three curves are added as in a commutative group.
func (u underLaw) checkGroup(a impl.Series, b impl.Series, c impl.Series) {
	u.t.Helper()
	zero := monomialOf(u.f.Modulus, degreeOfPlane(u.f), 0, 0)
	u.same("a + b", u.sum(a, b), u.sum(b, a))
	u.same("(a + b) + c", u.sum(u.sum(a, b), c), u.sum(a, u.sum(b, c)))
	u.same("a + 0", u.sum(a, zero), a)
	u.same("0 + a", u.sum(zero, a), a)
	u.same("a + (-a)", u.sum(a, u.opposite(a)), zero)
	u.same("(-a) + a", u.sum(u.opposite(a), a), zero)
	u.same("-(-a)", u.opposite(u.opposite(a)), a)
	u.same("-(a + b)", u.opposite(u.sum(a, b)), u.sum(u.opposite(a), u.opposite(b)))
	u.same("a - b", u.difference(a, b), u.sum(a, u.opposite(b)))
	u.same("(a - b) + b", u.sum(u.difference(a, b), b), a)
	u.same("a - a", u.difference(a, a), zero)
}

// TestPromise4SmallGroups checks the groups of all curves of all laws of small moduli and degrees.
func TestPromise4SmallGroups(t *testing.T) {
	for _, list := range lawsOfManyKinds(t)[:4] {
		for _, f := range list {
			u := underLaw{t: t, f: f}
			var curves []impl.Series
			for _, a := range allSeries(f.Modulus, degreeOfPlane(f)) {
				if impl.IsCurve(a) {
					curves = append(curves, a)
				}
			}
			for _, a := range curves {
				for _, b := range curves {
					u.checkGroup(a, b, curves[(a.Coefficients[1]*3+b.Coefficients[2]*5+1)%int64(len(curves))])
				}
			}
		}
	}
}

// TestPromise4Groups checks groups of curves of laws of all moduli.
func TestPromise4Groups(t *testing.T) {
	for _, list := range lawsOfManyKinds(t)[4:] {
		curves := sampleCurves(list[0].Modulus, degreeOfPlane(list[0]))
		for n, f := range list {
			u := underLaw{t: t, f: f}
			u.checkGroup(curves[(n*5+6)%len(curves)], curves[(n*7+8)%len(curves)], curves[(n*3+1)%len(curves)])
		}
	}
}

// pairsOfMultiples are pairs of numbers whose products are multiples, too; some are at the limits.
var pairsOfMultiples = [][2]int64{
	{0, 0}, {0, 5}, {-3, 0}, {1, -1000000}, {-1, 1000000}, {-1, -1}, {2, 2}, {2, -3}, {-3, -5}, {1000, 1000}, {-1000, 1000}, {999, -1001},
	{8, 125000}, {64, -15625}, {500000, 2}, {-7, 142857}, {3, 333333}, {1000000, 0}, {-1000000, -1}, {12, 97},
}

// TestPromise4Multiples checks that multiples of multiples are multiples by products, that multiples by
// sums are sums of multiples, and multiples of sums those, too.
func TestPromise4Multiples(t *testing.T) {
	for _, list := range lawsOfManyKinds(t) {
		curves := sampleCurves(list[0].Modulus, degreeOfPlane(list[0]))
		for n, f := range list {
			u := underLaw{t: t, f: f}
			a, b := curves[(n*5+6)%len(curves)], curves[(n*7+8)%len(curves)]
			for k := range 3 {
				pair := pairsOfMultiples[(n*3+k*7)%len(pairsOfMultiples)]
				u.same("n (m a)", u.multiple(pair[0], u.multiple(pair[1], a)), u.multiple(pair[0]*pair[1], a))
				u.same("m (n a)", u.multiple(pair[1], u.multiple(pair[0], a)), u.multiple(pair[0]*pair[1], a))
				half := [2]int64{pair[0] / 2, pair[1] / 2}
				u.same("n a + m a", u.sum(u.multiple(half[0], a), u.multiple(half[1], a)), u.multiple(half[0]+half[1], a))
				u.same("n (a + b)", u.multiple(pair[0], u.sum(a, b)), u.sum(u.multiple(pair[0], a), u.multiple(pair[0], b)))
				u.same("-(n a)", u.opposite(u.multiple(pair[1], a)), u.multiple(-pair[1], a))
				u.same("n a - a", u.difference(u.multiple(half[1]+1, a), a), u.multiple(half[1], a))
			}
		}
	}
}

// TestGuarantee4Coefficients checks that multiples by n have n as coefficient at t, and that multiples
// of curves are compositions with multiples of laws, which makes those of products compositions.
func TestGuarantee4Coefficients(t *testing.T) {
	for _, list := range lawsOfManyKinds(t) {
		m, d := list[0].Modulus, degreeOfPlane(list[0])
		curves := sampleCurves(m, d)
		for n, f := range list {
			u := underLaw{t: t, f: f}
			a := curves[(n*5+6)%len(curves)]
			for k := range 3 {
				pair := pairsOfMultiples[(n*5+k*3)%len(pairsOfMultiples)]
				left := made(t, "MultipleOf")(impl.MultipleOf(f, pair[0]))
				right := made(t, "MultipleOf")(impl.MultipleOf(f, pair[1]))
				if left.Coefficients[1] != (pair[0]%m+m)%m || right.Coefficients[1] != (pair[1]%m+m)%m {
					t.Errorf("multiples by %v have the coefficients %d and %d at t modulo %d", pair, left.Coefficients[1], right.Coefficients[1], m)
				}
				u.same("the multiple of a curve", u.multiple(pair[0], a), compositionOf(left, a))
				wantsSeries(t, "the multiple by a product", compositionOf(left, right), impl.ErrNone)(impl.MultipleOf(f, pair[0]*pair[1]))
			}
			inverse := made(t, "InverseOfLaw")(impl.InverseOfLaw(f))
			wantsSeries(t, "the multiple by -1", inverse, impl.ErrNone)(impl.MultipleOf(f, -1))
		}
	}
}
