package tests

import (
	"testing"

	"loop.example/g01152/impl"
)

// lawsWithLogarithms are lists of laws that are alike, with which the numbers 1 to the degree are
// units: all those of small moduli and degrees, which are the laws of all curves that begin with t,
// and some of all other ones.
func lawsWithLogarithms(t *testing.T) [][]impl.Plane {
	t.Helper()
	var lists [][]impl.Plane
	for _, kind := range [][2]int64{{2, 1}, {3, 2}, {5, 2}, {5, 3}, {5, 4}, {7, 3}, {25, 2}, {35, 2}} {
		var laws []impl.Plane
		for _, a := range strictCurves(kind[0], kind[1]) {
			laws = append(laws, madePlane(t, "LawOfCurve")(impl.LawOfCurve(a)))
		}
		lists = append(lists, laws)
	}
	for _, m := range moduliOfLogarithms {
		for _, d := range degreesOfLaws {
			if haveInverses(m, d) {
				lists = append(lists, sampleLaws(t, m, d))
			}
		}
	}
	return lists
}

// strictCurves returns all curves of a small modulus and degree that begin with t.
func strictCurves(m int64, d int64) []impl.Series {
	if d == 1 {
		return []impl.Series{series(m, 0, 1)}
	}
	var list []impl.Series
	for c := range m {
		for _, a := range strictCurves(m, d-1) {
			list = append(list, series(m, append(append([]int64(nil), a.Coefficients...), c)...))
		}
	}
	return list
}

// TestPromise5Laws checks that laws come back from their logarithms and from their differentials.
func TestPromise5Laws(t *testing.T) {
	for _, list := range lawsWithLogarithms(t) {
		for _, f := range list {
			a := made(t, "LogarithmOf")(impl.LogarithmOf(f))
			wants(t, "IsLogarithm", true, impl.ErrNone)(impl.IsLogarithm(f, a))
			wantsPlane(t, "LawOfCurve of the logarithm", f, impl.ErrNone)(impl.LawOfCurve(a))
			g := made(t, "ExponentialOf")(impl.ExponentialOf(f))
			back := made(t, "ReverseSeries")(impl.ReverseSeries(g))
			wantsPlane(t, "LawOfCurve of the reversion of the exponential", f, impl.ErrNone)(impl.LawOfCurve(back))
			if degreeOfPlane(f) > 1 {
				w := made(t, "DifferentialOf")(impl.DifferentialOf(f))
				wantsPlane(t, "LawOfDifferential of the differential", f, impl.ErrNone)(impl.LawOfDifferential(w))
			}
		}
	}
}

// TestPromise5Multiples checks that multiples by logarithms are multiples.
func TestPromise5Multiples(t *testing.T) {
	numbers := []int64{-1000000, -999999, -65537, -1001, -12, -2, -1, 0, 1, 2, 3, 5, 7, 97, 1000, 524287, 999999, 1000000}
	for _, list := range lawsWithLogarithms(t) {
		for k, f := range list {
			for n := range 6 {
				number := numbers[(k*5+n*7)%len(numbers)]
				want := made(t, "MultipleOf")(impl.MultipleOf(f, number))
				wantsSeries(t, "MultipleByLogarithm", want, impl.ErrNone)(impl.MultipleByLogarithm(f, number))
			}
		}
	}
}

// TestPromise5AllLaws checks that the laws of all curves that begin with t are laws, all different,
// and as many as there are laws; each of them has its curve as logarithm.
func TestPromise5AllLaws(t *testing.T) {
	for _, kind := range [][3]int64{{2, 1, 1}, {3, 2, 3}, {5, 2, 5}, {5, 3, 25}, {5, 4, 125}, {7, 3, 49}, {25, 2, 25}, {35, 2, 35}} {
		texts := map[string]bool{}
		for _, a := range strictCurves(kind[0], kind[1]) {
			f := madePlane(t, "LawOfCurve")(impl.LawOfCurve(a))
			if !impl.IsLaw(f) {
				t.Errorf("LawOfCurve(%v) = %v is no law", a, f)
			}
			wantsSeries(t, "LogarithmOf", a, impl.ErrNone)(impl.LogarithmOf(f))
			texts[textOf(f)] = true
		}
		if int64(len(texts)) != kind[2] {
			t.Errorf("%d laws modulo %d of degree %d; want %d", len(texts), kind[0], kind[1], kind[2])
		}
	}
}

// TestPromise5StandardLaws checks standard laws of chapter 8: their logarithms tell them, and multiples by
// logarithms are multiples.
func TestPromise5StandardLaws(t *testing.T) {
	numbers := []int64{-1000000, -37, -1, 0, 2, 61, 1024, 999999}
	for _, m := range moduliOfLogarithms {
		for _, d := range degreesOfLaws {
			if !haveInverses(m, d) {
				continue
			}
			for k, f := range standardLaws(t, m, d) {
				a := made(t, "LogarithmOf")(impl.LogarithmOf(f))
				wantsPlane(t, "LawOfCurve of the logarithm", f, impl.ErrNone)(impl.LawOfCurve(a))
				for n := range 3 {
					number := numbers[(k*3+n)%len(numbers)]
					want := made(t, "MultipleOf")(impl.MultipleOf(f, number))
					wantsSeries(t, "MultipleByLogarithm", want, impl.ErrNone)(impl.MultipleByLogarithm(f, number))
				}
			}
		}
	}
}

// TestGuarantee5Curves checks that laws of curves are laws that have the curves, divided by their
// coefficients at t, as logarithms, also where other numbers are no units.
func TestGuarantee5Curves(t *testing.T) {
	for _, m := range append(moduliOfLogarithms, 8, 10, 30) {
		units := []int64{1, m - 1}
		for _, c := range sample(m) {
			if isUnitOf(m, c) {
				units = append(units, c)
			}
		}
		for _, d := range degrees {
			for n, a := range invertibleCurves(m, d) {
				a.Coefficients[1] = units[n%len(units)]
				f := madePlane(t, "LawOfCurve")(impl.LawOfCurve(a))
				strict := dividedByFirst(t, a, 1)
				if !impl.IsLaw(f) {
					t.Errorf("LawOfCurve(%v) = %v is no law", a, f)
				}
				wants(t, "IsLogarithm", true, impl.ErrNone)(impl.IsLogarithm(f, strict))
				wants(t, "IsLogarithm", isSame(a, strict), impl.ErrNone)(impl.IsLogarithm(f, a))
				wantsPlane(t, "LawOfCurve", f, impl.ErrNone)(impl.LawOfCurve(strict))
				if haveInverses(m, d) {
					wantsSeries(t, "LogarithmOf", strict, impl.ErrNone)(impl.LogarithmOf(f))
				}
			}
		}
	}
}

// TestGuarantee5Differentials checks that the differential of a law of a differential is this, divided
// by its first coefficient.
func TestGuarantee5Differentials(t *testing.T) {
	count := 0
	for _, m := range append(moduliOfLogarithms, 13, 77, 9973) {
		for d := int64(1); d <= 9 && haveInverses(m, d+1); d++ {
			for n, w := range sampleSeries(m, d) {
				if !isUnitOf(m, w.Coefficients[0]) || n%4 == 0 {
					w.Coefficients[0] = []int64{1, m - 1}[n%2]
				}
				f := madePlane(t, "LawOfDifferential")(impl.LawOfDifferential(w))
				if !impl.IsLaw(f) || degreeOfPlane(f) != d+1 {
					t.Errorf("LawOfDifferential(%v) = %v", w, f)
				}
				wantsSeries(t, "DifferentialOf", dividedByFirst(t, w, 0), impl.ErrNone)(impl.DifferentialOf(f))
				count++
			}
		}
	}
	if count < 300 {
		t.Errorf("only %d differentials", count)
	}
}
