package tests

import (
	"testing"

	"loop.example/g01152/impl"
)

// additiveLaw returns the additive law that is alike a law.
func additiveLaw(t *testing.T, m int64, d int64) impl.Plane {
	t.Helper()
	return madePlane(t, "AdditiveLaw")(impl.AdditiveLaw(m, d))
}

// checkCoordinate checks that a law in its logarithm as a coordinate is the additive law, that this is a
// homomorphism to it, and that the exponential leads back.
func checkCoordinate(t *testing.T, f impl.Plane) {
	t.Helper()
	additive := additiveLaw(t, f.Modulus, degreeOfPlane(f))
	a := made(t, "LogarithmOf")(impl.LogarithmOf(f))
	g := made(t, "ExponentialOf")(impl.ExponentialOf(f))
	wantsPlane(t, "LawInCoordinate of the logarithm", additive, impl.ErrNone)(impl.LawInCoordinate(f, a))
	wantsPlane(t, "LawInCoordinate of the exponential", f, impl.ErrNone)(impl.LawInCoordinate(additive, g))
	wants(t, "IsHomomorphism", true, impl.ErrNone)(impl.IsHomomorphism(f, additive, a))
	wants(t, "IsHomomorphism", true, impl.ErrNone)(impl.IsHomomorphism(additive, f, g))
}

// TestPromise22Coordinates takes laws of all kinds that have logarithms, standard laws among them.
func TestPromise22Coordinates(t *testing.T) {
	for _, list := range lawsWithLogarithms(t) {
		for _, f := range list {
			checkCoordinate(t, f)
		}
	}
	count := 0
	for _, m := range append(moduliOfLogarithms, moduli...) {
		for _, d := range degreesOfLaws {
			if !haveInverses(m, d) {
				continue
			}
			for _, f := range standardLaws(t, m, d) {
				checkCoordinate(t, f)
				count++
			}
		}
	}
	if count < 1000 {
		t.Errorf("only %d standard laws with logarithms", count)
	}
}

// TestPromise22Curves checks that laws of curves have these as homomorphisms to the additive law, and are
// the additive law in them as coordinates, also where numbers are no units. Other curves, and curves to
// other laws, are no homomorphisms.
func TestPromise22Curves(t *testing.T) {
	for _, m := range append(moduliOfLogarithms, moduli...) {
		units := []int64{1, m - 1}
		for _, c := range sample(m) {
			if isUnitOf(m, c) {
				units = append(units, c)
			}
		}
		for _, d := range degrees {
			additive := additiveLaw(t, m, d)
			for n, a := range invertibleCurves(m, d) {
				a.Coefficients[1] = units[n%len(units)]
				f := madePlane(t, "LawOfCurve")(impl.LawOfCurve(a))
				wants(t, "IsHomomorphism", true, impl.ErrNone)(impl.IsHomomorphism(f, additive, a))
				wantsPlane(t, "LawInCoordinate", additive, impl.ErrNone)(impl.LawInCoordinate(f, a))
			}
		}
	}
	f := madePlane(t, "LawOfCurve")(impl.LawOfCurve(series(5, 0, 1, 2, 2)))
	wants(t, "IsHomomorphism", true, impl.ErrNone)(impl.IsHomomorphism(f, additiveLaw(t, 5, 3), series(5, 0, 2, 4, 4)))
	wants(t, "IsHomomorphism", false, impl.ErrNone)(impl.IsHomomorphism(f, additiveLaw(t, 5, 3), series(5, 0, 1, 2, 3)))
	wants(t, "IsHomomorphism", false, impl.ErrNone)(impl.IsHomomorphism(f, madePlane(t, "MultiplicativeLaw")(impl.MultiplicativeLaw(5, 3, 1)), series(5, 0, 1, 2, 2)))
}
