package tests

import (
	"testing"

	"loop.example/g01152/impl"
)

// TestPromise28Logarithms checks that typical laws have the typical logarithm as a logarithm: that it is the
// one that is found if there is only one, that it tells the law, and takes it to the additive law.
func TestPromise28Logarithms(t *testing.T) {
	found := 0
	for _, p := range typicalPrimes {
		for _, m := range moduliOfTypicalLaws {
			if !isUnitOf(m, p) {
				continue
			}
			for _, d := range degrees {
				for k, list := range sampleParameters(m, 3) {
					if d > 4 && (int64(k)+d+m)%2 == 0 {
						continue
					}
					f := madePlane(t, "TypicalLaw")(impl.TypicalLaw(p, m, d, list))
					a := made(t, "TypicalLogarithm")(impl.TypicalLogarithm(p, m, d, list))
					wants(t, "IsLogarithm", true, impl.ErrNone)(impl.IsLogarithm(f, a))
					wantsPlane(t, "LawOfCurve", f, impl.ErrNone)(impl.LawOfCurve(a))
					additive := additiveLaw(t, m, d)
					wants(t, "IsHomomorphism", true, impl.ErrNone)(impl.IsHomomorphism(f, additive, a))
					wantsPlane(t, "LawInCoordinate", additive, impl.ErrNone)(impl.LawInCoordinate(f, a))
					if haveInverses(m, d) {
						wantsSeries(t, "LogarithmOf", a, impl.ErrNone)(impl.LogarithmOf(f))
						found++
					}
				}
			}
		}
	}
	if found < 1000 {
		t.Errorf("only %d laws with just one logarithm", found)
	}
}

// TestPromise28Differentials checks for all moduli, also those of which p is no unit, that the differential
// of a typical law is the derivative of the typical logarithm: the numerators A(k) are at t^(p^k - 1).
func TestPromise28Differentials(t *testing.T) {
	for _, p := range typicalPrimes {
		for _, m := range moduliOfTypicalLaws {
			for _, list := range sampleParameters(m, 3) {
				numerators, code := impl.TypicalNumerators(p, m, list)
				if code != impl.ErrNone || len(numerators) != 4 {
					t.Fatalf("TypicalNumerators(%d, %d, %v) = %v, %d", p, m, list, numerators, code)
				}
				for d := int64(2); d <= 10; d++ {
					want := monomialOf(m, d-1, 0, 1)
					for k, q := 1, p; q <= d; k, q = k+1, q*p {
						want.Coefficients[q-1] = numerators[k]
					}
					f := madePlane(t, "TypicalLaw")(impl.TypicalLaw(p, m, d, list))
					wantsSeries(t, "DifferentialOf", want, impl.ErrNone)(impl.DifferentialOf(f))
				}
			}
		}
	}
}

// TestPromise28Others checks that curves with another coefficient are no logarithms of typical laws, where
// the numbers up to the degree are units.
func TestPromise28Others(t *testing.T) {
	for _, p := range typicalPrimes {
		for _, m := range []int64{11, 97, 121, 9973} {
			for d := int64(2); d <= 10; d++ {
				f := madePlane(t, "TypicalLaw")(impl.TypicalLaw(p, m, d, []int64{1, 2, 3}))
				for n := range d + 1 {
					a := made(t, "TypicalLogarithm")(impl.TypicalLogarithm(p, m, d, []int64{1, 2, 3}))
					a.Coefficients[n] = (a.Coefficients[n] + 1) % m
					code := int64(impl.ErrNone)
					if n == 0 {
						code = impl.ErrRange
					}
					wants(t, "IsLogarithm", false, code)(impl.IsLogarithm(f, a))
				}
			}
		}
	}
}

// TestPromise28Homomorphisms checks that typifying curves are homomorphisms to the laws that are made, and
// their reversions back; and that with another last coefficient they are none.
func TestPromise28Homomorphisms(t *testing.T) {
	for _, p := range typicalPrimes {
		for n, m := range powersOf(p) {
			for _, d := range degrees {
				for k, f := range lawsToTypify(t, m, d) {
					if d >= 5 && (n+k+int(d))%4 != 2 {
						continue
					}
					a := made(t, "TypifyingCurve")(impl.TypifyingCurve(p, f))
					h := homomorphism{from: f, to: madePlane(t, "TypifyLaw")(impl.TypifyLaw(p, f)), curve: a}
					h.check(t, "TypifyingCurve")
					back := homomorphism{from: h.to, to: f, curve: made(t, "ReverseSeries")(impl.ReverseSeries(a))}
					back.check(t, "the reversion of a typifying curve")
					if d > 1 {
						// What t^d adds is C(d) times its divisor. This is 0 only if it is p, and so is the modulus.
						a.Coefficients[d] = (a.Coefficients[d] + 1) % m
						wants(t, "IsHomomorphism", isPower(p, d) && m == p, impl.ErrNone)(impl.IsHomomorphism(f, h.to, a))
					}
				}
			}
		}
	}
}

// TestPromise28Isomorphisms checks that over small rings the typifying curve is among the strict
// isomorphisms to the law that is made.
func TestPromise28Isomorphisms(t *testing.T) {
	for _, kind := range [][3]int64{{2, 2, 4}, {2, 2, 7}, {2, 4, 4}, {2, 8, 3}, {3, 3, 4}, {3, 3, 6}, {3, 9, 3}, {5, 5, 5}, {7, 7, 4}} {
		p, m, d := kind[0], kind[1], kind[2]
		for _, f := range lawsToTypify(t, m, d) {
			a := made(t, "TypifyingCurve")(impl.TypifyingCurve(p, f))
			h := madePlane(t, "TypifyLaw")(impl.TypifyLaw(p, f))
			if !isAmong(a, homomorphismsBetween(t, f, h)) {
				t.Errorf("AllHomomorphisms(%s, %s) has no %v", textOf(f), textOf(h), a)
			}
			strict := made(t, "StrictIsomorphism")(impl.StrictIsomorphism(f, h))
			wantsPlane(t, "LawInCoordinate", h, impl.ErrNone)(impl.LawInCoordinate(f, strict))
		}
	}
}
