package tests

import (
	"slices"
	"testing"

	"loop.example/g01152/impl"
)

// spread returns what Verschiebung by n makes of a curve, as the program tells it.
func spread(t *testing.T, a impl.Series, n int64) impl.Series {
	t.Helper()
	return made(t, "VerschiebungOf")(impl.VerschiebungOf(a, n))
}

// homothety returns what the homothety by c makes of a curve, as the program tells it.
func homothety(t *testing.T, a impl.Series, c int64) impl.Series {
	t.Helper()
	return made(t, "HomothetyOf")(impl.HomothetyOf(a, c))
}

// checkVerschiebung checks that the Frobenius operator of n makes of Verschiebung by n the multiple by n, cut to
// the degree of the operator.
func checkVerschiebung(t *testing.T, f impl.Plane, a impl.Series, n int64) {
	t.Helper()
	d := degreeOfPlane(f) / n
	multiple := made(t, "MultipleUnder")(impl.MultipleUnder(f, n, a))
	wantsSeries(t, callUnder("Frobenius of Verschiebung", f, a, n), cutSeries(multiple, d), impl.ErrNone)(impl.FrobeniusUnder(f, spread(t, a, n), n))
	multiple = made(t, "MultipleUnder")(impl.MultipleUnder(cutPlane(f, d), n, cutSeries(a, d)))
	wantsSeries(t, callUnder("Frobenius of Verschiebung", f, a, n), multiple, impl.ErrNone)(impl.FrobeniusUnder(f, spread(t, a, n), n))
}

// checkCoordinates checks that a curve comes back from its coordinates, which are numbers of the ring.
func checkCoordinates(t *testing.T, f impl.Plane, a impl.Series) {
	t.Helper()
	list, code := impl.CoordinatesUnder(f, a)
	isNumber := func(c int64) bool { return c >= 0 && c < f.Modulus }
	if code != impl.ErrNone || int64(len(list)) != degreeOfPlane(f) || slices.IndexFunc(list, func(c int64) bool { return !isNumber(c) }) >= 0 {
		t.Errorf("CoordinatesUnder(%s, %s) = %v, %d", textOf(f), textOfSeries(a), list, code)
	}
	wantsSeries(t, "CurveOfCoordinates("+textOf(f)+", ..)", a, impl.ErrNone)(impl.CurveOfCoordinates(f, list))
}

// isTakenForPromise12 tells which laws of the higher degrees are taken with a number, so that all are with some.
func isTakenForPromise12(f impl.Plane, k int, n int64) bool {
	return degreeOfPlane(f) < 7 || (int64(k)+n+f.Modulus)%3 == 0
}

// TestPromise12SmallLaws takes all curves of all laws of small moduli and degrees.
func TestPromise12SmallLaws(t *testing.T) {
	for _, kind := range [][2]int64{{2, 2}, {2, 3}, {2, 4}, {2, 5}, {3, 2}, {3, 3}, {4, 2}, {4, 3}, {5, 2}, {6, 2}, {10, 2}} {
		for _, f := range lawsOf(t, kind) {
			for _, a := range curvesWithFirst(kind[0], kind[1], numbersModulo(kind[0])) {
				checkCoordinates(t, f, a)
				for _, n := range ordersUpTo(kind[1]) {
					checkVerschiebung(t, f, a, n)
				}
			}
		}
	}
	for _, a := range curvesWithFirst(30, 1, numbersModulo(30)) {
		checkCoordinates(t, bilinearLaw(30, 1, 0), a)
	}
}

// TestPromise12Verschiebung takes laws of all kinds, moduli and degrees.
func TestPromise12Verschiebung(t *testing.T) {
	for _, m := range moduliOfOperators {
		for _, d := range degrees {
			curves := sampleCurves(m, d)
			for k, f := range lawsOfOperators(t, m, d) {
				for _, n := range ordersUpTo(d) {
					if isTakenForPromise12(f, k, n) {
						checkVerschiebung(t, f, curves[(k*5+int(n)*3+6)%len(curves)], n)
					}
				}
			}
		}
	}
}

// TestPromise12Coordinates takes laws and curves of all kinds, moduli and degrees.
func TestPromise12Coordinates(t *testing.T) {
	for _, m := range moduliOfOperators {
		for _, d := range degrees {
			curves := sampleCurves(m, d)
			for k, f := range lawsOfOperators(t, m, d) {
				checkCoordinates(t, f, curves[(k*5+1)%len(curves)])
				checkCoordinates(t, f, curves[(k*7+3)%len(curves)])
			}
		}
	}
}

// TestPromise12Lists checks that lists of coordinates come back from their curves, too.
func TestPromise12Lists(t *testing.T) {
	for _, m := range moduliOfOperators {
		for _, d := range degrees {
			lists := sampleParameters(m, d)
			for k, f := range lawsOfOperators(t, m, d) {
				list := lists[k%len(lists)]
				a := made(t, "CurveOfCoordinates")(impl.CurveOfCoordinates(f, list))
				wantsList(t, "CoordinatesUnder("+textOf(f)+", "+textOfSeries(a)+")", list, impl.ErrNone)(impl.CoordinatesUnder(f, a))
			}
		}
	}
}

// TestGuarantee12Exchange checks that Frobenius operators and Verschiebung by numbers without a common divisor may
// be exchanged, Verschiebung by numbers up to the degree and behind it.
func TestGuarantee12Exchange(t *testing.T) {
	for _, m := range moduliOfOperators {
		for _, d := range degrees {
			curves := sampleCurves(m, d)
			for k, f := range lawsOfOperators(t, m, d) {
				for _, n := range ordersUpTo(d) {
					a := curves[(k*3+int(n))%len(curves)]
					if !isTakenForPromise12(f, k, n) {
						continue
					}
					before := frobeniusOf(t, f, a, n)
					for _, i := range []int64{1, 2, 3, 4, 5, 7, 9, 10, 11, 99} {
						if divisor(i, n) == 1 && (int64(k)+i)%3 == 0 {
							after := frobeniusOf(t, f, spread(t, a, i), n)
							wantsSeries(t, callUnder("Frobenius and Verschiebung", f, a, n), spread(t, before, i), impl.ErrNone)(after, impl.ErrNone)
						}
					}
				}
			}
		}
	}
}

// TestGuarantee12Sums checks that Frobenius operators, Verschiebung and homotheties keep sums, and that the latter
// two are composed as their numbers are multiplied.
func TestGuarantee12Sums(t *testing.T) {
	for _, m := range []int64{2, 3, 4, 5, 6, 9, 30, 97, 10000} {
		for _, d := range degrees {
			curves := sampleCurves(m, d)
			for k, f := range lawsOfOperators(t, m, d) {
				u := underLaw{t: t, f: f}
				a, b := curves[(k*5+6)%len(curves)], curves[(k*7+1)%len(curves)]
				sum := u.sum(a, b)
				for n := int64(1); n <= d+1; n++ {
					if (int64(k)+n)%3 == 0 {
						u.same("Verschiebung of a sum", spread(t, sum, n), u.sum(spread(t, a, n), spread(t, b, n)))
						u.same("Verschiebung twice", spread(t, spread(t, a, n), 2), spread(t, a, 2*n))
					}
				}
				c, e := int64(k)%m, (m-1)*int64(k+2)%m
				u.same("homothety of a sum", homothety(t, sum, c), u.sum(homothety(t, a, c), homothety(t, b, c)))
				u.same("homothety twice", homothety(t, homothety(t, a, c), e), homothety(t, a, c*e%m))
				for _, n := range ordersUpTo(d) {
					if isTakenForPromise12(f, k, n) {
						cut := underLaw{t: t, f: cutPlane(f, d/n)}
						cut.same("Frobenius of a sum", frobeniusOf(t, f, sum, n), cut.sum(frobeniusOf(t, f, a, n), frobeniusOf(t, f, b, n)))
					}
				}
			}
		}
	}
}

// TestGuarantee12Homotheties checks that the homothety by a behind Verschiebung by n is that by a^n before it, and
// the homothety by a^n behind the Frobenius operator that by a before it.
func TestGuarantee12Homotheties(t *testing.T) {
	for _, m := range moduliOfOperators {
		for _, d := range degrees {
			curves, numbers := sampleCurves(m, d), sample(m)
			for k, f := range lawsOfOperators(t, m, d) {
				a, c := curves[(k*5+6)%len(curves)], numbers[(k*7+3)%len(numbers)]
				for _, n := range ordersUpTo(d) {
					power, code := impl.PowerModulo(m, c, n)
					if code != impl.ErrNone || !isTakenForPromise12(f, k, n) {
						continue
					}
					wantsSeries(t, "HomothetyOf Verschiebung", spread(t, homothety(t, a, power), n), impl.ErrNone)(impl.HomothetyOf(spread(t, a, n), c))
					wantsSeries(t, callUnder("Frobenius of a homothety", f, a, n), homothety(t, frobeniusOf(t, f, a, n), power), impl.ErrNone)(impl.FrobeniusUnder(f, homothety(t, a, c), n))
				}
			}
		}
	}
}

// TestGuarantee12Homomorphisms checks that operators go through homomorphisms: what they make of the image of a
// curve is the image of what they make of the curve.
func TestGuarantee12Homomorphisms(t *testing.T) {
	for _, m := range []int64{2, 3, 4, 5, 6, 9, 30, 97, 10000} {
		for _, d := range degrees {
			curves, coordinates := sampleCurves(m, d), invertibleCurves(m, d)
			for k, f := range lawsOfOperators(t, m, d) {
				h := coordinate(t, f, coordinates[(k*3+5)%len(coordinates)])
				if k%3 == 0 {
					// The multiple by a number leads from the law to itself, and need not be an isomorphism.
					h = homomorphism{from: f, to: f, curve: made(t, "MultipleOf")(impl.MultipleOf(f, int64(k)+2))}
				}
				a := curves[(k*5+1)%len(curves)]
				image := compositionOf(h.curve, a)
				for _, n := range ordersUpTo(d) {
					if !isTakenForPromise12(f, k, n) {
						continue
					}
					want := compositionOf(cutSeries(h.curve, d/n), frobeniusOf(t, f, a, n))
					wantsSeries(t, callUnder("Frobenius of an image", h.to, image, n), want, impl.ErrNone)(impl.FrobeniusUnder(h.to, image, n))
					wantsSeries(t, "VerschiebungOf an image", compositionOf(h.curve, spread(t, a, n)), impl.ErrNone)(impl.VerschiebungOf(image, n))
				}
			}
		}
	}
}

// TestGuarantee12Norms checks that norms are Verschiebung of Frobenius operators, and that of the norm of n the
// Frobenius operator makes the multiple by n again.
func TestGuarantee12Norms(t *testing.T) {
	for _, m := range moduliOfOperators {
		for _, d := range degrees {
			curves := sampleCurves(m, d)
			for k, f := range lawsOfOperators(t, m, d) {
				for _, n := range ordersUpTo(d) {
					if !isTakenForPromise12(f, k, n) {
						continue
					}
					a := curves[(k*3+int(n)+6)%len(curves)]
					b := frobeniusOf(t, f, a, n)
					norm := monomialOf(m, d/n*n, 0, 0)
					for i, c := range b.Coefficients {
						norm.Coefficients[int64(i)*n] = c
					}
					wantsSeries(t, callUnder("NormUnder", f, a, n), norm, impl.ErrNone)(impl.NormUnder(f, a, n))
					multiple := made(t, "MultipleUnder")(impl.MultipleUnder(cutPlane(f, d/n), n, b))
					wantsSeries(t, "Frobenius of a norm", multiple, impl.ErrNone)(impl.FrobeniusUnder(cutPlane(f, d/n*n), norm, n))
				}
			}
		}
	}
}

// TestGuarantee12Typical checks that sums and opposites of typical curves are typical, and what Verschiebung by
// the prime and homotheties make of them.
func TestGuarantee12Typical(t *testing.T) {
	for _, p := range []int64{2, 3, 5} {
		for _, m := range []int64{2, 3, 4, 5, 6, 25, 97, 10000} {
			for _, d := range degreesOfLaws {
				curve := invertibleCurves(m, d)[7]
				for k, list := range sampleParameters(m, 3)[3:] {
					from := madePlane(t, "TypicalLaw")(impl.TypicalLaw(p, m, d, list))
					// In a coordinate the law is typical no more, but images of typical curves are.
					h := coordinate(t, from, curve)
					u := underLaw{t: t, f: h.to}
					a, b := h.curve, compositionOf(h.curve, monomialOf(m, d, 1, int64(k)%m))
					for _, c := range []impl.Series{a, b, u.sum(a, b), u.opposite(a), u.multiple(7, b), spread(t, a, p), u.sum(b, spread(t, a, p)), homothety(t, a, m-1)} {
						wants(t, callUnder("IsTypicalCurve", h.to, c, p), true, impl.ErrNone)(impl.IsTypicalCurve(h.to, c, p))
					}
				}
			}
		}
	}
}
