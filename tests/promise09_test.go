package tests

import (
	"testing"

	"loop.example/g01152/impl"
)

// TestPromise9Parameters checks that typical laws are laws, and come back from their parameters, and these
// from the laws.
func TestPromise9Parameters(t *testing.T) {
	for _, p := range typicalPrimes {
		for _, m := range moduliOfTypicalLaws {
			for _, d := range degrees {
				for n := int64(0); n <= 3; n++ {
					for k, list := range sampleParameters(m, n) {
						if d > 2 && (int64(k)+n+d+m)%4 != 0 {
							continue
						}
						f := madePlane(t, "TypicalLaw")(impl.TypicalLaw(p, m, d, list))
						checkLaw(t, "TypicalLaw", f, m, d)
						found, code := impl.TypicalParameters(p, f)
						wantsList(t, "TypicalParameters", parametersFor(p, d, list), impl.ErrNone)(found, code)
						wantsPlane(t, "TypicalLaw", f, impl.ErrNone)(impl.TypicalLaw(p, m, d, found))
						wants(t, "IsTypicalLaw", true, impl.ErrNone)(impl.IsTypicalLaw(p, f))
					}
				}
			}
		}
	}
}

// TestPromise9Fault looks for faults of typical laws without the program.
func TestPromise9Fault(t *testing.T) {
	for _, p := range typicalPrimes {
		for _, m := range []int64{2, 4, 9, 49, 9999, 10000} {
			for _, d := range []int64{1, 2, 4, 7, 9} {
				f := madePlane(t, "TypicalLaw")(impl.TypicalLaw(p, m, d, []int64{m - 1, 1, m / 2}))
				if fault := faultOf(f); fault != nil {
					t.Errorf("the typical law %s has the fault %v", textOf(f), fault)
				}
			}
		}
	}
}

// TestPromise9AllLists checks for small moduli that the laws of all lists of parameters that a degree needs
// are laws, all different, and have these parameters.
func TestPromise9AllLists(t *testing.T) {
	for _, p := range typicalPrimes {
		for _, m := range []int64{2, 3, 4, 5, 6, 7, 8, 9, 10} {
			for _, d := range []int64{1, 2, 3, 4, 5, 7, 8, 9, 10} {
				lists := allLists(m, len(parametersFor(p, d, nil)))
				if len(lists) > 100 {
					continue
				}
				texts := map[string]bool{}
				for _, list := range lists {
					f := madePlane(t, "TypicalLaw")(impl.TypicalLaw(p, m, d, list))
					checkLaw(t, "TypicalLaw", f, m, d)
					wantsTypical(t, p, f, list)
					texts[textOf(f)] = true
				}
				if len(texts) != len(lists) {
					t.Errorf("%d typical laws of %d modulo %d of degree %d; want %d", len(texts), p, m, d, len(lists))
				}
			}
		}
	}
}

// TestPromise9Laws checks that of laws of all kinds, just those come back from their parameters that are
// typical, and that the others have none.
func TestPromise9Laws(t *testing.T) {
	counts := map[bool]int{}
	for _, list := range lawsOfManyKinds(t) {
		for _, f := range list {
			for _, p := range typicalPrimes {
				parameters, code := impl.TypicalParameters(p, f)
				isTypical, _ := impl.IsTypicalLaw(p, f)
				counts[isTypical]++
				if !isTypical {
					wantsList[int64](t, "TypicalParameters", nil, impl.ErrNotFound)(parameters, code)
					continue
				}
				wantsList(t, "TypicalParameters", parameters, impl.ErrNone)(parameters, code)
				wantsPlane(t, "TypicalLaw", f, impl.ErrNone)(impl.TypicalLaw(p, f.Modulus, degreeOfPlane(f), parameters))
			}
		}
	}
	if counts[true] < 300 || counts[false] < 300 {
		t.Errorf("numbers of typical and other laws: %v", counts)
	}
}

// checkTypifying checks that the typifying curve of a law is strict and leads it to the typical law that it
// is made, and that this one stays as it is.
func checkTypifying(t *testing.T, p int64, f impl.Plane) {
	t.Helper()
	a := made(t, "TypifyingCurve")(impl.TypifyingCurve(p, f))
	h := madePlane(t, "TypifyLaw")(impl.TypifyLaw(p, f))
	if a.Coefficients[0] != 0 || a.Coefficients[1] != 1 {
		t.Errorf("TypifyingCurve(%d, %s) = %v", p, textOf(f), a)
	}
	wantsPlane(t, "LawInCoordinate of the typifying curve", h, impl.ErrNone)(impl.LawInCoordinate(f, a))
	list, code := impl.TypicalParameters(p, h)
	if code != impl.ErrNone {
		t.Errorf("TypifyLaw(%d, %s) = %s is not typical: %d", p, textOf(f), textOf(h), code)
	}
	wants(t, "IsTypicalLaw", true, impl.ErrNone)(impl.IsTypicalLaw(p, h))
	wantsPlane(t, "TypicalLaw", h, impl.ErrNone)(impl.TypicalLaw(p, f.Modulus, degreeOfPlane(f), list))
	wantsPlane(t, "TypifyLaw, again", h, impl.ErrNone)(impl.TypifyLaw(p, h))
	wantsSeries(t, "TypifyingCurve, again", monomialOf(f.Modulus, degreeOfPlane(f), 1, 1), impl.ErrNone)(impl.TypifyingCurve(p, h))
}

// TestPromise9Typifying takes laws of all kinds, modulo all powers of the primes.
func TestPromise9Typifying(t *testing.T) {
	for _, p := range typicalPrimes {
		for n, m := range powersOf(p) {
			for _, d := range degrees {
				for k, f := range lawsToTypify(t, m, d) {
					if d < 5 || (n+k+int(d))%4 == 1 {
						checkTypifying(t, p, f)
					}
				}
			}
		}
	}
	for _, kind := range [][2]int64{{2, 2}, {2, 4}, {3, 3}, {3, 9}, {5, 5}, {7, 7}} {
		for _, d := range degreesOfLaws {
			for _, f := range append(sampleLaws(t, kind[1], d), standardLaws(t, kind[1], d)...) {
				checkTypifying(t, kind[0], f)
			}
		}
	}
}

// TestPromise9Degrees checks that laws of lower degrees are made typical by the same curve, cut.
func TestPromise9Degrees(t *testing.T) {
	for _, p := range typicalPrimes {
		for _, m := range powersOf(p) {
			for k, f := range lawsToTypify(t, m, 10) {
				if k%3 != 0 {
					continue
				}
				a := made(t, "TypifyingCurve")(impl.TypifyingCurve(p, f))
				h := madePlane(t, "TypifyLaw")(impl.TypifyLaw(p, f))
				for _, d := range degrees {
					cut := made(t, "CutSeries")(impl.CutSeries(a, d))
					wantsSeries(t, "TypifyingCurve", cut, impl.ErrNone)(impl.TypifyingCurve(p, cutPlane(f, d)))
					wantsPlane(t, "TypifyLaw", cutPlane(h, d), impl.ErrNone)(impl.TypifyLaw(p, cutPlane(f, d)))
				}
			}
		}
	}
}
