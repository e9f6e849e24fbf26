package tests

import (
	"testing"

	"loop.example/g01152/impl"
)

// standardLaws returns laws of all kinds of the chapter with a modulus and a degree, with parameters at
// the ends of their range and between them.
func standardLaws(t *testing.T, m int64, d int64) []impl.Plane {
	t.Helper()
	list := []impl.Plane{madePlane(t, "AdditiveLaw")(impl.AdditiveLaw(m, d))}
	numbers := []int64{0, 1, m / 3, m / 2, m - 1}
	for _, c := range numbers {
		list = append(list, madePlane(t, "MultiplicativeLaw")(impl.MultiplicativeLaw(m, d, c)))
		list = append(list, madePlane(t, "TangentLaw")(impl.TangentLaw(m, d, c)))
		for _, e := range numbers {
			if m%2 == 1 {
				list = append(list, madePlane(t, "EulerLaw")(impl.EulerLaw(m, d, c, e)))
			}
		}
	}
	for _, parameters := range sampleParameters(m, 5) {
		list = append(list, madePlane(t, "WeierstrassLaw")(impl.WeierstrassLaw(m, d, parameters)))
	}
	return list
}

// checkLaw checks that a plane is a law with a modulus and a degree.
func checkLaw(t *testing.T, call string, f impl.Plane, m int64, d int64) {
	t.Helper()
	if !impl.IsLaw(f) || f.Modulus != m || degreeOfPlane(f) != d {
		fault, _ := impl.LawFault(f)
		t.Errorf("%s = %s is no law modulo %d of degree %d: %v", call, textOf(f), m, d, fault)
	}
}

// TestPromise8Laws checks that standard laws of all moduli and degrees are laws, also without the program.
func TestPromise8Laws(t *testing.T) {
	for _, m := range append(moduli, moduliOfExtensions...) {
		for _, d := range degrees {
			for _, f := range standardLaws(t, m, d) {
				checkLaw(t, "a standard law", f, m, d)
			}
		}
	}
	for _, m := range []int64{2, 3, 10, 9999} {
		for _, d := range []int64{1, 2, 3, 5} {
			for _, f := range standardLaws(t, m, d) {
				if fault := faultOf(f); fault != nil {
					t.Errorf("the standard law %s has the fault %v", textOf(f), fault)
				}
			}
		}
	}
}

// TestPromise8SmallModuli checks that the laws of all parameters of small moduli are laws.
func TestPromise8SmallModuli(t *testing.T) {
	for _, m := range []int64{2, 3, 4, 5, 6, 7, 8, 9} {
		for _, d := range degrees {
			for c := range m {
				checkLaw(t, "MultiplicativeLaw", madePlane(t, "MultiplicativeLaw")(impl.MultiplicativeLaw(m, d, c)), m, d)
				checkLaw(t, "TangentLaw", madePlane(t, "TangentLaw")(impl.TangentLaw(m, d, c)), m, d)
				for e := int64(0); e < m && m%2 == 1; e++ {
					checkLaw(t, "EulerLaw", madePlane(t, "EulerLaw")(impl.EulerLaw(m, d, c, e)), m, d)
				}
			}
		}
	}
	for _, kind := range [][2]int64{{2, 1}, {2, 2}, {2, 3}, {2, 4}, {2, 7}, {2, 10}, {3, 2}, {3, 4}, {3, 6}, {3, 10}, {4, 4}, {4, 7}, {5, 5}} {
		for _, list := range allLists(kind[0], 5) {
			f := madePlane(t, "WeierstrassLaw")(impl.WeierstrassLaw(kind[0], kind[1], list))
			checkLaw(t, "WeierstrassLaw", f, kind[0], kind[1])
		}
	}
}

// TestPromise8Tangents checks that the law of the tangent of c is that of Euler of c and the square of c,
// for odd moduli.
func TestPromise8Tangents(t *testing.T) {
	for _, m := range oddModuli() {
		for _, d := range degrees {
			for _, c := range sample(m) {
				want := madePlane(t, "TangentLaw")(impl.TangentLaw(m, d, c))
				square, _ := impl.MultiplyModulo(m, c, c)
				wantsPlane(t, "EulerLaw", want, impl.ErrNone)(impl.EulerLaw(m, d, c, square))
			}
		}
	}
}

// TestGuarantee8Zeros checks that the Weierstrass law of zeros is the additive one, as are the others with
// the parameter 0.
func TestGuarantee8Zeros(t *testing.T) {
	for m := int64(2); m <= 10000; m++ {
		if m > 100 && m < 9950 {
			continue
		}
		for _, d := range degrees {
			want := madePlane(t, "AdditiveLaw")(impl.AdditiveLaw(m, d))
			wantsPlane(t, "WeierstrassLaw", want, impl.ErrNone)(impl.WeierstrassLaw(m, d, make([]int64, 5)))
			wantsPlane(t, "MultiplicativeLaw", want, impl.ErrNone)(impl.MultiplicativeLaw(m, d, 0))
			wantsPlane(t, "TangentLaw", want, impl.ErrNone)(impl.TangentLaw(m, d, 0))
			if m%2 == 1 {
				wantsPlane(t, "EulerLaw", want, impl.ErrNone)(impl.EulerLaw(m, d, 0, 0))
			}
		}
	}
}

// TestStandardLawsFitTogether checks that standard laws of lower degrees are those of the highest degree,
// cut, and that those of divisors of the modulus are the same with the remainders of the parameters.
func TestStandardLawsFitTogether(t *testing.T) {
	divisors := [][2]int64{{9999, 9}, {9999, 3333}, {10000, 2}, {10000, 625}, {30, 15}, {105, 7}, {9801, 33}, {4, 2}}
	for _, c := range standardCalls() {
		if c.name == "WeierstrassSeries" {
			continue
		}
		for _, pair := range divisors {
			if c.name == "EulerLaw" && pair[0]%2 == 0 {
				continue
			}
			for _, list := range sampleParameters(pair[0], 5) {
				whole := madePlane(t, c.name)(c.call(pair[0], 10, list[:c.parameters]))
				for _, d := range degrees {
					cut := madePlane(t, "CutPlane")(impl.CutPlane(whole, d))
					wantsPlane(t, c.name, cut, impl.ErrNone)(c.call(pair[0], d, list[:c.parameters]))
					changed := madePlane(t, "ChangePlane")(impl.ChangePlane(cut, pair[1]))
					wantsPlane(t, c.name, changed, impl.ErrNone)(c.call(pair[1], d, remaindersOf(pair[1], list)[:c.parameters]))
				}
			}
		}
	}
}
