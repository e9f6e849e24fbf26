package tests

import (
	"slices"
	"testing"

	"loop.example/g01152/impl"
)

// height is what the program tells of the height of a law: it and its unit, or ErrNotFound and zeros.
type height struct {
	number int64
	unit   int64
	code   int64
}

// heightOf returns the height of a law that has the modulus for it, as the program tells it.
func heightOf(t *testing.T, f impl.Plane) height {
	t.Helper()
	number, code := impl.HeightOf(f)
	unit, codeOfUnit := impl.UnitOfHeight(f)
	h := height{number: number, unit: unit, code: code}
	isThere := code == impl.ErrNone && number > 0 && unit > 0 && unit < f.Modulus
	if code != codeOfUnit || !isThere && h != (height{code: impl.ErrNotFound}) {
		t.Fatalf("height and unit of %s: %d, %d and %d, %d", textOf(f), number, code, unit, codeOfUnit)
	}
	return h
}

// wantsSameHeight checks that two laws have the same height and unit, or both none.
func wantsSameHeight(t *testing.T, call string, f impl.Plane, g impl.Plane) {
	t.Helper()
	if first, second := heightOf(t, f), heightOf(t, g); first != second {
		t.Errorf("%s: %s has the height %v, and %s has %v", call, textOf(f), first, textOf(g), second)
	}
	wants(t, "AreSameHeight("+textOf(f)+", "+textOf(g)+")", true, impl.ErrNone)(impl.AreSameHeight(f, g))
	wants(t, "AreSameHeight("+textOf(g)+", "+textOf(f)+")", true, impl.ErrNone)(impl.AreSameHeight(g, f))
}

// TestPromise10Honda checks that laws of Honda are laws and typical, with the parameter 1 at their height,
// and have this height and the unit 1 where p^h is at most the degree. In lower degrees they are additive.
func TestPromise10Honda(t *testing.T) {
	for _, p := range typicalPrimes {
		for h := int64(1); h <= 3; h++ {
			for _, d := range degrees {
				f := madePlane(t, "HondaLaw")(impl.HondaLaw(p, h, d))
				checkLaw(t, "HondaLaw", f, p, d)
				parameters := make([]int64, 3)
				parameters[h-1] = 1
				wantsTypical(t, p, f, parametersFor(p, d, parameters))
				wantsPlane(t, "TypicalLaw", f, impl.ErrNone)(impl.TypicalLaw(p, p, d, parameters[:h]))
				want := height{number: h, unit: 1}
				if powerUpTo(p, h) > d {
					want = height{code: impl.ErrNotFound}
					wantsPlane(t, "AdditiveLaw", f, impl.ErrNone)(impl.AdditiveLaw(p, d))
				}
				if got := heightOf(t, f); got != want {
					t.Errorf("the law of Honda of %d and %d with the degree %d has the height %v", p, h, d, got)
				}
			}
		}
	}
}

// TestPromise10Differ checks that laws of Honda of different heights are not of the same height, unless both
// have none in their degree, and that there is no isomorphism between them then.
func TestPromise10Differ(t *testing.T) {
	for _, p := range typicalPrimes {
		for _, d := range degrees {
			for h := int64(1); h <= 3; h++ {
				for k := int64(1); k <= 3; k++ {
					f := madePlane(t, "HondaLaw")(impl.HondaLaw(p, h, d))
					g := madePlane(t, "HondaLaw")(impl.HondaLaw(p, k, d))
					want := h == k || powerUpTo(p, min(h, k)) > d
					wants(t, "AreSameHeight", want, impl.ErrNone)(impl.AreSameHeight(f, g))
					if isSearched(p, d) && !want {
						wantsCode(t, "IsomorphismOf", impl.ErrNotFound)(impl.IsomorphismOf(f, g))
					}
				}
			}
		}
	}
}

// TestPromise10Coordinates takes laws of all kinds, laws of Honda among them, in coordinates with all units
// at t, and in one coordinate after the other.
func TestPromise10Coordinates(t *testing.T) {
	counts := map[int64]int{}
	for _, p := range typicalPrimes {
		for _, d := range degrees {
			laws := lawsOfHeights(t, p, d)
			for h := int64(1); h <= 3; h++ {
				laws = append(laws, madePlane(t, "HondaLaw")(impl.HondaLaw(p, h, d)))
			}
			curves := invertibleCurves(p, d)
			for n, f := range laws {
				a, b := curves[n*5%len(curves)], curves[(n*7+3)%len(curves)]
				a.Coefficients[1], b.Coefficients[1] = int64(n)%(p-1)+1, 1
				g := madePlane(t, "LawInCoordinate")(impl.LawInCoordinate(f, a))
				wantsSameHeight(t, "LawInCoordinate", f, g)
				wantsSameHeight(t, "LawInCoordinate, strict", f, madePlane(t, "LawInCoordinate")(impl.LawInCoordinate(f, b)))
				wantsSameHeight(t, "LawInCoordinate, twice", f, madePlane(t, "LawInCoordinate")(impl.LawInCoordinate(g, b)))
				counts[heightOf(t, g).number]++
			}
		}
	}
	for h := int64(0); h <= 3; h++ {
		if counts[h] < 20 {
			t.Errorf("numbers of laws in coordinates with each height: %v", counts)
		}
	}
}

// TestPromise10AllCoordinates takes laws of Honda and others in all coordinates of small moduli and degrees.
func TestPromise10AllCoordinates(t *testing.T) {
	for _, kind := range [][2]int64{{2, 1}, {2, 2}, {2, 3}, {2, 4}, {2, 5}, {2, 8}, {3, 3}, {3, 4}, {5, 3}, {7, 2}} {
		p, d := kind[0], kind[1]
		laws := []impl.Plane{tangentLawOf(p, d, p-1), bilinearLaw(p, d, 1)}
		for h := int64(1); h <= 3; h++ {
			laws = append(laws, madePlane(t, "HondaLaw")(impl.HondaLaw(p, h, d)))
		}
		for _, a := range curvesWithFirst(p, d, numbersModulo(p)[1:]) {
			for _, f := range laws {
				wantsSameHeight(t, "LawInCoordinate", f, madePlane(t, "LawInCoordinate")(impl.LawInCoordinate(f, a)))
			}
		}
	}
}

// TestPromise10Isomorphisms checks that laws between which there is an isomorphism have the same height and
// unit, and that there is none if these are different.
func TestPromise10Isomorphisms(t *testing.T) {
	counts := map[int64]int{}
	for _, kind := range [][2]int64{{2, 2}, {2, 3}, {2, 4}, {2, 5}, {3, 2}, {3, 3}, {3, 4}, {5, 2}, {7, 2}} {
		var laws []impl.Plane
		for _, list := range allLists(kind[0], int(kind[1])-1) {
			laws = append(laws, madePlane(t, "LawOfParameters")(impl.LawOfParameters(kind[0], list)))
		}
		for n, f := range laws {
			for k, g := range laws {
				if (n+k)%(len(laws)/16+1) != 0 {
					continue
				}
				_, code := impl.IsomorphismOf(f, g)
				counts[code]++
				if code == impl.ErrNone {
					wantsSameHeight(t, "IsomorphismOf", f, g)
				}
				if isSame, _ := impl.AreSameHeight(f, g); !isSame {
					wantsCode(t, "IsomorphismOf", impl.ErrNotFound)(impl.IsomorphismOf(f, g))
				}
			}
		}
	}
	if counts[impl.ErrNone] < 100 || counts[impl.ErrNotFound] < 100 {
		t.Errorf("numbers of pairs with each code: %v", counts)
	}
}

// TestPromise10Typical checks that laws that are made typical keep their height and unit, and that these are
// told by the first parameter other than 0.
func TestPromise10Typical(t *testing.T) {
	for _, p := range typicalPrimes {
		for _, d := range degrees {
			for _, f := range lawsOfHeights(t, p, d) {
				h := madePlane(t, "TypifyLaw")(impl.TypifyLaw(p, f))
				wantsSameHeight(t, "TypifyLaw", f, h)
				list, code := impl.TypicalParameters(p, h)
				want := height{code: impl.ErrNotFound}
				if k := slices.IndexFunc(list, func(v int64) bool { return v != 0 }); k >= 0 {
					want = height{number: int64(k) + 1, unit: list[k]}
				}
				if got := heightOf(t, f); got != want || code != impl.ErrNone {
					t.Errorf("%s has the height %v, and the parameters %v", textOf(f), got, list)
				}
			}
		}
	}
}

// TestGuarantee10Orders checks that the order of the multiple by n is p^h with the exponent of p in n as its
// exponent, where this is at most the degree.
func TestGuarantee10Orders(t *testing.T) {
	numbers := []int64{-1000000, -524288, -49, -12, -10, -1, 1, 2, 3, 4, 5, 6, 7, 8, 9, 14, 15, 16, 18, 24, 25, 27, 30, 97, 6561, 117649, 390625, 999999, 1000000}
	for _, p := range typicalPrimes {
		for _, d := range degrees {
			for k, f := range lawsOfHeights(t, p, d) {
				for i, n := range numbers {
					if (i+k)%6 != 0 {
						continue
					}
					valuation, _ := impl.ValuationOf(p, n)
					h := heightOf(t, f)
					order := powerUpTo(p, h.number*valuation)
					if order > d || h.code != impl.ErrNone && valuation > 0 {
						order = 0
					}
					wantsOrder(t, f, n, order)
				}
			}
		}
	}
}

// TestGuarantee10Degrees checks that laws that are cut to a lower degree keep their height and unit as long
// as p^h is at most this degree, and have none below it.
func TestGuarantee10Degrees(t *testing.T) {
	for _, p := range typicalPrimes {
		for _, f := range lawsOfHeights(t, p, 10) {
			whole := heightOf(t, f)
			for _, d := range degrees {
				want := whole
				if powerUpTo(p, whole.number) > d {
					want = height{code: impl.ErrNotFound}
				}
				if got := heightOf(t, cutPlane(f, d)); got != want {
					t.Errorf("%s, cut to degree %d, has the height %v; want %v", textOf(f), d, got, want)
				}
			}
		}
	}
}
