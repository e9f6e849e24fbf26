package tests

import (
	"testing"

	"loop.example/g01152/impl"
)

// kindsOfSearches are moduli and degrees for which all curves may be looked through: small ones of all
// kinds, and at last, for each degree, the greatest moduli with at most MaxSearch curves.
var kindsOfSearches = [][2]int64{
	{2, 1}, {2, 2}, {2, 3}, {2, 4}, {2, 5}, {2, 6}, {2, 8}, {3, 1}, {3, 2}, {3, 3}, {3, 4}, {3, 5}, {4, 1}, {4, 2}, {4, 3}, {4, 4}, {4, 5},
	{5, 2}, {5, 3}, {5, 5}, {6, 1}, {6, 2}, {6, 3}, {6, 4}, {7, 2}, {7, 3}, {8, 2}, {8, 3}, {9, 2}, {9, 3}, {10, 2}, {10, 3}, {12, 2}, {16, 2}, {25, 2}, {30, 2},
	{10000, 1}, {141, 2}, {140, 2}, {27, 3}, {11, 4}, {9, 4}, {7, 5}, {5, 6}, {4, 7}, {3, 8}, {3, 9}, {2, 10},
}

// cutPowers returns the powers of a series with the exponents 0 to its degree without the program.
func cutPowers(a impl.Series) [][]int64 {
	d := degreeOf(a)
	powers := [][]int64{monomialOf(a.Modulus, d, 0, 1).Coefficients}
	for k := range d {
		next := make([]int64, d+1)
		for i, x := range powers[k] {
			for j, y := range a.Coefficients[:d+1-int64(i)] {
				next[i+j] = (next[i+j] + x*y) % a.Modulus
			}
		}
		powers = append(powers, next)
	}
	return powers
}

// homomorphismTest returns a function that reports whether a(F(x, y)) and G(a(x), a(y)) are the same
// for a curve a, without the program. The powers of F are found once for all curves.
func homomorphismTest(f impl.Plane, g impl.Plane) func(a impl.Series) bool {
	m, d := f.Modulus, degreeOfPlane(f)
	inPlane := []impl.Plane{termOf(m, d, 0, 0, 1)}
	for k := range d {
		inPlane = append(inPlane, planeProduct(inPlane[k], f))
	}
	return func(a impl.Series) bool {
		powers := cutPowers(a)
		for i := range d + 1 {
			for j := range d + 1 - i {
				gap := int64(0)
				for k, c := range a.Coefficients {
					gap -= c * inPlane[k].Table[i][j]
				}
				for k := range i + 1 {
					for l := range j + 1 {
						gap += g.Table[k][l] * powers[k][i] % m * powers[l][j]
					}
				}
				if gap%m != 0 {
					return false
				}
			}
		}
		return true
	}
}

// numbersModulo returns all numbers modulo m.
func numbersModulo(m int64) []int64 {
	var list []int64
	for c := range m {
		list = append(list, c)
	}
	return list
}

// curvesWithFirst returns, in lexicographic order, all curves whose coefficient at t is in a list.
func curvesWithFirst(m int64, d int64, firsts []int64) []impl.Series {
	list := []impl.Series{series(m, 0)}
	for n := range d {
		choices := numbersModulo(m)
		if n == 0 {
			choices = firsts
		}
		var longer []impl.Series
		for _, a := range list {
			for _, c := range choices {
				longer = append(longer, series(m, append(append([]int64(nil), a.Coefficients...), c)...))
			}
		}
		list = longer
	}
	return list
}

// firstWith returns the first curve of a list whose coefficient at t is as wanted, and ErrNotFound if
// there is none.
func firstWith(list []impl.Series, isWanted func(c int64) bool) (impl.Series, int64) {
	for _, a := range list {
		if isWanted(a.Coefficients[1]) {
			return a, impl.ErrNone
		}
	}
	return impl.Series{}, impl.ErrNotFound
}

// wantsHomomorphisms checks all searches between two laws against a list of all homomorphisms, and
// returns the code of those for one.
func wantsHomomorphisms(t *testing.T, f impl.Plane, g impl.Plane, all []impl.Series) int64 {
	t.Helper()
	wantsList(t, "AllHomomorphisms("+textOf(f)+", "+textOf(g)+")", all, impl.ErrNone)(impl.AllHomomorphisms(f, g))
	wants(t, "CountHomomorphisms("+textOf(f)+", "+textOf(g)+")", int64(len(all)), impl.ErrNone)(impl.CountHomomorphisms(f, g))
	want, code := firstWith(all, func(c int64) bool { return c == 1 })
	wantsSeries(t, "StrictIsomorphism("+textOf(f)+", "+textOf(g)+")", want, code)(impl.StrictIsomorphism(f, g))
	want, code = firstWith(all, func(c int64) bool { return isUnitOf(f.Modulus, c) })
	wantsSeries(t, "IsomorphismOf("+textOf(f)+", "+textOf(g)+")", want, code)(impl.IsomorphismOf(f, g))
	return code
}

// TestSearches compares all searches with the homomorphisms among all curves, one curve after the
// other.
func TestSearches(t *testing.T) {
	counts := map[int64]int{}
	for _, kind := range kindsOfSearches {
		m, d := kind[0], kind[1]
		curves := curvesWithFirst(m, d, numbersModulo(m))
		laws := sampleLaws(t, m, d)
		steps := []int{0, 1, 3, 4}
		if len(curves) > 5000 {
			steps = []int{4, 1}
		}
		for n := 0; n < len(laws) && n*len(curves) < 100000; n++ {
			f, g := laws[n], laws[(n+steps[n%len(steps)])%len(laws)]
			isHomomorphism, call := homomorphismTest(f, g), "IsHomomorphism("+textOf(f)+", "+textOf(g)+")"
			var all []impl.Series
			for k, a := range curves {
				yes := isHomomorphism(a)
				if yes {
					all = append(all, a)
				}
				if k%7 == n%7 && k < 1000 || yes && k%100 < 10 {
					wants(t, call, yes, impl.ErrNone)(impl.IsHomomorphism(f, g, a))
				}
			}
			counts[wantsHomomorphisms(t, f, g, all)]++
		}
	}
	if counts[impl.ErrNone] < 100 || counts[impl.ErrNotFound] < 50 {
		t.Errorf("numbers of searches with each code: %v", counts)
	}
}

// TestSearchesBetweenAllLaws takes all pairs of laws of small moduli and degrees.
func TestSearchesBetweenAllLaws(t *testing.T) {
	for _, laws := range lawsOfManyKinds(t)[:4] {
		curves := curvesWithFirst(laws[0].Modulus, degreeOfPlane(laws[0]), numbersModulo(laws[0].Modulus))
		for _, f := range laws {
			for _, g := range laws {
				isHomomorphism := homomorphismTest(f, g)
				var all []impl.Series
				for _, a := range curves {
					yes := isHomomorphism(a)
					wants(t, "IsHomomorphism", yes, impl.ErrNone)(impl.IsHomomorphism(f, g, a))
					// The same from all terms, without one that is left out before the end.
					if yes != isSamePlane(seriesInPlane(a, f), inCurves(g, a, a)) {
						t.Errorf("homomorphismTest of %v is %v", a, yes)
					}
					if yes {
						all = append(all, a)
					}
				}
				wantsHomomorphisms(t, f, g, all)
			}
		}
	}
}

// TestHomomorphismsInExamples gives laws between which few curves are homomorphisms.
func TestHomomorphismsInExamples(t *testing.T) {
	wantsSeries(t, "StrictIsomorphism", series(3, 0, 1, 1), impl.ErrNone)(impl.StrictIsomorphism(bilinearLaw(3, 2, 1), bilinearLaw(3, 2, 0)))
	wantsHomomorphisms(t, bilinearLaw(3, 2, 1), bilinearLaw(3, 2, 0), []impl.Series{series(3, 0, 0, 0), series(3, 0, 1, 1), series(3, 0, 2, 2)})
	wantsHomomorphisms(t, bilinearLaw(3, 2, 0), bilinearLaw(3, 2, 1), []impl.Series{series(3, 0, 0, 0), series(3, 0, 1, 2), series(3, 0, 2, 2)})
	// Modulo 2 the square of x + y has no term x y with which that of the law could be taken away.
	wantsHomomorphisms(t, bilinearLaw(2, 2, 1), bilinearLaw(2, 2, 0), []impl.Series{series(2, 0, 0, 0), series(2, 0, 0, 1)})
	wantsHomomorphisms(t, bilinearLaw(2, 2, 0), bilinearLaw(2, 2, 1), []impl.Series{series(2, 0, 0, 0), series(2, 0, 0, 1)})
	wantsHomomorphisms(t, bilinearLaw(2, 2, 0), bilinearLaw(2, 2, 0), []impl.Series{series(2, 0, 0, 0), series(2, 0, 0, 1), series(2, 0, 1, 0), series(2, 0, 1, 1)})
	// A coefficient 2 at t is no unit, but not 0 either; 3 is a unit, but there is one with 1.
	wantsHomomorphisms(t, bilinearLaw(4, 2, 1), bilinearLaw(4, 2, 0), []impl.Series{series(4, 0, 0, 0), series(4, 0, 0, 2), series(4, 0, 2, 1), series(4, 0, 2, 3)})
	wantsHomomorphisms(t, bilinearLaw(4, 2, 1), bilinearLaw(4, 2, 3), []impl.Series{
		series(4, 0, 0, 0), series(4, 0, 0, 2), series(4, 0, 1, 1), series(4, 0, 1, 3), series(4, 0, 2, 1), series(4, 0, 2, 3), series(4, 0, 3, 0), series(4, 0, 3, 2),
	})
	wants(t, "IsHomomorphism", true, impl.ErrNone)(impl.IsHomomorphism(bilinearLaw(4, 2, 1), bilinearLaw(4, 2, 0), series(4, 0, 2, 1)))
	wants(t, "IsHomomorphism", false, impl.ErrNone)(impl.IsHomomorphism(bilinearLaw(4, 2, 0), bilinearLaw(4, 2, 1), series(4, 0, 2, 1)))
}

// TestHomomorphismsInDegreeOne checks that all curves are homomorphisms from x + y to itself.
func TestHomomorphismsInDegreeOne(t *testing.T) {
	for _, m := range moduli {
		f := bilinearLaw(m, 1, 0)
		wantsHomomorphisms(t, f, f, curvesWithFirst(m, 1, numbersModulo(m)))
		for _, c := range sample(m) {
			wants(t, "IsHomomorphism", true, impl.ErrNone)(impl.IsHomomorphism(f, f, series(m, 0, c)))
			if isUnitOf(m, c) {
				wantsPlane(t, "LawInCoordinate", f, impl.ErrNone)(impl.LawInCoordinate(f, series(m, 0, c)))
			} else {
				wantsNoPlane(t, "LawInCoordinate", impl.ErrState)(impl.LawInCoordinate(f, series(m, 0, c)))
			}
		}
	}
}

// additiveCurves returns, in order, the curves f with f(x + y) = f(x) + f(y) without a search: those
// whose coefficient at t^n makes 0 of the greatest common divisor of the coefficients of
// (x + y)^n - x^n - y^n, which is p for powers of a prime p, and 1 for other n.
func additiveCurves(m int64, d int64) []impl.Series {
	list := curvesWithFirst(m, 1, numbersModulo(m))
	for n := int64(2); n <= d; n++ {
		p := map[int64]int64{2: 2, 3: 3, 4: 2, 5: 5, 7: 7, 8: 2, 9: 3}[n]
		var longer []impl.Series
		for _, a := range list {
			for c := range m {
				if c*max(p, 1)%m == 0 {
					longer = append(longer, series(m, append(append([]int64(nil), a.Coefficients...), c)...))
				}
			}
		}
		list = longer
	}
	return list
}

// TestAdditiveCurves takes x + y to itself with all moduli with at most MaxSearch curves.
func TestAdditiveCurves(t *testing.T) {
	for d := int64(1); d <= 10; d++ {
		for m := int64(2); isSearched(m, d); m++ {
			if d == 1 && m > 200 && m%999 > 1 || d == 2 && m%5 != 1 && m > 30 {
				continue
			}
			f := bilinearLaw(m, d, 0)
			wantsHomomorphisms(t, f, f, additiveCurves(m, d))
		}
	}
}

// isSearched reports whether m is a modulus, and m^k at most MaxSearch.
func isSearched(m int64, k int64) bool {
	size := int64(1)
	for range k {
		size = min(size*m, 20001)
	}
	return m <= 10000 && size <= 20000
}

// TestLimitsOfSearches gives, for each degree, moduli next to the greatest one with at most MaxSearch
// curves, and others up to MaxModulus: with powers of 2, products could come out as 0.
func TestLimitsOfSearches(t *testing.T) {
	if impl.MaxSearch != 20000 {
		t.Errorf("MaxSearch = %d", impl.MaxSearch)
	}
	for d := int64(1); d <= 10; d++ {
		list := []int64{2, 3, 4, 5, 6, 7, 8, 11, 12, 16, 27, 28, 64, 99, 100, 128, 141, 142, 143, 256, 1000, 1024, 2048, 4096, 8192, 9999, 10000}
		for m := int64(2); m <= 10000; m++ {
			if isSearched(m, d) != isSearched(m+1, d) || isSearched(m, d-1) != isSearched(m+1, d-1) {
				list = append(list, m, m+1)
			}
		}
		for _, m := range list {
			if m > 10000 {
				continue
			}
			f := bilinearLaw(m, d, 0)
			line := monomialOf(m, d, 1, 1)
			if isSearched(m, d) {
				wants(t, "CountHomomorphisms", int64(len(additiveCurves(m, d))), impl.ErrNone)(impl.CountHomomorphisms(f, f))
				wantsSeries(t, "IsomorphismOf", line, impl.ErrNone)(impl.IsomorphismOf(f, f))
			} else {
				wantsList[impl.Series](t, "AllHomomorphisms", nil, impl.ErrLimit)(impl.AllHomomorphisms(f, f))
				wants(t, "CountHomomorphisms", int64(0), impl.ErrLimit)(impl.CountHomomorphisms(f, f))
				wantsCode(t, "IsomorphismOf", impl.ErrLimit)(impl.IsomorphismOf(f, f))
			}
			if isSearched(m, d-1) {
				wantsSeries(t, "StrictIsomorphism", line, impl.ErrNone)(impl.StrictIsomorphism(f, f))
			} else {
				wantsCode(t, "StrictIsomorphism", impl.ErrLimit)(impl.StrictIsomorphism(f, f))
			}
		}
	}
}

// TestStrictIsomorphisms looks through all strict curves where there are too many others.
func TestStrictIsomorphisms(t *testing.T) {
	counts := map[int64]int{}
	for _, kind := range [][2]int64{{10000, 2}, {9999, 2}, {9998, 2}, {141, 3}, {140, 3}, {27, 4}, {26, 4}, {11, 5}, {8, 5}, {7, 6}, {6, 6}, {5, 7}, {4, 8}, {3, 10}} {
		m, d := kind[0], kind[1]
		curves := curvesWithFirst(m, d, []int64{1})
		laws := sampleLaws(t, m, d)
		for n, f := range laws[:6] {
			g := laws[(n+4)%len(laws)]
			if n > 3 {
				g = laws[n-1]
			}
			isHomomorphism := homomorphismTest(f, g)
			want, code := impl.Series{}, int64(impl.ErrNotFound)
			for _, a := range curves {
				if isHomomorphism(a) {
					want, code = a, impl.ErrNone
					break
				}
			}
			wantsSeries(t, "StrictIsomorphism("+textOf(f)+", "+textOf(g)+")", want, code)(impl.StrictIsomorphism(f, g))
			wantsCode(t, "IsomorphismOf", impl.ErrLimit)(impl.IsomorphismOf(f, g))
			counts[code]++
		}
	}
	if counts[impl.ErrNone] < 20 || counts[impl.ErrNotFound] < 10 {
		t.Errorf("numbers of searches with each code: %v", counts)
	}
}

// TestIsHomomorphism gives, with all moduli, curves between laws, some of which are homomorphisms: the
// coordinates in which a law is another one, changed at one coefficient, or between other laws.
func TestIsHomomorphism(t *testing.T) {
	counts := map[bool]int{}
	for _, m := range moduliOfLaws {
		for _, d := range degreesOfLaws {
			laws := sampleLaws(t, m, d)
			coordinates := invertibleCurves(m, d)
			for n, f := range laws {
				a := coordinates[(n*5+1)%len(coordinates)]
				a.Coefficients[1] = []int64{1, m - 1}[n%2]
				g := inCoordinate(t, f, a)
				wants(t, "IsHomomorphism", true, impl.ErrNone)(impl.IsHomomorphism(f, g, a))
				wants(t, "IsHomomorphism", true, impl.ErrNone)(impl.IsHomomorphism(f, laws[n*3%len(laws)], monomialOf(m, d, 0, 0)))
				isForth, isBack, isOwn := homomorphismTest(f, g), homomorphismTest(g, f), homomorphismTest(f, f)
				wants(t, "IsHomomorphism", isBack(a), impl.ErrNone)(impl.IsHomomorphism(g, f, a))
				for k := int64(1); k <= d; k++ {
					for _, c := range []int64{1, m / 2} {
						b := series(m, append([]int64(nil), a.Coefficients...)...)
						b.Coefficients[k] = (b.Coefficients[k] + c) % m
						counts[isForth(b)]++
						wants(t, "IsHomomorphism", isForth(b), impl.ErrNone)(impl.IsHomomorphism(f, g, b))
						power := monomialOf(m, d, k, c)
						wants(t, "IsHomomorphism", isOwn(power), impl.ErrNone)(impl.IsHomomorphism(f, f, power))
					}
				}
			}
		}
	}
	if counts[true] < 50 || counts[false] < 500 {
		t.Errorf("numbers of homomorphisms and other curves: %v", counts)
	}
}

// TestLawInCoordinate compares laws in coordinates with all terms, and x + y + c x y in the coordinate
// u t with x + y + (c / u) x y.
func TestLawInCoordinate(t *testing.T) {
	wantsPlane(t, "LawInCoordinate", bilinearLaw(3, 2, 0), impl.ErrNone)(impl.LawInCoordinate(bilinearLaw(3, 2, 1), series(3, 0, 1, 1)))
	wantsPlane(t, "LawInCoordinate", bilinearLaw(5, 3, 3), impl.ErrNone)(impl.LawInCoordinate(bilinearLaw(5, 3, 1), series(5, 0, 2, 0, 0)))
	wantsPlane(t, "LawInCoordinate", bilinearLaw(5, 3, 0), impl.ErrNone)(impl.LawInCoordinate(bilinearLaw(5, 3, 1), series(5, 0, 1, 2, 2)))
	wantsPlane(t, "LawInCoordinate", bilinearLaw(5, 3, 1), impl.ErrNone)(impl.LawInCoordinate(bilinearLaw(5, 3, 0), series(5, 0, 1, 3, 1)))
	for _, m := range append(moduliOfLaws, 7, 30) {
		for _, u := range sample(m) {
			if !isUnitOf(m, u) {
				continue
			}
			inverse := inverseOf(t, m, u)
			for _, d := range degreesOfLaws {
				for _, c := range []int64{1, m - 1, m / 2} {
					wantsPlane(t, "LawInCoordinate", bilinearLaw(m, d, c*inverse%m), impl.ErrNone)(impl.LawInCoordinate(bilinearLaw(m, d, c), monomialOf(m, d, 1, u)))
				}
			}
		}
		for _, d := range degreesOfLaws {
			coordinates := invertibleCurves(m, d)
			for n, f := range sampleLaws(t, m, d) {
				a := coordinates[(n*5+1)%len(coordinates)]
				wantsPlane(t, "LawInCoordinate", inCoordinate(t, f, a), impl.ErrNone)(impl.LawInCoordinate(f, a))
				wantsPlane(t, "LawInCoordinate", f, impl.ErrNone)(impl.LawInCoordinate(f, monomialOf(m, d, 1, 1)))
			}
		}
	}
}

// TestCoordinatesOfAllKinds takes all curves of small moduli, whose coefficients at t are units, no
// units, or 0.
func TestCoordinatesOfAllKinds(t *testing.T) {
	for _, kind := range [][2]int64{{2, 1}, {2, 2}, {2, 4}, {3, 2}, {3, 3}, {4, 2}, {4, 3}, {6, 2}, {6, 3}, {9, 2}, {10, 2}, {12, 2}} {
		m, d := kind[0], kind[1]
		laws := sampleLaws(t, m, d)
		for n, a := range curvesWithFirst(m, d, numbersModulo(m)) {
			f := laws[n%len(laws)]
			if isUnitOf(m, a.Coefficients[1]) {
				wantsPlane(t, "LawInCoordinate", inCoordinate(t, f, a), impl.ErrNone)(impl.LawInCoordinate(f, a))
			} else {
				wantsNoPlane(t, "LawInCoordinate", impl.ErrState)(impl.LawInCoordinate(f, a))
			}
		}
	}
	for _, c := range []int64{0, 2, 5, 10, 9998} {
		wantsNoPlane(t, "LawInCoordinate", impl.ErrState)(impl.LawInCoordinate(bilinearLaw(10000, 10, 7), series(10000, 0, c, 1, 0, 0, 1, 0, 0, 0, 0, 3)))
	}
}

// wantsCodeOfSearches checks that all searches between two laws end with a code.
func wantsCodeOfSearches(t *testing.T, f impl.Plane, g impl.Plane, code int64) {
	t.Helper()
	wantsList[impl.Series](t, "AllHomomorphisms", nil, code)(impl.AllHomomorphisms(f, g))
	wants(t, "CountHomomorphisms", int64(0), code)(impl.CountHomomorphisms(f, g))
	wantsCode(t, "StrictIsomorphism", code)(impl.StrictIsomorphism(f, g))
	wantsCode(t, "IsomorphismOf", code)(impl.IsomorphismOf(f, g))
}

// TestNoLawsAcross gives each argument that has to be a law one that is none, also where errors behind
// that would hold: the other law is none or not alike, there are too many curves, the curve is none or
// not of the law, or its coefficient at t is no unit.
func TestNoLawsAcross(t *testing.T) {
	laws := []impl.Plane{bilinearLaw(10, 2, 1), bilinearLaw(7, 1, 0), bilinearLaw(10, 10, 1), bilinearLaw(10000, 3, 0), termOf(10, 2, 1, 0, 1), {}}
	curves := []impl.Series{series(10, 0, 1, 0), series(10, 1, 1, 0), series(10, 0, 5, 0), series(7, 0, 1), series(7, 1, 0), {}}
	bad := append(noLaws(), withTerm(bilinearLaw(10000, 3, 0), 1, 2), withTerm(bilinearLaw(10, 10, 1), 5, 5))
	for _, f := range bad {
		for _, g := range laws {
			wantsCodeOfSearches(t, f, g, impl.ErrInvalid)
			wantsCodeOfSearches(t, g, f, impl.ErrInvalid)
			for _, a := range curves {
				wants(t, "IsHomomorphism", false, impl.ErrInvalid)(impl.IsHomomorphism(f, g, a))
				wants(t, "IsHomomorphism", false, impl.ErrInvalid)(impl.IsHomomorphism(g, f, a))
			}
		}
		for _, a := range curves {
			wantsNoPlane(t, "LawInCoordinate", impl.ErrInvalid)(impl.LawInCoordinate(f, a))
		}
	}
}

// TestNoSeriesAcross gives what is no series, also where the laws are not alike.
func TestNoSeriesAcross(t *testing.T) {
	laws := []impl.Plane{bilinearLaw(10, 2, 1), bilinearLaw(10, 2, 0), bilinearLaw(7, 1, 0), bilinearLaw(10, 10, 1), termOf(10, 2, 1, 0, 1)}
	for _, bad := range append(noSeries(), series(10, 1, 5, 10), series(7, 0, 7), series(7, 1, -1)) {
		for _, f := range laws {
			wantsNoPlane(t, "LawInCoordinate", impl.ErrInvalid)(impl.LawInCoordinate(f, bad))
			for _, g := range laws {
				wants(t, "IsHomomorphism", false, impl.ErrInvalid)(impl.IsHomomorphism(f, g, bad))
			}
		}
	}
}

// TestLawsNotAlikeAcross gives laws with other moduli or degrees, with curves of the first one or of
// the second one, also where there would be too many curves.
func TestLawsNotAlikeAcross(t *testing.T) {
	laws := []impl.Plane{
		bilinearLaw(10, 2, 1), bilinearLaw(10, 3, 1), bilinearLaw(10, 1, 0), bilinearLaw(5, 2, 1), bilinearLaw(11, 2, 1), bilinearLaw(10, 10, 1),
		bilinearLaw(10000, 10, 0), bilinearLaw(10000, 2, 0), bilinearLaw(9999, 10, 0), bilinearLaw(2, 1, 0),
	}
	for n, f := range laws {
		for k, g := range laws {
			if n == k {
				continue
			}
			wantsCodeOfSearches(t, f, g, impl.ErrRange)
			for _, h := range []impl.Plane{f, g} {
				m, d := h.Modulus, degreeOfPlane(h)
				for _, a := range []impl.Series{monomialOf(m, d, 1, 1), monomialOf(m, d, 1, 0), monomialOf(m, d, 0, 1)} {
					wants(t, "IsHomomorphism", false, impl.ErrRange)(impl.IsHomomorphism(f, g, a))
				}
			}
		}
	}
}

// TestNoCurvesAcross gives series with another modulus, another degree, both, or a constant; some have
// a coefficient at t that is no unit, besides.
func TestNoCurvesAcross(t *testing.T) {
	for _, d := range degreesOfLaws {
		f := bilinearLaw(10, d, 0)
		wants(t, "IsHomomorphism", true, impl.ErrNone)(impl.IsHomomorphism(f, f, monomialOf(10, d, 1, 1)))
		bad := []impl.Series{
			monomialOf(10, d, 0, 1), monomialOf(10, d, 0, 9), monomialOf(5, d, 1, 1), monomialOf(11, d, 1, 1), monomialOf(5, d, 1, 0), monomialOf(11, d, 1, 0),
			monomialOf(10, d%10+1, 1, 1), monomialOf(10, d%10+1, 1, 5), monomialOf(10, (d+4)%10+1, 1, 1), monomialOf(5, d%10+1, 1, 1), monomialOf(5, d%10+1, 0, 1),
		}
		for _, c := range []int64{0, 1, 3, 5} {
			with := monomialOf(10, d, 1, c)
			with.Coefficients[0] = 3
			bad = append(bad, with)
		}
		for _, a := range bad {
			wants(t, "IsHomomorphism", false, impl.ErrRange)(impl.IsHomomorphism(f, f, a))
			wantsNoPlane(t, "LawInCoordinate", impl.ErrRange)(impl.LawInCoordinate(f, a))
		}
	}
}

// operationsOnHomomorphisms are all functions of the chapter, given out as planes.
func operationsOnHomomorphisms() map[string]func(f impl.Plane, g impl.Plane, a impl.Series) (impl.Plane, int64) {
	type law = impl.Plane
	inOneList := func(a impl.Series, code int64) (law, int64) { return plane(a.Modulus, a.Coefficients), code }
	return map[string]func(f impl.Plane, g impl.Plane, a impl.Series) (impl.Plane, int64){
		"IsHomomorphism": func(f, g law, a impl.Series) (law, int64) {
			yes, code := impl.IsHomomorphism(f, g, a)
			return plane(7, []int64{oneIf(yes)}), code
		},
		"LawInCoordinate": func(f, g law, a impl.Series) (law, int64) { return impl.LawInCoordinate(f, a) },
		"AllHomomorphisms": func(f, g law, a impl.Series) (law, int64) {
			list, code := impl.AllHomomorphisms(f, g)
			all := plane(7)
			for _, b := range list {
				all.Table = append(all.Table, b.Coefficients)
			}
			return all, code
		},
		"CountHomomorphisms": func(f, g law, a impl.Series) (law, int64) {
			n, code := impl.CountHomomorphisms(f, g)
			return plane(7, []int64{n}), code
		},
		"StrictIsomorphism": func(f, g law, a impl.Series) (law, int64) { return inOneList(impl.StrictIsomorphism(f, g)) },
		"IsomorphismOf":     func(f, g law, a impl.Series) (law, int64) { return inOneList(impl.IsomorphismOf(f, g)) },
	}
}

// TestHomomorphismsMemory checks all functions of the chapter, from a law, to it, and from it to
// itself.
func TestHomomorphismsMemory(t *testing.T) {
	other := bilinearLaw(7, 4, 0)
	for name, operation := range operationsOnHomomorphisms() {
		checkMemory(t, name, func(f impl.Plane, a impl.Series) (impl.Plane, int64) { return operation(f, other, a) })
		checkMemory(t, name+", to it", func(f impl.Plane, a impl.Series) (impl.Plane, int64) { return operation(other, f, a) })
		checkMemory(t, name+", to itself", func(f impl.Plane, a impl.Series) (impl.Plane, int64) { return operation(f, f, a) })
	}
	if !isSamePlane(other, bilinearLaw(7, 4, 0)) {
		t.Errorf("the other law is %v", other)
	}
}
