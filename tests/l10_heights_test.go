package tests

import (
	"math"
	"slices"
	"strconv"
	"testing"

	"loop.example/g01152/impl"
)

// otherModuli are moduli that are none of the four prime numbers: their powers and products, and other
// prime numbers, up to the limit.
var otherModuli = []int64{4, 6, 8, 9, 10, 11, 12, 13, 14, 15, 25, 27, 35, 49, 97, 121, 210, 9973, 9999, 10000}

// multipleBySums returns the multiple of a law by n, of at least 0, without the program: one sum after the
// other.
func multipleBySums(f impl.Plane, n int64) impl.Series {
	m, d := f.Modulus, degreeOfPlane(f)
	multiple := monomialOf(m, d, 0, 0)
	for range n {
		multiple = inCurvesOfOne(f, multiple, monomialOf(m, d, 1, 1))
	}
	return multiple
}

// orderOf returns the least exponent with a coefficient other than 0, and 0 for a curve without one.
func orderOf(a impl.Series) int64 {
	for n, c := range a.Coefficients {
		if c != 0 {
			return int64(n)
		}
	}
	return 0
}

// powerUpTo returns p^k, and a number greater than any degree where that would be greater.
func powerUpTo(p int64, k int64) int64 {
	power := int64(1)
	for range k {
		power = min(power*p, 1000)
	}
	return power
}

// heightByDefinition returns the height of a law and its series, found with the multiple by p without the
// program; 0 and no series if this is 0. It checks that all terms are where the document has them.
func heightByDefinition(t *testing.T, f impl.Plane) (int64, []int64) {
	t.Helper()
	multiple := multipleBySums(f, f.Modulus)
	order := orderOf(multiple)
	if order == 0 {
		return 0, nil
	}
	h := int64(1)
	for powerUpTo(f.Modulus, h) < order {
		h++
	}
	var list []int64
	for n, c := range multiple.Coefficients {
		if n > 0 && int64(n)%order == 0 {
			list = append(list, c)
		} else if c != 0 {
			t.Fatalf("the multiple of %s by its modulus is %v", textOf(f), multiple)
		}
	}
	if powerUpTo(f.Modulus, h) != order {
		t.Fatalf("the multiple of %s by its modulus begins at %d", textOf(f), order)
	}
	return h, list
}

// wantsHeight checks all that the multiple by p tells. Without a height, 0 and no list are wanted.
func wantsHeight(t *testing.T, f impl.Plane, h int64, list ...int64) {
	t.Helper()
	unit, code := int64(0), int64(impl.ErrNotFound)
	if h > 0 {
		unit, code = list[0], impl.ErrNone
	}
	wants(t, "HeightOf("+textOf(f)+")", h, code)(impl.HeightOf(f))
	wants(t, "UnitOfHeight("+textOf(f)+")", unit, code)(impl.UnitOfHeight(f))
	wantsList(t, "SeriesOfHeight("+textOf(f)+")", list, code)(impl.SeriesOfHeight(f))
	if degreeOfPlane(f) < f.Modulus {
		wants(t, "HasseOfLaw("+textOf(f)+")", int64(0), impl.ErrState)(impl.HasseOfLaw(f))
		return
	}
	wants(t, "HasseOfLaw("+textOf(f)+")", unit*oneIf(h == 1), impl.ErrNone)(impl.HasseOfLaw(f))
}

// lawsOfHeights returns laws of all kinds modulo p with a degree: in all heights, with other units, and
// without a height.
func lawsOfHeights(t *testing.T, p int64, d int64) []impl.Plane {
	t.Helper()
	list := append(lawsToTypify(t, p, d), bilinearLaw(p, d, 0), tangentLawOf(p, d, 1), tangentLawOf(p, d, p-1))
	for n, parameters := range append(sampleParameters(p, 3), []int64{0, 1, 1}, []int64{0, p - 1, 1}, []int64{1, 1, 0}, []int64{0, 0, 1}) {
		f := madePlane(t, "TypicalLaw")(impl.TypicalLaw(p, p, d, parameters))
		curves := invertibleCurves(p, d)
		list = append(list, f, inCoordinate(t, f, curves[(n*3+5)%len(curves)]))
	}
	if p <= 5 {
		list = append(list, sampleLaws(t, p, d)...)
	}
	return list
}

// TestHeightsInExamples gives laws whose multiples by p are known.
func TestHeightsInExamples(t *testing.T) {
	// (1 + t)^p - 1 is t^p.
	wantsHeight(t, bilinearLaw(2, 3, 1), 1, 1)
	wantsHeight(t, bilinearLaw(2, 2, 1), 1, 1)
	wantsHeight(t, bilinearLaw(2, 10, 1), 1, 1, 0, 0, 0, 0)
	wantsHeight(t, bilinearLaw(3, 10, 2), 1, 1, 0, 0)
	wantsHeight(t, bilinearLaw(5, 10, 3), 1, 1, 0)
	wantsHeight(t, bilinearLaw(7, 10, 6), 1, 1)
	wantsHeight(t, bilinearLaw(7, 7, 6), 1, 1)
	wantsHeight(t, bilinearLaw(7, 6, 6), 0)
	wantsHeight(t, bilinearLaw(2, 1, 0), 0)
	wantsHeight(t, bilinearLaw(2, 10, 0), 0)
	wantsHeight(t, bilinearLaw(7, 10, 0), 0)
	// Modulo 2 the sum of t and t is 2 t / (1 + t^2), which is 0.
	wantsHeight(t, tangentLawOf(2, 10, 1), 0)
	// 2 t + C(4)(t, t) is t^4, since C(4) is 2 x y^3 + 3 x^2 y^2 + 2 x^3 y.
	wantsHeight(t, parsed(t, "2:0,1,0,0,0/1,0,0,0/0,0,1/0,0/0"), 2, 1)
	// The sum of t^2 and t^4 under x + y + x y, and so on: v(1) and v(2) are 1, and t^2 takes the place of t.
	wantsHeight(t, madePlane(t, "TypicalLaw")(impl.TypicalLaw(2, 2, 4, []int64{1, 1})), 1, 1, 1)
	wantsHeight(t, madePlane(t, "TypicalLaw")(impl.TypicalLaw(2, 2, 6, []int64{1, 1})), 1, 1, 1, 1)
	wantsHeight(t, madePlane(t, "TypicalLaw")(impl.TypicalLaw(2, 2, 8, []int64{0, 1, 1})), 2, 1, 1)
	wantsHeight(t, madePlane(t, "TypicalLaw")(impl.TypicalLaw(3, 3, 9, []int64{0, 2})), 2, 2)
	wantsHeight(t, madePlane(t, "TypicalLaw")(impl.TypicalLaw(3, 3, 9, []int64{2, 2})), 1, 2, 0, 2)
	wantsHeight(t, madePlane(t, "TypicalLaw")(impl.TypicalLaw(2, 2, 8, []int64{0, 0, 1})), 3, 1)
	wantsHeight(t, madePlane(t, "TypicalLaw")(impl.TypicalLaw(2, 2, 7, []int64{0, 0, 1})), 0)
}

// TestHeights compares heights, units and series of laws of all kinds with multiples without the program.
func TestHeights(t *testing.T) {
	counts := map[[3]int64]int{}
	for _, p := range typicalPrimes {
		for _, d := range degrees {
			for _, f := range lawsOfHeights(t, p, d) {
				h, list := heightByDefinition(t, f)
				wantsHeight(t, f, h, list...)
				unit := int64(0)
				if h > 0 {
					unit = list[0]
				}
				counts[[3]int64{p, h, unit}]++
			}
		}
	}
	for _, p := range typicalPrimes {
		for h := int64(0); powerUpTo(p, h) <= 10; h++ {
			for unit := oneIf(h > 0); unit == 0 || h > 0 && unit < p; unit++ {
				if counts[[3]int64{p, h, unit}] < 2 {
					t.Errorf("few laws modulo %d with the height %d and the unit %d: %v", p, h, unit, counts)
				}
			}
		}
	}
}

// TestHeightsOfAllLaws takes all laws of small moduli and degrees.
func TestHeightsOfAllLaws(t *testing.T) {
	for _, kind := range [][2]int64{{2, 2}, {2, 3}, {2, 4}, {2, 5}, {2, 8}, {3, 2}, {3, 3}, {3, 4}, {3, 6}, {5, 3}, {5, 4}, {5, 5}, {7, 3}} {
		for _, list := range allLists(kind[0], int(kind[1])-1) {
			f := madePlane(t, "LawOfParameters")(impl.LawOfParameters(kind[0], list))
			h, series := heightByDefinition(t, f)
			wantsHeight(t, f, h, series...)
		}
	}
}

// TestHeightsOfTypicalLaws checks that the first parameter other than 0 tells the height, and is the unit,
// in all degrees: those below its power of p have none.
func TestHeightsOfTypicalLaws(t *testing.T) {
	for _, p := range typicalPrimes {
		for _, list := range allLists(p, 3) {
			for _, d := range degrees {
				if p > 3 && (list[2] != 0 || d < 4 && list[1] != 0) {
					continue
				}
				f := madePlane(t, "TypicalLaw")(impl.TypicalLaw(p, p, d, list))
				h, unit, code := int64(0), int64(0), int64(impl.ErrNotFound)
				for k, v := range list {
					if h == 0 && v != 0 && powerUpTo(p, int64(k)+1) <= d {
						h, unit, code = int64(k)+1, v, impl.ErrNone
					}
				}
				wants(t, "HeightOf("+textOf(f)+")", h, code)(impl.HeightOf(f))
				wants(t, "UnitOfHeight("+textOf(f)+")", unit, code)(impl.UnitOfHeight(f))
			}
		}
	}
}

// TestSeriesInTypicalLaws checks that the multiple by p of a typical law is the sum under it of all
// v(k) t^(p^k).
func TestSeriesInTypicalLaws(t *testing.T) {
	for _, p := range []int64{2, 3} {
		for _, list := range allLists(p, 3) {
			for _, d := range degrees {
				f := madePlane(t, "TypicalLaw")(impl.TypicalLaw(p, p, d, list))
				sum := monomialOf(p, d, 0, 0)
				for k, v := range list {
					if q := powerUpTo(p, int64(k)+1); q <= d {
						sum = inCurvesOfOne(f, sum, monomialOf(p, d, q, v))
					}
				}
				order := orderOf(sum)
				if order == 0 {
					wantsHeight(t, f, 0)
					continue
				}
				var want []int64
				for n := order; n <= d; n += order {
					want = append(want, sum.Coefficients[n])
				}
				wantsList(t, "SeriesOfHeight("+textOf(f)+")", want, impl.ErrNone)(impl.SeriesOfHeight(f))
			}
		}
	}
}

// TestSeriesInCoordinates checks that the series in a coordinate a is that of a(u(g)), where u is the series
// as a curve, and g the reversion of a: powers with p^h go through a, whose coefficients stay as they are.
func TestSeriesInCoordinates(t *testing.T) {
	for _, p := range typicalPrimes {
		for _, d := range degrees {
			curves := invertibleCurves(p, d)
			for n, f := range lawsOfHeights(t, p, d) {
				h, list := heightByDefinition(t, f)
				if h == 0 {
					continue
				}
				a := curves[(n*5+2)%len(curves)]
				a.Coefficients[1] = int64(n)%(p-1) + 1
				k := int64(len(list))
				cut := made(t, "CutSeries")(impl.CutSeries(a, k))
				back := made(t, "ReverseSeries")(impl.ReverseSeries(cut))
				want := compositionOf(cut, compositionOf(series(p, append([]int64{0}, list...)...), back))
				wantsList(t, "SeriesOfHeight", want.Coefficients[1:], impl.ErrNone)(impl.SeriesOfHeight(inCoordinate(t, f, a)))
			}
		}
	}
}

// TestHeightsOfTangents checks laws of the tangent for odd p: their multiple by p is t^p times c with the
// exponent (p - 1) / 2, which is 1 or -1.
func TestHeightsOfTangents(t *testing.T) {
	for _, p := range []int64{3, 5, 7} {
		for c := int64(1); c < p; c++ {
			unit := int64(1)
			for range (p - 1) / 2 {
				unit = unit * c % p
			}
			if unit != 1 && unit != p-1 {
				t.Fatalf("%d is no square root of 1 modulo %d", unit, p)
			}
			for _, d := range degrees {
				if d < p {
					wantsHeight(t, tangentLawOf(p, d, c), 0)
					continue
				}
				list := make([]int64, d/p)
				list[0] = unit
				wantsHeight(t, tangentLawOf(p, d, c), 1, list...)
			}
		}
	}
}

// pointsOfWeierstrass counts the solutions of y^2 + a1 x y + a3 y = x^3 + a2 x^2 + a4 x + a6 modulo p.
func pointsOfWeierstrass(p int64, list []int64) int64 {
	count := int64(0)
	for x := range p {
		for y := range p {
			left := y*y + list[0]*x*y + list[2]*y
			right := x*x*x + list[1]*x*x + list[3]*x + list[4]
			count += oneIf((left-right)%p == 0)
		}
	}
	return count
}

// TestHasseOfWeierstrass checks that the coefficient of Hasse of a curve in the form of Weierstrass is the
// opposite of the number of its points modulo p, also where it is singular.
func TestHasseOfWeierstrass(t *testing.T) {
	for _, p := range typicalPrimes {
		for n, list := range allLists(p, 5) {
			if p == 5 && n%11 != 0 || p == 7 && n%53 != 0 {
				continue
			}
			d := p + int64(n)%(11-p)
			f := madePlane(t, "WeierstrassLaw")(impl.WeierstrassLaw(p, d, list))
			want := (p*p - pointsOfWeierstrass(p, list)) % p
			wants(t, "HasseOfLaw("+textOf(f)+")", want, impl.ErrNone)(impl.HasseOfLaw(f))
		}
	}
}

// TestHondaLaw compares laws with known coefficients, which are x + y - C(p^h) up to the degree p^h, and with
// laws over the rational numbers.
func TestHondaLaw(t *testing.T) {
	wantsPlane(t, "HondaLaw", bilinearLaw(2, 2, 1), impl.ErrNone)(impl.HondaLaw(2, 1, 2))
	wantsPlane(t, "HondaLaw", parsed(t, "2:0,1,0,0,0,0/1,0,0,0,0/0,0,1,0/0,0,0/0,0/0"), impl.ErrNone)(impl.HondaLaw(2, 2, 5))
	wantsPlane(t, "HondaLaw", planeOfTerms(2, 8, [3]int64{4, 4, 1}), impl.ErrNone)(impl.HondaLaw(2, 3, 8))
	wantsPlane(t, "HondaLaw", planeOfTerms(3, 3, [3]int64{1, 2, 2}, [3]int64{2, 1, 2}), impl.ErrNone)(impl.HondaLaw(3, 1, 3))
	wantsPlane(t, "HondaLaw", planeOfTerms(3, 9, [3]int64{3, 6, 2}, [3]int64{6, 3, 2}), impl.ErrNone)(impl.HondaLaw(3, 2, 9))
	wantsPlane(t, "HondaLaw", planeOfTerms(5, 5, [3]int64{1, 4, 4}, [3]int64{4, 1, 4}, [3]int64{2, 3, 3}, [3]int64{3, 2, 3}), impl.ErrNone)(impl.HondaLaw(5, 1, 5))
	for _, p := range typicalPrimes {
		for h := int64(1); h <= 3; h++ {
			integers := make([]int64, h)
			integers[h-1] = 1
			law := typicalOver(t, p, integers)
			for _, d := range degrees {
				wantsPlane(t, "HondaLaw", lawModulo(t, p, d, law), impl.ErrNone)(impl.HondaLaw(p, h, d))
				want := bilinearLaw(p, d, 0)
				if q := powerUpTo(p, h); q == d {
					want = planeSum(want, lazardPlane(p, d, d, -1))
				} else if q < d {
					continue
				}
				wantsPlane(t, "HondaLaw", want, impl.ErrNone)(impl.HondaLaw(p, h, d))
			}
		}
	}
}

// TestHeightsOfHondaLaws checks laws of Honda in all degrees, those just below p^h and at it among them:
// their multiple by p is t^(p^h).
func TestHeightsOfHondaLaws(t *testing.T) {
	for _, p := range typicalPrimes {
		for h := int64(1); h <= 3; h++ {
			for _, d := range degrees {
				f := madePlane(t, "HondaLaw")(impl.HondaLaw(p, h, d))
				q := powerUpTo(p, h)
				if q > d {
					wantsHeight(t, f, 0)
					continue
				}
				list := make([]int64, d/q)
				list[0] = 1
				wantsHeight(t, f, h, list...)
			}
		}
	}
}

// numbersOfMultiples returns numbers of multiples for a p: 0, 1 and -1, powers of p, multiples of p that are
// none, numbers that are no multiples, the limits, and powers of all four that are near these.
func numbersOfMultiples(p int64) []int64 {
	list := []int64{0, 1, 1000000, 999999, 999998, 524288, 531441, 390625, 823543, 11, 13, 6, 35, 420}
	for k := int64(1); k <= 4; k++ {
		q := powerUpTo(p, k)
		list = append(list, q, q-1, q+1, 11*q, 13*q+p, 6*q)
	}
	for _, n := range slices.Clone(list) {
		list = append(list, -n)
	}
	return list
}

// exponentIn returns the greatest k for which p^k divides n.
func exponentIn(p int64, n int64) int64 {
	k := int64(0)
	for n%p == 0 {
		n /= p
		k++
	}
	return k
}

// wantsOrder checks OrderOfMultiple; 0 is wanted for a multiple that is 0.
func wantsOrder(t *testing.T, f impl.Plane, n int64, order int64) {
	t.Helper()
	code := int64(impl.ErrNone)
	if order == 0 {
		code = impl.ErrNotFound
	}
	wants(t, "OrderOfMultiple("+textOf(f)+", "+strconv.FormatInt(n, 10)+")", order, code)(impl.OrderOfMultiple(f, n))
}

// TestOrderOfMultiple compares orders with those of multiples by one sum after the other, of their inverses,
// which begin at the same exponent, and with the height.
func TestOrderOfMultiple(t *testing.T) {
	wantsOrder(t, bilinearLaw(2, 3, 1), 2, 2)
	wantsOrder(t, bilinearLaw(2, 3, 1), 4, 0)
	wantsOrder(t, bilinearLaw(2, 4, 1), 4, 4)
	wantsOrder(t, bilinearLaw(2, 10, 1), -24, 8)
	wantsOrder(t, bilinearLaw(2, 10, 1), 48, 0)
	wantsOrder(t, bilinearLaw(7, 10, 0), 999999, 0)
	wantsOrder(t, bilinearLaw(7, 10, 0), -1000000, 1)
	for _, p := range typicalPrimes {
		for _, d := range degrees {
			for k, f := range lawsOfHeights(t, p, d) {
				h, _ := heightByDefinition(t, f)
				multiple := monomialOf(p, d, 0, 0)
				for n := int64(0); n <= 2*p && k%4 == 0; n++ {
					wantsOrder(t, f, n, orderOf(multiple))
					wantsOrder(t, f, -n, orderOf(multiple))
					multiple = inCurvesOfOne(f, multiple, monomialOf(p, d, 1, 1))
				}
				for i, n := range numbersOfMultiples(p) {
					if (i+k)%7 != 0 && d > 3 {
						continue
					}
					order := int64(0)
					if n != 0 && (h > 0 || n%p != 0) {
						order = powerUpTo(p, h*exponentIn(p, n))
					}
					if order > d {
						order = 0
					}
					wantsOrder(t, f, n, order)
				}
			}
		}
	}
}

// TestAreSameHeight compares all pairs of some laws of each modulus and degree.
func TestAreSameHeight(t *testing.T) {
	counts := map[string]int{}
	for _, p := range typicalPrimes {
		for _, d := range degrees {
			laws := lawsOfHeights(t, p, d)
			var heights []int64
			var series [][]int64
			for _, f := range laws {
				h, list := heightByDefinition(t, f)
				heights, series = append(heights, h), append(series, list)
			}
			for n, f := range laws {
				for _, i := range []int{n, (n + 1) % len(laws), (n*3 + 2) % len(laws), (n*7 + 5) % len(laws)} {
					g, h, list, k, other := laws[i], heights[n], series[n], heights[i], series[i]
					want := h == k && (h == 0 || list[0] == other[0])
					wants(t, "AreSameHeight("+textOf(f)+", "+textOf(g)+")", want, impl.ErrNone)(impl.AreSameHeight(f, g))
					wants(t, "AreSameHeight("+textOf(g)+", "+textOf(f)+")", want, impl.ErrNone)(impl.AreSameHeight(g, f))
					switch {
					case h == 0 && k == 0:
						counts["both none"]++
					case h == 0 || k == 0:
						counts["one none"]++
					case h != k:
						counts["other heights"]++
					case list[0] != other[0]:
						counts["other units"]++
					default:
						counts["same"]++
					}
				}
			}
		}
	}
	for _, kind := range []string{"both none", "one none", "other heights", "other units", "same"} {
		if counts[kind] < 20 {
			t.Errorf("few pairs of a kind: %v", counts)
		}
	}
}

// TestAreSameHeightInExamples gives pairs for each reason: units that differ with the same height, the same
// units with other heights, the same height and unit with other series, and laws without a height.
func TestAreSameHeightInExamples(t *testing.T) {
	check := func(f impl.Plane, g impl.Plane, want bool) {
		t.Helper()
		wants(t, "AreSameHeight("+textOf(f)+", "+textOf(g)+")", want, impl.ErrNone)(impl.AreSameHeight(f, g))
		wants(t, "AreSameHeight("+textOf(g)+", "+textOf(f)+")", want, impl.ErrNone)(impl.AreSameHeight(g, f))
	}
	typical := func(p int64, d int64, list ...int64) impl.Plane {
		return madePlane(t, "TypicalLaw")(impl.TypicalLaw(p, p, d, list))
	}
	check(tangentLawOf(3, 3, 1), tangentLawOf(3, 3, 2), false)
	check(tangentLawOf(7, 7, 2), tangentLawOf(7, 7, 4), true)
	check(tangentLawOf(7, 7, 2), tangentLawOf(7, 7, 3), false)
	check(typical(3, 9, 0, 1), typical(3, 9, 0, 2), false)
	check(typical(3, 8, 0, 1), typical(3, 8, 0, 2), true)
	check(typical(2, 10, 1), typical(2, 10, 0, 1), false)
	check(typical(2, 10, 0, 1), typical(2, 10, 0, 0, 1), false)
	check(typical(2, 10, 1), typical(2, 10, 1, 1), true)
	check(typical(2, 10, 1), bilinearLaw(2, 10, 1), true)
	check(typical(2, 10, 0, 0, 1), bilinearLaw(2, 10, 0), false)
	check(typical(2, 7, 0, 0, 1), bilinearLaw(2, 7, 0), true)
	check(tangentLawOf(2, 10, 1), bilinearLaw(2, 10, 0), true)
	check(bilinearLaw(2, 10, 1), bilinearLaw(2, 10, 0), false)
	for _, p := range typicalPrimes {
		for d := int64(1); d < p; d++ {
			check(bilinearLaw(p, d, 1), bilinearLaw(p, d, 0), true)
		}
		check(bilinearLaw(p, p, 1), bilinearLaw(p, p, 0), false)
		check(bilinearLaw(p, p, 1), bilinearLaw(p, p, p-1), true)
	}
}

// wantsCodeOfHeights checks that all functions that take one law return a code.
func wantsCodeOfHeights(t *testing.T, f impl.Plane, code int64) {
	t.Helper()
	call := "(" + textOf(f) + ")"
	wants(t, "HeightOf"+call, int64(0), code)(impl.HeightOf(f))
	wants(t, "UnitOfHeight"+call, int64(0), code)(impl.UnitOfHeight(f))
	wantsList[int64](t, "SeriesOfHeight"+call, nil, code)(impl.SeriesOfHeight(f))
	wants(t, "HasseOfLaw"+call, int64(0), code)(impl.HasseOfLaw(f))
}

// noHeightLaws are planes that are no laws, some with the modulus and degree of laws that have heights.
func noHeightLaws() []impl.Plane {
	return append(noLaws(), withTerm(bilinearLaw(2, 10, 1), 5, 5), withTerm(bilinearLaw(2, 3, 1), 1, 2), withTerm(bilinearLaw(7, 1, 0), 0, 0),
		withTerm(bilinearLaw(4, 4, 1), 1, 2), withTerm(bilinearLaw(5, 4, 1), 2, 0), withTerm(bilinearLaw(7, 7, 1), 3, 4), lazardPlane(3, 9, 9, 1), termOf(3, 3, 1, 0, 1))
}

// TestNoLawsForHeights gives each argument that has to be a law one that is none, also where multiples are
// out of their range, or the other law is not alike or has a wrong modulus.
func TestNoLawsForHeights(t *testing.T) {
	others := []impl.Plane{bilinearLaw(10, 2, 1), bilinearLaw(2, 3, 1), bilinearLaw(7, 1, 0), bilinearLaw(4, 4, 1), bilinearLaw(2, 10, 0), termOf(10, 2, 1, 0, 1), {}}
	for _, bad := range noHeightLaws() {
		wantsCodeOfHeights(t, bad, impl.ErrInvalid)
		for _, n := range []int64{math.MinInt64, -1000001, -1, 0, 1, 2, 1000001, math.MaxInt64} {
			wants(t, "OrderOfMultiple", int64(0), impl.ErrInvalid)(impl.OrderOfMultiple(bad, n))
		}
		for _, f := range append(others, bad) {
			wants(t, "AreSameHeight", false, impl.ErrInvalid)(impl.AreSameHeight(bad, f))
			wants(t, "AreSameHeight", false, impl.ErrInvalid)(impl.AreSameHeight(f, bad))
		}
	}
}

// TestOtherModuli gives moduli that are none of the four prime numbers, also where there is no height for
// another reason: a degree below the modulus, the additive law, or a multiple that is 0.
func TestOtherModuli(t *testing.T) {
	for _, m := range otherModuli {
		for _, d := range degrees {
			laws := []impl.Plane{bilinearLaw(m, d, 0), bilinearLaw(m, d, 1), bilinearLaw(m, d, m/2), tangentLawOf(m, d, m-1)}
			for n, f := range laws {
				wantsCodeOfHeights(t, f, impl.ErrState)
				for _, number := range []int64{-1000000, -m, -1, 0, 1, 2, m, 1000000} {
					wants(t, "OrderOfMultiple", int64(0), impl.ErrState)(impl.OrderOfMultiple(f, number))
				}
				wants(t, "AreSameHeight", false, impl.ErrState)(impl.AreSameHeight(f, f))
				wants(t, "AreSameHeight", false, impl.ErrState)(impl.AreSameHeight(f, laws[(n+1)%len(laws)]))
			}
		}
	}
}

// TestMultiplesOutOfRange gives numbers next to the limits and far from them, also with wrong moduli, which
// are told behind that.
func TestMultiplesOutOfRange(t *testing.T) {
	for _, m := range append(slices.Clone(typicalPrimes), otherModuli...) {
		for _, d := range degrees {
			for _, n := range []int64{math.MinInt64, -1000001, 1000001, math.MaxInt64} {
				wants(t, "OrderOfMultiple", int64(0), impl.ErrRange)(impl.OrderOfMultiple(bilinearLaw(m, d, 0), n))
				wants(t, "OrderOfMultiple", int64(0), impl.ErrRange)(impl.OrderOfMultiple(bilinearLaw(m, d, 1), n))
			}
		}
	}
}

// TestHeightsNotAlike gives laws with other moduli or degrees: of two that have heights, of one that has a
// wrong modulus, and of two that have.
func TestHeightsNotAlike(t *testing.T) {
	laws := []impl.Plane{
		bilinearLaw(2, 4, 1), bilinearLaw(2, 5, 1), bilinearLaw(2, 1, 0), bilinearLaw(3, 4, 1), bilinearLaw(3, 5, 0), bilinearLaw(7, 4, 0), bilinearLaw(7, 10, 0),
		bilinearLaw(4, 4, 1), bilinearLaw(4, 5, 1), bilinearLaw(11, 4, 0), bilinearLaw(10000, 10, 0), bilinearLaw(9999, 10, 0),
	}
	for n, f := range laws {
		for k, g := range laws {
			if n != k {
				wants(t, "AreSameHeight("+textOf(f)+", "+textOf(g)+")", false, impl.ErrRange)(impl.AreSameHeight(f, g))
			}
		}
	}
}

// TestNoHondaLaws gives p, h and d out of their ranges, one or more of them; all of these are ErrRange, also
// where p is no modulus.
func TestNoHondaLaws(t *testing.T) {
	primes := append(slices.Clone(typicalPrimes), noTypicalPrimes...)
	for _, p := range append(primes, noModuli...) {
		for _, h := range []int64{math.MinInt64, -1, 0, 1, 2, 3, 4, 5, math.MaxInt64} {
			for _, d := range []int64{math.MinInt64, -1, 0, 1, 2, 10, 11, 12, math.MaxInt64} {
				if slices.Contains(typicalPrimes, p) && h >= 1 && h <= 3 && d >= 1 && d <= 10 {
					checkLaw(t, "HondaLaw", madePlane(t, "HondaLaw")(impl.HondaLaw(p, h, d)), p, d)
				} else {
					wantsNoPlane(t, "HondaLaw", impl.ErrRange)(impl.HondaLaw(p, h, d))
				}
			}
		}
	}
}

// operationsOnHeights are all functions that take a law, given out as lists.
func operationsOnHeights() map[string]func(f impl.Plane) ([]int64, int64) {
	inList := func(n int64, code int64) ([]int64, int64) { return []int64{n}, code }
	return map[string]func(f impl.Plane) ([]int64, int64){
		"HeightOf":        func(f impl.Plane) ([]int64, int64) { return inList(impl.HeightOf(f)) },
		"UnitOfHeight":    func(f impl.Plane) ([]int64, int64) { return inList(impl.UnitOfHeight(f)) },
		"SeriesOfHeight":  impl.SeriesOfHeight,
		"HasseOfLaw":      func(f impl.Plane) ([]int64, int64) { return inList(impl.HasseOfLaw(f)) },
		"OrderOfMultiple": func(f impl.Plane) ([]int64, int64) { return inList(impl.OrderOfMultiple(f, -6)) },
		"AreSameHeight": func(f impl.Plane) ([]int64, int64) {
			yes, code := impl.AreSameHeight(f, f)
			return inList(oneIf(yes), code)
		},
	}
}

// checkListMemory checks that a function that returns a list does not change the law that it takes, or the spare
// capacity behind its lists, also when the result is written over, and that equal calls have equal results.
func checkListMemory(t *testing.T, name string, f impl.Plane, operation func(f impl.Plane) ([]int64, int64)) {
	t.Helper()
	for i, row := range f.Table {
		f.Table[i] = append(row, 50)[:len(row)]
	}
	before := copyOfPlane(f)
	first, code := operation(f)
	if code != impl.ErrNone || len(first) == 0 {
		t.Errorf("%s = %v, %d", name, first, code)
	}
	want := slices.Clone(first)
	for i := range first[:cap(first)] {
		first[:cap(first)][i] = -1
	}
	for i, row := range f.Table {
		if !slices.Equal(row[:len(row)+1], append(before.Table[i], 50)) {
			t.Errorf("%s changed or kept the list %d: %v", name, i, row[:len(row)+1])
		}
	}
	wantsList(t, name, want, impl.ErrNone)(operation(f))
}

// TestHeightsMemory checks all functions of the chapter.
func TestHeightsMemory(t *testing.T) {
	for name, operation := range operationsOnHeights() {
		checkListMemory(t, name, madePlane(t, "TypicalLaw")(impl.TypicalLaw(2, 2, 10, []int64{1, 1})), operation)
	}
	checkMemory(t, "HondaLaw", func(f impl.Plane, a impl.Series) (impl.Plane, int64) { return impl.HondaLaw(7, 1, 4) })
}
