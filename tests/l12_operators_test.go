package tests

import (
	"math"
	"slices"
	"strconv"
	"testing"

	"loop.example/g01152/impl"
)

// moduliOfOperators has moduli that the numbers 2 to 5 divide and such that they don't, even and odd ones,
// primes and products.
var moduliOfOperators = []int64{2, 3, 4, 5, 6, 8, 9, 10, 15, 25, 30, 60, 97, 125, 9973, 9999, 10000}

// noFrobenius are integers that are out of the range of Frobenius operators.
var noFrobenius = []int64{math.MinInt64, -5, -2, -1, 0, 1, 6, 7, 8, 10, 11, 100, math.MaxInt64}

// callUnder returns the text of a call with a law, a curve and a number.
func callUnder(name string, f impl.Plane, a impl.Series, n int64) string {
	return name + "(" + textOf(f) + ", " + textOfSeries(a) + ", " + strconv.FormatInt(n, 10) + ")"
}

// textOfSeries returns the text of a series.
func textOfSeries(a impl.Series) string {
	text, _ := impl.SeriesText(a)
	return text
}

// cyclic is a series in u whose coefficients are whole combinations of the powers of some z, of which nothing is
// known but z^n = 1: the number at z^k u^i is at i and k.
type cyclic [][]int64

// zeroCyclic returns the series 0 of degree d.
func zeroCyclic(d int64, n int64) cyclic {
	a := make(cyclic, d+1)
	for i := range a {
		a[i] = make([]int64, n)
	}
	return a
}

// addCyclic adds c times a product of two series to a sum.
func addCyclic(m int64, sum cyclic, c int64, a cyclic, b cyclic) {
	for i := range sum {
		for j := range i + 1 {
			for k, x := range a[j] {
				if x == 0 {
					continue
				}
				for l, y := range b[i-j] {
					at := &sum[i][(k+l)%len(sum[i])]
					*at = (*at + x*y%m*c) % m
				}
			}
		}
	}
}

// cyclicPowers returns the powers of a series with the exponents 0 to its degree.
func cyclicPowers(m int64, a cyclic) []cyclic {
	d, n := int64(len(a))-1, int64(len(a[0]))
	one := zeroCyclic(d, n)
	one[0][0] = 1
	powers := []cyclic{one}
	for i := range d {
		next := zeroCyclic(d, n)
		addCyclic(m, next, 1, powers[i], a)
		powers = append(powers, next)
	}
	return powers
}

// cyclicInPlane returns f(a, b), from all terms.
func cyclicInPlane(f impl.Plane, a cyclic, b cyclic) cyclic {
	left, right := cyclicPowers(f.Modulus, a), cyclicPowers(f.Modulus, b)
	sum := zeroCyclic(int64(len(a))-1, int64(len(a[0])))
	for i, row := range f.Table {
		for j, c := range row {
			if c != 0 {
				addCyclic(f.Modulus, sum, c, left[i], right[j])
			}
		}
	}
	return sum
}

// wholeOf returns the number that a combination of powers of z is for a root of unity z whose order is their
// number, which is a prime number or 4, and whether it is one.
func wholeOf(m int64, list []int64) (int64, bool) {
	n := len(list)
	if n == 4 {
		// z^2 is -1.
		return (list[0] - list[2] + m) % m, list[1] == list[3]
	}
	// 1 is the only power that may have another number than the others, whose sum is -1.
	isWhole := true
	for _, c := range list[1:] {
		isWhole = isWhole && c == list[n-1]
	}
	return (list[0] - list[n-1] + m) % m, isWhole
}

// sumOverRoots returns the sum of the curves a(z^i u) under f, for all powers of a root of unity z of the order n,
// as a series in u and without the program. It checks that there are only numbers, and only at powers of u^n.
func sumOverRoots(t *testing.T, f impl.Plane, a impl.Series, n int64) impl.Series {
	t.Helper()
	m, d := f.Modulus, degreeOfPlane(f)
	sum := zeroCyclic(d, n)
	for i := range n {
		curve := zeroCyclic(d, n)
		for k, c := range a.Coefficients {
			curve[k][int64(k)*i%n] = c
		}
		sum = cyclicInPlane(f, sum, curve)
	}
	whole := series(m)
	for k, list := range sum {
		c, isWhole := wholeOf(m, list)
		if !isWhole || int64(k)%n != 0 && c != 0 {
			t.Fatalf("the sum over roots of %s under %s has %v at %d", textOfSeries(a), textOf(f), list, k)
		}
		whole.Coefficients = append(whole.Coefficients, c)
	}
	return whole
}

// everyOf returns the series with the coefficients at t^(k n) of another one at t^k.
func everyOf(a impl.Series, n int64) impl.Series {
	b := series(a.Modulus)
	for k := int64(0); k <= degreeOf(a); k += n {
		b.Coefficients = append(b.Coefficients, a.Coefficients[k])
	}
	return b
}

// cutSeries returns a series with the coefficients up to t^d.
func cutSeries(a impl.Series, d int64) impl.Series {
	return series(a.Modulus, slices.Clone(a.Coefficients[:d+1])...)
}

// spreadOf returns a(t^n) in the same degree.
func spreadOf(a impl.Series, n int64) impl.Series {
	b := monomialOf(a.Modulus, degreeOf(a), 0, 0)
	for k := int64(0); k*n <= degreeOf(a); k++ {
		b.Coefficients[k*n] = a.Coefficients[k]
	}
	return b
}

// wantsFrobenius checks FrobeniusUnder and NormUnder against a sum over roots as a series in u.
func wantsFrobenius(t *testing.T, f impl.Plane, a impl.Series, n int64, sum impl.Series) {
	t.Helper()
	d := degreeOfPlane(f) / n
	wantsSeries(t, callUnder("FrobeniusUnder", f, a, n), everyOf(sum, n), impl.ErrNone)(impl.FrobeniusUnder(f, a, n))
	wantsSeries(t, callUnder("NormUnder", f, a, n), cutSeries(sum, d*n), impl.ErrNone)(impl.NormUnder(f, a, n))
}

// frobeniusOf returns what the Frobenius operator of n makes of a curve, as the program tells it.
func frobeniusOf(t *testing.T, f impl.Plane, a impl.Series, n int64) impl.Series {
	t.Helper()
	return made(t, callUnder("FrobeniusUnder", f, a, n))(impl.FrobeniusUnder(f, a, n))
}

// ordersUpTo returns those of the numbers 2 to 5 that are at most a degree.
func ordersUpTo(d int64) []int64 {
	var list []int64
	for n := int64(2); n <= min(d, 5); n++ {
		list = append(list, n)
	}
	return list
}

// knownOperated are the laws that lawsOfOperators returns for each modulus and degree, kept as one test has found
// them.
var knownOperated = map[[2]int64][]impl.Plane{}

// lawsOfOperators returns laws that are standard, typical for each prime and neither.
func lawsOfOperators(t *testing.T, m int64, d int64) []impl.Plane {
	t.Helper()
	if list := knownOperated[[2]int64{m, d}]; list != nil {
		return list
	}
	list := []impl.Plane{bilinearLaw(m, d, 0), bilinearLaw(m, d, 1), bilinearLaw(m, d, m-1), tangentLawOf(m, d, 1)}
	parameters := sampleParameters(m, 5)
	for _, n := range []int{1, 7, 9} {
		list = append(list, madePlane(t, "WeierstrassLaw")(impl.WeierstrassLaw(m, d, parameters[n])))
	}
	for n, p := range typicalPrimes {
		f := madePlane(t, "TypicalLaw")(impl.TypicalLaw(p, m, d, parameters[n+5][:3]))
		list = append(list, f, inCoordinate(t, f, invertibleCurves(m, d)[n+7]))
	}
	if d > 1 {
		for _, c := range sampleParameters(m, d-1)[1:] {
			list = append(list, madePlane(t, "LawOfParameters")(impl.LawOfParameters(m, c)))
		}
	}
	knownOperated[[2]int64{m, d}] = list
	return list
}

// TestOperatorsInExamples gives curves that are known.
func TestOperatorsInExamples(t *testing.T) {
	a := series(5, 0, 1, 2, 3, 4)
	wantsSeries(t, "VerschiebungOf", series(5, 0, 0, 1, 0, 2), impl.ErrNone)(impl.VerschiebungOf(a, 2))
	wantsSeries(t, "VerschiebungOf", series(5, 0, 0, 0, 1, 0), impl.ErrNone)(impl.VerschiebungOf(a, 3))
	wantsSeries(t, "HomothetyOf", series(5, 0, 2, 3, 4, 4), impl.ErrNone)(impl.HomothetyOf(a, 2))
	// (1 + u) (1 - u) is 1 - u^2, and the product of 1 + u, 1 + z u and 1 + z^2 u is 1 + u^3.
	wantsFrobenius(t, bilinearLaw(5, 2, 1), series(5, 0, 1, 0), 2, series(5, 0, 0, 4))
	wantsFrobenius(t, bilinearLaw(10, 5, 1), series(10, 0, 1, 0, 0, 0, 0), 2, series(10, 0, 0, 9, 0, 0, 0))
	wantsFrobenius(t, bilinearLaw(10, 5, 1), series(10, 0, 1, 0, 0, 0, 0), 3, series(10, 0, 0, 0, 1, 0, 0))
	wantsFrobenius(t, bilinearLaw(10, 5, 1), series(10, 0, 1, 0, 0, 0, 0), 4, series(10, 0, 0, 0, 0, 9, 0))
	wantsFrobenius(t, bilinearLaw(10, 5, 1), series(10, 0, 1, 0, 0, 0, 0), 5, series(10, 0, 0, 0, 0, 0, 1))
	// (1 + 3 u^2 + 2 u) (1 + 3 u^2 - 2 u) is (1 + 3 u^2)^2 - 4 u^2.
	wantsFrobenius(t, bilinearLaw(10, 4, 1), series(10, 0, 2, 3, 0, 0), 2, series(10, 0, 0, 2, 0, 9))
	// Modulo 2 both curves are the same, and their sum is the multiple by 2.
	wantsFrobenius(t, bilinearLaw(2, 4, 1), series(2, 0, 1, 1, 0, 0), 2, series(2, 0, 0, 1, 0, 1))
	wantsFrobenius(t, bilinearLaw(2, 4, 1), series(2, 0, 1, 1, 0, 0), 4, series(2, 0, 0, 0, 0, 1))
	wantsFrobenius(t, bilinearLaw(5, 4, 0), series(5, 0, 1, 0, 0, 0), 2, series(5, 0, 0, 0, 0, 0))
	wantsFrobenius(t, bilinearLaw(5, 4, 0), series(5, 0, 1, 2, 3, 4), 3, series(5, 0, 0, 0, 4, 0))
	// (1 + t) (1 + 2 t^2) (1 + t^3) (1 + 3 t^4)
	wantsList(t, "CoordinatesUnder", []int64{1, 2, 1, 3}, impl.ErrNone)(impl.CoordinatesUnder(bilinearLaw(5, 4, 1), a))
	wantsSeries(t, "CurveOfCoordinates", a, impl.ErrNone)(impl.CurveOfCoordinates(bilinearLaw(5, 4, 1), []int64{1, 2, 1, 3}))
	wants(t, "IsTypicalCurve", true, impl.ErrNone)(impl.IsTypicalCurve(bilinearLaw(5, 4, 0), series(5, 0, 1, 0, 0, 0), 3))
	wants(t, "IsTypicalCurve", false, impl.ErrNone)(impl.IsTypicalCurve(bilinearLaw(5, 4, 0), series(5, 0, 1, 1, 0, 0), 3))
	wants(t, "IsTypicalCurve", true, impl.ErrNone)(impl.IsTypicalCurve(bilinearLaw(5, 4, 0), series(5, 0, 1, 1, 0, 1), 2))
	wants(t, "IsTypicalCurve", false, impl.ErrNone)(impl.IsTypicalCurve(bilinearLaw(5, 4, 1), series(5, 0, 1, 0, 0, 0), 2))
}

// TestVerschiebungOf takes all numbers of the range: those next to the degree, and those behind it, which leave
// nothing.
func TestVerschiebungOf(t *testing.T) {
	for _, m := range moduli {
		for _, d := range degrees {
			for _, a := range sampleCurves(m, d) {
				for n := int64(1); n <= 100; n++ {
					wantsSeries(t, "VerschiebungOf("+textOfSeries(a)+", "+strconv.FormatInt(n, 10)+")", spreadOf(a, n), impl.ErrNone)(impl.VerschiebungOf(a, n))
				}
				wantsSeries(t, "VerschiebungOf by 1", a, impl.ErrNone)(impl.VerschiebungOf(a, 1))
				wantsSeries(t, "VerschiebungOf by the degree", monomialOf(m, d, d, a.Coefficients[1]), impl.ErrNone)(impl.VerschiebungOf(a, d))
				wantsSeries(t, "VerschiebungOf by one more", monomialOf(m, d, 0, 0), impl.ErrNone)(impl.VerschiebungOf(a, d+1))
				for _, n := range ordersUpTo(d) {
					wantsSeries(t, "VerschiebungOf", compositionOf(a, monomialOf(m, d, n, 1)), impl.ErrNone)(impl.VerschiebungOf(a, n))
				}
			}
		}
	}
}

// TestHomothetyOf takes all numbers of small moduli, and 0, 1, M - 1 and others of all moduli.
func TestHomothetyOf(t *testing.T) {
	for _, m := range moduli {
		for _, d := range degrees {
			for n, a := range sampleCurves(m, d) {
				for k, c := range sample(m) {
					if k > 3 && (n+k)%9 != 0 && c != m-1 {
						continue
					}
					want, factor := monomialOf(m, d, 0, 0), int64(1)
					for i := range want.Coefficients {
						want.Coefficients[i] = a.Coefficients[i] * factor % m
						factor = factor * c % m
					}
					wantsSeries(t, "HomothetyOf("+textOfSeries(a)+", "+strconv.FormatInt(c, 10)+")", want, impl.ErrNone)(impl.HomothetyOf(a, c))
				}
				wantsSeries(t, "HomothetyOf by 0", monomialOf(m, d, 0, 0), impl.ErrNone)(impl.HomothetyOf(a, 0))
				wantsSeries(t, "HomothetyOf by 1", a, impl.ErrNone)(impl.HomothetyOf(a, 1))
				wantsSeries(t, "HomothetyOf by M - 1", compositionOf(a, monomialOf(m, d, 1, m-1)), impl.ErrNone)(impl.HomothetyOf(a, m-1))
			}
		}
	}
}

// TestFrobeniusUnder compares Frobenius operators under laws of all kinds with sums over roots of unity without
// the program. The curves 0 and t are among those taken.
func TestFrobeniusUnder(t *testing.T) {
	for _, m := range moduliOfOperators {
		for _, d := range degrees {
			curves := sampleCurves(m, d)
			for k, f := range lawsOfOperators(t, m, d) {
				for _, n := range ordersUpTo(d) {
					a := curves[(k*5+int(n))%len(curves)]
					if d < 8 || (k+int(n+m))%3 == 0 {
						wantsFrobenius(t, f, a, n, sumOverRoots(t, f, a, n))
					}
				}
			}
		}
	}
}

// TestFrobeniusOfAllCurves takes all curves of all laws of small moduli and degrees.
func TestFrobeniusOfAllCurves(t *testing.T) {
	for _, kind := range [][2]int64{{2, 2}, {2, 3}, {2, 4}, {2, 5}, {3, 2}, {3, 3}, {4, 2}, {4, 3}, {6, 2}} {
		m, d := kind[0], kind[1]
		for _, f := range lawsOf(t, kind) {
			for _, a := range curvesWithFirst(m, d, numbersModulo(m)) {
				for _, n := range ordersUpTo(d) {
					wantsFrobenius(t, f, a, n, sumOverRoots(t, f, a, n))
				}
			}
		}
	}
}

// rootsIn returns the numbers modulo m that may take the place of a root of unity of the order n.
func rootsIn(m int64, n int64) []int64 {
	polynomial := slices.Repeat([]int64{1}, int(n))
	if n == 4 {
		polynomial = []int64{1, 0, 1}
	}
	var roots []int64
	for w := range m {
		value := int64(0)
		for _, c := range polynomial {
			value = (value*w + c) % m
		}
		if value == 0 {
			roots = append(roots, w)
		}
	}
	return roots
}

// TestFrobeniusWithRoots compares Frobenius operators with sums over numbers modulo M that are roots of unity,
// without the program: relations of powers of z hold for them, too.
func TestFrobeniusWithRoots(t *testing.T) {
	counts := map[int64]int{}
	for _, m := range []int64{2, 3, 4, 5, 6, 7, 9, 10, 11, 13, 21, 25, 31, 41, 55, 61, 91, 97, 101, 341, 9973, 10000} {
		for _, d := range degrees {
			for _, n := range ordersUpTo(d) {
				roots := rootsIn(m, n)
				if len(roots) == 0 {
					continue
				}
				counts[n]++
				curves, laws := sampleCurves(m, d), lawsOfOperators(t, m, d)
				for k := range 3 {
					f, a := laws[(k*5+int(d+n))%len(laws)], curves[(k*3+int(d))%len(curves)]
					w, factor := roots[k%len(roots)], int64(1)
					sum := monomialOf(m, d, 0, 0)
					for range n {
						sum = inCurvesOfOne(f, sum, compositionOf(a, monomialOf(m, d, 1, factor)))
						factor = factor * w % m
					}
					wantsFrobenius(t, f, a, n, sum)
				}
			}
		}
	}
	for n := int64(2); n <= 5; n++ {
		if counts[n] < 20 {
			t.Errorf("numbers of moduli and degrees with roots of unity: %v", counts)
		}
	}
}

// TestFrobeniusUnderBilinearLaws takes x + y + c x y and the curves a t: 1 and c times the sum is the product of
// all 1 + c a z^i u, that is 1 less the power of -c a u with the exponent n.
func TestFrobeniusUnderBilinearLaws(t *testing.T) {
	for _, m := range moduliOfOperators {
		for _, d := range degrees {
			for _, n := range ordersUpTo(d) {
				for _, c := range []int64{0, 1, m / 2, m - 1} {
					for _, a := range []int64{0, 1, m / 3, m - 1} {
						want := a
						for range n - 1 {
							want = want * c % m * (m - a) % m
						}
						f, curve := bilinearLaw(m, d, c), monomialOf(m, d, 1, a)
						wantsSeries(t, callUnder("FrobeniusUnder", f, curve, n), monomialOf(m, d/n, 1, want), impl.ErrNone)(impl.FrobeniusUnder(f, curve, n))
						wantsSeries(t, callUnder("NormUnder", f, curve, n), monomialOf(m, d/n*n, n, want), impl.ErrNone)(impl.NormUnder(f, curve, n))
					}
				}
			}
		}
	}
}

// TestFrobeniusUnderAddition checks that under x + y the numbers at the powers of t^n are multiplied by n.
func TestFrobeniusUnderAddition(t *testing.T) {
	for _, m := range moduli {
		for _, d := range degrees {
			for _, a := range sampleCurves(m, d)[1:] {
				for _, n := range ordersUpTo(d) {
					sum := monomialOf(m, d, 0, 0)
					for k := n; k <= d; k += n {
						sum.Coefficients[k] = n * a.Coefficients[k] % m
					}
					wantsFrobenius(t, bilinearLaw(m, d, 0), a, n, sum)
				}
			}
		}
	}
}

// TestFrobeniusWithLogarithms takes moduli for which laws have logarithms, which lead sums to those under x + y.
func TestFrobeniusWithLogarithms(t *testing.T) {
	count := 0
	for _, m := range moduliOfLogarithms {
		for _, d := range degrees {
			if !haveInverses(m, d) {
				continue
			}
			count++
			curves := sampleCurves(m, d)
			for k, f := range lawsOfOperators(t, m, d) {
				logarithm := made(t, "LogarithmOf")(impl.LogarithmOf(f))
				exponential := made(t, "ReverseSeries")(impl.ReverseSeries(logarithm))
				for _, n := range ordersUpTo(d) {
					a := curves[(k*7+int(n))%len(curves)]
					sum := compositionOf(logarithm, a)
					for i := range sum.Coefficients {
						sum.Coefficients[i] = sum.Coefficients[i] * n % m * oneIf(int64(i)%n == 0)
					}
					if d < 8 || (k+int(n))%3 == 0 {
						wantsFrobenius(t, f, a, n, compositionOf(exponential, sum))
					}
				}
			}
		}
	}
	if count < 30 {
		t.Errorf("%d moduli and degrees with logarithms", count)
	}
}

// TestFrobeniusOfFour checks that the Frobenius operator of 4 is that of 2, twice.
func TestFrobeniusOfFour(t *testing.T) {
	for _, m := range moduliOfOperators {
		for d := int64(4); d <= 10; d++ {
			curves := sampleCurves(m, d)
			for k, f := range lawsOfOperators(t, m, d) {
				a := curves[(k*3+1)%len(curves)]
				want := frobeniusOf(t, cutPlane(f, d/2), frobeniusOf(t, f, a, 2), 2)
				wantsSeries(t, callUnder("FrobeniusUnder", f, a, 4), want, impl.ErrNone)(impl.FrobeniusUnder(f, a, 4))
			}
		}
	}
}

// TestFrobeniusOfChanges checks that remainders by a divisor of the modulus, and laws and curves that are cut, have
// the remainders and the beginnings as results.
func TestFrobeniusOfChanges(t *testing.T) {
	for _, kind := range [][2]int64{{4, 2}, {8, 4}, {9, 3}, {10, 2}, {10, 5}, {60, 12}, {9999, 9}, {10000, 16}, {10000, 2}, {10000, 5}} {
		for _, d := range degrees {
			curves := sampleCurves(kind[0], d)
			for k, f := range lawsOfOperators(t, kind[0], d) {
				a := curves[(k*5+1)%len(curves)]
				g := madePlane(t, "ChangePlane")(impl.ChangePlane(f, kind[1]))
				b := made(t, "ChangeSeries")(impl.ChangeSeries(a, kind[1]))
				for _, n := range ordersUpTo(d) {
					if (k+int(n+d))%3 != 0 {
						continue
					}
					whole := frobeniusOf(t, f, a, n)
					wantsSeries(t, callUnder("FrobeniusUnder", g, b, n), made(t, "ChangeSeries")(impl.ChangeSeries(whole, kind[1])), impl.ErrNone)(impl.FrobeniusUnder(g, b, n))
					for c := n; c < d; c++ {
						wantsSeries(t, "FrobeniusUnder, cut", cutSeries(whole, c/n), impl.ErrNone)(impl.FrobeniusUnder(cutPlane(f, c), cutSeries(a, c), n))
					}
				}
			}
		}
	}
}

// curveByCoordinates returns the sum of all a(n) t^n under a law without the program.
func curveByCoordinates(f impl.Plane, list []int64) impl.Series {
	m, d := f.Modulus, degreeOfPlane(f)
	sum := monomialOf(m, d, 0, 0)
	for i, c := range list {
		sum = inCurvesOfOne(f, sum, monomialOf(m, d, int64(i)+1, c))
	}
	return sum
}

// wantsCoordinates checks that a curve and its coordinates lead to each other.
func wantsCoordinates(t *testing.T, f impl.Plane, a impl.Series, list []int64) {
	t.Helper()
	wantsSeries(t, "CurveOfCoordinates("+textOf(f)+", ..)", a, impl.ErrNone)(impl.CurveOfCoordinates(f, list))
	wantsList(t, "CoordinatesUnder("+textOf(f)+", "+textOfSeries(a)+")", list, impl.ErrNone)(impl.CoordinatesUnder(f, a))
}

// TestCoordinates takes lists of coordinates under laws of all kinds: all 0, with one other number, with M - 1
// everywhere, and others.
func TestCoordinates(t *testing.T) {
	for _, m := range moduliOfOperators {
		for _, d := range degrees {
			lists := sampleParameters(m, d)
			for k, f := range lawsOfOperators(t, m, d) {
				wantsCoordinates(t, f, monomialOf(m, d, 0, 0), make([]int64, d))
				wantsCoordinates(t, f, monomialOf(m, d, 1, 1), append([]int64{1}, make([]int64, d-1)...))
				wantsCoordinates(t, f, monomialOf(m, d, d, m-1), append(make([]int64, d-1), m-1))
				for _, n := range []int{k, k*3 + 5} {
					list := lists[n%len(lists)]
					if d < 8 || (n+int(m+d))%4 == 0 {
						wantsCoordinates(t, f, curveByCoordinates(f, list), list)
					}
				}
			}
		}
	}
}

// TestCoordinatesOfAllCurves checks for small moduli and degrees that each curve has just one list of coordinates.
func TestCoordinatesOfAllCurves(t *testing.T) {
	for _, kind := range [][2]int64{{2, 1}, {3, 1}, {6, 1}, {2, 2}, {2, 3}, {2, 4}, {2, 5}, {3, 2}, {3, 3}, {4, 2}, {4, 3}, {6, 2}} {
		laws := []impl.Plane{bilinearLaw(kind[0], 1, 0)}
		if kind[1] > 1 {
			laws = lawsOf(t, kind)
		}
		for _, f := range laws {
			isThere := map[string]bool{}
			for _, list := range allLists(kind[0], int(kind[1])) {
				a := curveByCoordinates(f, list)
				wantsCoordinates(t, f, a, list)
				isThere[textOfSeries(a)] = true
			}
			if want := len(curvesWithFirst(kind[0], kind[1], numbersModulo(kind[0]))); len(isThere) != want {
				t.Errorf("%d of %d curves of %s have coordinates", len(isThere), want, textOf(f))
			}
		}
	}
}

// TestCoordinatesUnderAddition checks that under x + y the coordinates are the coefficients.
func TestCoordinatesUnderAddition(t *testing.T) {
	for _, m := range moduli {
		for _, d := range degrees {
			for _, a := range sampleCurves(m, d) {
				wantsCoordinates(t, bilinearLaw(m, d, 0), a, a.Coefficients[1:])
			}
		}
	}
}

// TestCoordinatesOfOperators checks what Verschiebung and homotheties make of coordinates: places are multiplied,
// or numbers by powers.
func TestCoordinatesOfOperators(t *testing.T) {
	for _, m := range moduliOfOperators {
		for _, d := range degrees {
			curves := sampleCurves(m, d)
			for k, f := range lawsOfOperators(t, m, d) {
				if d > 7 && (k+int(m+d))%3 != 0 {
					continue
				}
				a := curves[(k*5+3)%len(curves)]
				list, code := impl.CoordinatesUnder(f, a)
				if code != impl.ErrNone || int64(len(list)) != d {
					t.Fatalf("CoordinatesUnder(%s, %s) = %v, %d", textOf(f), textOfSeries(a), list, code)
				}
				n, c := int64(k)%(d+1)+1, sample(m)[k%len(sample(m))]
				want := spreadOf(series(m, append([]int64{0}, list...)...), n)
				spread := made(t, "VerschiebungOf")(impl.VerschiebungOf(a, n))
				wantsCoordinates(t, f, spread, want.Coefficients[1:])
				want = compositionOf(series(m, append([]int64{0}, list...)...), monomialOf(m, d, 1, c))
				wantsCoordinates(t, f, made(t, "HomothetyOf")(impl.HomothetyOf(a, c)), want.Coefficients[1:])
			}
		}
	}
}

// isTypicalByRoots tells without the program whether a curve is typical for p.
func isTypicalByRoots(t *testing.T, f impl.Plane, a impl.Series, p int64) bool {
	t.Helper()
	isTypical := true
	for _, n := range []int64{2, 3, 5} {
		if n != p && n <= degreeOfPlane(f) {
			isTypical = isTypical && orderOf(sumOverRoots(t, f, a, n)) == 0
		}
	}
	return isTypical
}

// wantsTypicalCurve checks IsTypicalCurve for each prime.
func wantsTypicalCurve(t *testing.T, f impl.Plane, a impl.Series) {
	t.Helper()
	for _, p := range []int64{2, 3, 5} {
		wants(t, callUnder("IsTypicalCurve", f, a, p), isTypicalByRoots(t, f, a, p), impl.ErrNone)(impl.IsTypicalCurve(f, a, p))
	}
}

// TestIsTypicalCurve takes curves and laws of all kinds.
func TestIsTypicalCurve(t *testing.T) {
	for _, m := range moduliOfOperators {
		for _, d := range degreesOfLaws {
			curves := sampleCurves(m, d)
			for k, f := range lawsOfOperators(t, m, d) {
				wantsTypicalCurve(t, f, monomialOf(m, d, 0, 0))
				wantsTypicalCurve(t, f, monomialOf(m, d, min(int64(k)%4+1, d), m/2))
				if d < 8 || k%4 == 0 {
					wantsTypicalCurve(t, f, curves[(k*5+1)%len(curves)])
				}
			}
		}
	}
}

// TestTypicalAmongAllCurves takes all curves of all laws of small moduli and degrees, some of which are typical
// for one prime alone.
func TestTypicalAmongAllCurves(t *testing.T) {
	for _, kind := range [][2]int64{{2, 2}, {2, 3}, {2, 4}, {2, 5}, {3, 2}, {3, 3}, {4, 3}, {6, 2}, {5, 3}} {
		counts := map[[2]int64]int{}
		for k, f := range lawsOf(t, kind) {
			for n, a := range curvesWithFirst(kind[0], kind[1], numbersModulo(kind[0])) {
				if (k+n)%(int(kind[0])/4+1) != 0 {
					continue
				}
				wantsTypicalCurve(t, f, a)
				for _, p := range []int64{2, 3, 5} {
					counts[[2]int64{p, oneIf(isTypicalByRoots(t, f, a, p))}]++
				}
			}
		}
		for _, p := range []int64{2, 3, 5} {
			// In the degree 2 only that of 2 is asked for, and this prime is left out for itself.
			isAlways := p == 2 && kind[1] == 2
			if counts[[2]int64{p, 1}] == 0 || (counts[[2]int64{p, 0}] == 0) != isAlways {
				t.Errorf("numbers of curves that are typical or not, with %s: %v", callOfKind("laws", kind), counts)
			}
		}
	}
}

// TestTypicalCurvesOfTypicalLaws checks that the sums under a typical law of curves c t^q for powers q of its prime
// are typical for it. One more term at another power is not, unless its multiple by another prime is 0.
func TestTypicalCurvesOfTypicalLaws(t *testing.T) {
	for _, p := range []int64{2, 3, 5} {
		for _, m := range moduliOfOperators {
			for _, d := range degrees {
				for k, list := range sampleParameters(m, 3) {
					if d > 5 && (k+int(p+m+d))%4 != 0 {
						continue
					}
					f := madePlane(t, "TypicalLaw")(impl.TypicalLaw(p, m, d, list))
					coordinates := slices.Clone(sampleParameters(m, d)[(k*3+2)%8])
					for i := range coordinates {
						if !isPower(p, int64(i)+1) {
							coordinates[i] = 0
						}
					}
					a := curveByCoordinates(f, coordinates)
					wants(t, callUnder("IsTypicalCurve", f, a, p), true, impl.ErrNone)(impl.IsTypicalCurve(f, a, p))
					wants(t, callUnder("IsTypicalCurve", f, monomialOf(m, d, 1, 1), p), true, impl.ErrNone)(impl.IsTypicalCurve(f, monomialOf(m, d, 1, 1), p))
					for _, n := range []int64{2, 3, 5} {
						if n != p && n <= d && isUnitOf(m, n) {
							b := inCurvesOfOne(f, a, monomialOf(m, d, n, m-1))
							wants(t, callUnder("IsTypicalCurve", f, b, p), false, impl.ErrNone)(impl.IsTypicalCurve(f, b, p))
						}
					}
				}
			}
		}
	}
}

// TestTypicalInLowDegrees takes degrees in which no other prime counts, and those just above: all curves are
// typical for 2 up to the degree 2, and for 3 and 5 in the degree 1.
func TestTypicalInLowDegrees(t *testing.T) {
	for _, m := range moduli {
		for _, d := range []int64{1, 2} {
			for k, f := range lawsOfOperators(t, m, d) {
				for _, a := range sampleCurves(m, d) {
					wants(t, callUnder("IsTypicalCurve", f, a, 2), true, impl.ErrNone)(impl.IsTypicalCurve(f, a, 2))
					if d == 1 {
						wants(t, callUnder("IsTypicalCurve", f, a, 3), true, impl.ErrNone)(impl.IsTypicalCurve(f, a, 3))
						wants(t, callUnder("IsTypicalCurve", f, a, 5), true, impl.ErrNone)(impl.IsTypicalCurve(f, a, 5))
					} else if k < 5 {
						wantsTypicalCurve(t, f, a)
					}
				}
			}
		}
		// t^4 stays at u^4 with the number 4, and t^2 with 2: the operator of 4 counts for no prime.
		for d := int64(4); d <= 10; d++ {
			f, a := bilinearLaw(m, d, 0), monomialOf(m, d, 4, 1)
			wants(t, callUnder("IsTypicalCurve", f, a, 2), true, impl.ErrNone)(impl.IsTypicalCurve(f, a, 2))
			wants(t, callUnder("IsTypicalCurve", f, a, 3), m == 2, impl.ErrNone)(impl.IsTypicalCurve(f, a, 3))
			wants(t, callUnder("IsTypicalCurve", f, a, 5), m == 2, impl.ErrNone)(impl.IsTypicalCurve(f, a, 5))
		}
	}
}

// wantsCodeUnder checks that all functions that take a law and a curve return a code. Numbers are those of their
// ranges and, if all is to be found out before them, others.
func wantsCodeUnder(t *testing.T, f impl.Plane, a impl.Series, numbers []int64, code int64) {
	t.Helper()
	wantsList[int64](t, "CoordinatesUnder", nil, code)(impl.CoordinatesUnder(f, a))
	for _, n := range numbers {
		wantsCode(t, "FrobeniusUnder", code)(impl.FrobeniusUnder(f, a, n))
		wantsCode(t, "NormUnder", code)(impl.NormUnder(f, a, n))
		wants(t, "IsTypicalCurve", false, code)(impl.IsTypicalCurve(f, a, n))
	}
}

// numbersOfOperators are numbers in the range of Frobenius operators and out of it.
var numbersOfOperators = append([]int64{2, 3, 4, 5}, noFrobenius...)

// TestNoLawsForOperators gives planes that are no laws, also where the curve is none of a law, or no series, and
// where a number or a list is out of its range.
func TestNoLawsForOperators(t *testing.T) {
	lists := [][]int64{nil, {}, {0}, {1, 2}, {-1, 10}, {1, 2, 3}, make([]int64, 1000)}
	for _, bad := range noHeightLaws() {
		for _, a := range []impl.Series{series(10, 0, 1, 0), series(10, 1, 1, 0), series(7, 0, 1), series(7, 1, 1), series(10, 0, 10, 0), {}} {
			wantsCodeUnder(t, bad, a, numbersOfOperators, impl.ErrInvalid)
		}
		for _, list := range lists {
			wantsCode(t, "CurveOfCoordinates", impl.ErrInvalid)(impl.CurveOfCoordinates(bad, list))
		}
	}
}

// TestNoSeriesForOperators gives series that are none, also where numbers are out of their ranges.
func TestNoSeriesForOperators(t *testing.T) {
	for _, bad := range noSeries() {
		for _, f := range []impl.Plane{bilinearLaw(10, 1, 0), bilinearLaw(10, 2, 1), bilinearLaw(7, 10, 1)} {
			wantsCodeUnder(t, f, bad, numbersOfOperators, impl.ErrInvalid)
		}
		for _, n := range []int64{math.MinInt64, -1, 0, 1, 2, 10, 100, 101, math.MaxInt64} {
			wantsCode(t, "VerschiebungOf", impl.ErrInvalid)(impl.VerschiebungOf(bad, n))
			wantsCode(t, "HomothetyOf", impl.ErrInvalid)(impl.HomothetyOf(bad, n))
		}
	}
}

// noCurves returns series with a modulus 10 and a degree that are no curves, each for one number ahead of t.
func noCurves(d int64) []impl.Series {
	all := series(10, slices.Repeat([]int64{9}, int(d)+1)...)
	with := monomialOf(10, d, 1, 3)
	with.Coefficients[0] = 5
	return []impl.Series{monomialOf(10, d, 0, 1), monomialOf(10, d, 0, 9), with, all}
}

// TestNoCurvesForOperators gives series with a number ahead of t, or with another modulus or degree than the law,
// also where n is out of its range, or greater than the degree.
func TestNoCurvesForOperators(t *testing.T) {
	for _, d := range degrees {
		other := d%10 + 1
		for _, a := range append(noCurves(d), monomialOf(5, d, 1, 1), monomialOf(2, d, 1, 0), monomialOf(11, d, 1, 1), monomialOf(10, other, 1, 1), monomialOf(7, other, 0, 1)) {
			wantsCodeUnder(t, bilinearLaw(10, d, 1), a, numbersOfOperators, impl.ErrRange)
		}
		for _, a := range noCurves(d) {
			for _, n := range []int64{math.MinInt64, -1, 0, 1, 2, 9, 10, 100, 101, math.MaxInt64} {
				wantsCode(t, "VerschiebungOf", impl.ErrRange)(impl.VerschiebungOf(a, n))
				wantsCode(t, "HomothetyOf", impl.ErrRange)(impl.HomothetyOf(a, n))
			}
		}
	}
}

// TestNumbersOfOperators gives numbers next to the limits of their ranges and far out of them. In the degree 1,
// Frobenius operators have none that is at most the degree.
func TestNumbersOfOperators(t *testing.T) {
	for _, m := range moduli {
		for _, d := range degrees {
			f, a := bilinearLaw(m, d, 1), monomialOf(m, d, 1, m-1)
			for _, n := range noFrobenius {
				wantsCode(t, callUnder("FrobeniusUnder", f, a, n), impl.ErrRange)(impl.FrobeniusUnder(f, a, n))
				wantsCode(t, callUnder("NormUnder", f, a, n), impl.ErrRange)(impl.NormUnder(f, a, n))
			}
			for _, p := range append([]int64{4, 7, 9, 25}, noFrobenius...) {
				wants(t, callUnder("IsTypicalCurve", f, a, p), false, impl.ErrRange)(impl.IsTypicalCurve(f, a, p))
			}
			for n := int64(2); n <= 5; n++ {
				if n > d {
					wantsCode(t, callUnder("FrobeniusUnder", f, a, n), impl.ErrState)(impl.FrobeniusUnder(f, a, n))
					wantsCode(t, callUnder("NormUnder", f, a, n), impl.ErrState)(impl.NormUnder(f, a, n))
				}
			}
			for _, n := range []int64{math.MinInt64, -100, -2, -1, 0, 101, 102, 1000, math.MaxInt64} {
				wantsCode(t, "VerschiebungOf", impl.ErrRange)(impl.VerschiebungOf(a, n))
			}
			for _, c := range noNumbers(m) {
				wantsCode(t, "HomothetyOf", impl.ErrRange)(impl.HomothetyOf(a, c))
			}
		}
	}
}

// TestNoCoordinates gives lists that are empty, too short or too long, or that hold a number out of the ring.
func TestNoCoordinates(t *testing.T) {
	for _, m := range moduli {
		for _, d := range degrees {
			f := bilinearLaw(m, d, 1)
			for _, n := range []int64{0, d - 1, d + 1, d + 2, 1000} {
				wantsCode(t, "CurveOfCoordinates", impl.ErrRange)(impl.CurveOfCoordinates(f, make([]int64, n)))
			}
			wantsCode(t, "CurveOfCoordinates", impl.ErrRange)(impl.CurveOfCoordinates(f, nil))
			for _, c := range noNumbers(m) {
				for i := range d {
					list := slices.Repeat([]int64{1}, int(d))
					list[i] = c
					wantsCode(t, "CurveOfCoordinates", impl.ErrRange)(impl.CurveOfCoordinates(f, list))
				}
			}
		}
	}
}

// operationsOnCurves are all functions of the chapter with the law and the curve that they take.
func operationsOnCurves() map[string]func(f impl.Plane, a impl.Series) (impl.Series, int64) {
	return map[string]func(f impl.Plane, a impl.Series) (impl.Series, int64){
		"VerschiebungOf by 1":   func(f impl.Plane, a impl.Series) (impl.Series, int64) { return impl.VerschiebungOf(a, 1) },
		"VerschiebungOf by 2":   func(f impl.Plane, a impl.Series) (impl.Series, int64) { return impl.VerschiebungOf(a, 2) },
		"HomothetyOf by 1":      func(f impl.Plane, a impl.Series) (impl.Series, int64) { return impl.HomothetyOf(a, 1) },
		"HomothetyOf by 6":      func(f impl.Plane, a impl.Series) (impl.Series, int64) { return impl.HomothetyOf(a, 6) },
		"FrobeniusUnder with 2": func(f impl.Plane, a impl.Series) (impl.Series, int64) { return impl.FrobeniusUnder(f, a, 2) },
		"FrobeniusUnder with 4": func(f impl.Plane, a impl.Series) (impl.Series, int64) { return impl.FrobeniusUnder(f, a, 4) },
		"NormUnder with 3":      func(f impl.Plane, a impl.Series) (impl.Series, int64) { return impl.NormUnder(f, a, 3) },
		"CurveOfCoordinates": func(f impl.Plane, a impl.Series) (impl.Series, int64) {
			return impl.CurveOfCoordinates(f, a.Coefficients[1:])
		},
		"CoordinatesUnder": func(f impl.Plane, a impl.Series) (impl.Series, int64) {
			list, code := impl.CoordinatesUnder(f, a)
			return series(7, list...), code
		},
		"IsTypicalCurve": func(f impl.Plane, a impl.Series) (impl.Series, int64) {
			yes, code := impl.IsTypicalCurve(f, a, 5)
			return series(7, oneIf(yes)), code
		},
	}
}

// TestOperatorsMemory checks all functions of the chapter.
func TestOperatorsMemory(t *testing.T) {
	for name, operation := range operationsOnCurves() {
		checkMemory(t, name, func(f impl.Plane, a impl.Series) (impl.Plane, int64) {
			b, code := operation(f, a)
			return plane(b.Modulus, b.Coefficients), code
		})
	}
}
