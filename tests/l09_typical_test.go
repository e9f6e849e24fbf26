package tests

import (
	"math"
	"math/big"
	"slices"
	"strconv"
	"testing"

	"loop.example/g01152/impl"
)

// typicalPrimes are the prime numbers of the chapter.
var typicalPrimes = []int64{2, 3, 5, 7}

// noTypicalPrimes are other integers, prime numbers and powers of those of the chapter among them.
var noTypicalPrimes = []int64{math.MinInt64, -7, -3, -2, -1, 0, 1, 4, 6, 8, 9, 10, 11, 13, 25, 49, 9973, math.MaxInt64}

// moduliOfTypicalLaws are the limits, powers of each of the primes, numbers with one as a factor and
// another factor, and numbers of which it is a unit.
var moduliOfTypicalLaws = []int64{2, 3, 4, 5, 6, 7, 8, 9, 10, 12, 14, 15, 25, 27, 35, 49, 97, 343, 2401, 3125, 6561, 8192, 9973, 9999, 10000}

// integersOfTypicalLaws are parameters over the integers.
var integersOfTypicalLaws = [][]int64{
	nil, {0}, {1}, {-1}, {2}, {0, 1}, {0, 0, 1}, {1, 1}, {1, 0, 0}, {1, 1, 1}, {-1, -1, -1}, {3, 5, 7}, {0, -4, 9}, {4321, 987, 6543}, {9999, 9999, 9999},
}

// powersOf returns the powers of p that are moduli.
func powersOf(p int64) []int64 {
	var list []int64
	for q := p; q <= 10000; q *= p {
		list = append(list, q)
	}
	return list
}

// isPower reports whether n is a power of p with an exponent of at least 1.
func isPower(p int64, n int64) bool {
	return slices.Contains(powersOf(p), n)
}

// parametersFor returns those of some parameters that a degree needs, with 0 for missing ones.
func parametersFor(p int64, d int64, list []int64) []int64 {
	var needed []int64
	for k, q := 0, p; q <= d; k, q = k+1, q*p {
		needed = append(needed, 0)
		if k < len(list) {
			needed[k] = list[k]
		}
	}
	return needed
}

// logarithmOver returns the coefficients at x^(p^k), for k from 0 to 3, of the typical logarithm over the
// rational numbers, from Hazewinkel's functional equation: p times that of k is the sum of that of i times
// v(k - i), raised to the power p^i, for i below k.
func logarithmOver(p int64, integers []int64) []*big.Rat {
	list := []*big.Rat{big.NewRat(1, 1)}
	for k := 1; k <= 3; k++ {
		sum, exponent := new(big.Rat), int64(1)
		for i, l := range list {
			if k-i <= len(integers) {
				v := new(big.Int).Exp(big.NewInt(integers[k-i-1]), big.NewInt(exponent), nil)
				sum.Add(sum, new(big.Rat).Mul(l, new(big.Rat).SetInt(v)))
			}
			exponent *= p
		}
		list = append(list, sum.Quo(sum, big.NewRat(p, 1)))
	}
	return list
}

// knownTypicalLaws are the laws of typicalOver, kept as one test has found them.
var knownTypicalLaws = map[string][11][11]*big.Rat{}

// typicalOver returns the typical law of whole parameters over the rational numbers. By Hazewinkel's
// theorem it has whole coefficients.
func typicalOver(t *testing.T, p int64, integers []int64) [11][11]*big.Rat {
	t.Helper()
	key := strconv.FormatInt(p, 10)
	for _, n := range integers {
		key += "," + strconv.FormatInt(n, 10)
	}
	if law, isKnown := knownTypicalLaws[key]; isKnown {
		return law
	}
	logarithm, coefficients := map[int64]*big.Rat{}, logarithmOver(p, integers)
	for k, q := 1, p; q <= 10; k, q = k+1, q*p {
		logarithm[q] = coefficients[k]
	}
	law := lawOverRationals(logarithm)
	for i := range law {
		for j := range len(law) - i {
			if !law[i][j].IsInt() {
				t.Fatalf("the typical law of %d and %v has %v at x^%d y^%d", p, integers, law[i][j], i, j)
			}
		}
	}
	knownTypicalLaws[key] = law
	return law
}

// parsed returns the plane with a text.
func parsed(t *testing.T, text string) impl.Plane {
	t.Helper()
	return madePlane(t, "ParsePlane")(impl.ParsePlane(text))
}

// numeratorsOver returns the numerators modulo m as those of the logarithm over the rational numbers.
func numeratorsOver(t *testing.T, p int64, m int64, integers []int64) []int64 {
	t.Helper()
	var list []int64
	q := int64(1)
	for _, l := range logarithmOver(p, integers)[:len(integers)+1] {
		list = append(list, ratModulo(t, m, new(big.Rat).Mul(l, big.NewRat(q, 1))))
		q *= p
	}
	return list
}

func TestTypicalNumerators(t *testing.T) {
	wantsList(t, "TypicalNumerators", []int64{1, 3, 37}, impl.ErrNone)(impl.TypicalNumerators(2, 100, []int64{3, 5}))
	wantsList(t, "TypicalNumerators", []int64{1, 0}, impl.ErrNone)(impl.TypicalNumerators(7, 2, []int64{0}))
	// 2 v(2) + v(1)^3, and 4 v(3) + 2 v(1) v(2)^2 + (2 v(2) + v(1)^3) v(1)^4.
	wantsList(t, "TypicalNumerators", []int64{1, 2, 14, 276}, impl.ErrNone)(impl.TypicalNumerators(2, 10000, []int64{2, 3, 4}))
	// 3 v(2) + v(1)^4, and 9 v(3) + 3 v(1) v(2)^3 + (3 v(2) + v(1)^4) v(1)^9.
	wantsList(t, "TypicalNumerators", []int64{1, 1, 7, 58}, impl.ErrNone)(impl.TypicalNumerators(3, 10000, []int64{1, 2, 3}))
	// -1, -7 + 1 and -49 + 7 + 6.
	wantsList(t, "TypicalNumerators", []int64{1, 9999, 9994, 9964}, impl.ErrNone)(impl.TypicalNumerators(7, 10000, []int64{9999, 9999, 9999}))
	for _, p := range typicalPrimes {
		for _, m := range moduliOfTypicalLaws {
			for n := int64(1); n <= 3; n++ {
				for _, list := range sampleParameters(m, n) {
					wantsList(t, "TypicalNumerators", numeratorsOver(t, p, m, list), impl.ErrNone)(impl.TypicalNumerators(p, m, list))
				}
			}
			for _, integers := range integersOfTypicalLaws[1:] {
				want := numeratorsOver(t, p, m, integers)
				wantsList(t, "TypicalNumerators", want, impl.ErrNone)(impl.TypicalNumerators(p, m, remaindersOf(m, integers)))
			}
		}
	}
}

// TestTypicalLaw compares laws with known coefficients: up to the degree p they are x + y - v(1) C(p).
func TestTypicalLaw(t *testing.T) {
	wantsPlane(t, "TypicalLaw", bilinearLaw(10, 2, 9), impl.ErrNone)(impl.TypicalLaw(2, 10, 2, []int64{1}))
	wantsPlane(t, "TypicalLaw", parsed(t, "10000:0,1,0,0,0,0/1,9997,9,9936,303/0,9,9877,975/0,9936,975/0,303/0"), impl.ErrNone)(impl.TypicalLaw(2, 10000, 5, []int64{3, 5, 7}))
	wantsPlane(t, "TypicalLaw", parsed(t, "81:0,1,0,0,0,0/1,0,79,0,4/0,79,0,12/0,0,12/0,4/0"), impl.ErrNone)(impl.TypicalLaw(3, 81, 5, []int64{2}))
	want := parsed(t, "10:0,1,0,0,0,0,0,0,0,0/1,0,9,0,1,0,9,0,4/0,9,0,3,0,4,0,2/0,0,3,0,7,0,1/0,1,0,7,0,8/0,0,4,0,8/0,9,0,1/0,0,2/0,4/0")
	wantsPlane(t, "TypicalLaw", want, impl.ErrNone)(impl.TypicalLaw(3, 10, 9, []int64{1, 2}))
	want = parsed(t, "25:0,1,0,0,0,0,0,0,0,0/1,0,0,0,18,0,0,0,24/0,0,0,11,0,0,0,19/0,0,11,0,0,0,9/0,18,0,0,0,0/0,0,0,0,0/0,0,0,9/0,0,19/0,24/0")
	wantsPlane(t, "TypicalLaw", want, impl.ErrNone)(impl.TypicalLaw(5, 25, 9, []int64{7}))
	for _, p := range typicalPrimes {
		for _, m := range moduliOfTypicalLaws {
			for _, c := range []int64{0, 1, m / 2, m - 1} {
				for d := int64(1); d <= p; d++ {
					want := bilinearLaw(m, d, 0)
					if d == p {
						want = planeSum(want, lazardPlane(m, p, p, -c))
					}
					wantsPlane(t, "TypicalLaw", want, impl.ErrNone)(impl.TypicalLaw(p, m, d, []int64{c}))
					wantsPlane(t, "TypicalLaw", want, impl.ErrNone)(impl.TypicalLaw(p, m, d, []int64{c, m - 1}))
					wantsPlane(t, "TypicalLaw", want, impl.ErrNone)(impl.TypicalLaw(p, m, d, []int64{c, 1, m - 1}))
				}
			}
		}
	}
}

// TestTypicalLawOverRationals compares laws of all moduli and degrees with those over the rational numbers
// whose logarithm is the typical one.
func TestTypicalLawOverRationals(t *testing.T) {
	for _, p := range typicalPrimes {
		for _, integers := range integersOfTypicalLaws {
			law := typicalOver(t, p, integers)
			for _, m := range moduliOfTypicalLaws {
				list := remaindersOf(m, integers)
				for _, d := range degrees {
					wantsPlane(t, "TypicalLaw", lawModulo(t, m, d, law), impl.ErrNone)(impl.TypicalLaw(p, m, d, list))
				}
			}
		}
	}
}

// TestTypicalLawNeeds checks that parameters that a degree does not need are left out, and missing ones
// count as 0.
func TestTypicalLawNeeds(t *testing.T) {
	for _, p := range typicalPrimes {
		for _, m := range moduliOfTypicalLaws {
			for k, list := range sampleParameters(m, 3) {
				for _, d := range degrees {
					needed := parametersFor(p, d, list)
					want := madePlane(t, "TypicalLaw")(impl.TypicalLaw(p, m, d, needed))
					wantsPlane(t, "TypicalLaw", want, impl.ErrNone)(impl.TypicalLaw(p, m, d, list))
					n := (k + int(d)) % 3
					longer := append(slices.Clone(list[:n]), make([]int64, 3-n)...)
					want = madePlane(t, "TypicalLaw")(impl.TypicalLaw(p, m, d, longer))
					wantsPlane(t, "TypicalLaw", want, impl.ErrNone)(impl.TypicalLaw(p, m, d, list[:n]))
				}
			}
		}
	}
}

// TestTypicalLogarithm compares logarithms of all degrees with those over the rational numbers. If p is no
// unit there is none, not even in degrees without a division.
func TestTypicalLogarithm(t *testing.T) {
	wantsSeries(t, "TypicalLogarithm", series(9, 0, 1, 5, 0, 7), impl.ErrNone)(impl.TypicalLogarithm(2, 9, 4, []int64{1}))
	wantsSeries(t, "TypicalLogarithm", series(2, 0, 1, 0, 1), impl.ErrNone)(impl.TypicalLogarithm(3, 2, 3, []int64{1}))
	wantsSeries(t, "TypicalLogarithm", series(2, 0, 1, 0, 0, 0, 0, 0, 1), impl.ErrNone)(impl.TypicalLogarithm(7, 2, 7, []int64{1, 1, 1}))
	for _, p := range typicalPrimes {
		for _, m := range moduliOfTypicalLaws {
			for _, integers := range integersOfTypicalLaws {
				coefficients := logarithmOver(p, integers)
				list := remaindersOf(m, integers)
				for _, d := range degrees {
					if !isUnitOf(m, p) {
						wantsCode(t, "TypicalLogarithm", impl.ErrState)(impl.TypicalLogarithm(p, m, d, list))
						continue
					}
					want := monomialOf(m, d, 1, 1)
					for k, q := 1, p; q <= d; k, q = k+1, q*p {
						want.Coefficients[q] = ratModulo(t, m, coefficients[k])
					}
					wantsSeries(t, "TypicalLogarithm", want, impl.ErrNone)(impl.TypicalLogarithm(p, m, d, list))
				}
			}
		}
	}
}

// wantsTypical checks that a law is typical for p and has just these parameters.
func wantsTypical(t *testing.T, p int64, f impl.Plane, list []int64) {
	t.Helper()
	wantsList(t, "TypicalParameters("+textOf(f)+")", list, impl.ErrNone)(impl.TypicalParameters(p, f))
	wants(t, "IsTypicalLaw("+textOf(f)+")", true, impl.ErrNone)(impl.IsTypicalLaw(p, f))
}

// wantsNotTypical checks that a law is not typical for p.
func wantsNotTypical(t *testing.T, p int64, f impl.Plane) {
	t.Helper()
	wantsList[int64](t, "TypicalParameters("+textOf(f)+")", nil, impl.ErrNotFound)(impl.TypicalParameters(p, f))
	wants(t, "IsTypicalLaw("+textOf(f)+")", false, impl.ErrNone)(impl.IsTypicalLaw(p, f))
}

// TestTypicalParameters takes laws over the rational numbers modulo all moduli.
func TestTypicalParameters(t *testing.T) {
	for _, p := range typicalPrimes {
		for _, integers := range integersOfTypicalLaws {
			law := typicalOver(t, p, integers)
			for n, m := range moduliOfTypicalLaws {
				for _, d := range degrees {
					if d < 4 || (int(d)+n)%3 == 0 {
						wantsTypical(t, p, lawModulo(t, m, d, law), parametersFor(p, d, remaindersOf(m, integers)))
					}
				}
			}
		}
	}
}

// TestTypicalAmongAll takes all laws of small moduli and degrees: just those of all lists of parameters are
// typical, each one for one list.
func TestTypicalAmongAll(t *testing.T) {
	kinds := [][2]int64{{2, 1}, {2, 2}, {2, 3}, {2, 4}, {2, 5}, {2, 7}, {2, 8}, {2, 9}, {3, 1}, {3, 2}, {3, 3}, {3, 5}, {4, 3}, {4, 4}, {5, 2}, {5, 4}, {6, 3}, {6, 4}, {7, 3}, {8, 3}, {9, 3}, {10, 3}, {12, 2}, {30, 2}}
	for _, kind := range kinds {
		m, d := kind[0], kind[1]
		laws := []impl.Plane{bilinearLaw(m, 1, 0)}
		if d > 1 {
			laws = nil
			for _, list := range allLists(m, int(d)-1) {
				laws = append(laws, madePlane(t, "LawOfParameters")(impl.LawOfParameters(m, list)))
			}
		}
		for _, p := range typicalPrimes {
			lists := allLists(m, len(parametersFor(p, d, nil)))
			typical := map[string][]int64{}
			for _, list := range lists {
				typical[textOf(lawModulo(t, m, d, typicalOver(t, p, list)))] = list
			}
			if len(typical) != len(lists) {
				t.Errorf("%d typical laws of %d modulo %d of degree %d; want %d", len(typical), p, m, d, len(lists))
			}
			for _, f := range laws {
				if list, isTypical := typical[textOf(f)]; isTypical {
					wantsTypical(t, p, f, list)
				} else {
					wantsNotTypical(t, p, f)
				}
			}
		}
	}
}

// TestTypicalForOnePrime takes laws that are typical for some primes only.
func TestTypicalForOnePrime(t *testing.T) {
	for _, m := range moduliOfTypicalLaws {
		for _, d := range degrees {
			additive := bilinearLaw(m, d, 0)
			for _, p := range typicalPrimes {
				wantsTypical(t, p, additive, parametersFor(p, d, nil))
			}
			for _, p := range typicalPrimes {
				// Below the degree p it is additive, and from there on it has the terms of -C(p).
				f := madePlane(t, "TypicalLaw")(impl.TypicalLaw(p, m, d, []int64{1, m - 1}))
				for _, q := range typicalPrimes {
					if q != p && d >= p {
						wantsNotTypical(t, q, f)
					}
				}
			}
		}
		// The tangent's law is x + y - c C(3) up to degree 4.
		for _, c := range []int64{1, m - 1} {
			wantsTypical(t, 3, tangentLawOf(m, 4, c), []int64{c})
			wantsTypical(t, 2, tangentLawOf(m, 2, c), []int64{0})
			wantsTypical(t, 5, tangentLawOf(m, 2, c), nil)
			for _, p := range []int64{2, 5, 7} {
				wantsNotTypical(t, p, tangentLawOf(m, 4, c))
			}
		}
	}
	// The multiplicative law has the logarithm x - c x^2 / 2 + c^2 x^3 / 3 up to degree 3.
	for _, pair := range [][2]int64{{4, 2}, {9, 3}, {9, 6}, {36, 30}, {10000, 100}, {10000, 9900}} {
		wantsTypical(t, 2, bilinearLaw(pair[0], 3, pair[1]), []int64{pair[0] - pair[1]})
		wantsNotTypical(t, 3, bilinearLaw(pair[0], 3, pair[1]))
	}
	for _, pair := range [][2]int64{{4, 1}, {4, 3}, {9, 2}, {36, 10}, {10000, 10}, {10000, 101}} {
		wantsTypical(t, 2, bilinearLaw(pair[0], 2, pair[1]), []int64{pair[0] - pair[1]})
		wantsNotTypical(t, 2, bilinearLaw(pair[0], 3, pair[1]))
	}
}

// TestTypicalUpToOneDegree changes typical laws in their degree: if this is a power of p the last parameter
// is another one, and else they are typical no more.
func TestTypicalUpToOneDegree(t *testing.T) {
	for _, p := range typicalPrimes {
		for n, m := range moduliOfTypicalLaws {
			for k, list := range sampleParameters(m, 3) {
				for d := int64(2); d <= 10; d++ {
					if (int64(n)+int64(k)+d)%4 != 0 {
						continue
					}
					f := madePlane(t, "TypicalLaw")(impl.TypicalLaw(p, m, d, list))
					for _, c := range []int64{1, m - 1} {
						changed := planeSum(f, lazardPlane(m, d, d, c))
						if !isPower(p, d) {
							wantsNotTypical(t, p, changed)
							continue
						}
						needed := parametersFor(p, d, list)
						needed[len(needed)-1] = (needed[len(needed)-1] + m - c) % m
						wantsTypical(t, p, changed, needed)
					}
				}
			}
		}
	}
}

// isTypifyingForm reports whether a curve is a composition of curves t + a t^n, the first one with the least
// n, for n that are no powers of p: with each of them taken off, there is nothing left at t^n.
func isTypifyingForm(t *testing.T, p int64, a impl.Series) bool {
	t.Helper()
	m, d := a.Modulus, degreeOf(a)
	for n := int64(2); n <= d; n++ {
		c := a.Coefficients[n]
		if isPower(p, n) && c != 0 {
			return false
		}
		g := monomialOf(m, d, 1, 1)
		g.Coefficients[n] = c
		a = compositionOf(a, made(t, "ReverseSeries")(impl.ReverseSeries(g)))
	}
	return isSame(a, monomialOf(m, d, 1, 1))
}

// wantsTypified checks the typifying curve of a law, and the law that it is made. There is only one curve of
// this form that leads to a typical law: in each degree there is one parameter, or one a.
func wantsTypified(t *testing.T, p int64, f impl.Plane) {
	t.Helper()
	m, d := f.Modulus, degreeOfPlane(f)
	a, code := impl.TypifyingCurve(p, f)
	if code != impl.ErrNone || a.Modulus != m || degreeOf(a) != d || !isTypifyingForm(t, p, a) {
		t.Fatalf("TypifyingCurve(%d, %s) = %v, %d", p, textOf(f), a, code)
	}
	h, code := impl.TypifyLaw(p, f)
	if code != impl.ErrNone || h.Modulus != m || degreeOfPlane(h) != d || !isSamePlane(seriesInPlane(a, f), inCurves(h, a, a)) {
		t.Fatalf("TypifyLaw(%d, %s) = %s, %d", p, textOf(f), textOf(h), code)
	}
	list, _ := impl.TypicalParameters(p, h)
	wantsPlane(t, "TypicalLaw", h, impl.ErrNone)(impl.TypicalLaw(p, m, d, list))
}

// TestTypifyKnownLaws takes the multiplicative laws of 1, 2 and 3, whose curves were found by trying all
// numbers.
func TestTypifyKnownLaws(t *testing.T) {
	check := func(p int64, f impl.Plane, curve []int64, list []int64) {
		wantsSeries(t, "TypifyingCurve", series(f.Modulus, curve...), impl.ErrNone)(impl.TypifyingCurve(p, f))
		want := madePlane(t, "TypicalLaw")(impl.TypicalLaw(p, f.Modulus, degreeOfPlane(f), list))
		wantsPlane(t, "TypifyLaw", want, impl.ErrNone)(impl.TypifyLaw(p, f))
	}
	check(2, bilinearLaw(4, 5, 1), []int64{0, 1, 0, 3, 0, 1}, []int64{3, 2})
	check(2, bilinearLaw(2, 10, 1), []int64{0, 1, 0, 1, 0, 1, 1, 0, 0, 1, 0}, []int64{1, 0, 0})
	check(2, bilinearLaw(8, 7, 3), []int64{0, 1, 0, 3, 0, 5, 1, 2}, []int64{5, 2})
	check(3, bilinearLaw(9, 7, 1), []int64{0, 1, 4, 0, 7, 4, 3, 7}, []int64{1})
	check(3, bilinearLaw(3, 10, 2), []int64{0, 1, 2, 0, 2, 1, 0, 1, 2, 0, 2}, []int64{1, 0})
	check(5, bilinearLaw(5, 7, 1), []int64{0, 1, 2, 2, 1, 1, 2, 3}, []int64{1})
	check(7, bilinearLaw(7, 8, 1), []int64{0, 1, 3, 5, 5, 3, 1, 6, 3}, []int64{1})
	check(7, bilinearLaw(7, 6, 1), []int64{0, 1, 3, 5, 5, 3, 1}, nil)
	for _, p := range typicalPrimes {
		for _, m := range powersOf(p) {
			check(p, bilinearLaw(m, 1, 0), []int64{0, 1}, nil)
		}
	}
	check(2, bilinearLaw(8192, 2, 8191), []int64{0, 1, 0}, []int64{1})
	check(3, bilinearLaw(6561, 2, 6560), []int64{0, 1, 3281}, nil)
}

// lawsToTypify returns laws of many kinds with a modulus and a degree.
func lawsToTypify(t *testing.T, m int64, d int64) []impl.Plane {
	t.Helper()
	list := []impl.Plane{bilinearLaw(m, d, 0), bilinearLaw(m, d, 1), bilinearLaw(m, d, m/2), tangentLawOf(m, d, m-1)}
	list = append(list, madePlane(t, "WeierstrassLaw")(impl.WeierstrassLaw(m, d, remaindersOf(m, []int64{1, -2, 3, -4, 5}))))
	if d > 1 {
		for _, parameters := range sampleParameters(m, d-1) {
			list = append(list, madePlane(t, "LawOfParameters")(impl.LawOfParameters(m, parameters)))
		}
	}
	return list
}

// TestTypify takes all powers of the primes as moduli, and all degrees.
func TestTypify(t *testing.T) {
	for _, p := range typicalPrimes {
		for n, m := range powersOf(p) {
			for _, d := range degrees {
				for k, f := range lawsToTypify(t, m, d) {
					if d < 5 || (n+k+int(d))%4 == 0 {
						wantsTypified(t, p, f)
					}
				}
			}
		}
	}
}

// TestTypifyAllLaws takes all laws of small moduli and degrees.
func TestTypifyAllLaws(t *testing.T) {
	for _, kind := range [][3]int64{{2, 2, 4}, {2, 2, 7}, {2, 4, 4}, {2, 8, 3}, {3, 3, 4}, {3, 3, 5}, {3, 9, 3}, {5, 5, 4}, {7, 7, 3}} {
		for _, list := range allLists(kind[1], int(kind[2])-1) {
			wantsTypified(t, kind[0], madePlane(t, "LawOfParameters")(impl.LawOfParameters(kind[1], list)))
		}
	}
}

// TestTypifyTypicalLaws checks that laws that are typical stay as they are.
func TestTypifyTypicalLaws(t *testing.T) {
	for _, p := range typicalPrimes {
		for _, m := range powersOf(p) {
			for _, d := range degrees {
				for k, list := range sampleParameters(m, 3) {
					if d > 4 && (k+int(d))%3 != 0 {
						continue
					}
					f := madePlane(t, "TypicalLaw")(impl.TypicalLaw(p, m, d, list))
					wantsSeries(t, "TypifyingCurve", monomialOf(m, d, 1, 1), impl.ErrNone)(impl.TypifyingCurve(p, f))
					wantsPlane(t, "TypifyLaw", f, impl.ErrNone)(impl.TypifyLaw(p, f))
				}
			}
		}
	}
}

// TestTypifyOtherModuli gives moduli that are no powers of p, also for laws that are typical.
func TestTypifyOtherModuli(t *testing.T) {
	for _, p := range typicalPrimes {
		for _, m := range append([]int64{p * 11, p * p * 13, 9998}, moduliOfTypicalLaws...) {
			if isPower(p, m) {
				continue
			}
			for _, d := range degrees {
				for _, f := range []impl.Plane{bilinearLaw(m, d, 0), bilinearLaw(m, d, m-1), tangentLawOf(m, d, 1)} {
					wantsCode(t, "TypifyingCurve", impl.ErrState)(impl.TypifyingCurve(p, f))
					wantsNoPlane(t, "TypifyLaw", impl.ErrState)(impl.TypifyLaw(p, f))
				}
			}
		}
	}
}

// TestTypicalFactor compares factors with those between the laws.
func TestTypicalFactor(t *testing.T) {
	wants(t, "TypicalFactor", int64(7), impl.ErrNone)(impl.TypicalFactor(2, 10, []int64{1, 2}, 2, 3))
	wants(t, "TypicalFactor", int64(0), impl.ErrNone)(impl.TypicalFactor(7, 2, []int64{1}, 1, 0))
	for _, p := range typicalPrimes {
		for _, m := range moduliOfTypicalLaws {
			for n := int64(1); n <= 3; n++ {
				for _, list := range sampleParameters(m, n) {
					for k, q := int64(1), p; k <= n && q <= 10; k, q = k+1, q*p {
						f := madePlane(t, "TypicalLaw")(impl.TypicalLaw(p, m, q, list))
						for _, c := range []int64{0, 1, m / 2, m - 1} {
							more := slices.Clone(list)
							more[k-1] = (more[k-1] + c) % m
							g := madePlane(t, "TypicalLaw")(impl.TypicalLaw(p, m, q, more))
							wants(t, "ExtensionFactor", (m-c)%m, impl.ErrNone)(impl.ExtensionFactor(f, g))
							wants(t, "TypicalFactor", (m-c)%m, impl.ErrNone)(impl.TypicalFactor(p, m, list, k, c))
						}
					}
				}
			}
		}
	}
}

// TestTypicalFactorPlaces gives k that are no places of a list, or whose p^k is greater than MaxDegree.
func TestTypicalFactorPlaces(t *testing.T) {
	greatest := map[int64]int64{2: 3, 3: 2, 5: 1, 7: 1}
	for _, p := range typicalPrimes {
		for _, m := range []int64{2, 10, 10000} {
			for n := int64(1); n <= 3; n++ {
				for _, k := range []int64{math.MinInt64, -1, 0, 1, 2, 3, 4, 5, 63, 64, math.MaxInt64} {
					want, code := int64(0), int64(impl.ErrRange)
					if k >= 1 && k <= min(n, greatest[p]) {
						want, code = 1, impl.ErrNone
					}
					wants(t, "TypicalFactor", want, code)(impl.TypicalFactor(p, m, make([]int64, n), k, m-1))
				}
			}
		}
	}
}

// typicalCall is a function of the chapter that takes a prime number, a modulus and parameters, with the
// least number of these, and whether it takes a degree, too. Its result is given out as a plane.
type typicalCall struct {
	name      string
	least     int
	hasDegree bool
	call      func(p int64, m int64, d int64, list []int64) (impl.Plane, int64)
}

// typicalCalls are all functions that take parameters.
func typicalCalls() []typicalCall {
	inOneList := func(m int64, list []int64, code int64) (impl.Plane, int64) {
		if len(list) == 0 {
			return plane(0), code
		}
		return plane(m, list), code
	}
	return []typicalCall{
		{"TypicalNumerators", 1, false, func(p int64, m int64, d int64, list []int64) (impl.Plane, int64) {
			numerators, code := impl.TypicalNumerators(p, m, list)
			return inOneList(m, numerators, code)
		}},
		{"TypicalLaw", 0, true, impl.TypicalLaw},
		{"TypicalLogarithm", 0, true, func(p int64, m int64, d int64, list []int64) (impl.Plane, int64) {
			a, code := impl.TypicalLogarithm(p, m, d, list)
			return inOneList(a.Modulus, a.Coefficients, code)
		}},
		{"TypicalFactor at 1", 1, false, func(p int64, m int64, d int64, list []int64) (impl.Plane, int64) {
			c, code := impl.TypicalFactor(p, m, list, 1, 1)
			if code != impl.ErrNone && c == 0 {
				return plane(0), code
			}
			return plane(m, []int64{c}), code
		}},
	}
}

// TestTypicalModuli gives moduli that are none, also where nothing else is in its range.
func TestTypicalModuli(t *testing.T) {
	lists := [][]int64{nil, {0}, {1, 1, 1}, {0, 0, 0, 0}, {-1}, {0, math.MaxInt64}, {0, 0, 0, math.MinInt64}}
	for _, c := range typicalCalls() {
		for _, m := range noModuli {
			for _, p := range append([]int64{2, 7}, noTypicalPrimes...) {
				for _, d := range []int64{math.MinInt64, 0, 1, 10, 11, math.MaxInt64} {
					for _, list := range lists {
						wantsNoPlane(t, c.name, impl.ErrInvalid)(c.call(p, m, d, list))
					}
				}
			}
		}
	}
	for _, m := range noModuli {
		wants(t, "TypicalFactor", int64(0), impl.ErrInvalid)(impl.TypicalFactor(2, m, []int64{0}, 0, 0))
		wants(t, "TypicalFactor", int64(0), impl.ErrInvalid)(impl.TypicalFactor(2, m, []int64{0}, 2, -1))
		wants(t, "TypicalFactor", int64(0), impl.ErrInvalid)(impl.TypicalFactor(4, m, nil, 1, math.MaxInt64))
	}
}

// TestTypicalRanges gives other integers than the four prime numbers, lists that are too short or too long,
// or have something that is no number, and degrees that are none. All of them come before a p that is no
// unit.
func TestTypicalRanges(t *testing.T) {
	for _, c := range typicalCalls() {
		for _, m := range []int64{2, 3, 4, 10, 49, 9999, 10000} {
			for _, p := range noTypicalPrimes {
				for n := range 5 {
					wantsNoPlane(t, c.name, impl.ErrRange)(c.call(p, m, 4, make([]int64, n)))
				}
			}
			for _, p := range typicalPrimes {
				for n := 0; n < c.least; n++ {
					wantsNoPlane(t, c.name, impl.ErrRange)(c.call(p, m, 4, make([]int64, n)))
				}
				for _, n := range []int{4, 5, 10, 10000} {
					wantsNoPlane(t, c.name, impl.ErrRange)(c.call(p, m, 10, make([]int64, n)))
				}
				for n := c.least; n <= 3; n++ {
					for _, d := range []int64{math.MinInt64, -1, 0, 11, 12, math.MaxInt64} {
						if c.hasDegree {
							wantsNoPlane(t, c.name, impl.ErrRange)(c.call(p, m, d, make([]int64, n)))
						}
					}
					for _, a := range noNumbers(m) {
						for k := range n {
							list := make([]int64, n)
							list[k] = a
							// Degree 1 needs none of the parameters, but they have to be numbers.
							wantsNoPlane(t, c.name, impl.ErrRange)(c.call(p, m, 1, list))
							wantsNoPlane(t, c.name, impl.ErrRange)(c.call(p, m, 10, list))
						}
					}
				}
			}
		}
	}
	for _, m := range moduli {
		for _, a := range noNumbers(m) {
			wants(t, "TypicalFactor", int64(0), impl.ErrRange)(impl.TypicalFactor(2, m, []int64{0, 0}, 2, a))
			wants(t, "TypicalFactor", int64(0), impl.ErrRange)(impl.TypicalFactor(5, m, []int64{0, 0}, 2, a))
		}
	}
}

// TestTypicalLimits gives each function the limits of all ranges.
func TestTypicalLimits(t *testing.T) {
	for _, c := range typicalCalls() {
		for _, p := range typicalPrimes {
			for _, m := range []int64{2, 11, 121, 9999, 10000} {
				for n := c.least; n <= 3; n++ {
					for _, d := range []int64{1, 10} {
						for _, a := range []int64{0, m - 1} {
							f, code := c.call(p, m, d, slices.Repeat([]int64{a}, n))
							if c.name == "TypicalLogarithm" && !isUnitOf(m, p) {
								wantsNoPlane(t, c.name, impl.ErrState)(f, code)
							} else if code != impl.ErrNone || f.Modulus != m {
								t.Errorf("%s(%d, %d, %d, %d numbers) = %v, %d", c.name, p, m, d, n, f, code)
							}
						}
					}
				}
			}
		}
	}
}

// TestNoTypicalLaws gives planes that are no laws, also with other integers than the four prime numbers;
// and laws with these, also where the modulus is no power of anything, or the law is not typical.
func TestNoTypicalLaws(t *testing.T) {
	check := func(p int64, f impl.Plane, code int64) {
		t.Helper()
		wantsList[int64](t, "TypicalParameters", nil, code)(impl.TypicalParameters(p, f))
		wants(t, "IsTypicalLaw", false, code)(impl.IsTypicalLaw(p, f))
		wantsCode(t, "TypifyingCurve", code)(impl.TypifyingCurve(p, f))
		wantsNoPlane(t, "TypifyLaw", code)(impl.TypifyLaw(p, f))
	}
	bad := append(noLaws(), withTerm(bilinearLaw(4, 4, 1), 1, 2), withTerm(bilinearLaw(2, 10, 1), 5, 5), withTerm(bilinearLaw(7, 1, 0), 0, 0), lazardPlane(9, 3, 3, 1))
	for _, f := range bad {
		for _, p := range append(typicalPrimes, noTypicalPrimes...) {
			check(p, f, impl.ErrInvalid)
		}
	}
	for _, p := range noTypicalPrimes {
		for _, m := range []int64{2, 4, 9, 10, 11, 121, 169, 9973, 10000} {
			for _, d := range degreesOfLaws {
				check(p, bilinearLaw(m, d, 0), impl.ErrRange)
				check(p, bilinearLaw(m, d, m-1), impl.ErrRange)
			}
		}
	}
}

// TestTypicalMemory checks all functions of the chapter: the law is the multiplicative one of 3 modulo 7, of
// degree 4, and the numbers of the series are parameters.
func TestTypicalMemory(t *testing.T) {
	for _, c := range typicalCalls() {
		checkMemory(t, c.name, func(f impl.Plane, a impl.Series) (impl.Plane, int64) {
			return c.call(2, 7, 4, a.Coefficients[:3])
		})
	}
	checkMemory(t, "TypifyLaw", func(f impl.Plane, a impl.Series) (impl.Plane, int64) { return impl.TypifyLaw(7, f) })
	checkMemory(t, "TypifyingCurve", func(f impl.Plane, a impl.Series) (impl.Plane, int64) {
		curve, code := impl.TypifyingCurve(7, f)
		return plane(curve.Modulus, curve.Coefficients), code
	})
	checkMemory(t, "IsTypicalLaw", func(f impl.Plane, a impl.Series) (impl.Plane, int64) {
		wantsList[int64](t, "TypicalParameters", nil, impl.ErrNotFound)(impl.TypicalParameters(2, f))
		isTypical, code := impl.IsTypicalLaw(2, f)
		return plane(7, []int64{oneIf(isTypical)}), code
	})
	// Typical laws have to be made, here with spare capacity behind their lists.
	f := madePlane(t, "TypicalLaw")(impl.TypicalLaw(2, 7, 4, []int64{3, 5}))
	for i, row := range f.Table {
		f.Table[i] = append(row, 50)[:len(row)]
	}
	want := copyOfPlane(f)
	for range 2 {
		list, code := impl.TypicalParameters(2, f)
		wantsList(t, "TypicalParameters", []int64{3, 5}, impl.ErrNone)(list, code)
		for k := range list[:cap(list)] {
			list[:cap(list)][k] = -1
		}
		for i, row := range f.Table {
			if !slices.Equal(row[:len(row)+1], append(want.Table[i], 50)) {
				t.Errorf("TypicalParameters changed or kept the list %d: %v", i, row[:len(row)+1])
			}
		}
	}
}
