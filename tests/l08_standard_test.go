package tests

import (
	"math"
	"math/big"
	"slices"
	"testing"

	"loop.example/g01152/impl"
)

// standardCall is a function of the chapter with the number of its parameters. Series are given out as
// planes with one list.
type standardCall struct {
	name       string
	parameters int
	call       func(m int64, d int64, list []int64) (impl.Plane, int64)
}

// standardCalls are all functions of the chapter.
func standardCalls() []standardCall {
	return []standardCall{
		{"AdditiveLaw", 0, func(m int64, d int64, list []int64) (impl.Plane, int64) { return impl.AdditiveLaw(m, d) }},
		{"MultiplicativeLaw", 1, func(m int64, d int64, list []int64) (impl.Plane, int64) { return impl.MultiplicativeLaw(m, d, list[0]) }},
		{"TangentLaw", 1, func(m int64, d int64, list []int64) (impl.Plane, int64) { return impl.TangentLaw(m, d, list[0]) }},
		{"EulerLaw", 2, func(m int64, d int64, list []int64) (impl.Plane, int64) { return impl.EulerLaw(m, d, list[0], list[1]) }},
		{"WeierstrassSeries", 5, func(m int64, d int64, list []int64) (impl.Plane, int64) {
			w, code := impl.WeierstrassSeries(m, d, list)
			if len(w.Coefficients) == 0 {
				return plane(w.Modulus), code
			}
			return plane(w.Modulus, w.Coefficients), code
		}},
		{"WeierstrassLaw", 5, impl.WeierstrassLaw},
	}
}

// tangentLawOf returns (x + y) / (1 + c x y), which has the powers of -c at x^(k + 1) y^k and
// x^k y^(k + 1).
func tangentLawOf(m int64, d int64, c int64) impl.Plane {
	return filledPlane(m, d, func(i int64, j int64) int64 {
		if i-j != 1 && j-i != 1 {
			return 0
		}
		power := int64(1)
		for range min(i, j) {
			power = power * (m - c) % m
		}
		return power
	})
}

// TestAdditiveAndMultiplicativeLaw compares the laws of all degrees with their coefficients.
func TestAdditiveAndMultiplicativeLaw(t *testing.T) {
	wantsPlane(t, "AdditiveLaw", plane(2, []int64{0, 1}, []int64{1}), impl.ErrNone)(impl.AdditiveLaw(2, 1))
	wantsPlane(t, "AdditiveLaw", plane(5, []int64{0, 1, 0}, []int64{1, 0}, []int64{0}), impl.ErrNone)(impl.AdditiveLaw(5, 2))
	wantsPlane(t, "MultiplicativeLaw", plane(2, []int64{0, 1}, []int64{1}), impl.ErrNone)(impl.MultiplicativeLaw(2, 1, 1))
	wantsPlane(t, "MultiplicativeLaw", plane(5, []int64{0, 1, 0}, []int64{1, 2}, []int64{0}), impl.ErrNone)(impl.MultiplicativeLaw(5, 2, 2))
	for _, m := range moduli {
		for _, d := range degrees {
			wantsPlane(t, "AdditiveLaw", bilinearLaw(m, d, 0), impl.ErrNone)(impl.AdditiveLaw(m, d))
			for _, c := range sample(m) {
				wantsPlane(t, "MultiplicativeLaw", bilinearLaw(m, d, c), impl.ErrNone)(impl.MultiplicativeLaw(m, d, c))
			}
		}
	}
}

// TestTangentLaw compares the laws of all degrees with their coefficients.
func TestTangentLaw(t *testing.T) {
	want := plane(5, []int64{0, 1, 0, 0, 0, 0}, []int64{1, 0, 3, 0, 0}, []int64{0, 3, 0, 4}, []int64{0, 0, 4}, []int64{0, 0}, []int64{0})
	wantsPlane(t, "TangentLaw", want, impl.ErrNone)(impl.TangentLaw(5, 5, 2))
	for _, m := range moduli {
		for _, d := range degrees {
			wantsPlane(t, "TangentLaw", bilinearLaw(m, d, 0), impl.ErrNone)(impl.TangentLaw(m, d, 0))
			wantsPlane(t, "TangentLaw", tangentLaw(m, d), impl.ErrNone)(impl.TangentLaw(m, d, m-1))
			for _, c := range sample(m) {
				wantsPlane(t, "TangentLaw", tangentLawOf(m, d, c), impl.ErrNone)(impl.TangentLaw(m, d, c))
			}
		}
	}
}

// oddModuli are those of moduli that are odd, and others with several divisors.
func oddModuli() []int64 {
	list := []int64{15, 21, 25, 27, 45, 81, 105, 9801}
	for _, m := range moduli {
		if m%2 == 1 {
			list = append(list, m)
		}
	}
	return list
}

// eulerRootOf returns the series with the constant 1 whose square is 1 - 2 a t^2 + e t^4 without the
// program: with the numbers of Catalan C(k), the square root of 1 + s is 1 and the sum of
// 2 C(k - 1) (-1)^(k - 1) (s / 4)^k for k from 1 on.
func eulerRootOf(t *testing.T, m int64, d int64, a int64, e int64) impl.Series {
	t.Helper()
	quarter := inverseOf(t, m, 4%m)
	s := series(m, make([]int64, max(d, 4)+1)...)
	s.Coefficients[2], s.Coefficients[4] = (m-2*a%m)*quarter%m, e*quarter%m
	s.Coefficients = s.Coefficients[:d+1]
	root, power := monomialOf(m, d, 0, 1), monomialOf(m, d, 0, 1)
	for k, catalan := range []int64{1, 1, 2, 5, 14} {
		power = productOf(power, s)
		for n := range root.Coefficients {
			term := 2 * catalan * power.Coefficients[n]
			if k%2 == 1 {
				term = -term
			}
			root.Coefficients[n] = ((root.Coefficients[n]+term)%m + m) % m
		}
	}
	return root
}

// wantsEuler checks that a law of Euler, times 1 - e x^2 y^2, is x r(y) + y r(x): there is only one such
// plane.
func wantsEuler(t *testing.T, m int64, d int64, a int64, e int64) {
	t.Helper()
	f, code := impl.EulerLaw(m, d, a, e)
	if code != impl.ErrNone || !impl.IsPlane(f) || f.Modulus != m || degreeOfPlane(f) != d {
		t.Fatalf("EulerLaw(%d, %d, %d, %d) = %v, %d", m, d, a, e, f, code)
	}
	r := eulerRootOf(t, m, d, a, e)
	want := filledPlane(m, d, func(i int64, j int64) int64 {
		return oneIf(i == 1)*r.Coefficients[j] + oneIf(j == 1)*r.Coefficients[i]
	})
	divided := planeSum(termOf(m, d, 0, 0, 1), termOf(m, d, 2, 2, m-e))
	if !isSamePlane(planeProduct(f, divided), want) {
		t.Errorf("EulerLaw(%d, %d, %d, %d) = %s", m, d, a, e, textOf(f))
	}
}

// TestEulerLaw takes all pairs of parameters of small odd moduli, and some of all other ones, in all
// degrees.
func TestEulerLaw(t *testing.T) {
	want := plane(5, []int64{0, 1, 0, 0, 0, 0}, []int64{1, 0, 4, 0, 3}, []int64{0, 4, 0, 2}, []int64{0, 0, 2}, []int64{0, 3}, []int64{0})
	wantsPlane(t, "EulerLaw", want, impl.ErrNone)(impl.EulerLaw(5, 5, 1, 2))
	// The lemniscate's.
	want = plane(7, []int64{0, 1, 0, 0, 0, 0}, []int64{1, 0, 0, 0, 3}, []int64{0, 0, 0, 6}, []int64{0, 0, 6}, []int64{0, 3}, []int64{0})
	wantsPlane(t, "EulerLaw", want, impl.ErrNone)(impl.EulerLaw(7, 5, 0, 6))
	wantsPlane(t, "EulerLaw", bilinearLaw(3, 3, 0), impl.ErrNone)(impl.EulerLaw(3, 3, 0, 2))
	for _, m := range oddModuli() {
		numbers := sample(m)
		if m > 9 {
			numbers = []int64{0, 1, 2, m / 3, m/2 + 1, m - 2, m - 1}
		}
		for _, d := range degrees {
			for _, a := range numbers {
				for _, e := range numbers {
					wantsEuler(t, m, d, a, e)
				}
			}
		}
	}
}

// TestEulerLawOfEvenModuli checks that even moduli are told only behind ranges.
func TestEulerLawOfEvenModuli(t *testing.T) {
	for _, m := range []int64{2, 4, 6, 8, 10, 9998, 10000} {
		for _, d := range degrees {
			for _, a := range []int64{0, 1, m - 1} {
				for _, e := range []int64{0, 1, m - 1} {
					wantsNoPlane(t, "EulerLaw", impl.ErrState)(impl.EulerLaw(m, d, a, e))
				}
			}
		}
		for _, d := range []int64{math.MinInt64, -1, 0, 11, math.MaxInt64} {
			wantsNoPlane(t, "EulerLaw", impl.ErrRange)(impl.EulerLaw(m, d, 0, 1))
		}
		for _, a := range noNumbers(m) {
			for _, d := range []int64{0, 1, 5, 10, 11} {
				wantsNoPlane(t, "EulerLaw", impl.ErrRange)(impl.EulerLaw(m, d, a, 1))
				wantsNoPlane(t, "EulerLaw", impl.ErrRange)(impl.EulerLaw(m, d, 1, a))
				wantsNoPlane(t, "EulerLaw", impl.ErrRange)(impl.EulerLaw(m, d, a, a))
			}
		}
	}
	for _, m := range []int64{math.MinInt64, -10000, -2, 0, 10002, math.MaxInt64 - 1} {
		wantsNoPlane(t, "EulerLaw", impl.ErrRange)(impl.EulerLaw(m, 4, 0, 0))
	}
}

// weierstrassOf returns the coefficients up to degree 11 of the Weierstrass series without the program.
// The equation tells each of them by those before it.
func weierstrassOf(m int64, list []int64) []int64 {
	w := make([]int64, 12)
	squareAt := func(n int) int64 {
		sum := int64(0)
		for i := 3; i <= n-3; i++ {
			sum += w[i] * w[n-i]
		}
		return sum % m
	}
	for n := 3; n < 12; n++ {
		cube := int64(0)
		for i := 3; i <= n-3; i++ {
			cube += w[i] * squareAt(n-i) % m
		}
		w[n] = (oneIf(n == 3) + list[0]*w[n-1] + list[1]*w[n-2] + list[2]*squareAt(n) + list[3]*squareAt(n-1) + list[4]*(cube%m)) % m
	}
	return w
}

// allLists returns all lists of n numbers modulo m.
func allLists(m int64, n int) [][]int64 {
	if n == 0 {
		return [][]int64{nil}
	}
	var lists [][]int64
	for _, list := range allLists(m, n-1) {
		for c := range m {
			lists = append(lists, append(slices.Clone(list), c))
		}
	}
	return lists
}

// TestWeierstrassSeries takes all lists of small moduli, and some of all other ones, in all degrees: up
// to degree 2 there is no coefficient other than 0.
func TestWeierstrassSeries(t *testing.T) {
	wantsSeries(t, "WeierstrassSeries", series(5, 0, 0, 0, 1, 0, 0, 0, 1, 0), impl.ErrNone)(impl.WeierstrassSeries(5, 8, []int64{0, 0, 0, 1, 0}))
	wantsSeries(t, "WeierstrassSeries", series(5, 0, 0), impl.ErrNone)(impl.WeierstrassSeries(5, 1, []int64{1, 2, 3, 4, 0}))
	wantsSeries(t, "WeierstrassSeries", series(5, 0, 0, 0), impl.ErrNone)(impl.WeierstrassSeries(5, 2, []int64{1, 2, 3, 4, 0}))
	wantsSeries(t, "WeierstrassSeries", series(5, 0, 0, 0, 1), impl.ErrNone)(impl.WeierstrassSeries(5, 3, []int64{1, 2, 3, 4, 0}))
	wantsSeries(t, "WeierstrassSeries", series(10000, 0, 0, 0, 1, 1, 3, 8, 24), impl.ErrNone)(impl.WeierstrassSeries(10000, 7, []int64{1, 2, 3, 4, 5}))
	wantsSeries(t, "WeierstrassSeries", series(7, 0, 0, 0, 1, 0, 0, 0, 0, 0, 3, 0), impl.ErrNone)(impl.WeierstrassSeries(7, 10, []int64{0, 0, 0, 0, 3}))
	wantsSeries(t, "WeierstrassSeries", series(2, 0, 0, 0, 1, 1, 1, 1, 1, 1, 1, 1), impl.ErrNone)(impl.WeierstrassSeries(2, 10, []int64{1, 0, 0, 0, 0}))
	check := func(m int64, lists [][]int64) {
		for _, list := range lists {
			w := weierstrassOf(m, list)
			for _, d := range degrees {
				wantsSeries(t, "WeierstrassSeries", series(m, w[:d+1]...), impl.ErrNone)(impl.WeierstrassSeries(m, d, list))
			}
		}
	}
	for _, m := range []int64{2, 3, 4} {
		check(m, allLists(m, 5))
	}
	for _, m := range append(moduliOfExtensions, moduli...) {
		check(m, sampleParameters(m, 5))
	}
}

// oppositeOfWeierstrass returns the curve -z / (1 - a1 z - a3 w(z)) without the program: multiplied out,
// each of its coefficients is told by those before it.
func oppositeOfWeierstrass(m int64, d int64, list []int64, w []int64) impl.Series {
	opposite := monomialOf(m, d, 1, m-1)
	for n := int64(2); n <= d; n++ {
		sum := list[0] * opposite.Coefficients[n-1]
		for i := int64(3); i < n; i++ {
			sum += list[2] * w[i] % m * opposite.Coefficients[n-i]
		}
		opposite.Coefficients[n] = sum % m
	}
	return opposite
}

// lineOfWeierstrass returns l and v without the program.
func lineOfWeierstrass(m int64, d int64, w []int64) (impl.Plane, impl.Plane) {
	l := filledPlane(m, d, func(i int64, j int64) int64 { return w[i+j+1] })
	v := filledPlane(m, d, func(i int64, j int64) int64 {
		value := oneIf(j == 0) * w[i]
		if i > 0 {
			value -= w[i+j]
		}
		return value
	})
	return l, v
}

// sumOfPlanes returns the sum of planes, each times its number, without the program.
func sumOfPlanes(numbers []int64, planes ...impl.Plane) impl.Plane {
	return filledPlane(planes[0].Modulus, degreeOfPlane(planes[0]), func(i int64, j int64) int64 {
		sum := int64(0)
		for n, f := range planes {
			sum += numbers[n] * f.Table[i][j]
		}
		return sum
	})
}

// wantsWeierstrass checks a Weierstrass law: for its opposite u, x + y + u times the number of z^3 in the
// equation of curve and line, and the number of z^2 there, are 0. This is so for only one u, and this has
// only one opposite.
func wantsWeierstrass(t *testing.T, m int64, d int64, list []int64) {
	t.Helper()
	f, code := impl.WeierstrassLaw(m, d, list)
	if code != impl.ErrNone || !impl.IsPlane(f) || f.Modulus != m || degreeOfPlane(f) != d || f.Table[0][0] != 0 {
		t.Fatalf("WeierstrassLaw(%d, %d, %v) = %v, %d", m, d, list, f, code)
	}
	w := weierstrassOf(m, list)
	opposite := oppositeOfWeierstrass(m, d, list, w)
	u := seriesInPlane(opposite, f)
	l, v := lineOfWeierstrass(m, d, w)
	square := planeProduct(l, l)
	atCube := sumOfPlanes([]int64{1, list[1], list[3], list[4]}, termOf(m, d, 0, 0, 1), l, square, planeProduct(l, square))
	atSquare := sumOfPlanes([]int64{list[0], list[1], list[2], 2 * list[3], 3 * list[4]}, l, v, square, planeProduct(l, v), planeProduct(square, v))
	sum := planeSum(planeProduct(planeSum(bilinearLaw(m, d, 0), u), atCube), atSquare)
	if !isSamePlane(sum, termOf(m, d, 0, 0, 0)) || !isSamePlane(seriesInPlane(opposite, u), f) {
		t.Errorf("WeierstrassLaw(%d, %d, %v) = %s", m, d, list, textOf(f))
	}
}

// TestWeierstrassLaw takes all lists of small moduli, and some of all other ones.
func TestWeierstrassLaw(t *testing.T) {
	// Up to degree 4 the coefficients are known: -a1 at x y, -a2 at x^2 y, -2 a3 at x^3 y, and
	// a1 a2 - 3 a3 at x^2 y^2.
	want := plane(100, []int64{0, 1, 0, 0, 0}, []int64{1, 97, 95, 86}, []int64{0, 95, 94}, []int64{0, 86}, []int64{0})
	wantsPlane(t, "WeierstrassLaw", want, impl.ErrNone)(impl.WeierstrassLaw(100, 4, []int64{3, 5, 7, 11, 13}))
	wantsPlane(t, "WeierstrassLaw", bilinearLaw(2, 1, 0), impl.ErrNone)(impl.WeierstrassLaw(2, 1, []int64{1, 1, 1, 1, 1}))
	wantsPlane(t, "WeierstrassLaw", bilinearLaw(10000, 2, 1), impl.ErrNone)(impl.WeierstrassLaw(10000, 2, []int64{9999, 9999, 9999, 9999, 9999}))
	for _, list := range allLists(2, 5) {
		for _, d := range degrees {
			wantsWeierstrass(t, 2, d, list)
		}
	}
	for _, list := range allLists(3, 5) {
		for d := int64(1); d <= 6; d++ {
			wantsWeierstrass(t, 3, d, list)
		}
	}
	for n, m := range append(moduliOfExtensions, moduli...) {
		for k, list := range sampleParameters(m, 5) {
			wantsWeierstrass(t, m, int64(n+3*k)%9+1, list)
			if (n+k)%3 == 0 {
				wantsWeierstrass(t, m, 10, list)
			}
		}
	}
}

// TestSingularCurves takes the curves without a3, a4 and a6, whose laws are known.
func TestSingularCurves(t *testing.T) {
	for _, m := range moduli {
		for _, d := range degrees {
			wantsPlane(t, "WeierstrassLaw", bilinearLaw(m, d, 0), impl.ErrNone)(impl.WeierstrassLaw(m, d, []int64{0, 0, 0, 0, 0}))
			for _, c := range []int64{0, 1, m / 2, m - 1} {
				wantsPlane(t, "WeierstrassLaw", bilinearLaw(m, d, (m-c)%m), impl.ErrNone)(impl.WeierstrassLaw(m, d, []int64{c, 0, 0, 0, 0}))
				wantsPlane(t, "WeierstrassLaw", tangentLawOf(m, d, c), impl.ErrNone)(impl.WeierstrassLaw(m, d, []int64{0, c, 0, 0, 0}))
			}
		}
	}
}

// rationals is a power series up to degree 10 over the rational numbers.
type rationals [11]*big.Rat

// rationalsOf returns a series with what a function tells for each degree, from those before it.
func rationalsOf(coefficient func(before rationals, n int) *big.Rat) rationals {
	var a rationals
	for n := range a {
		a[n] = new(big.Rat)
	}
	for n := range a {
		a[n] = coefficient(a, n)
	}
	return a
}

// polynomialOf returns a series that ends.
func polynomialOf(integers ...int64) rationals {
	return rationalsOf(func(_ rationals, n int) *big.Rat {
		if n >= len(integers) {
			return new(big.Rat)
		}
		return big.NewRat(integers[n], 1)
	})
}

// productAt returns the coefficient of a product at t^n.
func (a rationals) productAt(b rationals, n int) *big.Rat {
	sum := new(big.Rat)
	for i := range n + 1 {
		sum.Add(sum, new(big.Rat).Mul(a[i], b[n-i]))
	}
	return sum
}

// times returns the product.
func (a rationals) times(b rationals) rationals {
	return rationalsOf(func(_ rationals, n int) *big.Rat { return a.productAt(b, n) })
}

// plus returns the sum.
func (a rationals) plus(b rationals) rationals {
	return rationalsOf(func(_ rationals, n int) *big.Rat { return new(big.Rat).Add(a[n], b[n]) })
}

// inverse returns the inverse of a series with the constant 1.
func (a rationals) inverse() rationals {
	return rationalsOf(func(before rationals, n int) *big.Rat {
		if n == 0 {
			return big.NewRat(1, 1)
		}
		return new(big.Rat).Neg(a.productAt(before, n))
	})
}

// squareRoot returns the series with the constant 1 whose square is a.
func (a rationals) squareRoot() rationals {
	return rationalsOf(func(before rationals, n int) *big.Rat {
		if n == 0 {
			return big.NewRat(1, 1)
		}
		rest := new(big.Rat).Sub(a[n], before.productAt(before, n))
		return rest.Quo(rest, big.NewRat(2, 1))
	})
}

// differentialOfEuler returns 1 / r(t): its integral is the logarithm of the law of Euler.
func differentialOfEuler(a int64, e int64) rationals {
	return polynomialOf(1, 0, -2*a, 0, e).squareRoot().inverse()
}

// differentialOfWeierstrass returns the invariant differential of a curve, which is dz divided by
// 1 - a1 z - a2 z^2 - 2 a3 w - 2 a4 z w - 3 a6 w^2: its integral is the logarithm of the Weierstrass law.
func differentialOfWeierstrass(list []int64) rationals {
	w := polynomialOf()
	for range 10 {
		square := w.times(w)
		w = polynomialOf(0, 0, 0, 1).plus(w.times(polynomialOf(0, list[0], list[1]))).plus(square.times(polynomialOf(list[2], list[3]))).plus(square.times(w).times(polynomialOf(list[4])))
	}
	inverse := polynomialOf(1, -list[0], -list[1]).plus(w.times(polynomialOf(-2*list[2], -2*list[3]))).plus(w.times(w).times(polynomialOf(-3 * list[4])))
	return inverse.inverse()
}

// lawOfRationals returns the coefficients of the law whose logarithm has a derivative.
func lawOfRationals(differential rationals) [11][11]*big.Rat {
	logarithm := map[int64]*big.Rat{}
	for n := int64(2); n <= 10; n++ {
		if c := differential[n-1]; c.Sign() != 0 {
			logarithm[n] = new(big.Rat).Quo(c, big.NewRat(n, 1))
		}
	}
	return lawOverRationals(logarithm)
}

// ratModulo returns a rational number modulo m, for a denominator that is a unit.
func ratModulo(t *testing.T, m int64, c *big.Rat) int64 {
	t.Helper()
	inverse := new(big.Int).ModInverse(c.Denom(), big.NewInt(m))
	if inverse == nil {
		t.Fatalf("%v has a denominator that is no unit modulo %d", c, m)
	}
	product := new(big.Int).Mul(c.Num(), inverse)
	return product.Mod(product, big.NewInt(m)).Int64()
}

// lawModulo returns a law over the rational numbers modulo m, where its denominators have to be units.
func lawModulo(t *testing.T, m int64, d int64, f [11][11]*big.Rat) impl.Plane {
	t.Helper()
	return filledPlane(m, d, func(i int64, j int64) int64 { return ratModulo(t, m, f[i][j]) })
}

// remaindersOf returns the remainders of integers.
func remaindersOf(m int64, integers []int64) []int64 {
	var list []int64
	for _, n := range integers {
		list = append(list, (n%m+m)%m)
	}
	return list
}

// TestEulerLawOverRationals compares laws of Euler with those of their logarithms over the rational
// numbers, whose denominators are powers of 2.
func TestEulerLawOverRationals(t *testing.T) {
	for _, integers := range [][]int64{{1, 2}, {-1, 3}, {0, 1}, {0, -1}, {1, 0}, {37, -11}, {4321, 8765}} {
		law := lawOfRationals(differentialOfEuler(integers[0], integers[1]))
		for _, m := range oddModuli() {
			list := remaindersOf(m, integers)
			for _, d := range degrees {
				wantsPlane(t, "EulerLaw", lawModulo(t, m, d, law), impl.ErrNone)(impl.EulerLaw(m, d, list[0], list[1]))
			}
		}
	}
}

// TestWeierstrassLawOverRationals compares Weierstrass laws with those of their logarithms over the
// rational numbers, which have whole coefficients.
func TestWeierstrassLawOverRationals(t *testing.T) {
	lists := [][]int64{
		{1, 2, 3, 4, 5}, {-1, -1, -1, -1, -1}, {0, 0, 1, 0, 0}, {0, 0, 0, 1, 0}, {0, 0, 0, 0, 1}, {0, 0, 1, 1, 0}, {1, 0, 0, 0, 1}, {7, -3, 0, 2, -9}, {4321, 987, 5555, 1234, 8765},
	}
	for _, integers := range lists {
		law := lawOfRationals(differentialOfWeierstrass(integers))
		for _, m := range append(moduliOfExtensions, moduli...) {
			list := remaindersOf(m, integers)
			for _, d := range degrees {
				wantsPlane(t, "WeierstrassLaw", lawModulo(t, m, d, law), impl.ErrNone)(impl.WeierstrassLaw(m, d, list))
			}
		}
	}
}

// wantsRange checks that a function returns ErrRange.
func wantsRange(t *testing.T, c standardCall, m int64, d int64, list []int64) {
	t.Helper()
	wantsNoPlane(t, c.name, impl.ErrRange)(c.call(m, d, list))
}

// TestStandardRanges gives each function a modulus, a degree or a parameter out of its range, and several
// of them. Moduli that are none have no code of their own.
func TestStandardRanges(t *testing.T) {
	noDegrees := []int64{math.MinInt64, -10, -1, 0, 11, 12, math.MaxInt64}
	for _, c := range standardCalls() {
		for _, m := range noModuli {
			for _, d := range append([]int64{1, 2, 10}, noDegrees...) {
				for _, a := range []int64{math.MinInt64, -1, 0, 1, m - 1, m, math.MaxInt64} {
					wantsRange(t, c, m, d, slices.Repeat([]int64{a}, c.parameters))
				}
			}
		}
		for _, m := range []int64{2, 3, 4, 9, 9999, 10000} {
			for _, d := range noDegrees {
				wantsRange(t, c, m, d, make([]int64, c.parameters))
				wantsRange(t, c, m, d, slices.Repeat([]int64{m - 1}, c.parameters))
			}
			for _, a := range noNumbers(m) {
				for k := range c.parameters {
					list := slices.Repeat([]int64{m - 1}, c.parameters)
					list[k] = a
					for _, d := range []int64{0, 1, 2, 3, 10, 11} {
						wantsRange(t, c, m, d, list)
					}
				}
			}
		}
	}
}

// TestStandardLimits gives each function the limits of all ranges.
func TestStandardLimits(t *testing.T) {
	for _, c := range standardCalls() {
		for _, m := range []int64{2, 3, 4, 9999, 10000} {
			for _, d := range []int64{1, 2, 10} {
				for _, list := range append(sampleParameters(m, 5), make([]int64, 5)) {
					f, code := c.call(m, d, list[:c.parameters])
					if c.name == "EulerLaw" && m%2 == 0 {
						wantsNoPlane(t, c.name, impl.ErrState)(f, code)
					} else if code != impl.ErrNone || f.Modulus != m || int64(len(f.Table[0])) != d+1 {
						t.Errorf("%s(%d, %d, %v) = %v, %d", c.name, m, d, list[:c.parameters], f, code)
					}
				}
			}
		}
	}
}

// TestNoFiveParameters gives lists that have not five numbers, also where one of them, the modulus or the
// degree is out of its range.
func TestNoFiveParameters(t *testing.T) {
	for _, n := range []int{0, 1, 2, 3, 4, 6, 7, 10, 1000} {
		for _, a := range []int64{0, 1, 6, 7, -1, math.MinInt64, math.MaxInt64} {
			list := slices.Repeat([]int64{a}, n)
			for _, m := range []int64{7, 10000, 1, 0, 10001} {
				for _, d := range []int64{1, 3, 10, 0, 11} {
					wantsCode(t, "WeierstrassSeries", impl.ErrRange)(impl.WeierstrassSeries(m, d, list))
					wantsNoPlane(t, "WeierstrassLaw", impl.ErrRange)(impl.WeierstrassLaw(m, d, list))
				}
			}
		}
	}
	wantsCode(t, "WeierstrassSeries", impl.ErrRange)(impl.WeierstrassSeries(7, 3, nil))
	wantsNoPlane(t, "WeierstrassLaw", impl.ErrRange)(impl.WeierstrassLaw(7, 3, nil))
}

// TestStandardMemory checks all functions of the chapter: the list of five numbers is that of a series of
// degree 4, with spare capacity behind it.
func TestStandardMemory(t *testing.T) {
	for _, c := range standardCalls() {
		checkMemory(t, c.name, func(f impl.Plane, a impl.Series) (impl.Plane, int64) {
			return c.call(7, 4, a.Coefficients[:c.parameters])
		})
	}
}
