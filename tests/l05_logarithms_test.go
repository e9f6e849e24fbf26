package tests

import (
	"math"
	"reflect"
	"testing"

	"loop.example/g01152/impl"
)

// moduliOfLogarithms are those of laws, and others with which more of the numbers 1 to 10 are units.
var moduliOfLogarithms = append([]int64{7, 11, 25, 35, 49, 121, 143, 9997}, moduliOfLaws...)

// haveInverses reports whether the numbers 1 to d are units modulo m.
func haveInverses(m int64, d int64) bool {
	for n := int64(1); n <= d; n++ {
		if !isUnitOf(m, n) {
			return false
		}
	}
	return true
}

// inverseOf returns the inverse of a unit modulo m, by trial.
func inverseOf(t *testing.T, m int64, a int64) int64 {
	t.Helper()
	for x := int64(0); x < m; x++ {
		if a%m*x%m == 1 {
			return x
		}
	}
	t.Fatalf("%d is no unit modulo %d", a, m)
	return 0
}

// integralOf returns the curve of the degree D + 1 with the derivative w without the program.
func integralOf(t *testing.T, w impl.Series) impl.Series {
	t.Helper()
	a := series(w.Modulus, 0)
	for n, c := range w.Coefficients {
		a.Coefficients = append(a.Coefficients, c*inverseOf(t, w.Modulus, int64(n+1))%w.Modulus)
	}
	return a
}

// dividedByFirst returns c a, where c is the inverse of the coefficient k of a series.
func dividedByFirst(t *testing.T, a impl.Series, k int64) impl.Series {
	t.Helper()
	c := inverseOf(t, a.Modulus, a.Coefficients[k])
	return productOf(a, monomialOf(a.Modulus, degreeOf(a), 0, c))
}

// sumOfVariables returns a(x) + a(y) for a curve a without the program.
func sumOfVariables(a impl.Series) impl.Plane {
	return filledPlane(a.Modulus, degreeOf(a), func(i int64, j int64) int64 {
		if i*j != 0 {
			return 0
		}
		return a.Coefficients[i+j]
	})
}

// addsUnder reports whether a(F(x, y)) = a(x) + a(y), without the program.
func addsUnder(f impl.Plane, a impl.Series) bool {
	return isSamePlane(seriesInPlane(a, f), sumOfVariables(a))
}

// bilinearDifferential, bilinearLogarithm and bilinearExponential are those of x + y + c x y, without
// the program but for the inverses of numbers: the sums of (-c)^k t^k, of (-c)^(k - 1) t^k / k, and of
// c^(k - 1) t^k / k factorial.
func bilinearDifferential(m int64, d int64, c int64) impl.Series {
	w, power := monomialOf(m, d-1, 0, 0), int64(1)
	for k := range w.Coefficients {
		w.Coefficients[k] = power
		power = power * (m - c) % m
	}
	return w
}

func bilinearLogarithm(t *testing.T, m int64, d int64, c int64) impl.Series {
	t.Helper()
	a, power := monomialOf(m, d, 0, 0), int64(1)
	for k := int64(1); k <= d; k++ {
		a.Coefficients[k] = power * inverseOf(t, m, k) % m
		power = power * (m - c) % m
	}
	return a
}

func bilinearExponential(t *testing.T, m int64, d int64, c int64) impl.Series {
	t.Helper()
	a, power, factorial := monomialOf(m, d, 0, 0), int64(1), int64(1)
	for k := int64(1); k <= d; k++ {
		factorial = factorial * k % m
		a.Coefficients[k] = power * inverseOf(t, m, factorial) % m
		power = power * c % m
	}
	return a
}

// TestDifferentialOf checks that products of differentials and the coefficients at x y^j are 1, with
// all moduli: no number has to be a unit.
func TestDifferentialOf(t *testing.T) {
	wantsSeries(t, "DifferentialOf", series(5, 1, 4, 1), impl.ErrNone)(impl.DifferentialOf(bilinearLaw(5, 3, 1)))
	wantsSeries(t, "DifferentialOf", series(2, 1, 1), impl.ErrNone)(impl.DifferentialOf(bilinearLaw(2, 2, 1)))
	wantsSeries(t, "DifferentialOf", series(7, 1, 0, 6, 0, 1), impl.ErrNone)(impl.DifferentialOf(tangentLaw(7, 5)))
	for _, m := range moduliOfLogarithms {
		for d := int64(2); d <= 10; d++ {
			for _, c := range []int64{0, 1, m / 3, m - 1} {
				wantsSeries(t, "DifferentialOf", bilinearDifferential(m, d, c), impl.ErrNone)(impl.DifferentialOf(bilinearLaw(m, d, c)))
			}
		}
		for _, d := range degreesOfLaws[1:] {
			for _, f := range sampleLaws(t, m, d) {
				w := made(t, "DifferentialOf")(impl.DifferentialOf(f))
				if w.Modulus != m || degreeOf(w) != d-1 || !impl.IsSeries(w) {
					t.Fatalf("DifferentialOf(%s) = %v", textOf(f), w)
				}
				wantsSeries(t, "the product of the differential", monomialOf(m, d-1, 0, 1), impl.ErrNone)(productOf(w, series(m, f.Table[1]...)), impl.ErrNone)
			}
		}
	}
}

// tangentLaw returns (x + y) / (1 - x y), whose logarithm has the derivative 1 / (1 + t^2).
func tangentLaw(m int64, d int64) impl.Plane {
	return filledPlane(m, d, func(i int64, j int64) int64 {
		if i-j == 1 || j-i == 1 {
			return 1
		}
		return 0
	})
}

// TestDegreeOne gives laws of degree 1, which are x + y: there is no differential, but a logarithm,
// for all moduli.
func TestDegreeOne(t *testing.T) {
	for _, m := range append(moduliOfLogarithms, moduli...) {
		f, line := bilinearLaw(m, 1, 0), series(m, 0, 1)
		wantsCode(t, "DifferentialOf", impl.ErrState)(impl.DifferentialOf(f))
		wantsSeries(t, "LogarithmOf", line, impl.ErrNone)(impl.LogarithmOf(f))
		wantsSeries(t, "ExponentialOf", line, impl.ErrNone)(impl.ExponentialOf(f))
		for _, c := range sample(m) {
			wants(t, "IsLogarithm", c == 1, impl.ErrNone)(impl.IsLogarithm(f, series(m, 0, c)))
			if isUnitOf(m, c) {
				wantsPlane(t, "LawOfCurve", f, impl.ErrNone)(impl.LawOfCurve(series(m, 0, c)))
			}
		}
		for _, n := range []int64{-1000000, -1, 0, 1, 2, 999999, 1000000} {
			wantsSeries(t, "MultipleByLogarithm", series(m, 0, (n%m+m)%m), impl.ErrNone)(impl.MultipleByLogarithm(f, n))
		}
	}
}

// TestLogarithmOf checks that logarithms begin with t, lead sums to sums, and have the differentials
// as derivatives.
func TestLogarithmOf(t *testing.T) {
	wantsSeries(t, "LogarithmOf", series(5, 0, 1, 2, 2), impl.ErrNone)(impl.LogarithmOf(bilinearLaw(5, 3, 1)))
	wantsSeries(t, "LogarithmOf", series(3, 0, 1, 1), impl.ErrNone)(impl.LogarithmOf(bilinearLaw(3, 2, 1)))
	wantsSeries(t, "LogarithmOf", series(7, 0, 1, 0, 2, 0, 3), impl.ErrNone)(impl.LogarithmOf(tangentLaw(7, 5)))
	count := 0
	for _, m := range moduliOfLogarithms {
		for _, d := range degreesOfLaws {
			if !haveInverses(m, d) {
				continue
			}
			for _, c := range []int64{0, 1, m / 3, m - 1} {
				wantsSeries(t, "LogarithmOf", bilinearLogarithm(t, m, d, c), impl.ErrNone)(impl.LogarithmOf(bilinearLaw(m, d, c)))
			}
			for _, f := range sampleLaws(t, m, d) {
				a := made(t, "LogarithmOf")(impl.LogarithmOf(f))
				if !impl.IsCurve(a) || a.Modulus != m || degreeOf(a) != d || a.Coefficients[1] != 1 || !addsUnder(f, a) {
					t.Errorf("LogarithmOf(%s) = %v", textOf(f), a)
				}
				if d > 1 {
					wantsSeries(t, "DifferentialOf", derivativeOf(a), impl.ErrNone)(impl.DifferentialOf(f))
				}
				count++
			}
		}
	}
	if count < 300 {
		t.Errorf("only %d logarithms", count)
	}
}

// TestNumbersThatAreNoUnits checks for all degrees and for moduli of all kinds that there are
// logarithms, exponentials and multiples by them exactly if the numbers 1 to the degree are units;
// laws of curves are there all the same.
func TestNumbersThatAreNoUnits(t *testing.T) {
	for m := int64(2); m <= 10000; m++ {
		if m > 130 && m < 9990 {
			continue
		}
		for d := int64(1); d <= 10; d++ {
			f, w := bilinearLaw(m, d, 1), monomialOf(m, max(d-1, 1), 0, 1)
			if haveInverses(m, d) {
				wantsSeries(t, "LogarithmOf", bilinearLogarithm(t, m, d, 1), impl.ErrNone)(impl.LogarithmOf(f))
				wantsSeries(t, "ExponentialOf", bilinearExponential(t, m, d, 1), impl.ErrNone)(impl.ExponentialOf(f))
				wantsSeries(t, "MultipleByLogarithm", bilinearMultiple(m, d, 1, m+3), impl.ErrNone)(impl.MultipleByLogarithm(f, m+3))
			} else {
				wantsCode(t, "LogarithmOf", impl.ErrState)(impl.LogarithmOf(f))
				wantsCode(t, "ExponentialOf", impl.ErrState)(impl.ExponentialOf(f))
				wantsCode(t, "MultipleByLogarithm", impl.ErrState)(impl.MultipleByLogarithm(f, m+3))
			}
			if d > 1 && haveInverses(m, d) {
				wantsPlane(t, "LawOfDifferential", bilinearLaw(m, d, 0), impl.ErrNone)(impl.LawOfDifferential(w))
			} else if d > 1 {
				wantsNoPlane(t, "LawOfDifferential", impl.ErrState)(impl.LawOfDifferential(w))
			}
			wantsPlane(t, "LawOfCurve", bilinearLaw(m, d, 0), impl.ErrNone)(impl.LawOfCurve(monomialOf(m, d, 1, m-1)))
		}
	}
}

// TestExponentialOf checks that exponentials undo logarithms on both sides.
func TestExponentialOf(t *testing.T) {
	wantsSeries(t, "ExponentialOf", series(5, 0, 1, 3, 1), impl.ErrNone)(impl.ExponentialOf(bilinearLaw(5, 3, 1)))
	wantsSeries(t, "ExponentialOf", series(7, 0, 1, 0, 5, 0, 2), impl.ErrNone)(impl.ExponentialOf(tangentLaw(7, 5)))
	for _, m := range moduliOfLogarithms {
		for _, d := range degreesOfLaws {
			if !haveInverses(m, d) {
				for _, f := range sampleLaws(t, m, d) {
					wantsCode(t, "LogarithmOf", impl.ErrState)(impl.LogarithmOf(f))
					wantsCode(t, "ExponentialOf", impl.ErrState)(impl.ExponentialOf(f))
				}
				continue
			}
			for _, c := range []int64{0, 1, m / 3, m - 1} {
				wantsSeries(t, "ExponentialOf", bilinearExponential(t, m, d, c), impl.ErrNone)(impl.ExponentialOf(bilinearLaw(m, d, c)))
			}
			for _, f := range sampleLaws(t, m, d) {
				a := made(t, "LogarithmOf")(impl.LogarithmOf(f))
				g := made(t, "ExponentialOf")(impl.ExponentialOf(f))
				line := monomialOf(m, d, 1, 1)
				wantsSeries(t, "the logarithm of the exponential", line, impl.ErrNone)(compositionOf(a, g), impl.ErrNone)
				wantsSeries(t, "the exponential of the logarithm", line, impl.ErrNone)(compositionOf(g, a), impl.ErrNone)
				wantsPlane(t, "the exponential of a sum", inCurves(f, g, g), impl.ErrNone)(seriesInPlane(g, bilinearLaw(m, d, 0)), impl.ErrNone)
			}
		}
	}
}

// TestIsLogarithmAmongAll looks at all curves of small moduli and degrees. If the numbers 1 to the
// degree are units, there is just one logarithm; otherwise there may be none, or many.
func TestIsLogarithmAmongAll(t *testing.T) {
	counts := map[int]bool{}
	for _, kind := range [][2]int64{{2, 1}, {2, 2}, {2, 3}, {2, 4}, {2, 6}, {3, 1}, {3, 2}, {3, 3}, {3, 4}, {4, 2}, {4, 3}, {4, 4}, {5, 2}, {5, 3}, {6, 2}, {6, 3}, {7, 3}, {9, 2}, {9, 3}} {
		m, d := kind[0], kind[1]
		for _, f := range sampleLaws(t, m, d) {
			count := 0
			for _, a := range allSeries(m, d) {
				if a.Coefficients[0] != 0 {
					continue
				}
				want := a.Coefficients[1] == 1 && addsUnder(f, a)
				wants(t, "IsLogarithm", want, impl.ErrNone)(impl.IsLogarithm(f, a))
				if want {
					count++
				}
			}
			counts[count] = true
			if haveInverses(m, d) && count != 1 {
				t.Errorf("%d logarithms of %s", count, textOf(f))
			}
		}
	}
	if !counts[0] || !counts[1] || len(counts) < 4 {
		t.Errorf("numbers of logarithms: %v", counts)
	}
}

// TestIsLogarithm gives curves that are no logarithms for one reason: the logarithm changed at one
// coefficient, and multiples of it, which lead sums to sums but have another coefficient at t.
func TestIsLogarithm(t *testing.T) {
	f := bilinearLaw(5, 3, 1)
	wants(t, "IsLogarithm", true, impl.ErrNone)(impl.IsLogarithm(f, series(5, 0, 1, 2, 2)))
	wants(t, "IsLogarithm", false, impl.ErrNone)(impl.IsLogarithm(f, series(5, 0, 2, 4, 4)))
	wants(t, "IsLogarithm", false, impl.ErrNone)(impl.IsLogarithm(f, series(5, 0, 1, 0, 0)))
	wants(t, "IsLogarithm", false, impl.ErrNone)(impl.IsLogarithm(f, series(5, 0, 0, 0, 0)))
	// 2 is no unit modulo 4, but where xy has the coefficient 2 the square of x + y takes it away.
	wants(t, "IsLogarithm", true, impl.ErrNone)(impl.IsLogarithm(bilinearLaw(4, 2, 2), series(4, 0, 1, 1)))
	wants(t, "IsLogarithm", true, impl.ErrNone)(impl.IsLogarithm(bilinearLaw(4, 2, 2), series(4, 0, 1, 3)))
	wants(t, "IsLogarithm", false, impl.ErrNone)(impl.IsLogarithm(bilinearLaw(4, 2, 2), series(4, 0, 1, 2)))
	wants(t, "IsLogarithm", true, impl.ErrNone)(impl.IsLogarithm(bilinearLaw(3, 10, 0), series(3, 0, 1, 0, 2, 0, 0, 0, 0, 0, 1, 0)))
	wants(t, "IsLogarithm", false, impl.ErrNone)(impl.IsLogarithm(bilinearLaw(3, 10, 0), series(3, 0, 1, 0, 2, 0, 0, 1, 0, 0, 0, 0)))
	for _, m := range moduliOfLogarithms {
		for _, d := range degreesOfLaws {
			if !haveInverses(m, d) {
				continue
			}
			for _, f := range sampleLaws(t, m, d) {
				a := made(t, "LogarithmOf")(impl.LogarithmOf(f))
				wants(t, "IsLogarithm", true, impl.ErrNone)(impl.IsLogarithm(f, a))
				for n := int64(1); n <= d; n++ {
					b := series(m, append([]int64(nil), a.Coefficients...)...)
					b.Coefficients[n] = (b.Coefficients[n] + 1) % m
					wants(t, "IsLogarithm", false, impl.ErrNone)(impl.IsLogarithm(f, b))
				}
				for _, c := range []int64{0, 2, m - 1} {
					b := productOf(a, monomialOf(m, d, 0, c%m))
					wants(t, "IsLogarithm", b.Coefficients[1] == 1, impl.ErrNone)(impl.IsLogarithm(f, b))
				}
			}
		}
	}
}

// wantsLawOf checks that a plane is the law of a curve a: its coefficients are the only ones for
// which a(F(x, y)) is a(x) + a(y).
func wantsLawOf(t *testing.T, a impl.Series) func(impl.Plane, int64) {
	return func(f impl.Plane, code int64) {
		t.Helper()
		if code != impl.ErrNone || !impl.IsPlane(f) || f.Modulus != a.Modulus || degreeOfPlane(f) != degreeOf(a) || f.Table[0][0] != 0 || !addsUnder(f, a) {
			t.Errorf("the law of %v is %v, %d", a, f, code)
		}
	}
}

// TestLawOfCurve takes all curves of small moduli and degrees, and some of all others. Moduli are not
// bound to any units, and coefficients at t are units of all kinds.
func TestLawOfCurve(t *testing.T) {
	wantsPlane(t, "LawOfCurve", bilinearLaw(5, 2, 3), impl.ErrNone)(impl.LawOfCurve(series(5, 0, 1, 1)))
	wantsPlane(t, "LawOfCurve", bilinearLaw(5, 3, 1), impl.ErrNone)(impl.LawOfCurve(series(5, 0, 1, 2, 2)))
	wantsPlane(t, "LawOfCurve", bilinearLaw(5, 3, 1), impl.ErrNone)(impl.LawOfCurve(series(5, 0, 3, 1, 1)))
	wantsPlane(t, "LawOfCurve", bilinearLaw(2, 2, 0), impl.ErrNone)(impl.LawOfCurve(series(2, 0, 1, 1)))
	wantsPlane(t, "LawOfCurve", tangentLaw(7, 5), impl.ErrNone)(impl.LawOfCurve(series(7, 0, 1, 0, 2, 0, 3)))
	for _, kind := range [][2]int64{{2, 1}, {2, 2}, {2, 3}, {2, 5}, {3, 2}, {3, 3}, {4, 2}, {4, 3}, {6, 2}, {6, 3}, {10, 2}} {
		for _, a := range allSeries(kind[0], kind[1]) {
			wantsLawOrState(t, a)
		}
	}
	for _, m := range append(moduliOfLogarithms, 10, 30) {
		for _, d := range degrees {
			for _, a := range append(sampleSeries(m, d), sampleCurves(m, d)...) {
				wantsLawOrState(t, a)
			}
			for n, a := range invertibleCurves(m, d) {
				wantsLawOf(t, a)(impl.LawOfCurve(a))
				if unit := sample(m)[n%len(sample(m))]; isUnitOf(m, unit) {
					a.Coefficients[1] = unit
					wantsLawOf(t, a)(impl.LawOfCurve(a))
				}
			}
		}
	}
}

// wantsLawOrState checks LawOfCurve of a series, which may have a constant or a coefficient at t that
// is no unit.
func wantsLawOrState(t *testing.T, a impl.Series) {
	t.Helper()
	if a.Coefficients[0] == 0 && isUnitOf(a.Modulus, a.Coefficients[1]) {
		wantsLawOf(t, a)(impl.LawOfCurve(a))
	} else {
		wantsNoPlane(t, "LawOfCurve", impl.ErrState)(impl.LawOfCurve(a))
	}
}

// TestLawOfDifferential compares laws of differentials with laws of curves that are integrated
// without the program.
func TestLawOfDifferential(t *testing.T) {
	wantsPlane(t, "LawOfDifferential", bilinearLaw(5, 3, 1), impl.ErrNone)(impl.LawOfDifferential(series(5, 1, 4, 1)))
	wantsPlane(t, "LawOfDifferential", bilinearLaw(5, 3, 1), impl.ErrNone)(impl.LawOfDifferential(series(5, 2, 3, 2)))
	wantsPlane(t, "LawOfDifferential", bilinearLaw(3, 2, 1), impl.ErrNone)(impl.LawOfDifferential(series(3, 1, 2)))
	wantsPlane(t, "LawOfDifferential", tangentLaw(7, 5), impl.ErrNone)(impl.LawOfDifferential(series(7, 1, 0, 6, 0, 1)))
	count := 0
	for _, m := range moduliOfLogarithms {
		for d := int64(1); d <= 10; d++ {
			for n, w := range sampleSeries(m, d) {
				if n%3 == 0 {
					w.Coefficients[0] = []int64{1, m - 1, 2 % m}[n/3%3]
				}
				if d == 10 || !haveInverses(m, d+1) || !isUnitOf(m, w.Coefficients[0]) {
					wantsNoPlane(t, "LawOfDifferential", impl.ErrState)(impl.LawOfDifferential(w))
					continue
				}
				a := integralOf(t, w)
				wantsLawOf(t, a)(impl.LawOfDifferential(w))
				wantsPlane(t, "LawOfDifferential", madePlane(t, "LawOfCurve")(impl.LawOfCurve(a)), impl.ErrNone)(impl.LawOfDifferential(w))
				count++
			}
		}
	}
	if count < 300 {
		t.Errorf("only %d laws", count)
	}
}

// TestStatesOfDifferentials gives differentials with each of the three reasons for which they have no
// law: the constant, the numbers, and the degree, which is MaxDegree also where 11 is a unit.
func TestStatesOfDifferentials(t *testing.T) {
	wantsNoPlane(t, "LawOfDifferential", impl.ErrState)(impl.LawOfDifferential(series(5, 0, 1)))
	wantsNoPlane(t, "LawOfDifferential", impl.ErrState)(impl.LawOfDifferential(series(35, 5, 1)))
	wantsNoPlane(t, "LawOfDifferential", impl.ErrState)(impl.LawOfDifferential(series(35, 14, 1, 3)))
	wantsNoPlane(t, "LawOfDifferential", impl.ErrState)(impl.LawOfDifferential(series(2, 1, 1)))
	wantsNoPlane(t, "LawOfDifferential", impl.ErrState)(impl.LawOfDifferential(series(2, 1, 0)))
	wantsNoPlane(t, "LawOfDifferential", impl.ErrState)(impl.LawOfDifferential(series(3, 1, 0, 0)))
	wantsNoPlane(t, "LawOfDifferential", impl.ErrState)(impl.LawOfDifferential(series(10, 1, 0)))
	for _, m := range []int64{2, 11, 13, 97, 143, 9973} {
		for _, w := range sampleSeries(m, impl.MaxDegree) {
			for _, c := range []int64{0, 1, m - 1} {
				w.Coefficients[0] = c
				wantsNoPlane(t, "LawOfDifferential", impl.ErrState)(impl.LawOfDifferential(w))
			}
		}
	}
	// One degree less is that of laws of the degree MaxDegree.
	wantsPlane(t, "LawOfDifferential", bilinearLaw(11, 10, 3), impl.ErrNone)(impl.LawOfDifferential(bilinearDifferential(11, 10, 3)))
	wantsNoPlane(t, "LawOfDifferential", impl.ErrState)(impl.LawOfDifferential(bilinearDifferential(9, 10, 3)))
	wantsNoPlane(t, "LawOfDifferential", impl.ErrState)(impl.LawOfDifferential(bilinearDifferential(7, 7, 3)))
	wantsPlane(t, "LawOfDifferential", bilinearLaw(7, 6, 3), impl.ErrNone)(impl.LawOfDifferential(bilinearDifferential(7, 6, 3)))
}

// TestMultipleByLogarithm compares multiples with those of laws with one term more, and with sums one
// after the other.
func TestMultipleByLogarithm(t *testing.T) {
	wantsSeries(t, "MultipleByLogarithm", series(5, 0, 3, 3, 1), impl.ErrNone)(impl.MultipleByLogarithm(bilinearLaw(5, 3, 1), 3))
	wantsSeries(t, "MultipleByLogarithm", series(5, 0, 4, 1, 4), impl.ErrNone)(impl.MultipleByLogarithm(bilinearLaw(5, 3, 1), -1))
	numbers := []int64{-1000000, -999999, -524288, -1000, -17, -2, -1, 0, 1, 2, 3, 16, 1023, 65536, 999999, 1000000}
	for _, m := range moduliOfLogarithms {
		for _, d := range degreesOfLaws {
			if !haveInverses(m, d) {
				continue
			}
			for _, n := range numbers {
				for _, c := range []int64{0, 1, m / 2, m - 1} {
					wantsSeries(t, "MultipleByLogarithm", bilinearMultiple(m, d, c, n), impl.ErrNone)(impl.MultipleByLogarithm(bilinearLaw(m, d, c), n))
				}
			}
			for _, f := range sampleLaws(t, m, d) {
				multiple, line := monomialOf(m, d, 0, 0), monomialOf(m, d, 1, 1)
				for k := int64(0); k <= 5; k++ {
					wantsSeries(t, "MultipleByLogarithm", multiple, impl.ErrNone)(impl.MultipleByLogarithm(f, k))
					opposite := made(t, "MultipleByLogarithm")(impl.MultipleByLogarithm(f, -k))
					wantsSeries(t, "the sum of multiples by k and -k", monomialOf(m, d, 0, 0), impl.ErrNone)(inCurvesOfOne(f, multiple, opposite), impl.ErrNone)
					multiple = inCurvesOfOne(f, multiple, line)
				}
			}
		}
	}
}

// TestNumbersOutOfRange gives numbers that are no numbers of multiples, also where numbers that are no
// units would be an error behind that.
func TestNumbersOutOfRange(t *testing.T) {
	for _, m := range []int64{2, 10, 11} {
		for _, d := range []int64{1, 3, 10} {
			for _, n := range []int64{math.MinInt64, -1000001, 1000001, math.MaxInt64} {
				wantsCode(t, "MultipleByLogarithm", impl.ErrRange)(impl.MultipleByLogarithm(bilinearLaw(m, d, 1), n))
			}
		}
	}
	for _, n := range []int64{-1000000, -1, 0, 1, 1000000} {
		wantsCode(t, "MultipleByLogarithm", impl.ErrState)(impl.MultipleByLogarithm(bilinearLaw(10, 3, 1), n))
	}
}

// TestNoLawsWithLogarithms gives planes that are no laws, also where an error behind that would hold:
// a degree 1, numbers that are no units, multiples out of their range, and curves that are none or are
// not of the law.
func TestNoLawsWithLogarithms(t *testing.T) {
	bad := noLaws()
	for _, m := range []int64{2, 11} {
		for _, d := range []int64{1, 2, 10} {
			bad = append(bad, termOf(m, d, 0, 0, 0), termOf(m, d, 1, 0, 1), termOf(m, d, 0, 1, 1), withTerm(bilinearLaw(m, d, 0), 0, 0))
		}
		bad = append(bad, withTerm(bilinearLaw(m, 3, 1), 0, 2), withTerm(bilinearLaw(m, 3, 1), 2, 1), withTerm(bilinearLaw(11, 4, 1), 2, 2))
	}
	curves := []impl.Series{series(10, 0, 1, 0), series(10, 1, 1, 0), series(7, 0, 1), series(7, 1, 1), {}}
	for _, f := range bad {
		wantsCode(t, "DifferentialOf", impl.ErrInvalid)(impl.DifferentialOf(f))
		wantsCode(t, "LogarithmOf", impl.ErrInvalid)(impl.LogarithmOf(f))
		wantsCode(t, "ExponentialOf", impl.ErrInvalid)(impl.ExponentialOf(f))
		for _, a := range curves {
			wants(t, "IsLogarithm", false, impl.ErrInvalid)(impl.IsLogarithm(f, a))
		}
		for _, n := range []int64{math.MinInt64, -1000001, 0, 2, 1000001} {
			wantsCode(t, "MultipleByLogarithm", impl.ErrInvalid)(impl.MultipleByLogarithm(f, n))
		}
	}
}

// TestNoSeriesWithLaws gives what is no series, also where its constant, its coefficient at t, or a
// number that is no unit would be an error behind that.
func TestNoSeriesWithLaws(t *testing.T) {
	list := append(noSeries(), series(10, 1, 2, 10), series(10, 0, 2, -1), series(2, 2, 1), series(5, 1, 0, 5), series(11, append([]int64{1, 11}, make([]int64, 9)...)...), series(13, make([]int64, 13)...))
	for _, bad := range list {
		wantsNoPlane(t, "LawOfCurve", impl.ErrInvalid)(impl.LawOfCurve(bad))
		wantsNoPlane(t, "LawOfDifferential", impl.ErrInvalid)(impl.LawOfDifferential(bad))
		for _, f := range []impl.Plane{bilinearLaw(10, 2, 1), bilinearLaw(7, 1, 0), bilinearLaw(2, 10, 1), termOf(10, 2, 1, 0, 1), {}} {
			wants(t, "IsLogarithm", false, impl.ErrInvalid)(impl.IsLogarithm(f, bad))
		}
	}
}

// TestNoCurvesAsLogarithms gives series with another modulus, another degree, both, or a constant,
// with a logarithm all the same if that is left out.
func TestNoCurvesAsLogarithms(t *testing.T) {
	for _, m := range []int64{10, 11} {
		for _, d := range degreesOfLaws {
			f := bilinearLaw(m, d, 0)
			wants(t, "IsLogarithm", true, impl.ErrNone)(impl.IsLogarithm(f, monomialOf(m, d, 1, 1)))
			bad := []impl.Series{
				monomialOf(m, d, 0, 1), monomialOf(m, d, 0, m-1), monomialOf(5, d, 1, 1), monomialOf(m+1, d, 1, 1), monomialOf(m, d%10+1, 1, 1), monomialOf(5, d%10+1, 1, 1),
			}
			with := monomialOf(m, d, 1, 1)
			with.Coefficients[0] = 1
			for _, a := range append(bad, with) {
				wants(t, "IsLogarithm", false, impl.ErrRange)(impl.IsLogarithm(f, a))
			}
		}
	}
}

// operationsOnLogarithms are all functions of the chapter that make a series or a plane of what they
// are given. Series are given out as planes with one list.
func operationsOnLogarithms() map[string]func(f impl.Plane, a impl.Series) (impl.Plane, int64) {
	inOneList := func(a impl.Series, code int64) (impl.Plane, int64) { return plane(a.Modulus, a.Coefficients), code }
	return map[string]func(f impl.Plane, a impl.Series) (impl.Plane, int64){
		"DifferentialOf": func(f impl.Plane, a impl.Series) (impl.Plane, int64) { return inOneList(impl.DifferentialOf(f)) },
		"LogarithmOf":    func(f impl.Plane, a impl.Series) (impl.Plane, int64) { return inOneList(impl.LogarithmOf(f)) },
		"ExponentialOf":  func(f impl.Plane, a impl.Series) (impl.Plane, int64) { return inOneList(impl.ExponentialOf(f)) },
		"IsLogarithm": func(f impl.Plane, a impl.Series) (impl.Plane, int64) {
			yes, code := impl.IsLogarithm(f, a)
			return plane(7, []int64{oneIf(yes)}), code
		},
		"LawOfCurve": func(f impl.Plane, a impl.Series) (impl.Plane, int64) { return impl.LawOfCurve(a) },
		"LawOfDifferential": func(f impl.Plane, a impl.Series) (impl.Plane, int64) {
			return impl.LawOfDifferential(series(7, a.Coefficients[1:]...))
		},
		"MultipleByLogarithm by 0": func(f impl.Plane, a impl.Series) (impl.Plane, int64) {
			return inOneList(impl.MultipleByLogarithm(f, 0))
		},
		"MultipleByLogarithm by 1": func(f impl.Plane, a impl.Series) (impl.Plane, int64) {
			return inOneList(impl.MultipleByLogarithm(f, 1))
		},
		"MultipleByLogarithm by -5": func(f impl.Plane, a impl.Series) (impl.Plane, int64) {
			return inOneList(impl.MultipleByLogarithm(f, -5))
		},
	}
}

// checkMemory checks that an operation on a law and a curve of it, modulo 7 and of degree 4, does not
// change an argument or the spare capacity behind it, that its result shares no memory with arguments
// or within itself, and that equal calls have equal results.
func checkMemory(t *testing.T, name string, operation func(f impl.Plane, a impl.Series) (impl.Plane, int64)) {
	t.Helper()
	memory := []int64{0, 1, 0, 0, 0, 50, 1, 3, 0, 0, 51, 0, 0, 0, 52, 0, 0, 53, 0, 54, 0, 2, 5, 6, 1, 55}
	before := append([]int64(nil), memory...)
	tables := [][]int64{memory[:5], memory[6:10], memory[11:14], memory[15:17], memory[18:19], memory[19:20]}
	lists := append([][]int64(nil), tables...)
	f, a := plane(7, tables[:5]...), series(7, memory[20:25]...)
	first, code := operation(f, a)
	if code != impl.ErrNone || first.Modulus != 7 || len(first.Table) == 0 {
		t.Errorf("%s = %v, %d", name, first, code)
	}
	want := copyOfPlane(first)
	for i := range first.Table {
		row := first.Table[i][:cap(first.Table[i])]
		for j := range row {
			row[j] = -1
		}
		for k := i + 1; k < len(first.Table); k++ {
			if !reflect.DeepEqual(first.Table[k], want.Table[k]) {
				t.Errorf("%s: the lists %d and %d share memory", name, i, k)
			}
		}
	}
	spoil(first)
	if !reflect.DeepEqual(memory, before) || !reflect.DeepEqual(tables, lists) {
		t.Errorf("%s changed or kept its arguments: %v, %v", name, memory, tables)
	}
	wantsPlane(t, name, want, impl.ErrNone)(operation(f, a))
}

// TestLogarithmsMemory checks all functions of the chapter.
func TestLogarithmsMemory(t *testing.T) {
	for name, operation := range operationsOnLogarithms() {
		checkMemory(t, name, operation)
	}
}
