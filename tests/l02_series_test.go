package tests

import (
	"math"
	"math/big"
	"math/rand"
	"reflect"
	"strconv"
	"strings"
	"testing"

	"loop.example/g01152/impl"
)

// series returns the series with the given modulus and coefficients, which may be none.
func series(m int64, coefficients ...int64) impl.Series {
	return impl.Series{Modulus: m, Coefficients: coefficients}
}

// isSame reports whether two series are equal, where nil and empty lists are the same.
func isSame(a impl.Series, b impl.Series) bool {
	none := len(a.Coefficients) == 0 && len(b.Coefficients) == 0
	return a.Modulus == b.Modulus && (none || reflect.DeepEqual(a.Coefficients, b.Coefficients))
}

// wantsSeries is wants for series. With an error the zero value is wanted.
func wantsSeries(t *testing.T, call string, want impl.Series, wantCode int64) func(impl.Series, int64) {
	return func(got impl.Series, code int64) {
		t.Helper()
		if !isSame(got, want) || code != wantCode {
			t.Errorf("%s = %v, %d; want %v, %d", call, got, code, want, wantCode)
		}
	}
}

// wantsCode checks that a call that has to return a series returns a code and the zero value.
func wantsCode(t *testing.T, call string, wantCode int64) func(impl.Series, int64) {
	return wantsSeries(t, call, impl.Series{}, wantCode)
}

// degrees are all degrees of series.
var degrees = []int64{1, 2, 3, 4, 5, 6, 7, 8, 9, 10}

// monomialOf returns c t^k as a series of degree d.
func monomialOf(m int64, d int64, k int64, c int64) impl.Series {
	list := make([]int64, d+1)
	list[k] = c
	return series(m, list...)
}

// sampleSeries returns series of degree d: those at the ends, and some that are the same in each run.
func sampleSeries(m int64, d int64) []impl.Series {
	all := make([]int64, d+1)
	for i := range all {
		all[i] = m - 1
	}
	list := []impl.Series{series(m, make([]int64, d+1)...), series(m, all...), monomialOf(m, d, 0, 1), monomialOf(m, d, 1, 1), monomialOf(m, d, d, m-1)}
	source := rand.New(rand.NewSource(m*100 + d))
	for range 8 {
		a := series(m, make([]int64, d+1)...)
		for i := range a.Coefficients {
			a.Coefficients[i] = source.Int63n(m)
		}
		list = append(list, a)
	}
	return list
}

// sampleCurves returns those of sampleSeries with the constant replaced by 0.
func sampleCurves(m int64, d int64) []impl.Series {
	list := sampleSeries(m, d)
	for _, a := range list {
		a.Coefficients[0] = 0
	}
	return list
}

// noSeries are no series, each for one reason; some have the Modulus 10 and the degree 2 all the same.
func noSeries() []impl.Series {
	list := []impl.Series{
		{}, series(10), series(10, 1), series(10, make([]int64, 12)...), series(10, make([]int64, 1000)...),
	}
	for _, m := range noModuli {
		list = append(list, series(m, 0, 0, 0))
	}
	for _, a := range noNumbers(10) {
		list = append(list, series(10, a, 0, 0), series(10, 0, a, 0), series(10, 0, 1, a))
	}
	return list
}

// cutOf returns the series of degree d with the remainders of integers.
func cutOf(m int64, d int64, integers []*big.Int) impl.Series {
	a := series(m, make([]int64, d+1)...)
	for i := int64(0); i <= d && i < int64(len(integers)); i++ {
		a.Coefficients[i] = new(big.Int).Mod(integers[i], big.NewInt(m)).Int64()
	}
	return a
}

// bigProduct returns the product of two lists of coefficients as integers, with all terms.
func bigProduct(a []*big.Int, b []*big.Int) []*big.Int {
	product := make([]*big.Int, len(a)+len(b)-1)
	for i := range product {
		product[i] = new(big.Int)
	}
	for i, x := range a {
		for j, y := range b {
			product[i+j].Add(product[i+j], new(big.Int).Mul(x, y))
		}
	}
	return product
}

// bigList returns a list of integers as big ones.
func bigList(list []int64) []*big.Int {
	var integers []*big.Int
	for _, n := range list {
		integers = append(integers, big.NewInt(n))
	}
	return integers
}

// degreeOf returns the degree of a series.
func degreeOf(a impl.Series) int64 {
	return int64(len(a.Coefficients)) - 1
}

// productOf multiplies without the program.
func productOf(a impl.Series, b impl.Series) impl.Series {
	return cutOf(a.Modulus, degreeOf(a), bigProduct(bigList(a.Coefficients), bigList(b.Coefficients)))
}

// compositionOf composes without the program, from all terms of all powers of f.
func compositionOf(a impl.Series, f impl.Series) impl.Series {
	sum := make([]*big.Int, len(a.Coefficients)*len(f.Coefficients))
	for i := range sum {
		sum[i] = new(big.Int)
	}
	power := bigList([]int64{1})
	for _, c := range a.Coefficients {
		for i, x := range power {
			sum[i].Add(sum[i], new(big.Int).Mul(x, big.NewInt(c)))
		}
		power = bigProduct(power, bigList(f.Coefficients))
	}
	return cutOf(a.Modulus, degreeOf(a), sum)
}

// derivativeOf derives without the program.
func derivativeOf(a impl.Series) impl.Series {
	var list []*big.Int
	for i, c := range a.Coefficients[1:] {
		list = append(list, big.NewInt(c*int64(i+1)))
	}
	return cutOf(a.Modulus, degreeOf(a)-1, list)
}

func TestIsSeriesAndIsCurve(t *testing.T) {
	if impl.MaxDegree != 10 {
		t.Errorf("MaxDegree is %d", impl.MaxDegree)
	}
	for _, m := range moduli {
		for _, d := range degrees {
			for _, a := range sampleSeries(m, d) {
				isCurve := a.Coefficients[0] == 0
				if !impl.IsSeries(a) || impl.IsCurve(a) != isCurve {
					t.Errorf("of %v: %v, %v; want true, %v", a, impl.IsSeries(a), impl.IsCurve(a), isCurve)
				}
			}
		}
	}
	for _, a := range noSeries() {
		if impl.IsSeries(a) || impl.IsCurve(a) {
			t.Errorf("of %v: %v, %v; want false, false", a, impl.IsSeries(a), impl.IsCurve(a))
		}
	}
}

// TestNoSeries gives each argument that has to be a series one that is none, also where an error
// behind that would hold: the other series is not alike, numbers are out of their ranges, and
// constants are not those of curves.
func TestNoSeries(t *testing.T) {
	others := []impl.Series{series(10, 1, 2, 3), series(7, 1, 1), series(10, 0, 1), {}}
	for _, bad := range noSeries() {
		for _, a := range others {
			wantsCode(t, "AddSeries", impl.ErrInvalid)(impl.AddSeries(bad, a))
			wantsCode(t, "AddSeries", impl.ErrInvalid)(impl.AddSeries(a, bad))
			wantsCode(t, "MultiplySeries", impl.ErrInvalid)(impl.MultiplySeries(bad, a))
			wantsCode(t, "MultiplySeries", impl.ErrInvalid)(impl.MultiplySeries(a, bad))
			wantsCode(t, "ComposeSeries", impl.ErrInvalid)(impl.ComposeSeries(bad, a))
			wantsCode(t, "ComposeSeries", impl.ErrInvalid)(impl.ComposeSeries(a, bad))
		}
		for _, n := range []int64{-1, 0, 1, 10, 1001, math.MaxInt64, math.MinInt64} {
			wantsCode(t, "ScaleSeries", impl.ErrInvalid)(impl.ScaleSeries(bad, n))
			wantsCode(t, "PowerOfSeries", impl.ErrInvalid)(impl.PowerOfSeries(bad, n))
			wants(t, "ValueOfSeries", int64(0), impl.ErrInvalid)(impl.ValueOfSeries(bad, n))
			wantsCode(t, "CutSeries", impl.ErrInvalid)(impl.CutSeries(bad, n))
			wantsCode(t, "ChangeSeries", impl.ErrInvalid)(impl.ChangeSeries(bad, n))
		}
		wantsCode(t, "InverseOfSeries", impl.ErrInvalid)(impl.InverseOfSeries(bad))
		wantsCode(t, "ReverseSeries", impl.ErrInvalid)(impl.ReverseSeries(bad))
		wantsCode(t, "DeriveSeries", impl.ErrInvalid)(impl.DeriveSeries(bad))
		wantsCode(t, "IntegrateSeries", impl.ErrInvalid)(impl.IntegrateSeries(bad))
		wants(t, "OrderOfSeries", int64(0), impl.ErrInvalid)(impl.OrderOfSeries(bad))
		wants(t, "SeriesText", "", impl.ErrInvalid)(impl.SeriesText(bad))
	}
}

// TestSeriesNotAlike gives series that differ in their modulus, in their degree, or in both, also
// where the second one is no curve.
func TestSeriesNotAlike(t *testing.T) {
	a := series(10, 1, 2, 3)
	for _, b := range []impl.Series{series(11, 1, 2, 3), series(5, 0, 2, 3), series(10, 1, 2), series(10, 0, 2, 3, 0), series(7, 0, 0), series(10000, 1, 0)} {
		wantsCode(t, "AddSeries", impl.ErrRange)(impl.AddSeries(a, b))
		wantsCode(t, "AddSeries", impl.ErrRange)(impl.AddSeries(b, a))
		wantsCode(t, "MultiplySeries", impl.ErrRange)(impl.MultiplySeries(a, b))
		wantsCode(t, "MultiplySeries", impl.ErrRange)(impl.MultiplySeries(b, a))
		wantsCode(t, "ComposeSeries", impl.ErrRange)(impl.ComposeSeries(a, b))
		wantsCode(t, "ComposeSeries", impl.ErrRange)(impl.ComposeSeries(b, a))
	}
}

func TestAddAndScaleSeries(t *testing.T) {
	wantsSeries(t, "AddSeries", series(10, 0, 9, 1), impl.ErrNone)(impl.AddSeries(series(10, 9, 9, 9), series(10, 1, 0, 2)))
	wantsSeries(t, "ScaleSeries", series(10, 5, 0, 5), impl.ErrNone)(impl.ScaleSeries(series(10, 1, 2, 3), 5))
	for _, m := range moduli {
		for _, d := range degrees {
			list := sampleSeries(m, d)
			for i, a := range list {
				b := list[(i*5+1)%len(list)]
				sum := make([]*big.Int, d+1)
				for n := range sum {
					sum[n] = big.NewInt(a.Coefficients[n] + b.Coefficients[n])
				}
				wantsSeries(t, "AddSeries", cutOf(m, d, sum), impl.ErrNone)(impl.AddSeries(a, b))
				for _, c := range []int64{0, 1, m / 2, m - 1} {
					wantsSeries(t, "ScaleSeries", productOf(a, monomialOf(m, d, 0, c)), impl.ErrNone)(impl.ScaleSeries(a, c))
				}
			}
			for _, c := range noNumbers(m) {
				wantsCode(t, "ScaleSeries", impl.ErrRange)(impl.ScaleSeries(list[0], c))
			}
		}
	}
}

func TestMultiplySeries(t *testing.T) {
	a := series(10, 1, 1, 0)
	wantsSeries(t, "MultiplySeries", series(10, 1, 2, 1), impl.ErrNone)(impl.MultiplySeries(a, a))
	wantsSeries(t, "MultiplySeries", series(4, 0, 0), impl.ErrNone)(impl.MultiplySeries(series(4, 2, 2), series(4, 2, 0)))
	for _, m := range moduli {
		for _, d := range degrees {
			for _, a := range sampleSeries(m, d) {
				for _, b := range sampleSeries(m, d) {
					wantsSeries(t, "MultiplySeries", productOf(a, b), impl.ErrNone)(impl.MultiplySeries(a, b))
				}
			}
		}
	}
}

func TestPowerOfSeries(t *testing.T) {
	wantsSeries(t, "PowerOfSeries", series(10, 1, 3, 3), impl.ErrNone)(impl.PowerOfSeries(series(10, 1, 1, 0), 3))
	wantsSeries(t, "PowerOfSeries of 0 and 0", series(10, 1, 0, 0), impl.ErrNone)(impl.PowerOfSeries(series(10, 0, 0, 0), 0))
	wantsSeries(t, "PowerOfSeries of 0 and 1", series(10, 0, 0, 0), impl.ErrNone)(impl.PowerOfSeries(series(10, 0, 0, 0), 1))
	for _, m := range []int64{2, 6, 9, 9973, 10000} {
		for _, d := range []int64{1, 2, 5, 10} {
			for _, a := range sampleSeries(m, d) {
				power := monomialOf(m, d, 0, 1)
				for k := int64(0); k <= 1000; k++ {
					if k < 20 || k%100 < 2 || k > 998 {
						wantsSeries(t, "PowerOfSeries", power, impl.ErrNone)(impl.PowerOfSeries(a, k))
					}
					power = productOf(power, a)
				}
				for _, k := range []int64{math.MinInt64, -1, 1001, math.MaxInt64} {
					wantsCode(t, "PowerOfSeries", impl.ErrRange)(impl.PowerOfSeries(a, k))
				}
			}
		}
	}
}

// TestInverseOfSeries checks that products with inverses are 1, which tells each inverse, and that
// series whose constant is no unit have none.
func TestInverseOfSeries(t *testing.T) {
	wantsSeries(t, "InverseOfSeries", series(10, 1, 9, 1), impl.ErrNone)(impl.InverseOfSeries(series(10, 1, 1, 0)))
	wantsSeries(t, "InverseOfSeries", series(10, 3, 0), impl.ErrNone)(impl.InverseOfSeries(series(10, 7, 0)))
	for _, m := range moduli {
		for _, d := range degrees {
			for i, a := range sampleSeries(m, d) {
				for _, constant := range []int64{a.Coefficients[0], 0, 1, int64(i) % m, m - 1} {
					a.Coefficients[0] = constant
					b, code := impl.InverseOfSeries(a)
					if divisor(constant, m) != 1 {
						wantsCode(t, "InverseOfSeries", impl.ErrState)(b, code)
						continue
					}
					if code != impl.ErrNone || !impl.IsSeries(b) || degreeOf(b) != d || !isSame(productOf(a, b), monomialOf(m, d, 0, 1)) {
						t.Errorf("InverseOfSeries(%v) = %v, %d", a, b, code)
					}
				}
			}
		}
	}
}

func TestComposeSeries(t *testing.T) {
	wantsSeries(t, "ComposeSeries", series(10, 0, 2, 7), impl.ErrNone)(impl.ComposeSeries(series(10, 0, 1, 1), series(10, 0, 2, 3)))
	wantsSeries(t, "ComposeSeries", series(10, 5, 0), impl.ErrNone)(impl.ComposeSeries(series(10, 5, 1), series(10, 0, 0)))
	for _, m := range moduli {
		for _, d := range degrees {
			list := sampleSeries(m, d)
			for i, f := range sampleCurves(m, d) {
				for _, a := range []impl.Series{list[i], list[(i*5+2)%len(list)], list[1]} {
					wantsSeries(t, "ComposeSeries", compositionOf(a, f), impl.ErrNone)(impl.ComposeSeries(a, f))
				}
			}
			for _, f := range list {
				if f.Coefficients[0] != 0 {
					wantsCode(t, "ComposeSeries", impl.ErrState)(impl.ComposeSeries(list[0], f))
				}
			}
		}
	}
}

// TestReverseSeries checks that compositions with reversions are t on both sides, which tells each
// reversion, and that other series have none.
func TestReverseSeries(t *testing.T) {
	wantsSeries(t, "ReverseSeries", series(10, 0, 1, 9, 2), impl.ErrNone)(impl.ReverseSeries(series(10, 0, 1, 1, 0)))
	wantsSeries(t, "ReverseSeries", series(10, 0, 7), impl.ErrNone)(impl.ReverseSeries(series(10, 0, 3)))
	for _, bad := range []impl.Series{series(10, 1, 1), series(10, 5, 5), series(10, 0, 0), series(10, 0, 2, 1), series(10, 0, 5, 0, 1), series(10, 9, 3, 0)} {
		wantsCode(t, "ReverseSeries", impl.ErrState)(impl.ReverseSeries(bad))
	}
	for _, m := range moduli {
		for _, d := range degrees {
			for i, f := range sampleCurves(m, d) {
				for _, first := range []int64{f.Coefficients[1], 0, 1, int64(i) % m, m - 1} {
					f.Coefficients[1] = first
					g, code := impl.ReverseSeries(f)
					if divisor(first, m) != 1 {
						wantsCode(t, "ReverseSeries", impl.ErrState)(g, code)
						continue
					}
					line := monomialOf(m, d, 1, 1)
					if code != impl.ErrNone || !impl.IsCurve(g) || degreeOf(g) != d || !isSame(compositionOf(f, g), line) || !isSame(compositionOf(g, f), line) {
						t.Errorf("ReverseSeries(%v) = %v, %d", f, g, code)
					}
				}
			}
		}
	}
}

func TestDeriveSeries(t *testing.T) {
	wantsSeries(t, "DeriveSeries", series(11, 1, 10), impl.ErrNone)(impl.DeriveSeries(series(11, 1, 1, 5)))
	wantsSeries(t, "DeriveSeries", series(2, 1, 0), impl.ErrNone)(impl.DeriveSeries(series(2, 1, 1, 1)))
	for _, m := range moduli {
		for _, d := range degrees {
			for _, a := range sampleSeries(m, d) {
				if d == 1 {
					wantsCode(t, "DeriveSeries", impl.ErrState)(impl.DeriveSeries(a))
				} else {
					wantsSeries(t, "DeriveSeries", derivativeOf(a), impl.ErrNone)(impl.DeriveSeries(a))
				}
			}
		}
	}
}

// TestIntegrateSeries checks that integrals are curves with the right derivative, which tells them,
// and that there are none of too great a degree or where a division is not possible.
func TestIntegrateSeries(t *testing.T) {
	wantsSeries(t, "IntegrateSeries", series(11, 0, 1, 5), impl.ErrNone)(impl.IntegrateSeries(series(11, 1, 10)))
	wantsSeries(t, "IntegrateSeries", series(5, 0, 1, 3, 2, 4), impl.ErrNone)(impl.IntegrateSeries(series(5, 1, 1, 1, 1)))
	wantsCode(t, "IntegrateSeries", impl.ErrState)(impl.IntegrateSeries(series(5, 1, 1, 1, 1, 1)))
	wantsCode(t, "IntegrateSeries", impl.ErrState)(impl.IntegrateSeries(series(2, 0, 0)))
	wantsCode(t, "IntegrateSeries of MaxDegree", impl.ErrState)(impl.IntegrateSeries(monomialOf(9973, 10, 10, 0)))
	for _, m := range append([]int64{11, 13, 35, 77, 121}, moduli...) {
		for _, d := range degrees {
			possible := d < 10
			for i := int64(1); i <= d+1; i++ {
				possible = possible && divisor(i, m) == 1
			}
			for _, a := range sampleSeries(m, d) {
				b, code := impl.IntegrateSeries(a)
				if !possible {
					wantsCode(t, "IntegrateSeries", impl.ErrState)(b, code)
				} else if code != impl.ErrNone || !impl.IsCurve(b) || !isSame(derivativeOf(b), a) {
					t.Errorf("IntegrateSeries(%v) = %v, %d", a, b, code)
				}
			}
		}
	}
}

func TestValueOfSeries(t *testing.T) {
	wants(t, "ValueOfSeries", int64(1), impl.ErrNone)(impl.ValueOfSeries(series(11, 1, 1, 5), 2))
	wants(t, "ValueOfSeries", int64(7), impl.ErrNone)(impl.ValueOfSeries(series(10, 7, 3), 0))
	for _, m := range moduli {
		for _, d := range degrees {
			for _, a := range sampleSeries(m, d) {
				for _, x := range []int64{0, 1, m / 2, m - 1} {
					sum := new(big.Int)
					for i, c := range a.Coefficients {
						power := new(big.Int).Exp(big.NewInt(x), big.NewInt(int64(i)), nil)
						sum.Add(sum, power.Mul(power, big.NewInt(c)))
					}
					wants(t, "ValueOfSeries", sum.Mod(sum, big.NewInt(m)).Int64(), impl.ErrNone)(impl.ValueOfSeries(a, x))
				}
				for _, x := range noNumbers(m) {
					wants(t, "ValueOfSeries", int64(0), impl.ErrRange)(impl.ValueOfSeries(a, x))
				}
			}
		}
	}
}

func TestCutSeries(t *testing.T) {
	wantsSeries(t, "CutSeries", series(11, 1, 1), impl.ErrNone)(impl.CutSeries(series(11, 1, 1, 5), 1))
	for _, d := range degrees {
		for _, a := range sampleSeries(97, d) {
			for n := int64(1); n <= d; n++ {
				wantsSeries(t, "CutSeries", series(97, a.Coefficients[:n+1]...), impl.ErrNone)(impl.CutSeries(a, n))
			}
			for _, n := range []int64{math.MinInt64, -1, 0, d + 1, 11, math.MaxInt64} {
				wantsCode(t, "CutSeries", impl.ErrRange)(impl.CutSeries(a, n))
			}
		}
	}
}

func TestChangeSeries(t *testing.T) {
	wantsSeries(t, "ChangeSeries", series(5, 2, 0), impl.ErrNone)(impl.ChangeSeries(series(10, 7, 5), 5))
	wantsSeries(t, "ChangeSeries", series(10, 7, 5), impl.ErrNone)(impl.ChangeSeries(series(10, 7, 5), 10))
	for _, m := range moduli {
		for _, a := range append(sampleSeries(m, 1), sampleSeries(m, 10)...) {
			for n := int64(-1); n <= m+1; n += m/200 + 1 {
				if n >= 2 && m%n == 0 {
					wantsSeries(t, "ChangeSeries", cutOf(n, degreeOf(a), bigList(a.Coefficients)), impl.ErrNone)(impl.ChangeSeries(a, n))
				} else {
					wantsCode(t, "ChangeSeries", impl.ErrRange)(impl.ChangeSeries(a, n))
				}
			}
			for _, n := range append([]int64{1, -m, 2 * m, m + 1}, noModuli...) {
				wantsCode(t, "ChangeSeries", impl.ErrRange)(impl.ChangeSeries(a, n))
			}
		}
	}
}

func TestOrderOfSeries(t *testing.T) {
	wants(t, "OrderOfSeries", int64(2), impl.ErrNone)(impl.OrderOfSeries(series(11, 0, 0, 5)))
	for _, m := range moduli {
		for _, d := range degrees {
			for k := int64(0); k <= d; k++ {
				wants(t, "OrderOfSeries", k, impl.ErrNone)(impl.OrderOfSeries(monomialOf(m, d, k, m-1)))
				a := monomialOf(m, d, k, 1)
				a.Coefficients[d] = 1
				wants(t, "OrderOfSeries", k, impl.ErrNone)(impl.OrderOfSeries(a))
			}
			wants(t, "OrderOfSeries of 0", int64(0), impl.ErrState)(impl.OrderOfSeries(monomialOf(m, d, 0, 0)))
		}
	}
}

func TestSeriesText(t *testing.T) {
	wants(t, "SeriesText", "10:0,1,9", impl.ErrNone)(impl.SeriesText(series(10, 0, 1, 9)))
	wants(t, "SeriesText", "10000:9999,0,0,0,0,0,0,0,0,0,100", impl.ErrNone)(impl.SeriesText(series(10000, 9999, 0, 0, 0, 0, 0, 0, 0, 0, 0, 100)))
	for _, m := range moduli {
		for _, d := range degrees {
			for _, a := range sampleSeries(m, d) {
				text := strconv.FormatInt(m, 10)
				for i, c := range a.Coefficients {
					text += string(":,"[min(i, 1)]) + strconv.FormatInt(c, 10)
				}
				wants(t, "SeriesText", text, impl.ErrNone)(impl.SeriesText(a))
				wantsSeries(t, "ParseSeries", a, impl.ErrNone)(impl.ParseSeries(text))
			}
		}
	}
}

// TestParseNoText gives texts of no series: with superfluous signs, zeros, separators and blanks,
// with parts that are missing, and of what is no series.
func TestParseNoText(t *testing.T) {
	texts := []string{
		"", ":", ",", "10", "10:", "10,", ":1,2", "10:1", "10:1,", "10:,1", "10:1,,2", "10:1,2,", ":10:1,2", "10::1,2", "10:1,2:", "10:1:2", "10,1,2", "10;1,2", "10:1;2", "10:1/2",
		"010:1,2", "10:01,2", "10:1,02", "10:00,1", "10:1,00", "10:-0,1", "10:+1,2", "+10:1,2", "10:1,-2", "-10:1,2", "10:1,+0", "10:1,0x2", "10:0b1,1", "10:1_0,1", "1_0:1,2", "1e1:1,2", "10:1.0,2",
		" 10:1,2", "10 :1,2", "10: 1,2", "10:1, 2", "10:1,2 ", "10:1,2\n", "10:1,2\x00", "10:1,a", "ten:1,2", "10:1,\u0662", "10:\xff,1",
		"10:1,10", "10:10,1", "10:11,0", "0:0,0", "1:0,0", "-1:0,0", "10001:0,0", "10:1,9223372036854775807", "10:1,9223372036854775808", "10:1,18446744073709551617", "18446744073709551626:1,2",
		"10:0,0,0,0,0,0,0,0,0,0,0,0", "10:" + strings.Repeat("0,", 5000) + "0", "10:1," + strings.Repeat("9", 5000), "10:1," + strings.Repeat("0", 5000),
	}
	for _, text := range texts {
		wantsCode(t, "ParseSeries("+text[:min(len(text), 40)]+")", impl.ErrSyntax)(impl.ParseSeries(text))
	}
	wantsSeries(t, "ParseSeries", series(10, 1, 2), impl.ErrNone)(impl.ParseSeries("10:1,2"))
	wantsSeries(t, "ParseSeries", series(2, 0, 0, 0, 0, 0, 0, 0, 0, 0, 0, 1), impl.ErrNone)(impl.ParseSeries("2:0,0,0,0,0,0,0,0,0,0,1"))
}

// operationsOnSeries are all functions of the chapter that make a series of series, for arguments
// with which none of them fails.
func operationsOnSeries() map[string]func(a impl.Series, f impl.Series) (impl.Series, int64) {
	return map[string]func(a impl.Series, f impl.Series) (impl.Series, int64){
		"AddSeries":         impl.AddSeries,
		"MultiplySeries":    impl.MultiplySeries,
		"ComposeSeries":     impl.ComposeSeries,
		"ScaleSeries by 1":  func(a, f impl.Series) (impl.Series, int64) { return impl.ScaleSeries(a, 1) },
		"PowerOfSeries 0":   func(a, f impl.Series) (impl.Series, int64) { return impl.PowerOfSeries(a, 0) },
		"PowerOfSeries 1":   func(a, f impl.Series) (impl.Series, int64) { return impl.PowerOfSeries(a, 1) },
		"PowerOfSeries 6":   func(a, f impl.Series) (impl.Series, int64) { return impl.PowerOfSeries(a, 6) },
		"InverseOfSeries":   func(a, f impl.Series) (impl.Series, int64) { return impl.InverseOfSeries(a) },
		"ReverseSeries":     func(a, f impl.Series) (impl.Series, int64) { return impl.ReverseSeries(f) },
		"DeriveSeries":      func(a, f impl.Series) (impl.Series, int64) { return impl.DeriveSeries(a) },
		"IntegrateSeries":   func(a, f impl.Series) (impl.Series, int64) { return impl.IntegrateSeries(a) },
		"CutSeries to D":    func(a, f impl.Series) (impl.Series, int64) { return impl.CutSeries(a, 2) },
		"CutSeries to 1":    func(a, f impl.Series) (impl.Series, int64) { return impl.CutSeries(a, 1) },
		"ChangeSeries to M": func(a, f impl.Series) (impl.Series, int64) { return impl.ChangeSeries(a, 7) },
	}
}

// TestSeriesMemory checks that no function changes an argument or the spare capacity behind it, and
// that results share no memory with arguments, behind their own lists either.
func TestSeriesMemory(t *testing.T) {
	for name, operation := range operationsOnSeries() {
		memory := []int64{1, 2, 3, 50, 51, 52, 0, 4, 5, 60, 61, 62}
		before := append([]int64(nil), memory...)
		a, f := series(7, memory[:3]...), series(7, memory[6:9]...)
		first, code := operation(a, f)
		if code != impl.ErrNone || !impl.IsSeries(first) {
			t.Errorf("%s = %v, %d", name, first, code)
		}
		want := append([]int64(nil), first.Coefficients...)
		spoilt := first.Coefficients[:cap(first.Coefficients)]
		for i := range spoilt {
			spoilt[i] = -1
		}
		if !reflect.DeepEqual(memory, before) {
			t.Errorf("%s changed or kept its arguments: %v", name, memory)
		}
		wantsSeries(t, name, series(first.Modulus, want...), impl.ErrNone)(operation(a, f))
	}
	same := series(7, 0, 1, 2)
	wantsSeries(t, "ComposeSeries", series(7, 0, 1, 4), impl.ErrNone)(impl.ComposeSeries(same, same))
	wantsSeries(t, "AddSeries", series(7, 0, 2, 4), impl.ErrNone)(impl.AddSeries(same, same))
	wantsSeries(t, "the argument", series(7, 0, 1, 2), impl.ErrNone)(same, impl.ErrNone)
}
