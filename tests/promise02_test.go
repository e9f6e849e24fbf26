package tests

import (
	"testing"

	"loop.example/g01152/impl"
)

// made returns the series of a call that has to succeed.
func made(t *testing.T, call string) func(impl.Series, int64) impl.Series {
	return func(a impl.Series, code int64) impl.Series {
		t.Helper()
		if code != impl.ErrNone {
			t.Fatalf("%s: code %d", call, code)
		}
		return a
	}
}

// allSeries returns all series of a small modulus and degree.
func allSeries(m int64, d int64) []impl.Series {
	list := [][]int64{nil}
	for range d + 1 {
		var longer [][]int64
		for _, a := range list {
			for c := int64(0); c < m; c++ {
				longer = append(longer, append(append([]int64(nil), a...), c))
			}
		}
		list = longer
	}
	var all []impl.Series
	for _, a := range list {
		all = append(all, series(m, a...))
	}
	return all
}

// seriesOfManyKinds are lists of series that are alike: all those of small moduli and degrees, and
// some of all other ones.
func seriesOfManyKinds() [][]impl.Series {
	lists := [][]impl.Series{allSeries(2, 1), allSeries(2, 3), allSeries(3, 1), allSeries(3, 2), allSeries(4, 1), allSeries(6, 1)}
	for _, m := range moduli {
		for _, d := range degrees {
			lists = append(lists, sampleSeries(m, d))
		}
	}
	return lists
}

// TestPromise2Products checks that products are associative.
func TestPromise2Products(t *testing.T) {
	multiply := func(a impl.Series, b impl.Series) impl.Series {
		return made(t, "MultiplySeries")(impl.MultiplySeries(a, b))
	}
	for _, list := range seriesOfManyKinds() {
		for i, a := range list {
			for _, b := range list {
				c := list[(i*7+3)%len(list)]
				if left, right := multiply(multiply(a, b), c), multiply(a, multiply(b, c)); !isSame(left, right) {
					t.Errorf("(a b) c = %v, a (b c) = %v for %v, %v, %v", left, right, a, b, c)
				}
			}
		}
	}
}

// TestPromise2Compositions checks that compositions are associative, a(f(g(t))) on both ways.
func TestPromise2Compositions(t *testing.T) {
	compose := func(a impl.Series, f impl.Series) impl.Series {
		return made(t, "ComposeSeries")(impl.ComposeSeries(a, f))
	}
	for _, list := range seriesOfManyKinds() {
		curves := curvesOf(list)
		for i, a := range list {
			for j, f := range curves {
				g := curves[(i*3+j*7+1)%len(curves)]
				if left, right := compose(compose(a, f), g), compose(a, compose(f, g)); !isSame(left, right) {
					t.Errorf("(a f) g = %v, a (f g) = %v for %v, %v, %v", left, right, a, f, g)
				}
			}
		}
	}
}

// curvesOf returns the series of a list with the constant replaced by 0.
func curvesOf(list []impl.Series) []impl.Series {
	var curves []impl.Series
	for _, a := range list {
		f := series(a.Modulus, append([]int64{0}, a.Coefficients[1:]...)...)
		curves = append(curves, f)
	}
	return curves
}

// TestPromise2Inverses checks that inverses undo: their products with their series are 1, and their
// inverses the series again. Exactly the series whose constant is a unit have one.
func TestPromise2Inverses(t *testing.T) {
	for _, list := range seriesOfManyKinds() {
		for _, a := range list {
			b, code := impl.InverseOfSeries(a)
			if isUnit, _ := impl.IsUnit(a.Modulus, a.Coefficients[0]); !isUnit {
				wantsCode(t, "InverseOfSeries", impl.ErrState)(b, code)
				continue
			}
			one := monomialOf(a.Modulus, degreeOf(a), 0, 1)
			wantsSeries(t, "a times its inverse", one, impl.ErrNone)(impl.MultiplySeries(a, made(t, "InverseOfSeries")(b, code)))
			wantsSeries(t, "the inverse times a", one, impl.ErrNone)(impl.MultiplySeries(b, a))
			wantsSeries(t, "the inverse of the inverse", a, impl.ErrNone)(impl.InverseOfSeries(b))
		}
	}
}

// TestPromise2Reversions checks that reversions undo on both sides, and that their reversions are
// the curves again. Exactly the curves whose coefficient at t is a unit have one.
func TestPromise2Reversions(t *testing.T) {
	for _, list := range append(seriesOfManyKinds(), allSeries(2, 10)) {
		for _, f := range append(list, curvesOf(list)...) {
			g, code := impl.ReverseSeries(f)
			if isUnit, _ := impl.IsUnit(f.Modulus, f.Coefficients[1]); !isUnit || !impl.IsCurve(f) {
				wantsCode(t, "ReverseSeries", impl.ErrState)(g, code)
				continue
			}
			line := monomialOf(f.Modulus, degreeOf(f), 1, 1)
			wantsSeries(t, "f of its reversion", line, impl.ErrNone)(impl.ComposeSeries(f, made(t, "ReverseSeries")(g, code)))
			wantsSeries(t, "the reversion of f", line, impl.ErrNone)(impl.ComposeSeries(g, f))
			wantsSeries(t, "the reversion of the reversion", f, impl.ErrNone)(impl.ReverseSeries(g))
		}
	}
}

// TestPromise2Derivatives checks that the derivative of a product is the sum of both products with
// a derivative, where the other factor is cut to its degree.
func TestPromise2Derivatives(t *testing.T) {
	for _, list := range seriesOfManyKinds() {
		d := degreeOf(list[0])
		if d == 1 {
			continue
		}
		for i, a := range list {
			b := list[(i*5+2)%len(list)]
			product := made(t, "MultiplySeries")(impl.MultiplySeries(a, b))
			left := made(t, "MultiplySeries")(impl.MultiplySeries(made(t, "DeriveSeries")(impl.DeriveSeries(a)), made(t, "CutSeries")(impl.CutSeries(b, d-1))))
			right := made(t, "MultiplySeries")(impl.MultiplySeries(made(t, "CutSeries")(impl.CutSeries(a, d-1)), made(t, "DeriveSeries")(impl.DeriveSeries(b))))
			sum := made(t, "AddSeries")(impl.AddSeries(left, right))
			wantsSeries(t, "the derivative of a product", sum, impl.ErrNone)(impl.DeriveSeries(product))
		}
	}
}

// TestGuarantee2Integrals checks that derivatives of integrals are the series again.
func TestGuarantee2Integrals(t *testing.T) {
	for _, m := range []int64{11, 97, 121, 9973} {
		for _, d := range degrees[:9] {
			for _, a := range sampleSeries(m, d) {
				integral := made(t, "IntegrateSeries")(impl.IntegrateSeries(a))
				wantsSeries(t, "the derivative of the integral", a, impl.ErrNone)(impl.DeriveSeries(integral))
			}
		}
	}
}

// TestGuarantee2Texts checks that texts are parsed to their series.
func TestGuarantee2Texts(t *testing.T) {
	for _, list := range seriesOfManyKinds() {
		for _, a := range list {
			text, code := impl.SeriesText(a)
			if code != impl.ErrNone {
				t.Errorf("SeriesText(%v): code %d", a, code)
			}
			wantsSeries(t, "ParseSeries("+text+")", a, impl.ErrNone)(impl.ParseSeries(text))
		}
	}
}
