package tests

import (
	"math"
	"math/rand"
	"reflect"
	"strconv"
	"strings"
	"testing"

	"loop.example/g01152/impl"
)

// plane returns the plane with the given modulus and lists, which may be none.
func plane(m int64, table ...[]int64) impl.Plane {
	return impl.Plane{Modulus: m, Table: table}
}

// isSamePlane reports whether two planes are equal, where nil and empty lists are the same.
func isSamePlane(f impl.Plane, g impl.Plane) bool {
	if f.Modulus != g.Modulus || len(f.Table) != len(g.Table) {
		return false
	}
	for i, row := range f.Table {
		if !isSame(series(0, row...), series(0, g.Table[i]...)) {
			return false
		}
	}
	return true
}

// wantsPlane is wants for planes. With an error the zero value is wanted.
func wantsPlane(t *testing.T, call string, want impl.Plane, wantCode int64) func(impl.Plane, int64) {
	return func(got impl.Plane, code int64) {
		t.Helper()
		if !isSamePlane(got, want) || code != wantCode {
			t.Errorf("%s = %v, %d; want %v, %d", call, got, code, want, wantCode)
		}
	}
}

// wantsNoPlane checks that a call that has to return a plane returns a code and the zero value.
func wantsNoPlane(t *testing.T, call string, wantCode int64) func(impl.Plane, int64) {
	return wantsPlane(t, call, impl.Plane{}, wantCode)
}

// filledPlane returns the plane of degree d with the remainders of what a function tells for each term.
func filledPlane(m int64, d int64, coefficient func(i int64, j int64) int64) impl.Plane {
	f := plane(m)
	for i := int64(0); i <= d; i++ {
		var row []int64
		for j := int64(0); i+j <= d; j++ {
			row = append(row, (coefficient(i, j)%m+m)%m)
		}
		f.Table = append(f.Table, row)
	}
	return f
}

// termOf returns c x^k y^l as a plane of degree d.
func termOf(m int64, d int64, k int64, l int64, c int64) impl.Plane {
	return filledPlane(m, d, func(i int64, j int64) int64 {
		if i == k && j == l {
			return c
		}
		return 0
	})
}

// samplePlanes returns planes of degree d: those at the ends, those with one term or few, and some
// that are the same in each run.
func samplePlanes(m int64, d int64) []impl.Plane {
	list := []impl.Plane{
		termOf(m, d, 0, 0, 0), filledPlane(m, d, func(int64, int64) int64 { return m - 1 }),
		termOf(m, d, 0, 0, 1), termOf(m, d, 1, 0, 1), termOf(m, d, 0, 1, m-1), termOf(m, d, d, 0, 1), termOf(m, d, 0, d, 1), termOf(m, d, d/2, d-d/2, 1),
		filledPlane(m, d, func(i int64, j int64) int64 {
			if i <= 1 && j <= 1 {
				return i + j - i*j
			}
			return 0
		}),
	}
	source := rand.New(rand.NewSource(m*100 + d))
	for range 5 {
		list = append(list, filledPlane(m, d, func(int64, int64) int64 { return source.Int63n(m) }))
	}
	return list
}

// withoutConstant returns planes with the constant replaced by 0.
func withoutConstant(planes []impl.Plane) []impl.Plane {
	var list []impl.Plane
	for _, f := range planes {
		list = append(list, filledPlane(f.Modulus, degreeOfPlane(f), func(i int64, j int64) int64 {
			return f.Table[i][j] * min(i+j, 1)
		}))
	}
	return list
}

// noPlanes are no planes, each for one reason; some have the Modulus 10 and three lists all the same.
func noPlanes() []impl.Plane {
	list := []impl.Plane{
		{}, plane(10), plane(10, []int64{}), plane(10, []int64{0}), termOf(10, 11, 1, 0, 1), termOf(10, 40, 1, 0, 1),
		plane(10, []int64{0, 1}, []int64{1, 1}), plane(10, []int64{0, 1}), plane(10, []int64{0, 1}, nil), plane(10, nil, []int64{0}), plane(10, nil, nil),
		plane(10, []int64{0, 1, 0}, []int64{1, 1}), plane(10, []int64{0, 1, 0}, []int64{1, 1}, nil), plane(10, []int64{0, 1, 0}, nil, []int64{0}), plane(10, nil, []int64{1, 1}, []int64{0}),
		plane(10, []int64{0, 1, 0}, []int64{1, 1}, []int64{0, 0}), plane(10, []int64{0, 1, 0}, []int64{1, 1, 0}, []int64{0}), plane(10, []int64{0, 1, 0, 0}, []int64{1, 1}, []int64{0}),
		plane(10, []int64{0, 1}, []int64{1, 1}, []int64{0}), plane(10, []int64{0, 1, 0}, []int64{1}, []int64{0}), plane(10, []int64{0, 1}, []int64{1, 1, 0}, []int64{0}),
		plane(10, []int64{0, 1, 0}, []int64{1, 1}, []int64{0}, nil), plane(10, []int64{0, 1, 0}, []int64{1, 1}, []int64{0}, []int64{0}), plane(10, []int64{0}, []int64{1, 1}, []int64{0, 1, 0}),
		plane(10, []int64{0, 1, 0}, []int64{1, 1, 0}, []int64{0, 0, 0}), plane(10, make([][]int64, 3)...), plane(10, make([][]int64, 1000)...), plane(10, make([]int64, 1000)),
	}
	for _, m := range noModuli {
		list = append(list, plane(m, make([]int64, 3), make([]int64, 2), make([]int64, 1)))
	}
	for _, a := range noNumbers(10) {
		for n := range 6 {
			all := make([]int64, 6)
			all[n] = a
			list = append(list, plane(10, all[:3], all[3:5], all[5:]))
		}
	}
	return list
}

// degreeOfPlane returns the degree of a plane.
func degreeOfPlane(f impl.Plane) int64 {
	return int64(len(f.Table)) - 1
}

// termsProduct multiplies lists of coefficients modulo m, with all terms.
func termsProduct(m int64, a []int64, b []int64) []int64 {
	product := make([]int64, len(a)+len(b)-1)
	for i, x := range a {
		for j, y := range b {
			product[i+j] = (product[i+j] + x*y) % m
		}
	}
	return product
}

// termsPowers returns the powers of a list with the exponents 0 to n, with all terms.
func termsPowers(m int64, a []int64, n int64) [][]int64 {
	powers := [][]int64{{1}}
	for range n {
		powers = append(powers, termsProduct(m, powers[len(powers)-1], a))
	}
	return powers
}

// squareOf returns a square table of numbers, all 0.
func squareOf(size int) [][]int64 {
	square := make([][]int64, size)
	for i := range square {
		square[i] = make([]int64, size)
	}
	return square
}

// squareProduct multiplies tables of coefficients modulo m, with all terms.
func squareProduct(m int64, f [][]int64, g [][]int64) [][]int64 {
	product := squareOf(len(f) + len(g) - 1)
	for i, row := range f {
		for j, x := range row {
			if x == 0 {
				continue
			}
			for k, other := range g {
				for l, y := range other {
					product[i+k][j+l] = (product[i+k][j+l] + x*y) % m
				}
			}
		}
	}
	return product
}

// planeProduct multiplies planes without the program.
func planeProduct(f impl.Plane, g impl.Plane) impl.Plane {
	product := squareProduct(f.Modulus, f.Table, g.Table)
	return filledPlane(f.Modulus, degreeOfPlane(f), func(i int64, j int64) int64 { return product[i][j] })
}

// inCurves substitutes curves in x and y without the program, from all terms of all powers, and
// leaves out terms at the end only.
func inCurves(f impl.Plane, a impl.Series, b impl.Series) impl.Plane {
	m, d := f.Modulus, degreeOfPlane(f)
	inX, inY := termsPowers(m, a.Coefficients, d), termsPowers(m, b.Coefficients, d)
	sum := squareOf(int(d)*len(a.Coefficients) + 1)
	for i, row := range f.Table {
		for j, c := range row {
			for k, x := range inX[i] {
				for l, y := range inY[j] {
					sum[k][l] = (sum[k][l] + c*x%m*y) % m
				}
			}
		}
	}
	return filledPlane(m, d, func(i int64, j int64) int64 { return sum[i][j] })
}

// inCurvesOfOne substitutes curves in the same variable without the program, from all terms.
func inCurvesOfOne(f impl.Plane, a impl.Series, b impl.Series) impl.Series {
	m, d := f.Modulus, degreeOfPlane(f)
	left, right := termsPowers(m, a.Coefficients, d), termsPowers(m, b.Coefficients, d)
	sum := series(m, make([]int64, d+1)...)
	for i, row := range f.Table {
		for j, c := range row {
			product := termsProduct(m, left[i], right[j])
			for n := 0; n <= int(d) && n < len(product); n++ {
				sum.Coefficients[n] = (sum.Coefficients[n] + c*product[n]) % m
			}
		}
	}
	return sum
}

// seriesInPlane returns a(f(x, y)) without the program, from all terms of all powers of f.
func seriesInPlane(a impl.Series, f impl.Plane) impl.Plane {
	m, d := f.Modulus, degreeOfPlane(f)
	sum := squareOf(int(d) + 1)
	power := [][]int64{{1}}
	for _, c := range a.Coefficients {
		for i, row := range power {
			for j, x := range row {
				if int64(i) <= d && int64(j) <= d {
					sum[i][j] = (sum[i][j] + c*x) % m
				}
			}
		}
		power = squareProduct(m, power, f.Table)
	}
	return filledPlane(m, d, func(i int64, j int64) int64 { return sum[i][j] })
}

func TestIsPlane(t *testing.T) {
	for _, m := range moduli {
		for _, d := range degrees {
			for _, f := range samplePlanes(m, d) {
				if !impl.IsPlane(f) {
					t.Errorf("IsPlane(%v) is false", f)
				}
			}
		}
	}
	for _, f := range noPlanes() {
		if impl.IsPlane(f) {
			t.Errorf("IsPlane(%v) is true", f)
		}
	}
}

// integersOfManyKinds are in and out of the ranges of exponents, degrees, choices and moduli.
var integersOfManyKinds = []int64{math.MinInt64, -1, 0, 1, 2, 3, 10, 11, math.MaxInt64}

// TestNoPlanes gives each argument that has to be a plane one that is none, also where an error
// behind that would hold: the other plane is not alike, or is none, and integers are out of range.
func TestNoPlanes(t *testing.T) {
	others := []impl.Plane{samplePlanes(10, 2)[1], samplePlanes(7, 1)[1], termOf(10, 1, 1, 0, 1), {}}
	for _, bad := range noPlanes() {
		for _, f := range others {
			wantsNoPlane(t, "AddPlanes", impl.ErrInvalid)(impl.AddPlanes(bad, f))
			wantsNoPlane(t, "AddPlanes", impl.ErrInvalid)(impl.AddPlanes(f, bad))
			wantsNoPlane(t, "MultiplyPlanes", impl.ErrInvalid)(impl.MultiplyPlanes(bad, f))
			wantsNoPlane(t, "MultiplyPlanes", impl.ErrInvalid)(impl.MultiplyPlanes(f, bad))
		}
		for _, n := range integersOfManyKinds {
			wantsNoPlane(t, "ScalePlane", impl.ErrInvalid)(impl.ScalePlane(bad, n))
			wants(t, "CoefficientOf", int64(0), impl.ErrInvalid)(impl.CoefficientOf(bad, n, 0))
			wants(t, "CoefficientOf", int64(0), impl.ErrInvalid)(impl.CoefficientOf(bad, 0, n))
			wantsNoPlane(t, "PartialPlane", impl.ErrInvalid)(impl.PartialPlane(bad, n))
			wantsCode(t, "RowOfPlane", impl.ErrInvalid)(impl.RowOfPlane(bad, n))
			wantsNoPlane(t, "CutPlane", impl.ErrInvalid)(impl.CutPlane(bad, n))
			wantsNoPlane(t, "ChangePlane", impl.ErrInvalid)(impl.ChangePlane(bad, n))
		}
		wantsNoPlane(t, "TurnPlane", impl.ErrInvalid)(impl.TurnPlane(bad))
		wants(t, "IsSymmetricPlane", false, impl.ErrInvalid)(impl.IsSymmetricPlane(bad))
		wants(t, "PlaneText", "", impl.ErrInvalid)(impl.PlaneText(bad))
	}
}

// TestNoPlanesAndSeries gives functions of planes and series something that is none, also where an
// error behind that would hold: others are not alike, are no curves, or have a constant.
func TestNoPlanesAndSeries(t *testing.T) {
	planes := []impl.Plane{termOf(10, 2, 1, 0, 1), termOf(10, 2, 0, 0, 1), termOf(7, 1, 0, 0, 3)}
	list := []impl.Series{series(10, 0, 1, 0), series(10, 1, 2, 3), series(7, 1, 1), series(10, 0, 1), {}}
	for _, bad := range noPlanes() {
		for _, a := range list {
			for _, b := range list {
				wantsCode(t, "SubstituteCurves", impl.ErrInvalid)(impl.SubstituteCurves(bad, a, b))
				wantsNoPlane(t, "SubstituteBoth", impl.ErrInvalid)(impl.SubstituteBoth(bad, a, b))
			}
			wantsNoPlane(t, "ApplySeries", impl.ErrInvalid)(impl.ApplySeries(a, bad))
		}
	}
	for _, bad := range noSeries() {
		for _, f := range planes {
			for _, a := range list {
				wantsCode(t, "SubstituteCurves", impl.ErrInvalid)(impl.SubstituteCurves(f, a, bad))
				wantsCode(t, "SubstituteCurves", impl.ErrInvalid)(impl.SubstituteCurves(f, bad, a))
				wantsNoPlane(t, "SubstituteBoth", impl.ErrInvalid)(impl.SubstituteBoth(f, a, bad))
				wantsNoPlane(t, "SubstituteBoth", impl.ErrInvalid)(impl.SubstituteBoth(f, bad, a))
			}
			wantsNoPlane(t, "ApplySeries", impl.ErrInvalid)(impl.ApplySeries(bad, f))
		}
		for _, k := range integersOfManyKinds {
			wantsNoPlane(t, "PlaneOfSeries", impl.ErrInvalid)(impl.PlaneOfSeries(bad, k))
		}
	}
}

// TestPlanesNotAlike gives planes and series that differ in their modulus, in their degree, or in
// both, also where a series is no curve or a plane has a constant.
func TestPlanesNotAlike(t *testing.T) {
	f, a := termOf(10, 2, 0, 0, 1), series(10, 0, 2, 3)
	for _, kind := range [][2]int64{{11, 2}, {5, 2}, {10, 1}, {10, 3}, {7, 1}, {10000, 10}} {
		for _, g := range samplePlanes(kind[0], kind[1]) {
			wantsNoPlane(t, "AddPlanes", impl.ErrRange)(impl.AddPlanes(f, g))
			wantsNoPlane(t, "AddPlanes", impl.ErrRange)(impl.AddPlanes(g, f))
			wantsNoPlane(t, "MultiplyPlanes", impl.ErrRange)(impl.MultiplyPlanes(f, g))
			wantsNoPlane(t, "MultiplyPlanes", impl.ErrRange)(impl.MultiplyPlanes(g, f))
			wantsNoPlane(t, "ApplySeries", impl.ErrRange)(impl.ApplySeries(a, g))
			wantsCode(t, "SubstituteCurves", impl.ErrRange)(impl.SubstituteCurves(g, a, a))
			wantsNoPlane(t, "SubstituteBoth", impl.ErrRange)(impl.SubstituteBoth(g, a, a))
		}
		for _, b := range append(sampleSeries(kind[0], kind[1]), sampleCurves(kind[0], kind[1])...) {
			for _, c := range []impl.Series{a, series(10, 1, 2, 3), b} {
				wantsCode(t, "SubstituteCurves", impl.ErrRange)(impl.SubstituteCurves(f, b, c))
				wantsCode(t, "SubstituteCurves", impl.ErrRange)(impl.SubstituteCurves(f, c, b))
				wantsNoPlane(t, "SubstituteBoth", impl.ErrRange)(impl.SubstituteBoth(f, b, c))
				wantsNoPlane(t, "SubstituteBoth", impl.ErrRange)(impl.SubstituteBoth(f, c, b))
			}
			wantsNoPlane(t, "ApplySeries", impl.ErrRange)(impl.ApplySeries(b, f))
		}
	}
}

func TestAddAndScalePlanes(t *testing.T) {
	f := plane(10, []int64{0, 1, 0}, []int64{1, 1}, []int64{0})
	wantsPlane(t, "AddPlanes", plane(10, []int64{0, 2, 0}, []int64{2, 2}, []int64{0}), impl.ErrNone)(impl.AddPlanes(f, f))
	wantsPlane(t, "ScalePlane", plane(10, []int64{0, 9, 0}, []int64{9, 9}, []int64{0}), impl.ErrNone)(impl.ScalePlane(f, 9))
	for _, m := range moduli {
		for _, d := range degrees {
			list := samplePlanes(m, d)
			for n, f := range list {
				g := list[(n*5+1)%len(list)]
				sum := filledPlane(m, d, func(i int64, j int64) int64 { return f.Table[i][j] + g.Table[i][j] })
				wantsPlane(t, "AddPlanes", sum, impl.ErrNone)(impl.AddPlanes(f, g))
				for _, c := range []int64{0, 1, m / 2, m - 1} {
					scaled := filledPlane(m, d, func(i int64, j int64) int64 { return f.Table[i][j] * c })
					wantsPlane(t, "ScalePlane", scaled, impl.ErrNone)(impl.ScalePlane(f, c))
				}
			}
			for _, c := range noNumbers(m) {
				wantsNoPlane(t, "ScalePlane", impl.ErrRange)(impl.ScalePlane(list[0], c))
			}
		}
	}
}

func TestMultiplyPlanes(t *testing.T) {
	f := plane(10, []int64{0, 1, 0}, []int64{1, 1}, []int64{0})
	wantsPlane(t, "MultiplyPlanes", plane(10, []int64{0, 0, 1}, []int64{0, 2}, []int64{1}), impl.ErrNone)(impl.MultiplyPlanes(f, f))
	wantsPlane(t, "MultiplyPlanes", plane(4, []int64{0, 0}, []int64{0}), impl.ErrNone)(impl.MultiplyPlanes(plane(4, []int64{2, 2}, []int64{2}), plane(4, []int64{2, 0}, []int64{2})))
	for _, m := range moduli {
		for _, d := range degrees {
			list := samplePlanes(m, d)
			for n, f := range list {
				for _, g := range []impl.Plane{f, list[(n*3+1)%len(list)], list[(n*5+4)%len(list)]} {
					wantsPlane(t, "MultiplyPlanes", planeProduct(f, g), impl.ErrNone)(impl.MultiplyPlanes(f, g))
				}
			}
		}
	}
}

func TestTurnAndIsSymmetricPlane(t *testing.T) {
	wantsPlane(t, "TurnPlane", plane(10, []int64{1, 4, 6}, []int64{2, 5}, []int64{3}), impl.ErrNone)(impl.TurnPlane(plane(10, []int64{1, 2, 3}, []int64{4, 5}, []int64{6})))
	for _, m := range moduli {
		for _, d := range degrees {
			for _, f := range samplePlanes(m, d) {
				turned := filledPlane(m, d, func(i int64, j int64) int64 { return f.Table[j][i] })
				wantsPlane(t, "TurnPlane", turned, impl.ErrNone)(impl.TurnPlane(f))
				wants(t, "IsSymmetricPlane", isSamePlane(f, turned), impl.ErrNone)(impl.IsSymmetricPlane(f))
				// One term alone makes a symmetric plane another one, wherever it is.
				sum := filledPlane(m, d, func(i int64, j int64) int64 { return f.Table[i][j] + turned.Table[i][j] })
				wants(t, "IsSymmetricPlane", true, impl.ErrNone)(impl.IsSymmetricPlane(sum))
				for i := int64(0); i <= d; i++ {
					for j := int64(0); i+j <= d; j++ {
						sum.Table[i][j] = (sum.Table[i][j] + 1) % m
						wants(t, "IsSymmetricPlane", i == j, impl.ErrNone)(impl.IsSymmetricPlane(sum))
						sum.Table[i][j] = (sum.Table[i][j] + m - 1) % m
					}
				}
			}
		}
	}
}

func TestCoefficientOf(t *testing.T) {
	for _, m := range moduli {
		for _, d := range degrees {
			for _, f := range samplePlanes(m, d) {
				for i := int64(-2); i <= d+2; i++ {
					for j := int64(-2); j <= d+2; j++ {
						if i >= 0 && j >= 0 && i+j <= d {
							wants(t, "CoefficientOf", f.Table[i][j], impl.ErrNone)(impl.CoefficientOf(f, i, j))
						} else {
							wants(t, "CoefficientOf", int64(0), impl.ErrRange)(impl.CoefficientOf(f, i, j))
						}
					}
				}
			}
		}
	}
	// Sums of these overflow, or are in the range while the exponents are not.
	f := samplePlanes(10, 4)[1]
	for _, pair := range [][2]int64{
		{math.MaxInt64, math.MaxInt64}, {math.MaxInt64, 1}, {1, math.MaxInt64}, {math.MinInt64, math.MinInt64}, {math.MinInt64, 0}, {0, math.MinInt64},
		{math.MaxInt64, -math.MaxInt64}, {-math.MaxInt64, math.MaxInt64}, {5, -1}, {-1, 5}, {5, -3}, {-3, 5}, {-1, -1}, {math.MinInt64, math.MaxInt64}, {math.MaxInt64, math.MinInt64},
	} {
		wants(t, "CoefficientOf", int64(0), impl.ErrRange)(impl.CoefficientOf(f, pair[0], pair[1]))
	}
}

func TestCoordinatePlane(t *testing.T) {
	for _, m := range moduli {
		for _, d := range degrees {
			wantsPlane(t, "CoordinatePlane", termOf(m, d, 1, 0, 1), impl.ErrNone)(impl.CoordinatePlane(m, d, 0))
			wantsPlane(t, "CoordinatePlane", termOf(m, d, 0, 1, 1), impl.ErrNone)(impl.CoordinatePlane(m, d, 1))
			for _, k := range []int64{math.MinInt64, -1, 2, math.MaxInt64} {
				wantsNoPlane(t, "CoordinatePlane", impl.ErrRange)(impl.CoordinatePlane(m, d, k))
			}
		}
		for _, d := range []int64{math.MinInt64, -1, 0, 11, math.MaxInt64} {
			for _, k := range []int64{-1, 0, 1, 2} {
				wantsNoPlane(t, "CoordinatePlane", impl.ErrRange)(impl.CoordinatePlane(m, d, k))
			}
		}
	}
	for _, m := range noModuli {
		for _, d := range integersOfManyKinds {
			for _, k := range integersOfManyKinds {
				wantsNoPlane(t, "CoordinatePlane", impl.ErrInvalid)(impl.CoordinatePlane(m, d, k))
			}
		}
	}
}

func TestSubstituteCurves(t *testing.T) {
	f, line := plane(10, []int64{0, 1, 0}, []int64{1, 1}, []int64{0}), series(10, 0, 1, 0)
	wantsSeries(t, "SubstituteCurves", series(10, 0, 2, 1), impl.ErrNone)(impl.SubstituteCurves(f, line, line))
	wantsSeries(t, "SubstituteCurves", series(10, 7, 5), impl.ErrNone)(impl.SubstituteCurves(plane(10, []int64{7, 2}, []int64{3}), series(10, 0, 1), series(10, 0, 1)))
	wantsSeries(t, "SubstituteCurves", series(10, 7, 0), impl.ErrNone)(impl.SubstituteCurves(plane(10, []int64{7, 2}, []int64{3}), series(10, 0, 0), series(10, 0, 0)))
	for _, m := range moduli {
		for _, d := range degrees {
			curves := sampleCurves(m, d)
			for n, f := range samplePlanes(m, d) {
				a, b := curves[n%len(curves)], curves[(n*7+1)%len(curves)]
				wantsSeries(t, "SubstituteCurves", inCurvesOfOne(f, a, b), impl.ErrNone)(impl.SubstituteCurves(f, a, b))
			}
		}
	}
}

func TestSubstituteBoth(t *testing.T) {
	f := plane(10, []int64{0, 1, 0}, []int64{1, 1}, []int64{0})
	wantsPlane(t, "SubstituteBoth", plane(10, []int64{0, 2, 1}, []int64{1, 2}, []int64{0}), impl.ErrNone)(impl.SubstituteBoth(f, series(10, 0, 1, 0), series(10, 0, 2, 1)))
	wantsPlane(t, "SubstituteBoth", plane(10, []int64{0, 1, 0}, []int64{2, 2}, []int64{1}), impl.ErrNone)(impl.SubstituteBoth(f, series(10, 0, 2, 1), series(10, 0, 1, 0)))
	wantsPlane(t, "SubstituteBoth", plane(10, []int64{7, 8}, []int64{6}), impl.ErrNone)(impl.SubstituteBoth(plane(10, []int64{7, 2}, []int64{3}), series(10, 0, 2), series(10, 0, 4)))
	for _, m := range []int64{2, 3, 4, 6, 9, 97, 9973, 10000} {
		for _, d := range []int64{1, 2, 3, 5, 10} {
			curves := sampleCurves(m, d)
			for n, f := range samplePlanes(m, d) {
				a, b := curves[n%len(curves)], curves[(n*7+1)%len(curves)]
				wantsPlane(t, "SubstituteBoth", inCurves(f, a, b), impl.ErrNone)(impl.SubstituteBoth(f, a, b))
			}
		}
	}
}

// TestSubstituteNoCurves gives series with a constant in one place, or in both.
func TestSubstituteNoCurves(t *testing.T) {
	for _, m := range moduli {
		for _, d := range degrees {
			f, good := termOf(m, d, 1, 0, 1), monomialOf(m, d, 1, 1)
			for _, bad := range sampleSeries(m, d) {
				if bad.Coefficients[0] == 0 {
					continue
				}
				for _, pair := range [][2]impl.Series{{good, bad}, {bad, good}, {bad, bad}} {
					wantsCode(t, "SubstituteCurves", impl.ErrState)(impl.SubstituteCurves(f, pair[0], pair[1]))
					wantsNoPlane(t, "SubstituteBoth", impl.ErrState)(impl.SubstituteBoth(f, pair[0], pair[1]))
				}
			}
		}
	}
}

// TestApplySeries applies series, which need not be curves, to planes without a constant, and to
// planes that have one.
func TestApplySeries(t *testing.T) {
	f := plane(10, []int64{0, 1, 0}, []int64{1, 1}, []int64{0})
	wantsPlane(t, "ApplySeries", plane(10, []int64{0, 2, 1}, []int64{2, 4}, []int64{1}), impl.ErrNone)(impl.ApplySeries(series(10, 0, 2, 1), f))
	wantsPlane(t, "ApplySeries", plane(10, []int64{3, 2, 1}, []int64{2, 4}, []int64{1}), impl.ErrNone)(impl.ApplySeries(series(10, 3, 2, 1), f))
	wantsPlane(t, "ApplySeries", plane(10, []int64{5, 0}, []int64{0}), impl.ErrNone)(impl.ApplySeries(series(10, 5, 1), plane(10, []int64{0, 0}, []int64{0})))
	for _, m := range moduli {
		for _, d := range degrees {
			list := sampleSeries(m, d)
			planes := samplePlanes(m, d)
			for n, f := range withoutConstant(planes) {
				for _, a := range []impl.Series{list[1], list[(n*5+2)%len(list)]} {
					wantsPlane(t, "ApplySeries", seriesInPlane(a, f), impl.ErrNone)(impl.ApplySeries(a, f))
				}
			}
			for _, f := range planes {
				if f.Table[0][0] != 0 {
					wantsNoPlane(t, "ApplySeries", impl.ErrState)(impl.ApplySeries(list[0], f))
					wantsNoPlane(t, "ApplySeries", impl.ErrState)(impl.ApplySeries(list[3], f))
				}
			}
		}
	}
}

func TestPlaneOfSeries(t *testing.T) {
	wantsPlane(t, "PlaneOfSeries", plane(10, []int64{3, 0, 0}, []int64{2, 0}, []int64{1}), impl.ErrNone)(impl.PlaneOfSeries(series(10, 3, 2, 1), 0))
	wantsPlane(t, "PlaneOfSeries", plane(10, []int64{3, 2, 1}, []int64{0, 0}, []int64{0}), impl.ErrNone)(impl.PlaneOfSeries(series(10, 3, 2, 1), 1))
	for _, m := range moduli {
		for _, d := range degrees {
			for _, a := range sampleSeries(m, d) {
				for k := int64(0); k <= 1; k++ {
					want := filledPlane(m, d, func(i int64, j int64) int64 {
						exponents := [2]int64{i, j}
						if exponents[1-k] != 0 {
							return 0
						}
						return a.Coefficients[exponents[k]]
					})
					wantsPlane(t, "PlaneOfSeries", want, impl.ErrNone)(impl.PlaneOfSeries(a, k))
				}
				for _, k := range []int64{math.MinInt64, -1, 2, math.MaxInt64} {
					wantsNoPlane(t, "PlaneOfSeries", impl.ErrRange)(impl.PlaneOfSeries(a, k))
				}
			}
		}
	}
}

func TestPartialPlane(t *testing.T) {
	f := plane(10, []int64{1, 2, 3}, []int64{4, 5}, []int64{6})
	wantsPlane(t, "PartialPlane", plane(10, []int64{4, 5}, []int64{2}), impl.ErrNone)(impl.PartialPlane(f, 0))
	wantsPlane(t, "PartialPlane", plane(10, []int64{2, 6}, []int64{5}), impl.ErrNone)(impl.PartialPlane(f, 1))
	for _, m := range moduli {
		for _, d := range degrees {
			for _, f := range samplePlanes(m, d) {
				for _, k := range []int64{math.MinInt64, -1, 2, math.MaxInt64} {
					wantsNoPlane(t, "PartialPlane", impl.ErrRange)(impl.PartialPlane(f, k))
				}
				if d == 1 {
					wantsNoPlane(t, "PartialPlane", impl.ErrState)(impl.PartialPlane(f, 0))
					wantsNoPlane(t, "PartialPlane", impl.ErrState)(impl.PartialPlane(f, 1))
					continue
				}
				byX := filledPlane(m, d-1, func(i int64, j int64) int64 { return (i + 1) * f.Table[i+1][j] })
				byY := filledPlane(m, d-1, func(i int64, j int64) int64 { return (j + 1) * f.Table[i][j+1] })
				wantsPlane(t, "PartialPlane", byX, impl.ErrNone)(impl.PartialPlane(f, 0))
				wantsPlane(t, "PartialPlane", byY, impl.ErrNone)(impl.PartialPlane(f, 1))
			}
		}
	}
}

func TestRowOfPlane(t *testing.T) {
	for _, m := range moduli {
		for _, d := range degrees {
			for _, f := range samplePlanes(m, d) {
				for i := int64(0); i < d; i++ {
					wantsSeries(t, "RowOfPlane", series(m, f.Table[i]...), impl.ErrNone)(impl.RowOfPlane(f, i))
				}
				for _, i := range []int64{math.MinInt64, -1, d, d + 1, 10, 11, math.MaxInt64} {
					wantsCode(t, "RowOfPlane", impl.ErrRange)(impl.RowOfPlane(f, i))
				}
			}
		}
	}
}

func TestCutPlane(t *testing.T) {
	f := plane(10, []int64{1, 2, 3}, []int64{4, 5}, []int64{6})
	wantsPlane(t, "CutPlane", plane(10, []int64{1, 2}, []int64{4}), impl.ErrNone)(impl.CutPlane(f, 1))
	for _, m := range moduli {
		for _, d := range degrees {
			for _, f := range samplePlanes(m, d) {
				for n := int64(1); n <= d; n++ {
					cut := filledPlane(m, n, func(i int64, j int64) int64 { return f.Table[i][j] })
					wantsPlane(t, "CutPlane", cut, impl.ErrNone)(impl.CutPlane(f, n))
				}
				for _, n := range []int64{math.MinInt64, -1, 0, d + 1, 11, math.MaxInt64} {
					wantsNoPlane(t, "CutPlane", impl.ErrRange)(impl.CutPlane(f, n))
				}
			}
		}
	}
}

func TestChangePlane(t *testing.T) {
	f := plane(10, []int64{7, 5}, []int64{9})
	wantsPlane(t, "ChangePlane", plane(5, []int64{2, 0}, []int64{4}), impl.ErrNone)(impl.ChangePlane(f, 5))
	wantsPlane(t, "ChangePlane", plane(2, []int64{1, 1}, []int64{1}), impl.ErrNone)(impl.ChangePlane(f, 2))
	wantsPlane(t, "ChangePlane", f, impl.ErrNone)(impl.ChangePlane(f, 10))
	for _, m := range moduli {
		for _, d := range []int64{1, 2, 10} {
			for _, f := range samplePlanes(m, d) {
				for n := int64(-1); n <= m+1; n += m/200 + 1 {
					if n >= 2 && m%n == 0 {
						changed := filledPlane(n, d, func(i int64, j int64) int64 { return f.Table[i][j] })
						wantsPlane(t, "ChangePlane", changed, impl.ErrNone)(impl.ChangePlane(f, n))
					} else {
						wantsNoPlane(t, "ChangePlane", impl.ErrRange)(impl.ChangePlane(f, n))
					}
				}
				for _, n := range append([]int64{1, -m, 2 * m, m + 1}, noModuli...) {
					wantsNoPlane(t, "ChangePlane", impl.ErrRange)(impl.ChangePlane(f, n))
				}
			}
		}
	}
}

// textOf writes the text of a plane without the program.
func textOf(f impl.Plane) string {
	text := strconv.FormatInt(f.Modulus, 10)
	for i, row := range f.Table {
		for j, c := range row {
			mark := ","
			if j == 0 {
				mark = string(":/"[min(i, 1)])
			}
			text += mark + strconv.FormatInt(c, 10)
		}
	}
	return text
}

func TestPlaneText(t *testing.T) {
	wants(t, "PlaneText", "10:0,1,0/1,1/0", impl.ErrNone)(impl.PlaneText(plane(10, []int64{0, 1, 0}, []int64{1, 1}, []int64{0})))
	wants(t, "PlaneText", "10000:9999,100/0", impl.ErrNone)(impl.PlaneText(plane(10000, []int64{9999, 100}, []int64{0})))
	for _, m := range moduli {
		for _, d := range degrees {
			for _, f := range samplePlanes(m, d) {
				wants(t, "PlaneText", textOf(f), impl.ErrNone)(impl.PlaneText(f))
				wantsPlane(t, "ParsePlane", f, impl.ErrNone)(impl.ParsePlane(textOf(f)))
			}
		}
	}
}

// TestParseNoPlane gives texts of no plane: with superfluous signs, zeros, separators and blanks,
// with lists and numbers that are missing or too many, and of what is no plane.
func TestParseNoPlane(t *testing.T) {
	texts := []string{
		"", ":", "/", ",", "10", "10:", "10:/", "10:,/", ":1,2/3", "1,2/3", "10/1,2/3", "10,1,2/3", "10;1,2/3", "10:1;2/3", "10:1,2;3", "10:1,2|3", "10:1/2,3", "10:1:2/3", "10:1,2:3", "10:10:1,2/3",
		"10:1", "10:1,2", "10:1,2/", "10:/1,2/3", "10:1,2/3/", "10:1,2//3", "10:1,2/3/4", "10:1,2/3,4", "10:1,2,3/4", "10:1,/3", "10:,2/3", "10:1,2/,3", "10:1,2/3,", "10::1,2/3", "10:1,2/3:", ":10:1,2/3",
		"10:1,2,3/4,5", "10:1,2,3/4,5/", "10:1,2,3/4/5", "10:1,2/4,5/6", "10:1,2,3//6", "10:/4,5/6", "10:1,2,3/4,5/6/7", "10:1,2,3/4,5/6/", "10:1,2,3/4,5,6", "10:1,2,3,4,5,6", "10:1/2/3", "10:1/2,3/4,5,6", "10:1,2,3/4,5,6/7,8,9", "10:1,2/3,4",
		"010:1,2/3", "10:01,2/3", "10:1,02/3", "10:1,2/03", "10:00,1/0", "10:0,1/00", "10:-0,1/2", "10:0,1/-0", "10:+1,2/3", "+10:1,2/3", "10:1,2/+3", "10:1,-2/3", "10:1,2/-3", "-10:1,2/3", "10:1,0x2/3", "10:0b1,1/1", "10:1_0,1/2", "1_0:1,2/3", "1e1:1,2/3", "10:1.0,2/3",
		" 10:1,2/3", "10 :1,2/3", "10: 1,2/3", "10:1, 2/3", "10:1,2 /3", "10:1,2/ 3", "10:1,2/3 ", "10:1,2/3\n", "10:1,2\n/3", "10:1,2/3\x00", "10:a,2/3", "10:1,2/b", "ten:1,2/3", "10:1,2/\u0663", "10:\xff,1/1",
		"10:10,1/2", "10:1,10/2", "10:1,2/10", "10:1,2/11", "0:0,0/0", "1:0,0/0", "-1:0,0/0", "10001:0,0/0", "10:1,2/9223372036854775807", "10:1,2/9223372036854775808", "10:1,2/18446744073709551619", "18446744073709551626:1,2/3",
		textOf(termOf(10, 11, 1, 0, 1)), "10:" + strings.Repeat("/", 5000), "10:1,2/3" + strings.Repeat("/0", 5000), "10:1," + strings.Repeat("9", 5000) + "/3", "10:1,2/" + strings.Repeat("0", 5000),
	}
	for _, text := range texts {
		wantsNoPlane(t, "ParsePlane("+text[:min(len(text), 40)]+")", impl.ErrSyntax)(impl.ParsePlane(text))
	}
	wantsPlane(t, "ParsePlane", plane(10, []int64{1, 2}, []int64{3}), impl.ErrNone)(impl.ParsePlane("10:1,2/3"))
	wantsPlane(t, "ParsePlane", termOf(2, 10, 9, 1, 1), impl.ErrNone)(impl.ParsePlane(textOf(termOf(2, 10, 9, 1, 1))))
	// Without any one of its lists, and with any one of them twice, a text is none of a plane.
	words := strings.Split(textOf(samplePlanes(97, 10)[1])[len("97:"):], "/")
	for i := range words {
		missing := append(append([]string(nil), words[:i]...), words[i+1:]...)
		double := append(append([]string(nil), words[:i+1]...), words[i:]...)
		wantsNoPlane(t, "ParsePlane", impl.ErrSyntax)(impl.ParsePlane("97:" + strings.Join(double, "/")))
		// What is left without the first one is the text of a smaller plane.
		if i > 0 {
			wantsNoPlane(t, "ParsePlane", impl.ErrSyntax)(impl.ParsePlane("97:" + strings.Join(missing, "/")))
		} else {
			wantsPlane(t, "ParsePlane", samplePlanes(97, 9)[1], impl.ErrNone)(impl.ParsePlane("97:" + strings.Join(missing, "/")))
		}
	}
}

// operationsOnPlanes are all functions of the chapter that make a plane or a series of what they are
// given, for arguments with which none of them fails. Series are given out as planes with one list.
func operationsOnPlanes() map[string]func(f impl.Plane, g impl.Plane, a impl.Series) (impl.Plane, int64) {
	inOneList := func(a impl.Series, code int64) (impl.Plane, int64) {
		return plane(a.Modulus, a.Coefficients), code
	}
	return map[string]func(f impl.Plane, g impl.Plane, a impl.Series) (impl.Plane, int64){
		"AddPlanes":          func(f, g impl.Plane, a impl.Series) (impl.Plane, int64) { return impl.AddPlanes(f, g) },
		"ScalePlane by 1":    func(f, g impl.Plane, a impl.Series) (impl.Plane, int64) { return impl.ScalePlane(f, 1) },
		"MultiplyPlanes":     func(f, g impl.Plane, a impl.Series) (impl.Plane, int64) { return impl.MultiplyPlanes(f, g) },
		"TurnPlane":          func(f, g impl.Plane, a impl.Series) (impl.Plane, int64) { return impl.TurnPlane(f) },
		"SubstituteBoth":     func(f, g impl.Plane, a impl.Series) (impl.Plane, int64) { return impl.SubstituteBoth(f, a, a) },
		"ApplySeries":        func(f, g impl.Plane, a impl.Series) (impl.Plane, int64) { return impl.ApplySeries(a, g) },
		"PlaneOfSeries in x": func(f, g impl.Plane, a impl.Series) (impl.Plane, int64) { return impl.PlaneOfSeries(a, 0) },
		"PlaneOfSeries in y": func(f, g impl.Plane, a impl.Series) (impl.Plane, int64) { return impl.PlaneOfSeries(a, 1) },
		"PartialPlane by x":  func(f, g impl.Plane, a impl.Series) (impl.Plane, int64) { return impl.PartialPlane(f, 0) },
		"PartialPlane by y":  func(f, g impl.Plane, a impl.Series) (impl.Plane, int64) { return impl.PartialPlane(f, 1) },
		"CutPlane to D":      func(f, g impl.Plane, a impl.Series) (impl.Plane, int64) { return impl.CutPlane(f, 2) },
		"CutPlane to 1":      func(f, g impl.Plane, a impl.Series) (impl.Plane, int64) { return impl.CutPlane(f, 1) },
		"ChangePlane to M":   func(f, g impl.Plane, a impl.Series) (impl.Plane, int64) { return impl.ChangePlane(f, 7) },
		"CoordinatePlane":    func(f, g impl.Plane, a impl.Series) (impl.Plane, int64) { return impl.CoordinatePlane(7, 2, 0) },
		"ParsePlane":         func(f, g impl.Plane, a impl.Series) (impl.Plane, int64) { return impl.ParsePlane("7:1,2,3/4,5/6") },
		"SubstituteCurves": func(f, g impl.Plane, a impl.Series) (impl.Plane, int64) {
			return inOneList(impl.SubstituteCurves(f, a, a))
		},
		"RowOfPlane 0": func(f, g impl.Plane, a impl.Series) (impl.Plane, int64) { return inOneList(impl.RowOfPlane(f, 0)) },
		"RowOfPlane 1": func(f, g impl.Plane, a impl.Series) (impl.Plane, int64) { return inOneList(impl.RowOfPlane(f, 1)) },
	}
}

// copyOfPlane returns the same plane in new memory.
func copyOfPlane(f impl.Plane) impl.Plane {
	g := plane(f.Modulus)
	for _, row := range f.Table {
		g.Table = append(g.Table, append([]int64(nil), row...))
	}
	return g
}

// spoil writes to the whole memory of a plane: to that behind its lists, and at last to the table.
func spoil(f impl.Plane) {
	table := f.Table[:cap(f.Table)]
	for i, row := range table {
		row = row[:cap(row)]
		for j := range row {
			row[j] = -1
		}
		table[i] = nil
	}
}

// TestPlanesMemory checks that no function changes an argument or the spare capacity behind it, that
// results share no memory with arguments, behind their own lists either, and that no two lists of a
// result share memory.
func TestPlanesMemory(t *testing.T) {
	for name, operation := range operationsOnPlanes() {
		memory := []int64{1, 2, 3, 50, 4, 5, 51, 6, 52, 53, 0, 6, 5, 60, 4, 3, 61, 2, 62, 63, 0, 4, 5, 70, 71}
		before := append([]int64(nil), memory...)
		spare := []int64{80}
		tables := [][]int64{memory[:3], memory[4:6], memory[7:8], spare, memory[10:13], memory[14:16], memory[17:18], spare}
		lists := append([][]int64(nil), tables...)
		f, g, a := plane(7, tables[:3]...), plane(7, tables[4:7]...), series(7, memory[20:23]...)
		first, code := operation(f, g, a)
		if code != impl.ErrNone || first.Modulus != 7 || len(first.Table) == 0 {
			t.Errorf("%s = %v, %d", name, first, code)
		}
		want := copyOfPlane(first)
		for i := range first.Table {
			row := first.Table[i][:cap(first.Table[i])]
			kept := append([]int64(nil), first.Table[i]...)
			for j := range row {
				row[j] = -1
			}
			copy(first.Table[i], kept)
			if !isSamePlane(first, want) {
				t.Errorf("%s: lists share memory: %v; want %v", name, first, want)
			}
		}
		spoil(first)
		if !reflect.DeepEqual(memory, before) || !reflect.DeepEqual(tables, lists) || spare[0] != 80 {
			t.Errorf("%s changed or kept its arguments: %v, %v", name, memory, tables)
		}
		wantsPlane(t, name, want, impl.ErrNone)(operation(f, g, a))
	}
	same := plane(7, []int64{0, 1, 2}, []int64{3, 4}, []int64{5})
	wantsPlane(t, "AddPlanes", plane(7, []int64{0, 2, 4}, []int64{6, 1}, []int64{3}), impl.ErrNone)(impl.AddPlanes(same, same))
	wantsPlane(t, "MultiplyPlanes", plane(7, []int64{0, 0, 1}, []int64{0, 6}, []int64{2}), impl.ErrNone)(impl.MultiplyPlanes(same, same))
	wantsPlane(t, "the argument", plane(7, []int64{0, 1, 2}, []int64{3, 4}, []int64{5}), impl.ErrNone)(same, impl.ErrNone)
}
