package tests

import (
	"math"
	"math/big"
	"math/rand"
	"reflect"
	"testing"

	"loop.example/g01152/impl"
)

// degreesOfLaws and moduliOfLaws are those of most tests: the limits, and some between.
var (
	degreesOfLaws = []int64{1, 2, 3, 4, 6, 10}
	moduliOfLaws  = []int64{2, 3, 4, 5, 6, 9, 12, 97, 10000}
)

// bilinearLaw returns x + y + c x y, which is a law for all c.
func bilinearLaw(m int64, d int64, c int64) impl.Plane {
	return filledPlane(m, d, func(i int64, j int64) int64 {
		if i > 1 || j > 1 {
			return 0
		}
		return i + j + i*j*(c-2)
	})
}

// inCoordinate returns a(F(g(x), g(y))) for the reversion g of a curve a, without the program but
// for reversions. It is a law if F is one, and a is a homomorphism from F to it.
func inCoordinate(t *testing.T, f impl.Plane, a impl.Series) impl.Plane {
	t.Helper()
	g := made(t, "ReverseSeries")(impl.ReverseSeries(a))
	return seriesInPlane(a, inCurves(f, g, g))
}

// isUnitOf reports whether a is a unit modulo m.
func isUnitOf(m int64, a int64) bool {
	return divisor(m, a) == 1
}

// invertibleCurves returns curves whose coefficient at t is a unit: 1 for some, and others.
func invertibleCurves(m int64, d int64) []impl.Series {
	var list []impl.Series
	for n, a := range sampleCurves(m, d) {
		if n%2 == 0 || !isUnitOf(m, a.Coefficients[1]) {
			a.Coefficients[1] = 1
		}
		list = append(list, a)
	}
	return list
}

// lawOverRationals returns the coefficients up to degree 10 of the law whose logarithm over the rational
// numbers is x plus what a map tells for exponents. F is x + y and L(x) + L(y) - L(F), where L is what
// the logarithm has behind x: each round makes one degree more right.
func lawOverRationals(logarithm map[int64]*big.Rat) [11][11]*big.Rat {
	type table = [11][11]*big.Rat
	filled := func(coefficient func(i int, j int) *big.Rat) table {
		var f table
		for i := range 11 {
			for j := range 11 - i {
				f[i][j] = coefficient(i, j)
			}
		}
		return f
	}
	product := func(f table, g table) table {
		return filled(func(i int, j int) *big.Rat {
			sum := new(big.Rat)
			for k := range i + 1 {
				for l := range j + 1 {
					if f[k][l].Sign() != 0 && g[i-k][j-l].Sign() != 0 {
						sum.Add(sum, new(big.Rat).Mul(f[k][l], g[i-k][j-l]))
					}
				}
			}
			return sum
		})
	}
	start := filled(func(i int, j int) *big.Rat {
		c := logarithm[int64(i+j)]
		if i+j == 1 {
			return big.NewRat(1, 1)
		}
		if i*j != 0 || c == nil {
			return new(big.Rat)
		}
		return c
	})
	f := start
	for range 10 {
		next, power := start, f
		for n := int64(2); n <= 10; n++ {
			power = product(power, f)
			if c := logarithm[n]; c != nil {
				before := next
				next = filled(func(i int, j int) *big.Rat {
					return new(big.Rat).Sub(before[i][j], new(big.Rat).Mul(c, power[i][j]))
				})
			}
		}
		f = next
	}
	return f
}

// typicalLogarithms are logarithms of Hazewinkel's laws for 2, with the parameters 0, 1 and 1, 0, 0,
// for 3 with 0, 1 and 1, 0, and for 5 with 1: the multiple by the prime modulo it is t^4, t^2, t^9,
// t^3 and t^5, in this order.
func typicalLogarithms() []map[int64]*big.Rat {
	return []map[int64]*big.Rat{
		{4: big.NewRat(1, 2)}, {2: big.NewRat(1, 2), 4: big.NewRat(1, 4), 8: big.NewRat(1, 8)},
		{9: big.NewRat(1, 3)}, {3: big.NewRat(1, 3), 9: big.NewRat(1, 9)}, {5: big.NewRat(1, 5)},
	}
}

// typicalLaws are the laws of typicalLogarithms over the rational numbers, kept as one test has found
// them.
var typicalLaws [][11][11]*big.Rat

// typicalLaw returns the law of degree d with one of typicalLogarithms modulo m. Its coefficients are
// whole.
func typicalLaw(t *testing.T, m int64, d int64, n int) impl.Plane {
	t.Helper()
	if typicalLaws == nil {
		for _, logarithm := range typicalLogarithms() {
			typicalLaws = append(typicalLaws, lawOverRationals(logarithm))
		}
	}
	return filledPlane(m, d, func(i int64, j int64) int64 {
		c := typicalLaws[n][i][j]
		if !c.IsInt() {
			t.Fatalf("law %d has the coefficient %v at x^%d y^%d", n, c, i, j)
		}
		return new(big.Int).Mod(c.Num(), big.NewInt(m)).Int64()
	})
}

// lazardPlane returns the plane of degree d with the terms of ((x + y)^n - x^n - y^n) c, divided by
// the greatest common divisor of its coefficients.
func lazardPlane(m int64, d int64, n int64, c int64) impl.Plane {
	common := new(big.Int)
	for i := int64(1); i < n; i++ {
		common.GCD(nil, nil, common, new(big.Int).Binomial(n, i))
	}
	return filledPlane(m, d, func(i int64, j int64) int64 {
		if i+j != n || i == 0 || j == 0 {
			return 0
		}
		return new(big.Int).Div(new(big.Int).Binomial(n, i), common).Int64() * c
	})
}

// planeSum returns the sum of planes without the program.
func planeSum(f impl.Plane, g impl.Plane) impl.Plane {
	return filledPlane(f.Modulus, degreeOfPlane(f), func(i int64, j int64) int64 { return f.Table[i][j] + g.Table[i][j] })
}

// knownLaws are laws for each modulus and degree, kept as one test has found them.
var knownLaws = map[[2]int64][]impl.Plane{}

// sampleLaws returns laws of degree d, the first one being x + y: with one term more, in other
// coordinates, with other terms in the last degree, and, for small moduli, those of Hazewinkel.
func sampleLaws(t *testing.T, m int64, d int64) []impl.Plane {
	t.Helper()
	if list := knownLaws[[2]int64{m, d}]; list != nil {
		return list
	}
	list := []impl.Plane{bilinearLaw(m, d, 0), bilinearLaw(m, d, 1), bilinearLaw(m, d, m-1), bilinearLaw(m, d, m/2)}
	curves := invertibleCurves(m, d)
	for n := range 4 {
		list = append(list, inCoordinate(t, list[n], curves[n+5]))
	}
	if m <= 5 {
		// Modulo their primes these have logarithms no more, and are in no coordinate of those above.
		for n := range typicalLogarithms() {
			f := typicalLaw(t, m, d, n)
			list = append(list, f, inCoordinate(t, f, curves[10]))
		}
	}
	if d > 1 {
		list = append(list, planeSum(list[1], lazardPlane(m, d, d, 1)), planeSum(list[6], lazardPlane(m, d, d, m-1)))
	}
	knownLaws[[2]int64{m, d}] = list
	return list
}

// cube is a series in three variables: the coefficient of x^a y^b z^c is at a, b and c.
type cube [11][11][11]int64

// cubeOf returns x for 0, y for 1 and z for 2.
func cubeOf(k int) cube {
	exponents := [3]int{}
	exponents[k] = 1
	var u cube
	u[exponents[0]][exponents[1]][exponents[2]] = 1
	return u
}

// exponentsUpTo has, for each degree, all lists of three exponents whose sum is at most it, in
// lexicographic order.
var exponentsUpTo = func() [11][][3]int64 {
	var lists [11][][3]int64
	for d := range int64(11) {
		for a := range d + 1 {
			for b := range d + 1 - a {
				for c := range d + 1 - a - b {
					lists[d] = append(lists[d], [3]int64{a, b, c})
				}
			}
		}
	}
	return lists
}()

// cubeProduct multiplies series in three variables modulo m behind whose degree d all is left out.
func cubeProduct(m int64, d int64, u *cube, v *cube) cube {
	var product cube
	for _, k := range exponentsUpTo[d] {
		x := u[k[0]][k[1]][k[2]]
		if x == 0 {
			continue
		}
		for _, l := range exponentsUpTo[d-k[0]-k[1]-k[2]] {
			at := &product[k[0]+l[0]][k[1]+l[1]][k[2]+l[2]]
			*at = (*at + x*v[l[0]][l[1]][l[2]]) % m
		}
	}
	return product
}

// cubeInPlane returns f(u, v) for series in three variables, from all terms.
func cubeInPlane(f impl.Plane, u cube, v cube) cube {
	m, d := f.Modulus, degreeOfPlane(f)
	var sum, one cube
	one[0][0][0] = 1
	left := one
	for _, row := range f.Table {
		term := left
		for _, c := range row {
			for _, k := range exponentsUpTo[d] {
				at := &sum[k[0]][k[1]][k[2]]
				*at = (*at + c*term[k[0]][k[1]][k[2]]) % m
			}
			term = cubeProduct(m, d, &term, &v)
		}
		left = cubeProduct(m, d, &left, &u)
	}
	return sum
}

// oneIf returns 1 if something holds, and 0 otherwise.
func oneIf(holds bool) int64 {
	if holds {
		return 1
	}
	return 0
}

// faultOf returns the first fault of a plane without the program, and nil for a law.
func faultOf(f impl.Plane) []int64 {
	d := degreeOfPlane(f)
	for i := int64(0); i <= d; i++ {
		if f.Table[i][0] != oneIf(i == 1) {
			return []int64{0, i}
		}
	}
	for i := int64(0); i <= d; i++ {
		for j := int64(0); i+j <= d; j++ {
			if i < j && f.Table[i][j] != f.Table[j][i] {
				return []int64{1, i, j}
			}
		}
	}
	x, y, z := cubeOf(0), cubeOf(1), cubeOf(2)
	left, right := cubeInPlane(f, cubeInPlane(f, x, y), z), cubeInPlane(f, x, cubeInPlane(f, y, z))
	for _, k := range exponentsUpTo[d] {
		if left[k[0]][k[1]][k[2]] != right[k[0]][k[1]][k[2]] {
			return []int64{2, k[0], k[1], k[2]}
		}
	}
	return nil
}

// wantsFault checks LawFault and IsLaw of a plane. Without a fault it is a law.
func wantsFault(t *testing.T, f impl.Plane, want ...int64) {
	t.Helper()
	code := int64(impl.ErrNone)
	if len(want) == 0 {
		code = impl.ErrNotFound
	}
	wantsList(t, "LawFault("+textOf(f)+")", want, code)(impl.LawFault(f))
	if impl.IsLaw(f) != (len(want) == 0) {
		t.Errorf("IsLaw(%s) = %v", textOf(f), impl.IsLaw(f))
	}
}

// TestSmallLaws compares the faults of all planes of small moduli and degrees. By Lazard's theorem,
// M^(D - 1) of them are laws.
func TestSmallLaws(t *testing.T) {
	for _, kind := range [][3]int64{{2, 1, 1}, {3, 1, 1}, {6, 1, 1}, {2, 2, 2}, {3, 2, 3}, {4, 2, 4}, {2, 3, 4}} {
		count := int64(0)
		for _, f := range allPlanes(kind[0], kind[1]) {
			fault := faultOf(f)
			wantsFault(t, f, fault...)
			if fault == nil {
				count++
			}
		}
		if count != kind[2] {
			t.Errorf("%d laws modulo %d of degree %d; want %d", count, kind[0], kind[1], kind[2])
		}
	}
}

// TestSymmetricPlanes compares the faults of planes of higher degrees that are x + y and symmetric
// terms with both variables, some of which are laws.
func TestSymmetricPlanes(t *testing.T) {
	for _, kind := range [][2]int64{{2, 4}, {2, 5}, {3, 3}, {3, 4}, {4, 3}, {5, 3}} {
		m, d := kind[0], kind[1]
		for _, a := range allSeries(m, (d/2)*((d+1)/2)-1) {
			n, terms := 0, map[[2]int64]int64{}
			for i := int64(1); i < d; i++ {
				for j := i; i+j <= d; j++ {
					terms[[2]int64{i, j}] = a.Coefficients[n]
					n++
				}
			}
			f := filledPlane(m, d, func(i int64, j int64) int64 {
				if i*j == 0 {
					return oneIf(i+j == 1)
				}
				return terms[[2]int64{min(i, j), max(i, j)}]
			})
			wantsFault(t, f, faultOf(f)...)
		}
	}
}

// TestSampleLaws checks that laws of all kinds have no fault, and which one they have if they are
// changed at one place, at both places of a symmetric pair, or in one of the last degree.
func TestSampleLaws(t *testing.T) {
	for _, m := range moduliOfLaws {
		for _, d := range degreesOfLaws {
			for n, f := range sampleLaws(t, m, d) {
				wantsFault(t, f)
				changed := func(i int64, j int64, both bool) impl.Plane {
					g := copyOfPlane(f)
					g.Table[i][j] = (g.Table[i][j] + 1) % m
					if both && i != j {
						g.Table[j][i] = (g.Table[j][i] + 1) % m
					}
					return g
				}
				for i := int64(0); i <= d; i++ {
					wantsFault(t, changed(i, 0, false), 0, i)
					for j := i + 1; i+j <= d; j++ {
						wantsFault(t, changed(i, j, false), 1, i, j)
						if i > 0 {
							wantsFault(t, changed(j, i, false), 1, i, j)
						}
					}
				}
				if d < 2 || d == 10 && n%4 != 3 {
					continue
				}
				for i := int64(1); i <= d/2; i++ {
					for _, j := range []int64{i, d - i} {
						g := changed(i, j, true)
						wantsFault(t, g, faultOf(g)...)
					}
				}
			}
		}
	}
}

// planeOfTerms returns the plane of degree d that is x + y and c x^i y^j for each {i, j, c}.
func planeOfTerms(m int64, d int64, terms ...[3]int64) impl.Plane {
	f := bilinearLaw(m, d, 0)
	for _, term := range terms {
		f.Table[term[0]][term[1]] = ((f.Table[term[0]][term[1]]+term[2])%m + m) % m
	}
	return f
}

// TestFaultsInOrder gives planes with several faults of one kind and of several kinds.
func TestFaultsInOrder(t *testing.T) {
	wantsFault(t, planeOfTerms(5, 1))
	wantsFault(t, planeOfTerms(5, 1, [3]int64{0, 0, 1}), 0, 0)
	wantsFault(t, planeOfTerms(5, 1, [3]int64{1, 0, -1}), 0, 1)
	wantsFault(t, planeOfTerms(5, 1, [3]int64{0, 1, -1}), 1, 0, 1)
	wantsFault(t, planeOfTerms(5, 1, [3]int64{0, 1, 1}, [3]int64{1, 0, 1}), 0, 1)
	wantsFault(t, planeOfTerms(5, 1, [3]int64{0, 0, 4}, [3]int64{1, 0, 1}, [3]int64{0, 1, 2}), 0, 0)
	wantsFault(t, planeOfTerms(5, 10, [3]int64{10, 0, 1}), 0, 10)
	wantsFault(t, planeOfTerms(5, 10, [3]int64{0, 10, 1}), 1, 0, 10)
	wantsFault(t, planeOfTerms(5, 10, [3]int64{10, 0, 1}, [3]int64{2, 0, 3}, [3]int64{0, 1, 1}), 0, 2)
	wantsFault(t, planeOfTerms(5, 10, [3]int64{10, 0, 1}, [3]int64{0, 1, 1}, [3]int64{2, 2, 1}), 0, 10)
	wantsFault(t, planeOfTerms(5, 10, [3]int64{0, 10, 1}, [3]int64{1, 2, 1}, [3]int64{2, 2, 1}), 1, 0, 10)
	wantsFault(t, planeOfTerms(5, 10, [3]int64{4, 6, 1}, [3]int64{3, 2, 1}, [3]int64{9, 1, 1}), 1, 1, 9)
	wantsFault(t, planeOfTerms(5, 10, [3]int64{4, 6, 1}, [3]int64{3, 2, 1}, [3]int64{2, 7, 1}), 1, 2, 3)
	wantsFault(t, planeOfTerms(5, 10, [3]int64{4, 6, 1}, [3]int64{1, 1, 1}, [3]int64{2, 2, 1}), 1, 4, 6)
	wantsFault(t, planeOfTerms(5, 4, [3]int64{2, 2, 1}), 2, 1, 1, 2)
	wantsFault(t, planeOfTerms(4, 4, [3]int64{2, 2, 1}), 2, 1, 1, 2)
	wantsFault(t, planeOfTerms(4, 4, [3]int64{2, 2, 2}))
	wantsFault(t, planeOfTerms(2, 4, [3]int64{2, 2, 1}))
	wantsFault(t, planeOfTerms(5, 4, [3]int64{1, 3, 1}, [3]int64{3, 1, 1}), 2, 1, 1, 2)
	wantsFault(t, planeOfTerms(5, 4, [3]int64{1, 3, 2}, [3]int64{3, 1, 2}, [3]int64{2, 2, 3}))
	wantsFault(t, planeOfTerms(5, 3, [3]int64{1, 2, 1}, [3]int64{2, 1, 1}))
	wantsFault(t, planeOfTerms(5, 5, [3]int64{1, 2, 1}, [3]int64{2, 1, 1}), faultOf(planeOfTerms(5, 5, [3]int64{1, 2, 1}, [3]int64{2, 1, 1}))...)
	wantsFault(t, planeOfTerms(10000, 10, [3]int64{5, 5, 1}), 2, 1, 4, 5)
	wantsFault(t, planeOfTerms(7, 10, [3]int64{5, 5, 1}, [3]int64{1, 1, 1}), faultOf(planeOfTerms(7, 10, [3]int64{5, 5, 1}, [3]int64{1, 1, 1}))...)
	wantsFault(t, planeOfTerms(9999, 10, [3]int64{1, 1, 1}, [3]int64{1, 9, 1}, [3]int64{9, 1, 1}), 2, 1, 1, 8)
}

// noLaws are no laws: no planes, and planes with one fault of each kind, also with that modulus and
// degree that other arguments have.
func noLaws() []impl.Plane {
	list := noPlanes()
	for _, d := range []int64{1, 2, 10} {
		list = append(list, termOf(10, d, 0, 0, 0), termOf(10, d, 1, 0, 1), termOf(10, d, 0, 1, 1), termOf(10, d, 0, 0, 1))
	}
	return append(list, planeOfTerms(10, 2, [3]int64{0, 0, 1}), planeOfTerms(10, 2, [3]int64{1, 0, 1}), planeOfTerms(10, 2, [3]int64{2, 0, 5}),
		planeOfTerms(10, 2, [3]int64{0, 2, 5}), planeOfTerms(10, 2, [3]int64{0, 1, 9}), planeOfTerms(10, 4, [3]int64{2, 2, 1}), planeOfTerms(10, 4, [3]int64{1, 2, 1}))
}

// TestNoLaws gives each argument that has to be a law one that is none, also where an error behind
// that would hold: the other law or the curve is not of it, or is none, and multiples are out of
// their range.
func TestNoLaws(t *testing.T) {
	laws := []impl.Plane{bilinearLaw(10, 2, 1), bilinearLaw(7, 1, 0), termOf(10, 2, 1, 0, 1), {}}
	curves := []impl.Series{series(10, 0, 1, 0), series(10, 1, 1, 0), series(7, 0, 1), series(7, 1, 1), {}}
	for _, bad := range noLaws() {
		if impl.IsLaw(bad) {
			t.Errorf("IsLaw(%v) is true", bad)
		}
		if !impl.IsPlane(bad) {
			wantsList[int64](t, "LawFault", nil, impl.ErrInvalid)(impl.LawFault(bad))
		}
		wantsCode(t, "InverseOfLaw", impl.ErrInvalid)(impl.InverseOfLaw(bad))
		for _, f := range laws {
			wants(t, "AgreementOf", int64(0), impl.ErrInvalid)(impl.AgreementOf(bad, f))
			wants(t, "AgreementOf", int64(0), impl.ErrInvalid)(impl.AgreementOf(f, bad))
			wantsList[int64](t, "FirstDifference", nil, impl.ErrInvalid)(impl.FirstDifference(bad, f))
			wantsList[int64](t, "FirstDifference", nil, impl.ErrInvalid)(impl.FirstDifference(f, bad))
		}
		for _, a := range curves {
			wantsCode(t, "OppositeUnder", impl.ErrInvalid)(impl.OppositeUnder(bad, a))
			for _, b := range curves {
				wantsCode(t, "SumUnder", impl.ErrInvalid)(impl.SumUnder(bad, a, b))
				wantsCode(t, "DifferenceUnder", impl.ErrInvalid)(impl.DifferenceUnder(bad, a, b))
			}
			for _, n := range []int64{math.MinInt64, -1000001, 0, 2, 1000001} {
				wantsCode(t, "MultipleUnder", impl.ErrInvalid)(impl.MultipleUnder(bad, n, a))
				wantsCode(t, "MultipleOf", impl.ErrInvalid)(impl.MultipleOf(bad, n))
			}
		}
	}
}

// TestNoSeriesUnder gives each argument that has to be a series one that is none, also where the
// other one is not of the law or a multiple is out of its range.
func TestNoSeriesUnder(t *testing.T) {
	f := bilinearLaw(10, 2, 1)
	for _, bad := range noSeries() {
		wantsCode(t, "OppositeUnder", impl.ErrInvalid)(impl.OppositeUnder(f, bad))
		for _, a := range []impl.Series{series(10, 0, 1, 0), series(10, 1, 1, 0), series(7, 0, 1), {}} {
			wantsCode(t, "SumUnder", impl.ErrInvalid)(impl.SumUnder(f, bad, a))
			wantsCode(t, "SumUnder", impl.ErrInvalid)(impl.SumUnder(f, a, bad))
			wantsCode(t, "DifferenceUnder", impl.ErrInvalid)(impl.DifferenceUnder(f, bad, a))
			wantsCode(t, "DifferenceUnder", impl.ErrInvalid)(impl.DifferenceUnder(f, a, bad))
		}
		for _, n := range []int64{math.MinInt64, -1000001, 0, 2, 1000001} {
			wantsCode(t, "MultipleUnder", impl.ErrInvalid)(impl.MultipleUnder(f, n, bad))
		}
	}
}

// TestNoCurvesOfLaw gives series with another modulus, another degree, both, or a constant.
func TestNoCurvesOfLaw(t *testing.T) {
	for _, d := range degreesOfLaws {
		f, good := bilinearLaw(10, d, 1), monomialOf(10, d, 1, 3)
		bad := []impl.Series{monomialOf(10, d, 0, 1), monomialOf(10, d, 0, 9), monomialOf(5, d, 1, 1), monomialOf(2, d, 1, 0), monomialOf(11, d, 1, 1), monomialOf(7, d%10+1, 1, 1), monomialOf(10, d%10+1, 1, 1)}
		all := series(10, make([]int64, d+1)...)
		for i := range all.Coefficients {
			all.Coefficients[i] = int64(i) + 2
			if all.Coefficients[i] > 9 {
				all.Coefficients[i] = 5
			}
		}
		for _, a := range append(bad, all) {
			wantsCode(t, "OppositeUnder", impl.ErrRange)(impl.OppositeUnder(f, a))
			for _, b := range []impl.Series{good, a, bad[0], bad[3]} {
				wantsCode(t, "SumUnder", impl.ErrRange)(impl.SumUnder(f, a, b))
				wantsCode(t, "SumUnder", impl.ErrRange)(impl.SumUnder(f, b, a))
				wantsCode(t, "DifferenceUnder", impl.ErrRange)(impl.DifferenceUnder(f, a, b))
				wantsCode(t, "DifferenceUnder", impl.ErrRange)(impl.DifferenceUnder(f, b, a))
			}
			for _, n := range []int64{math.MinInt64, -1, 0, 1, 2, math.MaxInt64} {
				wantsCode(t, "MultipleUnder", impl.ErrRange)(impl.MultipleUnder(f, n, a))
			}
		}
		for _, n := range []int64{math.MinInt64, -1000001, 1000001, math.MaxInt64} {
			wantsCode(t, "MultipleUnder", impl.ErrRange)(impl.MultipleUnder(f, n, good))
			wantsCode(t, "MultipleOf", impl.ErrRange)(impl.MultipleOf(f, n))
		}
	}
}

// TestInverseOfLaw checks that the sum of t and the inverse is 0, and the inverse of x + y + c x y,
// which is -t / (1 + c t).
func TestInverseOfLaw(t *testing.T) {
	wantsSeries(t, "InverseOfLaw", series(5, 0, 4, 1, 4), impl.ErrNone)(impl.InverseOfLaw(bilinearLaw(5, 3, 1)))
	wantsSeries(t, "InverseOfLaw", series(2, 0, 1), impl.ErrNone)(impl.InverseOfLaw(bilinearLaw(2, 1, 0)))
	for _, m := range moduliOfLaws {
		for _, d := range degreesOfLaws {
			for _, f := range sampleLaws(t, m, d) {
				inverse := made(t, "InverseOfLaw")(impl.InverseOfLaw(f))
				if !impl.IsCurve(inverse) || inverse.Modulus != m || degreeOf(inverse) != d {
					t.Errorf("InverseOfLaw(%s) = %v", textOf(f), inverse)
				}
				wantsSeries(t, "t and the inverse", monomialOf(m, d, 0, 0), impl.ErrNone)(inCurvesOfOne(f, monomialOf(m, d, 1, 1), inverse), impl.ErrNone)
			}
			for _, c := range []int64{0, 1, m / 3, m - 1} {
				want, power := monomialOf(m, d, 0, 0), m-1
				for n := int64(1); n <= d; n++ {
					want.Coefficients[n] = power
					power = power * (m - c) % m
				}
				wantsSeries(t, "InverseOfLaw", want, impl.ErrNone)(impl.InverseOfLaw(bilinearLaw(m, d, c)))
			}
		}
	}
}

// TestInverseIsOnlyOne looks for the inverse among all curves of small moduli and degrees.
func TestInverseIsOnlyOne(t *testing.T) {
	for _, kind := range [][2]int64{{2, 1}, {2, 2}, {2, 3}, {2, 4}, {3, 1}, {3, 2}, {3, 3}, {4, 2}, {4, 3}, {6, 2}} {
		m, d := kind[0], kind[1]
		zero := monomialOf(m, d, 0, 0)
		for _, f := range sampleLaws(t, m, d) {
			var all []impl.Series
			for _, a := range allSeries(m, d) {
				if a.Coefficients[0] == 0 && isSame(inCurvesOfOne(f, monomialOf(m, d, 1, 1), a), zero) {
					all = append(all, a)
				}
			}
			if len(all) != 1 {
				t.Fatalf("%v all have the sum 0 with t under %s", all, textOf(f))
			}
			wantsSeries(t, "InverseOfLaw", all[0], impl.ErrNone)(impl.InverseOfLaw(f))
		}
	}
}

func TestSumUnder(t *testing.T) {
	f := bilinearLaw(10, 2, 1)
	wantsSeries(t, "SumUnder", series(10, 0, 5, 7), impl.ErrNone)(impl.SumUnder(f, series(10, 0, 2, 1), series(10, 0, 3, 0)))
	wantsSeries(t, "SumUnder", series(10, 0, 1), impl.ErrNone)(impl.SumUnder(bilinearLaw(10, 1, 7), series(10, 0, 8), series(10, 0, 3)))
	for _, m := range moduliOfLaws {
		for _, d := range degreesOfLaws {
			curves := sampleCurves(m, d)
			for n, f := range sampleLaws(t, m, d) {
				a, b := curves[(n*5+1)%len(curves)], curves[(n*7+6)%len(curves)]
				wantsSeries(t, "SumUnder", inCurvesOfOne(f, a, b), impl.ErrNone)(impl.SumUnder(f, a, b))
				wantsSeries(t, "SumUnder", inCurvesOfOne(f, a, a), impl.ErrNone)(impl.SumUnder(f, a, a))
				wantsSeries(t, "SumUnder", a, impl.ErrNone)(impl.SumUnder(f, a, curves[0]))
			}
		}
	}
}

// TestOppositeAndDifferenceUnder compares opposites with compositions, and differences with sums.
func TestOppositeAndDifferenceUnder(t *testing.T) {
	f := bilinearLaw(5, 3, 1)
	wantsSeries(t, "OppositeUnder", series(5, 0, 3, 4, 2), impl.ErrNone)(impl.OppositeUnder(f, series(5, 0, 2, 0, 0)))
	wantsSeries(t, "DifferenceUnder", series(5, 0, 1, 4, 1), impl.ErrNone)(impl.DifferenceUnder(f, series(5, 0, 2, 0, 0), series(5, 0, 1, 0, 0)))
	for _, m := range moduliOfLaws {
		for _, d := range degreesOfLaws {
			curves := sampleCurves(m, d)
			zero := curves[0]
			for n, f := range sampleLaws(t, m, d) {
				a, b := curves[(n*5+1)%len(curves)], curves[(n*7+6)%len(curves)]
				inverse := made(t, "InverseOfLaw")(impl.InverseOfLaw(f))
				opposite := compositionOf(inverse, b)
				wantsSeries(t, "OppositeUnder", opposite, impl.ErrNone)(impl.OppositeUnder(f, b))
				wantsSeries(t, "a curve and its opposite", zero, impl.ErrNone)(inCurvesOfOne(f, b, opposite), impl.ErrNone)
				wantsSeries(t, "DifferenceUnder", inCurvesOfOne(f, a, opposite), impl.ErrNone)(impl.DifferenceUnder(f, a, b))
				wantsSeries(t, "DifferenceUnder", zero, impl.ErrNone)(impl.DifferenceUnder(f, a, a))
				wantsSeries(t, "DifferenceUnder", a, impl.ErrNone)(impl.DifferenceUnder(f, a, zero))
				wantsSeries(t, "DifferenceUnder", opposite, impl.ErrNone)(impl.DifferenceUnder(f, zero, b))
			}
		}
	}
}

// TestMultipleUnder compares multiples by small numbers with sums one after the other.
func TestMultipleUnder(t *testing.T) {
	wantsSeries(t, "MultipleUnder", series(5, 0, 3, 3, 1), impl.ErrNone)(impl.MultipleUnder(bilinearLaw(5, 3, 1), 3, series(5, 0, 1, 0, 0)))
	for _, m := range moduliOfLaws {
		for _, d := range degreesOfLaws {
			curves := sampleCurves(m, d)
			for n, f := range sampleLaws(t, m, d) {
				a := curves[(n*5+1)%len(curves)]
				inverse := made(t, "InverseOfLaw")(impl.InverseOfLaw(f))
				multiple := curves[0]
				for k := int64(0); k <= 9; k++ {
					wantsSeries(t, "MultipleUnder", multiple, impl.ErrNone)(impl.MultipleUnder(f, k, a))
					wantsSeries(t, "MultipleUnder", compositionOf(inverse, multiple), impl.ErrNone)(impl.MultipleUnder(f, -k, a))
					multiple = inCurvesOfOne(f, multiple, a)
				}
			}
		}
	}
}

// bilinearMultiple returns the multiple of x + y + c x y by n without the program: one plus c times it
// is the power of 1 + c t with the exponent n, so that it has the number of ways to choose k of n
// things, times c^(k - 1), at t^k. Divided by k factorial, n (n - 1) .. (n - k + 1) is that number
// for negative n, too.
func bilinearMultiple(m int64, d int64, c int64, n int64) impl.Series {
	integers := []*big.Int{new(big.Int)}
	top, bottom, power := big.NewInt(1), big.NewInt(1), big.NewInt(1)
	for k := int64(1); k <= d; k++ {
		top.Mul(top, big.NewInt(n-k+1))
		bottom.Mul(bottom, big.NewInt(k))
		integers = append(integers, new(big.Int).Mul(new(big.Int).Quo(top, bottom), power))
		power = new(big.Int).Mul(power, big.NewInt(c))
	}
	return cutOf(m, d, integers)
}

// TestMultipleOf compares multiples of laws by numbers up to the limits of the range.
func TestMultipleOf(t *testing.T) {
	wantsSeries(t, "MultipleOf", series(2, 0, 0, 1, 0), impl.ErrNone)(impl.MultipleOf(bilinearLaw(2, 3, 1), 2))
	numbers := []int64{-1000000, -999999, -524288, -65537, -1000, -17, -2, -1, 0, 1, 2, 3, 16, 1023, 65536, 524287, 524288, 999999, 1000000}
	for _, m := range moduliOfLaws {
		for _, d := range degreesOfLaws {
			for _, n := range numbers {
				for _, c := range []int64{0, 1, m / 2, m - 1} {
					want := bilinearMultiple(m, d, c, n)
					wantsSeries(t, "MultipleOf", want, impl.ErrNone)(impl.MultipleOf(bilinearLaw(m, d, c), n))
				}
			}
		}
	}
	for _, m := range []int64{2, 9, 10000} {
		for _, d := range degreesOfLaws {
			for _, f := range sampleLaws(t, m, d) {
				for _, n := range numbers {
					want := made(t, "MultipleUnder")(impl.MultipleUnder(f, n, monomialOf(m, d, 1, 1)))
					wantsSeries(t, "MultipleOf", want, impl.ErrNone)(impl.MultipleOf(f, n))
				}
			}
		}
	}
}

// TestMultiplesInCoordinates checks that multiples go through the homomorphism that a coordinate is.
func TestMultiplesInCoordinates(t *testing.T) {
	for _, m := range []int64{2, 5, 12, 9999} {
		for _, d := range degreesOfLaws {
			f := bilinearLaw(m, d, m-1)
			a := invertibleCurves(m, d)[7]
			g := inCoordinate(t, f, a)
			back := made(t, "ReverseSeries")(impl.ReverseSeries(a))
			for _, n := range []int64{-1000000, -7, 0, 1, 2, 1000000} {
				want := compositionOf(a, compositionOf(bilinearMultiple(m, d, m-1, n), back))
				wantsSeries(t, "MultipleOf", want, impl.ErrNone)(impl.MultipleOf(g, n))
			}
		}
	}
}

// TestMultiplesByPrimes checks the multiples of Hazewinkel's laws by their primes, whose only term
// shows their height.
func TestMultiplesByPrimes(t *testing.T) {
	for n, kind := range [][2]int64{{2, 4}, {2, 2}, {3, 9}, {3, 3}, {5, 5}} {
		f := typicalLaw(t, kind[0], 10, n)
		wantsSeries(t, "MultipleOf", monomialOf(kind[0], 10, kind[1], 1), impl.ErrNone)(impl.MultipleOf(f, kind[0]))
		wantsSeries(t, "MultipleOf", monomialOf(kind[0], 10, 0, 0), impl.ErrNone)(impl.MultipleOf(f, kind[0]*kind[0]*kind[0]*kind[0]))
	}
}

// differenceOf returns the greatest degree up to which planes agree, and their first difference, nil
// for equal ones, without the program.
func differenceOf(f impl.Plane, g impl.Plane) (int64, []int64) {
	m, d := f.Modulus, degreeOfPlane(f)
	for n := int64(0); n <= d; n++ {
		var list []int64
		same := true
		for i := int64(0); i <= n; i++ {
			list = append(list, (g.Table[i][n-i]-f.Table[i][n-i]+m)%m)
			same = same && list[i] == 0
		}
		if !same {
			return n - 1, list
		}
	}
	return d, nil
}

// wantsDifference checks AgreementOf and FirstDifference of two laws.
func wantsDifference(t *testing.T, f impl.Plane, g impl.Plane, agreement int64, want ...int64) {
	t.Helper()
	wants(t, "AgreementOf", agreement, impl.ErrNone)(impl.AgreementOf(f, g))
	code := int64(impl.ErrNone)
	if len(want) == 0 {
		code = impl.ErrNotFound
	}
	wantsList(t, "FirstDifference", want, code)(impl.FirstDifference(f, g))
}

// TestDifferencesOfLaws compares laws with each other, and with themselves, which are equal.
func TestDifferencesOfLaws(t *testing.T) {
	wantsDifference(t, bilinearLaw(5, 3, 1), bilinearLaw(5, 3, 0), 1, 0, 4, 0)
	wantsDifference(t, bilinearLaw(5, 3, 0), bilinearLaw(5, 3, 1), 1, 0, 1, 0)
	wantsDifference(t, bilinearLaw(5, 1, 0), bilinearLaw(5, 1, 1), 1)
	for _, m := range moduliOfLaws {
		for _, d := range degreesOfLaws {
			list := sampleLaws(t, m, d)
			for n, f := range list {
				wantsDifference(t, f, copyOfPlane(f), d)
				for _, g := range []impl.Plane{list[(n+1)%len(list)], list[(n*5+3)%len(list)]} {
					agreement, want := differenceOf(f, g)
					wantsDifference(t, f, g, agreement, want...)
				}
			}
		}
	}
}

// TestDifferencesByDegree checks laws that differ from degree n on, for each n, and laws that differ
// in the last degree only.
func TestDifferencesByDegree(t *testing.T) {
	source := rand.New(rand.NewSource(4))
	for _, m := range moduliOfLaws {
		for d := int64(2); d <= 10; d++ {
			list := sampleLaws(t, m, min(d, 4))
			if d > 4 {
				list = []impl.Plane{bilinearLaw(m, d, 0), bilinearLaw(m, d, 1)}
			}
			for _, f := range list {
				d := degreeOfPlane(f)
				c := source.Int63n(m-1) + 1
				last := lazardPlane(m, d, d, c)
				var layer []int64
				for i := int64(0); i <= d; i++ {
					layer = append(layer, last.Table[i][d-i])
				}
				wantsDifference(t, f, planeSum(f, last), d-1, layer...)
				for n := int64(2); n <= d; n++ {
					a := monomialOf(m, d, 1, 1)
					a.Coefficients[n] = c
					g := inCoordinate(t, f, a)
					agreement, want := differenceOf(f, g)
					wantsDifference(t, f, g, agreement, want...)
					// In the coordinate t + c t^n, c ((x + y)^n - x^n - y^n) comes in first.
					if agreement < n-1 || agreement == n-1 && new(big.Int).Mod(big.NewInt(c*n), big.NewInt(m)).Int64() != want[1] {
						t.Errorf("FirstDifference(%s, %s) = %v", textOf(f), textOf(g), want)
					}
				}
			}
		}
	}
}

// TestLawsNotAlike compares laws with other moduli or degrees, which may agree otherwise.
func TestLawsNotAlike(t *testing.T) {
	f := bilinearLaw(10, 2, 1)
	for _, g := range []impl.Plane{bilinearLaw(10, 3, 1), bilinearLaw(10, 1, 1), bilinearLaw(11, 2, 1), bilinearLaw(5, 2, 1), bilinearLaw(10000, 10, 0), bilinearLaw(2, 1, 0)} {
		wants(t, "AgreementOf", int64(0), impl.ErrRange)(impl.AgreementOf(f, g))
		wants(t, "AgreementOf", int64(0), impl.ErrRange)(impl.AgreementOf(g, f))
		wantsList[int64](t, "FirstDifference", nil, impl.ErrRange)(impl.FirstDifference(f, g))
		wantsList[int64](t, "FirstDifference", nil, impl.ErrRange)(impl.FirstDifference(g, f))
	}
}

// operationsOnLaws are all functions of the chapter that make a series or a list of what they are
// given. Lists are given out as series.
func operationsOnLaws() map[string]func(f impl.Plane, g impl.Plane, a impl.Series) (impl.Series, int64) {
	type laws = impl.Plane
	inSeries := func(list []int64, code int64) (impl.Series, int64) { return series(7, list...), code }
	return map[string]func(f impl.Plane, g impl.Plane, a impl.Series) (impl.Series, int64){
		"InverseOfLaw":           func(f, g laws, a impl.Series) (impl.Series, int64) { return impl.InverseOfLaw(f) },
		"SumUnder":               func(f, g laws, a impl.Series) (impl.Series, int64) { return impl.SumUnder(f, a, a) },
		"OppositeUnder":          func(f, g laws, a impl.Series) (impl.Series, int64) { return impl.OppositeUnder(f, a) },
		"DifferenceUnder":        func(f, g laws, a impl.Series) (impl.Series, int64) { return impl.DifferenceUnder(f, a, a) },
		"MultipleUnder by 0":     func(f, g laws, a impl.Series) (impl.Series, int64) { return impl.MultipleUnder(f, 0, a) },
		"MultipleUnder by 1":     func(f, g laws, a impl.Series) (impl.Series, int64) { return impl.MultipleUnder(f, 1, a) },
		"MultipleUnder by -5":    func(f, g laws, a impl.Series) (impl.Series, int64) { return impl.MultipleUnder(f, -5, a) },
		"MultipleOf by 0":        func(f, g laws, a impl.Series) (impl.Series, int64) { return impl.MultipleOf(f, 0) },
		"MultipleOf by 6":        func(f, g laws, a impl.Series) (impl.Series, int64) { return impl.MultipleOf(f, 6) },
		"FirstDifference":        func(f, g laws, a impl.Series) (impl.Series, int64) { return inSeries(impl.FirstDifference(f, g)) },
		"LawFault, turned":       func(f, g laws, a impl.Series) (impl.Series, int64) { return inSeries(impl.LawFault(withTerm(g, 0, 2))) },
		"LawFault, at x^2":       func(f, g laws, a impl.Series) (impl.Series, int64) { return inSeries(impl.LawFault(withTerm(g, 2, 0))) },
		"LawFault, in brackets":  func(f, g laws, a impl.Series) (impl.Series, int64) { return inSeries(impl.LawFault(withTerm(g, 2, 2))) },
		"AgreementOf, in a list": func(f, g laws, a impl.Series) (impl.Series, int64) { return inSeries(agreementInList(f, g)) },
	}
}

// agreementInList returns AgreementOf as a list.
func agreementInList(f impl.Plane, g impl.Plane) ([]int64, int64) {
	n, code := impl.AgreementOf(f, g)
	return []int64{n}, code
}

// withTerm adds x^i y^j to a plane.
func withTerm(f impl.Plane, i int64, j int64) impl.Plane {
	g := copyOfPlane(f)
	g.Table[i][j] = (g.Table[i][j] + 1) % f.Modulus
	return g
}

// TestLawsMemory checks that no function changes an argument or the spare capacity behind it, that
// results share no memory with arguments, and that equal calls have equal results.
func TestLawsMemory(t *testing.T) {
	for name, operation := range operationsOnLaws() {
		memory := []int64{0, 1, 0, 0, 0, 50, 1, 3, 0, 0, 51, 0, 0, 0, 52, 0, 0, 53, 0, 54, 0, 2, 5, 6, 1, 55}
		before := append([]int64(nil), memory...)
		tables := [][]int64{memory[:5], memory[6:10], memory[11:14], memory[15:17], memory[18:19], memory[19:20]}
		lists := append([][]int64(nil), tables...)
		f, g, a := plane(7, tables[:5]...), bilinearLaw(7, 4, 0), series(7, memory[20:25]...)
		first, code := operation(f, g, a)
		if code != impl.ErrNone || len(first.Coefficients) == 0 {
			t.Errorf("%s = %v, %d", name, first, code)
		}
		want := series(first.Modulus, append([]int64(nil), first.Coefficients...)...)
		all := first.Coefficients[:cap(first.Coefficients)]
		for i := range all {
			all[i] = -1
		}
		if !reflect.DeepEqual(memory, before) || !reflect.DeepEqual(tables, lists) || !isSamePlane(g, bilinearLaw(7, 4, 0)) {
			t.Errorf("%s changed or kept its arguments: %v, %v", name, memory, tables)
		}
		wantsSeries(t, name, want, impl.ErrNone)(operation(f, g, a))
	}
}
