package tests

import (
	"math"
	"math/big"
	"reflect"
	"testing"

	"loop.example/g01152/impl"
)

// wants returns a check of the two results of a call, which are passed on to it directly.
func wants[T comparable](t *testing.T, call string, want T, wantCode int64) func(T, int64) {
	return func(got T, code int64) {
		t.Helper()
		if got != want || code != wantCode {
			t.Errorf("%s = %v, %d; want %v, %d", call, got, code, want, wantCode)
		}
	}
}

// wantsList is wants for lists, where nil and empty lists are the same.
func wantsList[T any](t *testing.T, call string, want []T, wantCode int64) func([]T, int64) {
	return func(got []T, code int64) {
		t.Helper()
		same := len(got) == 0 && len(want) == 0 || reflect.DeepEqual(got, want)
		if !same || code != wantCode {
			t.Errorf("%s = %v, %d; want %v, %d", call, got, code, want, wantCode)
		}
	}
}

// moduli are small ones of all kinds, primes, their powers and products, and the greatest ones.
var moduli = []int64{2, 3, 4, 5, 6, 7, 8, 9, 10, 12, 16, 30, 36, 49, 60, 97, 128, 9973, 9999, 10000}

// noModuli are not moduli, next to the limits and far from them.
var noModuli = []int64{math.MinInt64, -10000, -2, -1, 0, 1, 10001, math.MaxInt64}

// noIntegers are not integers of the chapter.
var noIntegers = []int64{math.MinInt64, -impl.MaxInteger - 1, impl.MaxInteger + 1, math.MaxInt64}

// noNumbers returns integers that are not numbers modulo m.
func noNumbers(m int64) []int64 {
	return []int64{math.MinInt64, -m, -1, m, m + 1, math.MaxInt64}
}

// sample returns numbers modulo m: all of a small m, and else those at the ends and some between.
func sample(m int64) []int64 {
	step := m/97 + 1
	var list []int64
	for a := int64(0); a < m; a += step {
		list = append(list, a)
	}
	if step > 1 {
		list = append(list, 1, 2, m/2, m-2, m-1)
	}
	return list
}

// divisor is the greatest common divisor of two integers as the library finds it.
func divisor(a int64, b int64) int64 {
	return new(big.Int).GCD(nil, nil, big.NewInt(a), big.NewInt(b)).Int64()
}

func TestConstants(t *testing.T) {
	codes := []int64{impl.ErrNone, impl.ErrInvalid, impl.ErrRange, impl.ErrLimit, impl.ErrNotFound, impl.ErrState, impl.ErrSyntax}
	for i, code := range codes {
		if code != int64(i) {
			t.Errorf("code %d is %d", i, code)
		}
	}
	if impl.MaxModulus != 10000 || impl.MaxInteger != 1000000000000 {
		t.Errorf("limits are %d and %d", impl.MaxModulus, int64(impl.MaxInteger))
	}
}

func TestIsModulus(t *testing.T) {
	for _, m := range moduli {
		if !impl.IsModulus(m) {
			t.Errorf("%d is no modulus", m)
		}
	}
	for _, m := range noModuli {
		if impl.IsModulus(m) {
			t.Errorf("%d is a modulus", m)
		}
	}
}

// TestModulusFirst gives arguments that are all wrong: that of the modulus is told.
func TestModulusFirst(t *testing.T) {
	for _, m := range noModuli {
		wants(t, "RemainderOf", int64(0), impl.ErrInvalid)(impl.RemainderOf(m, impl.MaxInteger+1))
		wants(t, "AddModulo", int64(0), impl.ErrInvalid)(impl.AddModulo(m, -1, math.MaxInt64))
		wants(t, "MultiplyModulo", int64(0), impl.ErrInvalid)(impl.MultiplyModulo(m, -1, math.MaxInt64))
		wants(t, "PowerModulo", int64(0), impl.ErrInvalid)(impl.PowerModulo(m, -1, -1))
		wants(t, "IsUnit", false, impl.ErrInvalid)(impl.IsUnit(m, -1))
		wants(t, "InverseModulo", int64(0), impl.ErrInvalid)(impl.InverseModulo(m, -1))
		wants(t, "OrderModulo", int64(0), impl.ErrInvalid)(impl.OrderModulo(m, -1))
		wants(t, "CountUnits", int64(0), impl.ErrInvalid)(impl.CountUnits(m))
		wants(t, "SolveModulo", int64(0), impl.ErrInvalid)(impl.SolveModulo(m, -1, -1))
		wantsList[int64](t, "RootsModulo", nil, impl.ErrInvalid)(impl.RootsModulo(m, []int64{-1}))
		wantsList[int64](t, "RootsModulo", nil, impl.ErrInvalid)(impl.RootsModulo(m, make([]int64, 21)))
		wantsList[int64](t, "RootsModulo", nil, impl.ErrInvalid)(impl.RootsModulo(m, nil))
		wants(t, "AddModulo", int64(0), impl.ErrInvalid)(impl.AddModulo(m, 0, 0))
		wants(t, "PowerModulo", int64(0), impl.ErrInvalid)(impl.PowerModulo(m, 0, 0))
	}
}

// TestNoNumbers gives each argument that has to be a number a value that is none, also where an
// error behind that would hold.
func TestNoNumbers(t *testing.T) {
	for _, m := range moduli {
		for _, a := range noNumbers(m) {
			wants(t, "AddModulo", int64(0), impl.ErrRange)(impl.AddModulo(m, a, 0))
			wants(t, "AddModulo", int64(0), impl.ErrRange)(impl.AddModulo(m, 0, a))
			wants(t, "MultiplyModulo", int64(0), impl.ErrRange)(impl.MultiplyModulo(m, a, 0))
			wants(t, "MultiplyModulo", int64(0), impl.ErrRange)(impl.MultiplyModulo(m, 0, a))
			wants(t, "PowerModulo", int64(0), impl.ErrRange)(impl.PowerModulo(m, a, 0))
			wants(t, "IsUnit", false, impl.ErrRange)(impl.IsUnit(m, a))
			wants(t, "InverseModulo", int64(0), impl.ErrRange)(impl.InverseModulo(m, a))
			wants(t, "OrderModulo", int64(0), impl.ErrRange)(impl.OrderModulo(m, a))
			wants(t, "SolveModulo", int64(0), impl.ErrRange)(impl.SolveModulo(m, a, 0))
			wants(t, "SolveModulo", int64(0), impl.ErrRange)(impl.SolveModulo(m, 0, a))
			wantsList[int64](t, "RootsModulo", nil, impl.ErrRange)(impl.RootsModulo(m, []int64{a}))
			wantsList[int64](t, "RootsModulo", nil, impl.ErrRange)(impl.RootsModulo(m, []int64{0, 1, a}))
		}
	}
}

func TestRemainderOf(t *testing.T) {
	wants(t, "RemainderOf(10, -3)", int64(7), impl.ErrNone)(impl.RemainderOf(10, -3))
	wants(t, "RemainderOf(10, 0)", int64(0), impl.ErrNone)(impl.RemainderOf(10, 0))
	wants(t, "RemainderOf(10, -10)", int64(0), impl.ErrNone)(impl.RemainderOf(10, -10))
	wants(t, "RemainderOf(10, 10)", int64(0), impl.ErrNone)(impl.RemainderOf(10, 10))
	integers := []int64{-impl.MaxInteger, 1 - impl.MaxInteger, -20001, -10000, -9999, -1, 0, 1, 9999, 10000, 123456789, impl.MaxInteger - 1, impl.MaxInteger}
	for _, m := range moduli {
		for _, n := range integers {
			want := new(big.Int).Mod(big.NewInt(n), big.NewInt(m)).Int64()
			wants(t, "RemainderOf", want, impl.ErrNone)(impl.RemainderOf(m, n))
		}
		for _, n := range noIntegers {
			wants(t, "RemainderOf", int64(0), impl.ErrRange)(impl.RemainderOf(m, n))
		}
	}
}

func TestAddAndMultiplyModulo(t *testing.T) {
	wants(t, "AddModulo(10, 7, 5)", int64(2), impl.ErrNone)(impl.AddModulo(10, 7, 5))
	wants(t, "AddModulo(10, 5, 5)", int64(0), impl.ErrNone)(impl.AddModulo(10, 5, 5))
	wants(t, "MultiplyModulo(10, 7, 5)", int64(5), impl.ErrNone)(impl.MultiplyModulo(10, 7, 5))
	wants(t, "AddModulo(10000, 9999, 9999)", int64(9998), impl.ErrNone)(impl.AddModulo(10000, 9999, 9999))
	wants(t, "MultiplyModulo(10000, 9999, 9999)", int64(1), impl.ErrNone)(impl.MultiplyModulo(10000, 9999, 9999))
	for _, m := range moduli {
		for _, a := range sample(m) {
			for _, b := range sample(m) {
				wants(t, "AddModulo", (a+b)%m, impl.ErrNone)(impl.AddModulo(m, a, b))
				wants(t, "MultiplyModulo", a*b%m, impl.ErrNone)(impl.MultiplyModulo(m, a, b))
			}
		}
	}
}

func TestPowerModulo(t *testing.T) {
	wants(t, "PowerModulo(7, 3, MaxInteger)", int64(4), impl.ErrNone)(impl.PowerModulo(7, 3, impl.MaxInteger))
	wants(t, "PowerModulo(10000, 9999, MaxInteger - 1)", int64(9999), impl.ErrNone)(impl.PowerModulo(10000, 9999, impl.MaxInteger-1))
	for _, m := range moduli {
		wants(t, "PowerModulo of 0 and 0", int64(1), impl.ErrNone)(impl.PowerModulo(m, 0, 0))
		wants(t, "PowerModulo of 0 and 1", int64(0), impl.ErrNone)(impl.PowerModulo(m, 0, 1))
		for _, a := range sample(m) {
			for _, k := range []int64{0, 1, 2, 3, 10, 63, 64, 1000003, impl.MaxInteger - 1, impl.MaxInteger} {
				want := new(big.Int).Exp(big.NewInt(a), big.NewInt(k), big.NewInt(m)).Int64()
				wants(t, "PowerModulo", want, impl.ErrNone)(impl.PowerModulo(m, a, k))
			}
		}
		for _, k := range []int64{math.MinInt64, -1, impl.MaxInteger + 1, math.MaxInt64} {
			wants(t, "PowerModulo", int64(0), impl.ErrRange)(impl.PowerModulo(m, 1, k))
		}
	}
}

func TestUnits(t *testing.T) {
	for _, m := range moduli {
		for _, a := range sample(m) {
			if divisor(a, m) != 1 {
				wants(t, "IsUnit", false, impl.ErrNone)(impl.IsUnit(m, a))
				wants(t, "InverseModulo", int64(0), impl.ErrState)(impl.InverseModulo(m, a))
				wants(t, "OrderModulo", int64(0), impl.ErrState)(impl.OrderModulo(m, a))
				continue
			}
			wants(t, "IsUnit", true, impl.ErrNone)(impl.IsUnit(m, a))
			inverse := new(big.Int).ModInverse(big.NewInt(a), big.NewInt(m)).Int64()
			wants(t, "InverseModulo", inverse, impl.ErrNone)(impl.InverseModulo(m, a))
			order := int64(1)
			for power := a; power != 1; power = power * a % m {
				order++
			}
			wants(t, "OrderModulo", order, impl.ErrNone)(impl.OrderModulo(m, a))
		}
	}
	wants(t, "InverseModulo(10, 3)", int64(7), impl.ErrNone)(impl.InverseModulo(10, 3))
	wants(t, "OrderModulo(7, 3)", int64(6), impl.ErrNone)(impl.OrderModulo(7, 3))
	wants(t, "OrderModulo(9973, 11)", int64(9972), impl.ErrNone)(impl.OrderModulo(9973, 11))
}

func TestCountUnits(t *testing.T) {
	for m, want := range map[int64]int64{2: 1, 3: 2, 4: 2, 6: 2, 12: 4, 8192: 4096, 9973: 9972, 10000: 4000} {
		wants(t, "CountUnits", want, impl.ErrNone)(impl.CountUnits(m))
	}
	for m := int64(2); m <= 400; m++ {
		want := int64(0)
		for a := int64(0); a < m; a++ {
			if divisor(a, m) == 1 {
				want++
			}
		}
		wants(t, "CountUnits", want, impl.ErrNone)(impl.CountUnits(m))
	}
}

func TestSolveModulo(t *testing.T) {
	wants(t, "SolveModulo(10, 4, 6)", int64(4), impl.ErrNone)(impl.SolveModulo(10, 4, 6))
	wants(t, "SolveModulo(10, 4, 5)", int64(0), impl.ErrNotFound)(impl.SolveModulo(10, 4, 5))
	wants(t, "SolveModulo(10, 0, 0)", int64(0), impl.ErrNone)(impl.SolveModulo(10, 0, 0))
	wants(t, "SolveModulo(10, 0, 1)", int64(0), impl.ErrNotFound)(impl.SolveModulo(10, 0, 1))
	for _, m := range moduli {
		for _, a := range sample(m) {
			least := map[int64]int64{}
			for x := m - 1; x >= 0; x-- {
				least[a*x%m] = x
			}
			for _, b := range sample(m) {
				if x, ok := least[b]; ok {
					wants(t, "SolveModulo", x, impl.ErrNone)(impl.SolveModulo(m, a, b))
				} else {
					wants(t, "SolveModulo", int64(0), impl.ErrNotFound)(impl.SolveModulo(m, a, b))
				}
			}
		}
	}
}

func TestRootsModulo(t *testing.T) {
	cases := []struct {
		m    int64
		list []int64
		want []int64
	}{
		{8, []int64{7, 0, 1}, []int64{1, 3, 5, 7}},
		{5, nil, []int64{0, 1, 2, 3, 4}},
		{5, []int64{}, []int64{0, 1, 2, 3, 4}},
		{3, []int64{0, 0, 0}, []int64{0, 1, 2}},
		{3, []int64{1}, nil},
		{3, []int64{1, 0, 1}, nil},
		{7, []int64{0, 1}, []int64{0}},
		{10, []int64{4, 4}, []int64{4, 9}},
		{10000, []int64{1, 1}, []int64{9999}},
		{10000, []int64{9999, 9998, 1}, rootsByPowers(10000, []int64{9999, 9998, 1})},
	}
	for _, c := range cases {
		wantsList(t, "RootsModulo", c.want, impl.ErrNone)(impl.RootsModulo(c.m, c.list))
	}
	list := []int64{}
	for len(list) < 20 {
		for _, m := range []int64{6, 7, 9, 16, 60} {
			wantsList(t, "RootsModulo", rootsByPowers(m, list), impl.ErrNone)(impl.RootsModulo(m, list))
		}
		list = append(list, int64(len(list)*len(list)+3)%6)
	}
}

// rootsByPowers finds the roots from single powers.
func rootsByPowers(m int64, list []int64) []int64 {
	var roots []int64
	for x := int64(0); x < m; x++ {
		sum := new(big.Int)
		for i, a := range list {
			power := new(big.Int).Exp(big.NewInt(x), big.NewInt(int64(i)), nil)
			sum.Add(sum, power.Mul(power, big.NewInt(a)))
		}
		if sum.Mod(sum, big.NewInt(m)).Sign() == 0 {
			roots = append(roots, x)
		}
	}
	return roots
}

func TestRootsModuloLongestList(t *testing.T) {
	longest := make([]int64, 20)
	longest[0], longest[19] = 1, 1
	wantsList(t, "RootsModulo of 20", []int64{2}, impl.ErrNone)(impl.RootsModulo(3, longest))
	wantsList[int64](t, "RootsModulo of 21", nil, impl.ErrRange)(impl.RootsModulo(3, append(longest, 0)))
	wantsList[int64](t, "RootsModulo of 21 zeros", nil, impl.ErrRange)(impl.RootsModulo(3, make([]int64, 21)))
	wantsList[int64](t, "RootsModulo of 100000", nil, impl.ErrRange)(impl.RootsModulo(3, make([]int64, 100000)))
}

func TestRootsModuloMemory(t *testing.T) {
	spare := []int64{7, 0, 1, 5, 6}
	first, _ := impl.RootsModulo(8, spare[:3])
	for i := range first {
		first[i] = -1
	}
	if !reflect.DeepEqual(spare, []int64{7, 0, 1, 5, 6}) {
		t.Errorf("RootsModulo changed its list to %v", spare)
	}
	wantsList(t, "RootsModulo", []int64{1, 3, 5, 7}, impl.ErrNone)(impl.RootsModulo(8, spare[:3]))
}

func TestIsPrimeNumber(t *testing.T) {
	for n := int64(-100); n <= 20000; n++ {
		want := n > 1 && big.NewInt(n).ProbablyPrime(0)
		wants(t, "IsPrimeNumber", want, impl.ErrNone)(impl.IsPrimeNumber(n))
	}
	far := map[int64]bool{
		-impl.MaxInteger:    false,
		-999999999989:       false,
		-7:                  false,
		999998000001:        false, // 999999^2
		999966000289:        false, // 999983^2, the square of the greatest prime below a million
		999999999989:        true,  // the greatest prime below MaxInteger
		impl.MaxInteger - 1: false,
		impl.MaxInteger:     false,
	}
	for n, want := range far {
		wants(t, "IsPrimeNumber", want, impl.ErrNone)(impl.IsPrimeNumber(n))
	}
	for _, n := range noIntegers {
		wants(t, "IsPrimeNumber", false, impl.ErrRange)(impl.IsPrimeNumber(n))
	}
}

func TestPrimeFactors(t *testing.T) {
	cases := []struct {
		n    int64
		want [][]int64
	}{
		{1, nil},
		{2, [][]int64{{2, 1}}},
		{4, [][]int64{{2, 2}}},
		{360, [][]int64{{2, 3}, {3, 2}, {5, 1}}},
		{9973, [][]int64{{9973, 1}}},
		{1 << 39, [][]int64{{2, 39}}},
		{999966000289, [][]int64{{999983, 2}}},
		{999999999989, [][]int64{{999999999989, 1}}},
		{2 * 499999999979, [][]int64{{2, 1}, {499999999979, 1}}},
		{200560490130, [][]int64{{2, 1}, {3, 1}, {5, 1}, {7, 1}, {11, 1}, {13, 1}, {17, 1}, {19, 1}, {23, 1}, {29, 1}, {31, 1}}},
		{impl.MaxInteger, [][]int64{{2, 12}, {5, 12}}},
	}
	for _, c := range cases {
		wantsList(t, "PrimeFactors", c.want, impl.ErrNone)(impl.PrimeFactors(c.n))
	}
	for _, n := range append([]int64{-360, -1, 0}, noIntegers...) {
		wantsList[[]int64](t, "PrimeFactors", nil, impl.ErrRange)(impl.PrimeFactors(n))
	}
	factors, _ := impl.PrimeFactors(12)
	_ = append(factors[0], 100, 100)
	wantsList(t, "PrimeFactors(12)", [][]int64{{2, 2}, {3, 1}}, impl.ErrNone)(factors, impl.ErrNone)
}

func TestValuationOf(t *testing.T) {
	cases := [][3]int64{
		{2, -24, 3}, {2, 24, 3}, {3, 24, 1}, {5, 24, 0}, {2, 1, 0}, {2, -1, 0},
		{2, 1 << 39, 39}, {2, impl.MaxInteger, 12}, {5, -impl.MaxInteger, 12}, {3, 282429536481, 24},
		{997, 997 * 997 * 997, 3}, {997, -997, 1}, {997, 996, 0},
	}
	for _, c := range cases {
		wants(t, "ValuationOf", c[2], impl.ErrNone)(impl.ValuationOf(c[0], c[1]))
	}
	wants(t, "ValuationOf(2, 0)", int64(0), impl.ErrState)(impl.ValuationOf(2, 0))
	wants(t, "ValuationOf(997, 0)", int64(0), impl.ErrState)(impl.ValuationOf(997, 0))
	for _, p := range []int64{math.MinInt64, -3, -2, -1, 0, 1, 4, 9, 25, 49, 999, 1000, 1001, 1009, 999999999989, math.MaxInt64} {
		wants(t, "ValuationOf", int64(0), impl.ErrRange)(impl.ValuationOf(p, 8))
		wants(t, "ValuationOf", int64(0), impl.ErrRange)(impl.ValuationOf(p, 0))
	}
	for _, n := range noIntegers {
		wants(t, "ValuationOf", int64(0), impl.ErrRange)(impl.ValuationOf(2, n))
	}
}

func TestBinomials(t *testing.T) {
	for n := int64(0); n <= 60; n++ {
		for k := int64(0); k <= 60; k++ {
			want := new(big.Int).Binomial(n, k).Int64()
			wants(t, "BinomialNumber", want, impl.ErrNone)(impl.BinomialNumber(n, k))
		}
	}
	wants(t, "BinomialNumber(60, 30)", int64(118264581564861424), impl.ErrNone)(impl.BinomialNumber(60, 30))
	for _, n := range []int64{math.MinInt64, -1, 61, math.MaxInt64} {
		wants(t, "BinomialNumber", int64(0), impl.ErrRange)(impl.BinomialNumber(n, 0))
		wants(t, "BinomialNumber", int64(0), impl.ErrRange)(impl.BinomialNumber(0, n))
		wants(t, "BinomialNumber", int64(0), impl.ErrRange)(impl.BinomialNumber(n, n))
		wants(t, "BinomialDivisor", int64(0), impl.ErrRange)(impl.BinomialDivisor(n))
	}
}

func TestBinomialDivisor(t *testing.T) {
	for n := int64(2); n <= 60; n++ {
		want := int64(1)
		if factors, _ := impl.PrimeFactors(n); len(factors) == 1 {
			want = factors[0][0]
		}
		wants(t, "BinomialDivisor", want, impl.ErrNone)(impl.BinomialDivisor(n))
	}
	for n, want := range map[int64]int64{2: 2, 3: 3, 4: 2, 6: 1, 9: 3, 32: 2, 49: 7, 59: 59, 60: 1} {
		wants(t, "BinomialDivisor", want, impl.ErrNone)(impl.BinomialDivisor(n))
	}
	for _, n := range []int64{-2, 0, 1} {
		wants(t, "BinomialDivisor", int64(0), impl.ErrRange)(impl.BinomialDivisor(n))
	}
}

func TestCommonDivisor(t *testing.T) {
	integers := []int64{-impl.MaxInteger, -999999999989, -60, -18, -12, -1, 0, 1, 7, 12, 18, 60, 999999999989, impl.MaxInteger}
	for _, a := range integers {
		for _, b := range integers {
			wants(t, "CommonDivisor", divisor(a, b), impl.ErrNone)(impl.CommonDivisor(a, b))
		}
	}
	wants(t, "CommonDivisor(-12, 18)", int64(6), impl.ErrNone)(impl.CommonDivisor(-12, 18))
	wants(t, "CommonDivisor(0, 0)", int64(0), impl.ErrNone)(impl.CommonDivisor(0, 0))
	wants(t, "CommonDivisor(0, -5)", int64(5), impl.ErrNone)(impl.CommonDivisor(0, -5))
	wants(t, "CommonDivisor(-5, 0)", int64(5), impl.ErrNone)(impl.CommonDivisor(-5, 0))
	for _, n := range noIntegers {
		wants(t, "CommonDivisor", int64(0), impl.ErrRange)(impl.CommonDivisor(n, 0))
		wants(t, "CommonDivisor", int64(0), impl.ErrRange)(impl.CommonDivisor(0, n))
	}
}
