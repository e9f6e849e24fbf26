package tests

import (
	"testing"

	"loop.example/g01152/impl"
)

// TestPromise1Units checks that units times their inverses are 1, and that orders divide the number
// of units, which is the number of those told by IsUnit.
func TestPromise1Units(t *testing.T) {
	for _, m := range moduli {
		units, code := impl.CountUnits(m)
		if code != impl.ErrNone {
			t.Fatalf("CountUnits(%d): code %d", m, code)
		}
		found := int64(0)
		for a := int64(0); a < m; a++ {
			if ok, _ := impl.IsUnit(m, a); ok {
				found++
			}
		}
		if found != units {
			t.Errorf("CountUnits(%d) = %d; IsUnit tells %d", m, units, found)
		}
		for _, a := range sample(m) {
			checkUnit(t, m, a, units)
		}
	}
}

// checkUnit checks the inverse and the order of a number, or that it has neither.
func checkUnit(t *testing.T, m int64, a int64, units int64) {
	t.Helper()
	isUnit, _ := impl.IsUnit(m, a)
	inverse, inverseCode := impl.InverseModulo(m, a)
	order, orderCode := impl.OrderModulo(m, a)
	if !isUnit {
		if inverseCode != impl.ErrState || orderCode != impl.ErrState {
			t.Errorf("%d is no unit modulo %d: codes %d and %d", a, m, inverseCode, orderCode)
		}
		return
	}
	if inverseCode != impl.ErrNone || orderCode != impl.ErrNone {
		t.Errorf("%d is a unit modulo %d: codes %d and %d", a, m, inverseCode, orderCode)
		return
	}
	if product, code := impl.MultiplyModulo(m, a, inverse); product != 1 || code != impl.ErrNone {
		t.Errorf("%d times its inverse modulo %d is %d, %d", a, m, product, code)
	}
	if order < 1 || units%order != 0 {
		t.Errorf("the order of %d modulo %d is %d, of %d units", a, m, order, units)
	}
	if power, code := impl.PowerModulo(m, a, order); power != 1 || code != impl.ErrNone {
		t.Errorf("%d modulo %d to its order %d is %d, %d", a, m, order, power, code)
	}
}

// TestPromise1Factors checks that numbers are the products of the powers of primes that
// PrimeFactors tells, with the exponents of ValuationOf.
func TestPromise1Factors(t *testing.T) {
	for n := int64(1); n <= 3000; n++ {
		checkFactors(t, n)
	}
	for _, n := range []int64{999999999989, 999966000289, impl.MaxInteger - 1, impl.MaxInteger} {
		checkFactors(t, n)
	}
}

func checkFactors(t *testing.T, n int64) {
	t.Helper()
	factors, code := impl.PrimeFactors(n)
	if code != impl.ErrNone {
		t.Fatalf("PrimeFactors(%d): code %d", n, code)
	}
	product, last := int64(1), int64(1)
	for _, f := range factors {
		if prime, _ := impl.IsPrimeNumber(f[0]); !prime || f[0] <= last || f[1] < 1 {
			t.Errorf("PrimeFactors(%d) = %v", n, factors)
		}
		last = f[0]
		if k, code := impl.ValuationOf(f[0], n); f[0] <= 1000 && (k != f[1] || code != impl.ErrNone) {
			t.Errorf("ValuationOf(%d, %d) = %d, %d; want %d", f[0], n, k, code, f[1])
		}
		for i := int64(0); i < f[1]; i++ {
			product *= f[0]
		}
	}
	if product != n {
		t.Errorf("the product of PrimeFactors(%d) is %d", n, product)
	}
}

// TestGuarantee1Equations checks that a x = b has a solution exactly if the greatest common divisor
// of a and the modulus divides b.
func TestGuarantee1Equations(t *testing.T) {
	for _, m := range moduli {
		for _, a := range sample(m) {
			g, _ := impl.CommonDivisor(a, m)
			for _, b := range sample(m) {
				checkEquation(t, m, a, b, b%g == 0)
			}
		}
	}
}

func checkEquation(t *testing.T, m int64, a int64, b int64, solvable bool) {
	t.Helper()
	x, code := impl.SolveModulo(m, a, b)
	if !solvable {
		if code != impl.ErrNotFound {
			t.Errorf("SolveModulo(%d, %d, %d) = %d, %d without a solution", m, a, b, x, code)
		}
		return
	}
	if product, _ := impl.MultiplyModulo(m, a, x); code != impl.ErrNone || product != b {
		t.Errorf("SolveModulo(%d, %d, %d) = %d, %d", m, a, b, x, code)
	}
}
