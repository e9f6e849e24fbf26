package tests

import (
	"testing"

	"loop.example/g01152/impl"
)

// binomial returns the number of ways to choose k of n things as a number modulo m, times a sign.
func binomial(t *testing.T, m int64, n int64, k int64, sign int64) int64 {
	t.Helper()
	choices, code := impl.BinomialNumber(n, k)
	if code != impl.ErrNone {
		t.Fatalf("BinomialNumber(%d, %d): code %d", n, k, code)
	}
	number, code := impl.RemainderOf(m, choices%m*sign)
	if code != impl.ErrNone {
		t.Fatalf("RemainderOf(%d, %d): code %d", m, choices, code)
	}
	return number
}

// TestPromise23Binomials checks that the multiple of the multiplicative law of 1 by n has the number of ways
// to choose k of n things at t^k; by -n that of k of n + k - 1 things, with the sign of (-1)^k.
func TestPromise23Binomials(t *testing.T) {
	for _, m := range moduli {
		for _, d := range degrees {
			f := madePlane(t, "MultiplicativeLaw")(impl.MultiplicativeLaw(m, d, 1))
			for n := int64(0); n <= 60; n++ {
				want, opposite := monomialOf(m, d, 0, 0), monomialOf(m, d, 0, 0)
				for k := int64(1); k <= d; k++ {
					want.Coefficients[k] = binomial(t, m, n, k, 1)
					if n > 0 && n <= 51 {
						opposite.Coefficients[k] = binomial(t, m, n+k-1, k, 1-k%2*2)
					}
				}
				wantsSeries(t, "MultipleOf", want, impl.ErrNone)(impl.MultipleOf(f, n))
				if n <= 51 {
					wantsSeries(t, "MultipleOf", opposite, impl.ErrNone)(impl.MultipleOf(f, -n))
				}
			}
		}
	}
}

// TestPromise23Multiples takes numbers up to the limits, with binomial numbers without the program, and
// parameters other than 1, which come in as powers.
func TestPromise23Multiples(t *testing.T) {
	for _, m := range moduli {
		for _, d := range degrees {
			for _, c := range []int64{0, 1, m / 2, m - 1} {
				f := madePlane(t, "MultiplicativeLaw")(impl.MultiplicativeLaw(m, d, c))
				for _, n := range []int64{-1000000, -999999, -4097, -61, 61, 100, 128, 65536, 999999, 1000000} {
					wantsSeries(t, "MultipleOf", bilinearMultiple(m, d, c, n), impl.ErrNone)(impl.MultipleOf(f, n))
				}
			}
		}
	}
}

// TestPromise23Primes checks that the multiple by a prime number, modulo it, is the power with it as
// exponent.
func TestPromise23Primes(t *testing.T) {
	for _, p := range []int64{2, 3, 5, 7, 11, 97, 9973} {
		for _, d := range degrees {
			f := madePlane(t, "MultiplicativeLaw")(impl.MultiplicativeLaw(p, d, 1))
			want := monomialOf(p, d, 0, 0)
			if p <= d {
				want.Coefficients[p] = 1
			}
			wantsSeries(t, "MultipleOf", want, impl.ErrNone)(impl.MultipleOf(f, p))
		}
	}
}
