package impl

// Codes that the functions of all chapters return.
const (
	ErrNone = iota
	ErrInvalid
	ErrRange
	ErrLimit
	ErrNotFound
	ErrState
	ErrSyntax
)

// Limits of chapter 1.
const (
	MaxModulus = 10000
	MaxInteger = 1000000000000
)

// Limits that single sections of chapter 1 name.
const (
	maxTerms    = 20
	maxPrime    = 1000
	maxBinomial = 60
)

// isWithin reports whether n is in low..high.
func isWithin(n int64, low int64, high int64) bool {
	return low <= n && n <= high
}

// codeOfNumbers returns the code for a modulus and numbers modulo it. The modulus comes first,
// since without it nothing tells what the numbers are.
func codeOfNumbers(m int64, numbers ...int64) int64 {
	if !IsModulus(m) {
		return ErrInvalid
	}
	for _, a := range numbers {
		if !isWithin(a, 0, m-1) {
			return ErrRange
		}
	}
	return ErrNone
}

// codeOfIntegers returns the code for integers.
func codeOfIntegers(integers ...int64) int64 {
	for _, n := range integers {
		if !isWithin(n, -MaxInteger, MaxInteger) {
			return ErrRange
		}
	}
	return ErrNone
}

// IsModulus reports whether m is a modulus.
func IsModulus(m int64) bool {
	return isWithin(m, 2, MaxModulus)
}

// remainder returns the number in 0..m - 1 that differs from n by a multiple of m, for any m of at
// least 1. Go's remainder of a negative n is not positive, and has to be raised.
func remainder(m int64, n int64) int64 {
	r := n % m
	if r < 0 {
		r += m
	}
	return r
}

// RemainderOf returns the number that differs from an integer n by a multiple of m, and ErrNone.
func RemainderOf(m int64, n int64) (int64, int64) {
	if code := codeOfNumbers(m); code != ErrNone {
		return 0, code
	}
	if code := codeOfIntegers(n); code != ErrNone {
		return 0, code
	}
	return remainder(m, n), ErrNone
}

// AddModulo returns the sum of two numbers, and ErrNone.
func AddModulo(m int64, a int64, b int64) (int64, int64) {
	if code := codeOfNumbers(m, a, b); code != ErrNone {
		return 0, code
	}
	return (a + b) % m, ErrNone
}

// MultiplyModulo returns the product of two numbers, and ErrNone.
func MultiplyModulo(m int64, a int64, b int64) (int64, int64) {
	if code := codeOfNumbers(m, a, b); code != ErrNone {
		return 0, code
	}
	return a * b % m, ErrNone
}

// power returns the product of k times the number a, by repeated squaring, since k may be too great
// for one multiplication a step.
func power(m int64, a int64, k int64) int64 {
	product := int64(1)
	for square := a; k > 0; k /= 2 {
		if k%2 == 1 {
			product = product * square % m
		}
		square = square * square % m
	}
	return product
}

// PowerModulo returns the product of k times the number a, which is 1 for k = 0, with k in
// 0..MaxInteger, and ErrNone.
func PowerModulo(m int64, a int64, k int64) (int64, int64) {
	if code := codeOfNumbers(m, a); code != ErrNone {
		return 0, code
	}
	if !isWithin(k, 0, MaxInteger) {
		return 0, ErrRange
	}
	return power(m, a, k), ErrNone
}

// divisorAndFactor returns the greatest common divisor g of m and a number a, and a number x with
// a x = g modulo m: Euclid's algorithm, where each divisor is kept as a multiple of a.
func divisorAndFactor(m int64, a int64) (int64, int64) {
	g, nextG := m, a
	x, nextX := int64(0), int64(1)
	for nextG != 0 {
		q := g / nextG
		g, nextG = nextG, g-q*nextG
		x, nextX = nextX, x-q*nextX
	}
	return g, remainder(m, x)
}

// IsUnit reports whether a number is a unit, and returns ErrNone.
func IsUnit(m int64, a int64) (bool, int64) {
	if code := codeOfNumbers(m, a); code != ErrNone {
		return false, code
	}
	g, _ := divisorAndFactor(m, a)
	return g == 1, ErrNone
}

// InverseModulo returns the inverse of a number, and ErrNone. Errors: ErrState if it is no unit.
func InverseModulo(m int64, a int64) (int64, int64) {
	if code := codeOfNumbers(m, a); code != ErrNone {
		return 0, code
	}
	g, x := divisorAndFactor(m, a)
	if g != 1 {
		return 0, ErrState
	}
	return x, ErrNone
}

// OrderModulo returns the order of a number, and ErrNone. Errors: ErrState if it is no unit.
func OrderModulo(m int64, a int64) (int64, int64) {
	isUnit, code := IsUnit(m, a)
	if code != ErrNone {
		return 0, code
	}
	if !isUnit {
		return 0, ErrState
	}
	order := int64(1)
	for p := a; p != 1; p = p * a % m {
		order++
	}
	return order, ErrNone
}

// CountUnits returns how many numbers are units, and ErrNone.
func CountUnits(m int64) (int64, int64) {
	if code := codeOfNumbers(m); code != ErrNone {
		return 0, code
	}
	count := m
	for _, factor := range primePowers(m) {
		// The multiples of one prime are left out evenly among those of the others.
		count -= count / factor[0]
	}
	return count, ErrNone
}

// SolveModulo returns the least number x for which a x = b, and ErrNone. Errors: ErrNotFound if
// there is none.
func SolveModulo(m int64, a int64, b int64) (int64, int64) {
	if code := codeOfNumbers(m, a, b); code != ErrNone {
		return 0, code
	}
	g, x := divisorAndFactor(m, a)
	if b%g != 0 {
		return 0, ErrNotFound
	}
	// Solutions differ by multiples of m / g.
	return b / g * x % (m / g), ErrNone
}

// valueAt returns the sum of list[i] x^i over all i modulo m.
func valueAt(m int64, list []int64, x int64) int64 {
	value := int64(0)
	for i := len(list) - 1; i >= 0; i-- {
		value = (value*x + list[i]) % m
	}
	return value
}

// RootsModulo returns all numbers x, in ascending order, for which the sum of list[i] x^i over all
// i is 0, for a list of at most 20 numbers, and ErrNone. Errors: ErrRange also if the list is
// longer.
func RootsModulo(m int64, list []int64) ([]int64, int64) {
	if code := codeOfNumbers(m, list...); code != ErrNone {
		return nil, code
	}
	if len(list) > maxTerms {
		return nil, ErrRange
	}
	var roots []int64
	for x := int64(0); x < m; x++ {
		if valueAt(m, list, x) == 0 {
			roots = append(roots, x)
		}
	}
	return roots, ErrNone
}

// isPrime tells a prime number by trial division. Only the neighbours of multiples of 6 are tried,
// since all primes greater than 3 are among them.
func isPrime(n int64) bool {
	if n < 4 {
		return n > 1
	}
	prime := n%2 != 0 && n%3 != 0
trial:
	for middle := int64(6); prime && (middle-1)*(middle-1) <= n; middle += 6 {
		for _, d := range [2]int64{middle - 1, middle + 1} {
			if n%d == 0 {
				prime = false
				break trial
			}
		}
	}
	return prime
}

// IsPrimeNumber reports whether an integer n is a prime number, and returns ErrNone. (ErrInvalid
// is not returned.)
func IsPrimeNumber(n int64) (bool, int64) {
	if code := codeOfIntegers(n); code != ErrNone {
		return false, code
	}
	return isPrime(n), ErrNone
}

// takeOut divides n, which is not 0, by p as often as possible, and returns how often that was and
// what is left.
func takeOut(p int64, n int64) (int64, int64) {
	k := int64(0)
	for n%p == 0 {
		n /= p
		k++
	}
	return k, n
}

// primePowers returns the lists {p, k} of PrimeFactors for an n of at least 1.
func primePowers(n int64) [][]int64 {
	var factors [][]int64
	for p := int64(2); p*p <= n; p++ {
		var k int64
		k, n = takeOut(p, n)
		if k > 0 {
			factors = append(factors, []int64{p, k})
		}
	}
	if n > 1 {
		// All smaller primes have been taken out, so that what is left is one prime.
		factors = append(factors, []int64{n, 1})
	}
	return factors
}

// PrimeFactors returns, for an integer n of at least 1, the lists {p, k} of all prime numbers p
// that divide it, in ascending order, and the exponents k of the greatest powers of p that divide
// it, and ErrNone. Errors: ErrRange also if n is less than 1. (ErrInvalid is not returned.)
func PrimeFactors(n int64) ([][]int64, int64) {
	if !isWithin(n, 1, MaxInteger) {
		return nil, ErrRange
	}
	return primePowers(n), ErrNone
}

// ValuationOf returns the greatest k for which p^k divides n, for a prime number p of at most 1000
// and an integer n other than 0, and ErrNone. Errors: ErrRange if p is not as told, or n is no
// integer; ErrState if n is 0. (ErrInvalid is not returned.)
func ValuationOf(p int64, n int64) (int64, int64) {
	if p > maxPrime || !isPrime(p) {
		return 0, ErrRange
	}
	if code := codeOfIntegers(n); code != ErrNone {
		return 0, code
	}
	if n == 0 {
		return 0, ErrState
	}
	k, _ := takeOut(p, n)
	return k, ErrNone
}

// choices returns the number of ways to choose k of n things. For n of at most 60 each product
// before its division is below 4 * 10^18, and each division is without remainder.
func choices(n int64, k int64) int64 {
	if k > n {
		return 0
	}
	count := int64(1)
	for i := int64(1); i <= k; i++ {
		count = count * (n - i + 1) / i
	}
	return count
}

// BinomialNumber returns the number of ways to choose k of n things, for n and k in 0..60, which
// is 0 if k is greater than n, and ErrNone. (ErrInvalid is not returned.)
func BinomialNumber(n int64, k int64) (int64, int64) {
	if !isWithin(n, 0, maxBinomial) || !isWithin(k, 0, maxBinomial) {
		return 0, ErrRange
	}
	return choices(n, k), ErrNone
}

// BinomialDivisor returns the greatest common divisor of the numbers of ways to choose k of n
// things, for k from 1 to n - 1, for n in 2..60, and ErrNone: this is p if n is a power of a prime
// number p, and 1 otherwise. (ErrInvalid is not returned.)
func BinomialDivisor(n int64) (int64, int64) {
	if !isWithin(n, 2, maxBinomial) {
		return 0, ErrRange
	}
	divisor := int64(0)
	for k := int64(1); k < n; k++ {
		divisor = greatestDivisor(divisor, choices(n, k))
	}
	return divisor, ErrNone
}

// greatestDivisor returns the greatest common divisor, which is 0 if both are 0.
func greatestDivisor(a int64, b int64) int64 {
	for b != 0 {
		a, b = b, a%b
	}
	// Go's remainders have the sign of what is divided, and so may the last one.
	if a < 0 {
		return -a
	}
	return a
}

// CommonDivisor returns the greatest common divisor, which is at least 0, of two integers, and
// ErrNone. (ErrInvalid is not returned.)
func CommonDivisor(a int64, b int64) (int64, int64) {
	if code := codeOfIntegers(a, b); code != ErrNone {
		return 0, code
	}
	return greatestDivisor(a, b), ErrNone
}
