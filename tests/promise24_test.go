package tests

import (
	"testing"

	"loop.example/g01152/impl"
)

// checkHasse checks that the coefficient of Hasse of a law with at least the degree p is that of the multiple
// by p at t^p, and other than 0 exactly if the height is 1; then it is the unit. It returns the coefficient.
func checkHasse(t *testing.T, f impl.Plane) int64 {
	t.Helper()
	hasse, code := impl.HasseOfLaw(f)
	multiple := made(t, "MultipleOf")(impl.MultipleOf(f, f.Modulus))
	if code != impl.ErrNone || hasse != multiple.Coefficients[f.Modulus] {
		t.Errorf("HasseOfLaw(%s) = %d, %d; the multiple is %v", textOf(f), hasse, code, multiple)
	}
	h := heightOf(t, f)
	if (hasse != 0) != (h.number == 1) || hasse != 0 && hasse != h.unit {
		t.Errorf("%s has the coefficient of Hasse %d and the height %v", textOf(f), hasse, h)
	}
	return hasse
}

// TestPromise24Laws takes laws of all kinds with all four p, and all degrees of at least p; in lower ones there
// is no coefficient of Hasse, nor a height.
func TestPromise24Laws(t *testing.T) {
	counts := map[[2]int64]int{}
	for _, p := range typicalPrimes {
		for _, d := range degrees {
			for _, f := range append(lawsOfHeights(t, p, d), standardLaws(t, p, d)...) {
				if d >= p {
					counts[[2]int64{p, checkHasse(t, f)}]++
					continue
				}
				wants(t, "HasseOfLaw("+textOf(f)+")", int64(0), impl.ErrState)(impl.HasseOfLaw(f))
				wants(t, "HeightOf("+textOf(f)+")", int64(0), impl.ErrNotFound)(impl.HeightOf(f))
			}
		}
		for c := range p {
			if counts[[2]int64{p, c}] < 3 {
				t.Errorf("few laws modulo %d with the coefficient of Hasse %d: %v", p, c, counts)
			}
		}
	}
}

// TestPromise24AllLaws takes all laws of small moduli and degrees: one of p has the coefficient 0, since in
// degree p the multiple of the cocycle moves it through all numbers.
func TestPromise24AllLaws(t *testing.T) {
	for _, kind := range [][3]int64{{2, 2, 1}, {2, 3, 2}, {2, 5, 8}, {2, 8, 64}, {3, 3, 3}, {3, 4, 9}, {3, 6, 81}, {5, 5, 125}} {
		count := int64(0)
		for _, list := range allLists(kind[0], int(kind[1])-1) {
			f := madePlane(t, "LawOfParameters")(impl.LawOfParameters(kind[0], list))
			count += oneIf(checkHasse(t, f) == 0)
		}
		if count != kind[2] {
			t.Errorf("%d laws modulo %d of degree %d have the coefficient of Hasse 0; want %d", count, kind[0], kind[1], kind[2])
		}
	}
}

// TestPromise24Honda checks that just the laws of Honda of height 1 have a coefficient of Hasse other than 0.
func TestPromise24Honda(t *testing.T) {
	for _, p := range typicalPrimes {
		for h := int64(1); h <= 3; h++ {
			for d := p; d <= 10; d++ {
				f := madePlane(t, "HondaLaw")(impl.HondaLaw(p, h, d))
				wants(t, "HasseOfLaw", oneIf(h == 1), impl.ErrNone)(impl.HasseOfLaw(f))
				checkHasse(t, f)
			}
		}
	}
}

// TestPromise24Degrees takes the degrees just below p, at it and behind it.
func TestPromise24Degrees(t *testing.T) {
	for _, p := range typicalPrimes {
		for c := int64(1); c < p; c++ {
			wants(t, "HasseOfLaw", int64(0), impl.ErrState)(impl.HasseOfLaw(bilinearLaw(p, p-1, c)))
			wants(t, "HeightOf", int64(0), impl.ErrNotFound)(impl.HeightOf(bilinearLaw(p, p-1, c)))
			for _, d := range []int64{p, p + 1, 10} {
				wants(t, "HasseOfLaw", int64(1), impl.ErrNone)(impl.HasseOfLaw(bilinearLaw(p, d, c)))
				wants(t, "HeightOf", int64(1), impl.ErrNone)(impl.HeightOf(bilinearLaw(p, d, c)))
			}
		}
		wants(t, "HasseOfLaw", int64(0), impl.ErrNone)(impl.HasseOfLaw(bilinearLaw(p, p, 0)))
		wants(t, "HeightOf", int64(0), impl.ErrNotFound)(impl.HeightOf(bilinearLaw(p, p, 0)))
	}
}
