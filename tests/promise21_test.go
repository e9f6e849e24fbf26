package tests

import (
	"testing"

	"loop.example/g01152/impl"
)

// checkDifference checks that the first difference of two laws is that of a multiple of the cocycle of
// Lazard, and that its factor is that of the laws cut behind it. It returns the degree in which they
// begin to differ, and 0 for equal laws.
func checkDifference(t *testing.T, f impl.Plane, g impl.Plane) int64 {
	t.Helper()
	layer, code := impl.FirstDifference(f, g)
	if code == impl.ErrNotFound {
		if !isSamePlane(f, g) {
			t.Errorf("FirstDifference(%s, %s): code %d", textOf(f), textOf(g), code)
		}
		return 0
	}
	m, n := f.Modulus, int64(len(layer))-1
	between := planeOfLayer(m, layer)
	c, code := impl.CocycleFactor(between)
	if code != impl.ErrNone || c == 0 || !impl.IsCocycle(between) {
		t.Fatalf("FirstDifference(%s, %s) = %v is no cocycle: %d, %d", textOf(f), textOf(g), layer, c, code)
	}
	wantsPlane(t, "the multiple of LazardCocycle", between, impl.ErrNone)(multipleOfCocycle(t, m, n, c), impl.ErrNone)
	left := madePlane(t, "CutPlane")(impl.CutPlane(f, n))
	right := madePlane(t, "CutPlane")(impl.CutPlane(g, n))
	wants(t, "ExtensionFactor", c, impl.ErrNone)(impl.ExtensionFactor(left, right))
	wants(t, "ExtensionFactor, back", m-c, impl.ErrNone)(impl.ExtensionFactor(right, left))
	wants(t, "AgreementOf", n-1, impl.ErrNone)(impl.AgreementOf(f, g))
	return n
}

// TestPromise21AllLaws takes all pairs of laws of small moduli and degrees.
func TestPromise21AllLaws(t *testing.T) {
	for _, laws := range lawsOfManyKinds(t)[:4] {
		for _, f := range laws {
			for _, g := range laws {
				checkDifference(t, f, g)
			}
		}
	}
}

// TestPromise21Differences takes pairs of laws of all moduli and degrees, and laws in coordinates that
// begin with t, which begin to differ in each degree.
func TestPromise21Differences(t *testing.T) {
	counts := map[int64]int{}
	for _, m := range moduliOfExtensions {
		for _, d := range []int64{2, 3, 4, 6, 10} {
			laws := sampleLaws(t, m, d)
			for k, f := range laws {
				counts[checkDifference(t, f, laws[(k+1)%len(laws)])]++
				counts[checkDifference(t, f, laws[(k*3+2)%len(laws)])]++
				n := int64(k)%(d-1) + 2
				a := monomialOf(m, d, 1, 1)
				a.Coefficients[n] = 1
				counts[checkDifference(t, f, madePlane(t, "LawInCoordinate")(impl.LawInCoordinate(f, a)))]++
			}
		}
	}
	for n := int64(2); n <= 10; n++ {
		if counts[n] < 10 {
			t.Errorf("numbers of pairs of laws by the degree in which they begin to differ: %v", counts)
		}
	}
}

// TestPromise21Parameters checks that laws begin to differ in the degree of the first parameter in which
// they do, by the difference of this parameter times the cocycle.
func TestPromise21Parameters(t *testing.T) {
	for _, m := range moduliOfExtensions {
		for n := int64(1); n <= 9; n++ {
			lists := sampleParameters(m, n)
			for k, list := range lists {
				other := append([]int64(nil), lists[(k*3+1)%len(lists)]...)
				place := int64(k) % n
				copy(other, list[:place])
				first := int64(0)
				for i := n - 1; i >= 0; i-- {
					if list[i] != other[i] {
						first = i + 2
					}
				}
				f := madePlane(t, "LawOfParameters")(impl.LawOfParameters(m, list))
				g := madePlane(t, "LawOfParameters")(impl.LawOfParameters(m, other))
				if begin := checkDifference(t, f, g); begin != first {
					t.Errorf("laws of %v and %v modulo %d begin to differ in degree %d", list, other, m, begin)
				}
				if first > 0 {
					c := (other[first-2] - list[first-2] + m) % m
					wantsList(t, "FirstDifference", layerOf(multipleOfCocycle(t, m, first, c), first), impl.ErrNone)(impl.FirstDifference(f, g))
				}
			}
		}
	}
}
