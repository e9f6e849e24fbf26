package tests

import (
	"testing"

	"loop.example/g01152/impl"
)

// lawsOfAllDegrees returns laws of all degrees: the laws of degree 10, and some others, cut.
func lawsOfAllDegrees(t *testing.T, m int64) []impl.Plane {
	t.Helper()
	var list []impl.Plane
	for k, f := range sampleLaws(t, m, 10) {
		for d := int64(1); d <= 10; d++ {
			if m < 20 || (int64(k)+d)%3 == 0 {
				list = append(list, madePlane(t, "CutPlane")(impl.CutPlane(f, d)))
			}
		}
	}
	return append(list, sampleLaws(t, m, 4)...)
}

// difference returns g less f.
func difference(t *testing.T, f impl.Plane, g impl.Plane) impl.Plane {
	t.Helper()
	opposite := madePlane(t, "ScalePlane")(impl.ScalePlane(f, f.Modulus-1))
	return madePlane(t, "AddPlanes")(impl.AddPlanes(g, opposite))
}

// multipleOfCocycle returns c C(n).
func multipleOfCocycle(t *testing.T, m int64, n int64, c int64) impl.Plane {
	t.Helper()
	cocycle := madePlane(t, "LazardCocycle")(impl.LazardCocycle(m, n))
	return madePlane(t, "ScalePlane")(impl.ScalePlane(cocycle, c))
}

// checkExtension checks that g is a law that extends f, and has the factor c from another law that does.
func checkExtension(t *testing.T, f impl.Plane, g impl.Plane, other impl.Plane, c int64) {
	t.Helper()
	d := degreeOfPlane(f)
	if !impl.IsLaw(g) || degreeOfPlane(g) != d+1 {
		t.Errorf("%s is no law of degree %d", textOf(g), d+1)
	}
	wantsPlane(t, "CutPlane", f, impl.ErrNone)(impl.CutPlane(g, d))
	between := difference(t, other, g)
	if !impl.IsCocycle(between) {
		t.Errorf("%s and %s don't differ by a cocycle", textOf(other), textOf(g))
	}
	wants(t, "CocycleFactor", c, impl.ErrNone)(impl.CocycleFactor(between))
	wants(t, "ExtensionFactor", c, impl.ErrNone)(impl.ExtensionFactor(other, g))
}

// TestPromise7Extensions checks that all extensions of a law differ by cocycles, each number being the
// factor of one of them, and that where there are too many for a list, the first one plus each multiple
// of the cocycle is one.
func TestPromise7Extensions(t *testing.T) {
	for _, m := range moduliOfExtensions {
		for _, f := range lawsOfAllDegrees(t, m) {
			n := degreeOfPlane(f) + 1
			if n > 10 {
				continue
			}
			first := madePlane(t, "FirstExtension")(impl.FirstExtension(f))
			checkExtension(t, f, first, first, 0)
			all, code := impl.AllExtensions(f)
			if m > 50 {
				for _, c := range []int64{1, m / 2, m - 1} {
					other := madePlane(t, "AddPlanes")(impl.AddPlanes(first, multipleOfCocycle(t, m, n, c)))
					checkExtension(t, f, other, first, c)
				}
				continue
			}
			if code != impl.ErrNone || int64(len(all)) != m || !isSamePlane(all[0], first) {
				t.Fatalf("AllExtensions(%s) = %v, %d", textOf(f), all, code)
			}
			found := map[int64]bool{}
			for _, g := range all {
				c, _ := impl.ExtensionFactor(first, g)
				found[c] = true
				checkExtension(t, f, g, first, c)
			}
			if int64(len(found)) != m {
				t.Errorf("AllExtensions(%s) have %d factors", textOf(f), len(found))
			}
		}
	}
}

// TestPromise7NoOtherExtensions checks that an extension plus a plane of its degree is a law exactly if
// the plane is a cocycle.
func TestPromise7NoOtherExtensions(t *testing.T) {
	counts := map[bool]int{}
	for _, m := range []int64{2, 3, 4, 5, 6, 8, 9, 12, 10000} {
		for k, f := range lawsOfAllDegrees(t, m) {
			n := degreeOfPlane(f)
			if n < 4 || n > 8 && k%5 != 0 {
				continue
			}
			for _, c := range []int64{1, m / 2, m - 1} {
				i := int64(k)%(n/2) + 1
				layer := make([]int64, n+1)
				layer[i], layer[n-i] = c, c
				g := planeOfLayer(m, layer)
				isCocycle := impl.IsCocycle(g)
				counts[isCocycle]++
				if isLaw := impl.IsLaw(madePlane(t, "AddPlanes")(impl.AddPlanes(f, g))); isLaw != isCocycle {
					t.Errorf("IsLaw of %s plus %s is %v", textOf(f), textOf(g), isLaw)
				}
			}
		}
	}
	if counts[true] < 50 || counts[false] < 200 {
		t.Errorf("numbers of cocycles and other planes: %v", counts)
	}
}

// TestPromise7Parameters checks that laws come back from their parameters, and parameters from their
// laws.
func TestPromise7Parameters(t *testing.T) {
	for _, m := range moduliOfExtensions {
		for _, f := range lawsOfAllDegrees(t, m) {
			if degreeOfPlane(f) == 1 {
				continue
			}
			list, code := impl.ParametersOfLaw(f)
			if code != impl.ErrNone || int64(len(list)) != degreeOfPlane(f)-1 {
				t.Fatalf("ParametersOfLaw(%s) = %v, %d", textOf(f), list, code)
			}
			wantsPlane(t, "LawOfParameters", f, impl.ErrNone)(impl.LawOfParameters(m, list))
		}
		for n := int64(1); n <= 9; n++ {
			for _, list := range sampleParameters(m, n) {
				f := madePlane(t, "LawOfParameters")(impl.LawOfParameters(m, list))
				wantsList(t, "ParametersOfLaw", list, impl.ErrNone)(impl.ParametersOfLaw(f))
			}
		}
	}
	for _, list := range lawsOfManyKinds(t)[:4] {
		for _, f := range list {
			parameters, _ := impl.ParametersOfLaw(f)
			wantsPlane(t, "LawOfParameters", f, impl.ErrNone)(impl.LawOfParameters(f.Modulus, parameters))
		}
	}
}

// TestGuarantee7Cocycles checks that the multiples of C(n) are cocycles that are all different, that
// sums of them are, and that a plane is one exactly if it is its factor times C(n).
func TestGuarantee7Cocycles(t *testing.T) {
	for _, m := range moduliOfExtensions {
		for n := int64(2); n <= 10; n++ {
			seen := map[string]bool{}
			numbers := sample(m)
			for k, c := range numbers {
				g := multipleOfCocycle(t, m, n, c)
				seen[textOf(g)] = true
				wantsCocycle(t, g, c)
				b := numbers[k*7%len(numbers)]
				sum := madePlane(t, "AddPlanes")(impl.AddPlanes(g, multipleOfCocycle(t, m, n, b)))
				wantsCocycle(t, sum, (b+c)%m)
				turned := madePlane(t, "TurnPlane")(impl.TurnPlane(g))
				wantsCocycle(t, turned, c)
			}
			distinct := map[int64]bool{}
			for _, c := range numbers {
				distinct[c] = true
			}
			if len(seen) != len(distinct) {
				t.Errorf("%d multiples of C(%d) modulo %d; want %d", len(seen), n, m, len(distinct))
			}
		}
	}
	for _, kind := range [][2]int64{{2, 4}, {2, 6}, {2, 10}, {3, 6}, {3, 9}, {4, 4}, {4, 6}, {6, 6}, {8, 4}, {9, 3}, {12, 4}} {
		for _, layer := range symmetricLayers(kind[0], kind[1]) {
			g := planeOfLayer(kind[0], layer)
			c, code := impl.CocycleFactor(g)
			isMultiple := isSamePlane(g, multipleOfCocycle(t, kind[0], kind[1], c))
			if impl.IsCocycle(g) != (code == impl.ErrNone) || isMultiple != (code == impl.ErrNone) {
				t.Errorf("CocycleFactor(%s) = %d, %d", textOf(g), c, code)
			}
		}
	}
}
