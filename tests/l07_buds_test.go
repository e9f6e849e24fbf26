package tests

import (
	"math"
	"math/big"
	"math/rand"
	"slices"
	"testing"

	"loop.example/g01152/impl"
)

// moduliOfExtensions are primes, powers and products with many divisors, some of which are divided by
// all primes up to 10, and the greatest ones.
var moduliOfExtensions = []int64{2, 3, 4, 5, 6, 7, 8, 9, 10, 12, 16, 25, 27, 30, 36, 49, 50, 51, 60, 97, 128, 210, 2520, 5040, 6561, 8192, 9240, 9973, 9999, 10000}

// layerOf returns the coefficients of a plane at x^i y^(n - i), for i from 0 to n.
func layerOf(f impl.Plane, n int64) []int64 {
	var layer []int64
	for i := int64(0); i <= n; i++ {
		layer = append(layer, f.Table[i][n-i])
	}
	return layer
}

// planeOfLayer returns the plane with a layer in its degree, and nothing else.
func planeOfLayer(m int64, layer []int64) impl.Plane {
	d := int64(len(layer)) - 1
	return filledPlane(m, d, func(i int64, j int64) int64 {
		if i+j < d {
			return 0
		}
		return layer[i]
	})
}

// cutPlane returns a plane cut to a degree, or with 0 up to one that is greater, without the program.
func cutPlane(f impl.Plane, d int64) impl.Plane {
	return filledPlane(f.Modulus, d, func(i int64, j int64) int64 {
		if i+j > degreeOfPlane(f) {
			return 0
		}
		return f.Table[i][j]
	})
}

// numbersOfLazard returns the coefficients of C(n) at x^i y^(n - i), for i from 0 to n, as integers.
func numbersOfLazard(n int64) []int64 {
	return layerOf(lazardPlane(math.MaxInt32, n, n, 1), n)
}

// addsUp reports whether a layer g solves the equation of cocycles: it compares the coefficients of
// g(y, z) + g(x, y + z) and g(x + y, z) + g(x, y) at all x^a y^b z^c.
func addsUp(m int64, g []int64) bool {
	d := int64(len(g)) - 1
	choices := func(n int64, k int64) int64 { return new(big.Int).Binomial(n, k).Int64() }
	for a := range d + 1 {
		for b := range d + 1 - a {
			c := d - a - b
			left, right := choices(b+c, b)*g[a], choices(a+b, a)*g[a+b]
			if a == 0 {
				left += g[b]
			}
			if c == 0 {
				right += g[a]
			}
			if (left-right)%m != 0 {
				return false
			}
		}
	}
	return true
}

// isCocycleLayer reports whether a layer is that of a cocycle, by the definition.
func isCocycleLayer(m int64, g []int64) bool {
	turned := slices.Clone(g)
	slices.Reverse(turned)
	return g[0] == 0 && slices.Equal(g, turned) && addsUp(m, g)
}

// hasEqualSides is addsUp for a plane, from all terms in three variables.
func hasEqualSides(g impl.Plane) bool {
	x, y, z := cubeOf(0), cubeOf(1), cubeOf(2)
	sum := func(u cube, v cube) cube {
		for _, k := range exponentsUpTo[degreeOfPlane(g)] {
			at := &u[k[0]][k[1]][k[2]]
			*at = (*at + v[k[0]][k[1]][k[2]]) % g.Modulus
		}
		return u
	}
	left := sum(cubeInPlane(g, y, z), cubeInPlane(g, x, sum(y, z)))
	right := sum(cubeInPlane(g, sum(x, y), z), cubeInPlane(g, x, y))
	return left == right
}

// wantsCocycle checks IsCocycle and CocycleFactor of a plane that is a cocycle with a factor.
func wantsCocycle(t *testing.T, g impl.Plane, factor int64) {
	t.Helper()
	if !impl.IsCocycle(g) {
		t.Errorf("IsCocycle(%s) is false", textOf(g))
	}
	wants(t, "CocycleFactor("+textOf(g)+")", factor, impl.ErrNone)(impl.CocycleFactor(g))
}

// wantsNoCocycle checks IsCocycle and CocycleFactor of a plane, or none, that is no cocycle.
func wantsNoCocycle(t *testing.T, g impl.Plane) {
	t.Helper()
	if impl.IsCocycle(g) {
		t.Errorf("IsCocycle(%v) is true", g)
	}
	wants(t, "CocycleFactor", int64(0), impl.ErrInvalid)(impl.CocycleFactor(g))
}

func TestLazardCocycle(t *testing.T) {
	wantsPlane(t, "LazardCocycle", planeOfLayer(10, []int64{0, 2, 3, 2, 0}), impl.ErrNone)(impl.LazardCocycle(10, 4))
	wantsPlane(t, "LazardCocycle", planeOfLayer(2, []int64{0, 1, 0}), impl.ErrNone)(impl.LazardCocycle(2, 2))
	wantsPlane(t, "LazardCocycle", planeOfLayer(10000, []int64{0, 1, 2, 2, 1, 0}), impl.ErrNone)(impl.LazardCocycle(10000, 5))
	wantsPlane(t, "LazardCocycle", planeOfLayer(100, []int64{0, 6, 15, 20, 15, 6, 0}), impl.ErrNone)(impl.LazardCocycle(100, 6))
	wantsPlane(t, "LazardCocycle", planeOfLayer(100, []int64{0, 3, 12, 28, 42, 42, 28, 12, 3, 0}), impl.ErrNone)(impl.LazardCocycle(100, 9))
	wantsPlane(t, "LazardCocycle", planeOfLayer(251, []int64{0, 10, 45, 120, 210, 1, 210, 120, 45, 10, 0}), impl.ErrNone)(impl.LazardCocycle(251, 10))
	for _, m := range append(moduliOfExtensions, moduli...) {
		for n := int64(2); n <= 10; n++ {
			wantsPlane(t, "LazardCocycle", lazardPlane(m, n, n, 1), impl.ErrNone)(impl.LazardCocycle(m, n))
		}
		for _, n := range []int64{math.MinInt64, -10, -2, -1, 0, 1, 11, 60, math.MaxInt64} {
			wantsNoPlane(t, "LazardCocycle", impl.ErrRange)(impl.LazardCocycle(m, n))
		}
	}
	for _, m := range noModuli {
		for _, n := range []int64{math.MinInt64, -1, 0, 1, 2, 10, 11, math.MaxInt64} {
			wantsNoPlane(t, "LazardCocycle", impl.ErrInvalid)(impl.LazardCocycle(m, n))
		}
	}
}

// wantsCocyclesAmong checks which of some layers, among which are those of all cocycles, are those of
// cocycles: as many as the modulus, each one a multiple of C(D).
func wantsCocyclesAmong(t *testing.T, m int64, layers [][]int64) {
	t.Helper()
	count := int64(0)
	for n, layer := range layers {
		g := planeOfLayer(m, layer)
		if n%53 == 0 && addsUp(m, layer) != hasEqualSides(g) {
			t.Errorf("addsUp(%d, %v) = %v", m, layer, addsUp(m, layer))
		}
		if !isCocycleLayer(m, layer) {
			wantsNoCocycle(t, g)
			continue
		}
		count++
		c, code := impl.CocycleFactor(g)
		wantsCocycle(t, g, c)
		if code != impl.ErrNone || c < 0 || c >= m || !isSamePlane(g, lazardPlane(m, degreeOfPlane(g), degreeOfPlane(g), c)) {
			t.Errorf("CocycleFactor(%s) = %d, %d", textOf(g), c, code)
		}
	}
	if count != m {
		t.Errorf("%d cocycles modulo %d in %d layers; want %d", count, m, len(layers), m)
	}
}

// TestCocyclesAmongAllLayers takes all planes of one degree, also those that are not symmetric or have
// terms with one variable only.
func TestCocyclesAmongAllLayers(t *testing.T) {
	for _, kind := range [][2]int64{
		{2, 2}, {2, 3}, {2, 4}, {2, 5}, {2, 6}, {2, 7}, {2, 8}, {2, 9}, {2, 10}, {3, 2}, {3, 3}, {3, 4}, {3, 5}, {3, 6}, {4, 2}, {4, 3}, {4, 4}, {4, 5},
		{5, 2}, {5, 3}, {5, 4}, {6, 2}, {6, 3}, {6, 4}, {7, 3}, {8, 2}, {8, 3}, {9, 2}, {9, 3}, {10, 2}, {10, 3}, {12, 2},
	} {
		var layers [][]int64
		for _, a := range allSeries(kind[0], kind[1]) {
			layers = append(layers, a.Coefficients)
		}
		wantsCocyclesAmong(t, kind[0], layers)
	}
}

// symmetricLayers returns, in lexicographic order, all layers of degree d that are symmetric and have
// no terms with one variable only.
func symmetricLayers(m int64, d int64) [][]int64 {
	var layers [][]int64
	for _, a := range allSeries(m, d/2-1) {
		layer := make([]int64, d+1)
		for i := int64(1); i <= d/2; i++ {
			layer[i], layer[d-i] = a.Coefficients[i-1], a.Coefficients[i-1]
		}
		layers = append(layers, layer)
	}
	return layers
}

// TestCocyclesAmongSymmetricLayers takes all symmetric planes of one degree where there are too many
// others.
func TestCocyclesAmongSymmetricLayers(t *testing.T) {
	for _, kind := range [][2]int64{
		{3, 7}, {3, 8}, {3, 9}, {3, 10}, {4, 6}, {4, 8}, {4, 10}, {5, 5}, {5, 6}, {5, 9}, {5, 10}, {6, 6}, {6, 8}, {6, 9}, {7, 7}, {7, 8}, {8, 4}, {8, 6}, {8, 8},
		{9, 6}, {9, 9}, {10, 4}, {10, 5}, {10, 6}, {12, 4}, {12, 6}, {16, 4}, {16, 6}, {25, 4}, {25, 5}, {30, 4}, {36, 5}, {49, 4}, {60, 4}, {97, 4}, {100, 2}, {9999, 3}, {10000, 2},
	} {
		wantsCocyclesAmong(t, kind[0], symmetricLayers(kind[0], kind[1]))
	}
}

// TestCocyclesOfAllModuli takes multiples of C(n), and those changed at one term, or at both of a
// symmetric pair.
func TestCocyclesOfAllModuli(t *testing.T) {
	counts := map[bool]int{}
	for _, m := range moduliOfExtensions {
		for n := int64(2); n <= 10; n++ {
			for k, c := range sample(m) {
				g := lazardPlane(m, n, n, c)
				wantsCocycle(t, g, c)
				changed := layerOf(g, n)
				for _, i := range []int64{int64(k) % (n + 1), n - int64(k)%(n+1)} {
					changed[i] = (changed[i] + m/2) % m
					isCocycle := isCocycleLayer(m, changed)
					counts[isCocycle]++
					if impl.IsCocycle(planeOfLayer(m, changed)) != isCocycle {
						t.Errorf("IsCocycle of %v modulo %d is %v", changed, m, !isCocycle)
					}
				}
			}
		}
	}
	if counts[true] < 100 || counts[false] < 1000 {
		t.Errorf("numbers of cocycles and other planes: %v", counts)
	}
}

// TestNoCocycles gives planes that are cocycles but for one reason.
func TestNoCocycles(t *testing.T) {
	for _, bad := range noPlanes() {
		wantsNoCocycle(t, bad)
	}
	wantsCocycle(t, planeOfLayer(10, []int64{0, 0, 0}), 0)
	wantsCocycle(t, planeOfLayer(10, []int64{0, 9, 0}), 9)
	for _, m := range moduli {
		// In degree 1 there are none, not even 0.
		for _, g := range []impl.Plane{termOf(m, 1, 0, 0, 0), bilinearLaw(m, 1, 0), termOf(m, 1, 0, 0, 1), termOf(m, 1, 1, 0, 1)} {
			wantsNoCocycle(t, g)
		}
		for d := int64(2); d <= 10; d++ {
			wantsCocycle(t, termOf(m, d, 0, 0, 0), 0)
			for n := int64(0); n < d; n++ {
				for i := int64(0); i <= n; i++ {
					// Terms of smaller degrees are out of place, alone and beside a cocycle.
					wantsNoCocycle(t, termOf(m, d, i, n-i, m-1))
					wantsNoCocycle(t, planeSum(lazardPlane(m, d, d, 1), termOf(m, d, i, n-i, 1)))
				}
				if n > 1 {
					wantsNoCocycle(t, lazardPlane(m, d, n, 1))
				}
			}
			// So are those with one variable, though x^n and y^n together make (x + y)^n - x^n - y^n.
			for _, g := range []impl.Plane{termOf(m, d, d, 0, 1), termOf(m, d, 0, d, 1), planeSum(termOf(m, d, d, 0, 1), termOf(m, d, 0, d, 1))} {
				wantsNoCocycle(t, g)
				wantsNoCocycle(t, planeSum(g, lazardPlane(m, d, d, 1)))
			}
		}
		wantsNoCocycle(t, planeOfLayer(m, []int64{0, 1, 0, 0}))
		wantsNoCocycle(t, planeOfLayer(m, []int64{0, 0, 1, 0}))
	}
	// These are symmetric; whether they are cocycles depends on the modulus.
	wantsNoCocycle(t, planeOfLayer(5, []int64{0, 0, 1, 0, 0}))
	wantsNoCocycle(t, planeOfLayer(4, []int64{0, 0, 1, 0, 0}))
	wantsCocycle(t, planeOfLayer(4, []int64{0, 0, 2, 0, 0}), 2)
	wantsCocycle(t, planeOfLayer(2, []int64{0, 0, 1, 0, 0}), 1)
	wantsNoCocycle(t, planeOfLayer(5, []int64{0, 1, 0, 1, 0}))
	wantsCocycle(t, planeOfLayer(3, []int64{0, 1, 0, 1, 0}), 2)
	wantsNoCocycle(t, planeOfLayer(9, []int64{0, 0, 0, 1, 0, 0, 0}))
	wantsNoCocycle(t, planeOfLayer(9999, []int64{0, 1, 2, 3, 2, 1, 0}))
	wantsNoCocycle(t, planeOfLayer(10000, []int64{0, 0, 0, 0, 0, 1, 0, 0, 0, 0, 0}))
}

// leastFactor returns the number c for which a layer less c C(n) is the lexicographically least.
func leastFactor(m int64, layer []int64) int64 {
	var best []int64
	bestFactor := int64(0)
	numbers := numbersOfLazard(int64(len(layer)) - 1)
	rest := slices.Clone(layer)
	for c := range m {
		if best == nil || slices.Compare(rest, best) < 0 {
			best, bestFactor = slices.Clone(rest), c
		}
		for i := range rest {
			rest[i] = ((rest[i]-numbers[i])%m + m) % m
		}
	}
	return bestFactor
}

// parametersOf returns the parameters of a law without the program: in each degree, how far the law is
// from the first one of those that are equal to it when they are cut.
func parametersOf(f impl.Plane) []int64 {
	var list []int64
	for n := int64(2); n <= degreeOfPlane(f); n++ {
		list = append(list, leastFactor(f.Modulus, layerOf(f, n)))
	}
	return list
}

// extensionsByTrial returns, in order, all laws that extend a law: those with symmetric layers, each of
// which is tried.
func extensionsByTrial(f impl.Plane) []impl.Plane {
	n := degreeOfPlane(f) + 1
	var list []impl.Plane
	for _, layer := range symmetricLayers(f.Modulus, n) {
		g := planeSum(cutPlane(f, n), planeOfLayer(f.Modulus, layer))
		if n > 6 && impl.IsLaw(g) || n <= 6 && faultOf(g) == nil {
			list = append(list, g)
		}
	}
	return list
}

// TestExtensionsByTrial compares all extensions of laws of small moduli with all layers.
func TestExtensionsByTrial(t *testing.T) {
	for _, kind := range [][2]int64{
		{2, 2}, {2, 3}, {2, 4}, {2, 5}, {2, 6}, {2, 7}, {2, 8}, {2, 9}, {2, 10}, {3, 2}, {3, 3}, {3, 4}, {3, 5}, {3, 6}, {3, 7}, {3, 9}, {3, 10}, {4, 2}, {4, 3}, {4, 4}, {4, 5}, {4, 6}, {4, 8},
		{5, 2}, {5, 4}, {5, 5}, {5, 6}, {6, 3}, {6, 4}, {6, 5}, {6, 6}, {6, 8}, {7, 4}, {7, 7}, {8, 2}, {8, 4}, {8, 5}, {9, 3}, {9, 4}, {9, 6}, {10, 4}, {10, 5}, {12, 4}, {12, 5}, {16, 4}, {20, 5}, {25, 4}, {30, 4}, {36, 4}, {50, 3}, {50, 4},
	} {
		m, n := kind[0], kind[1]
		for k, f := range sampleLaws(t, m, 10) {
			if n > 6 && k%4 != 1 || m > 10 && k%3 != 2 {
				continue
			}
			f = cutPlane(f, n-1)
			want := extensionsByTrial(f)
			if int64(len(want)) != m {
				t.Fatalf("%d laws extend %s", len(want), textOf(f))
			}
			wantsList(t, "AllExtensions("+textOf(f)+")", want, impl.ErrNone)(impl.AllExtensions(f))
			wantsPlane(t, "FirstExtension("+textOf(f)+")", want[0], impl.ErrNone)(impl.FirstExtension(f))
			for c := range m {
				g, h := want[(c*3+1)%m], want[(c*7+4)%m]
				factor := int64(slices.IndexFunc(numbersModulo(m), func(c int64) bool { return isSamePlane(h, planeSum(g, lazardPlane(m, n, n, c))) }))
				wants(t, "ExtensionFactor", factor, impl.ErrNone)(impl.ExtensionFactor(g, h))
			}
		}
	}
}

// TestExtensionsInExamples gives laws whose extensions are not in the order of their factors.
func TestExtensionsInExamples(t *testing.T) {
	extended := func(f impl.Plane, layers ...[]int64) {
		t.Helper()
		var want []impl.Plane
		for _, layer := range layers {
			want = append(want, planeSum(cutPlane(f, degreeOfPlane(f)+1), planeOfLayer(f.Modulus, layer)))
		}
		wantsList(t, "AllExtensions", want, impl.ErrNone)(impl.AllExtensions(f))
		wantsPlane(t, "FirstExtension", want[0], impl.ErrNone)(impl.FirstExtension(f))
	}
	extended(bilinearLaw(2, 1, 0), []int64{0, 0, 0}, []int64{0, 1, 0})
	extended(bilinearLaw(3, 1, 0), []int64{0, 0, 0}, []int64{0, 1, 0}, []int64{0, 2, 0})
	extended(bilinearLaw(4, 3, 0), []int64{0, 0, 0, 0, 0}, []int64{0, 0, 2, 0, 0}, []int64{0, 2, 1, 2, 0}, []int64{0, 2, 3, 2, 0})
	extended(bilinearLaw(3, 3, 0), []int64{0, 0, 0, 0, 0}, []int64{0, 1, 0, 1, 0}, []int64{0, 2, 0, 2, 0})
	extended(bilinearLaw(2, 3, 1), []int64{0, 0, 0, 0, 0}, []int64{0, 0, 1, 0, 0})
	extended(bilinearLaw(6, 5, 1), []int64{0, 0, 0, 0, 0, 0, 0}, []int64{0, 0, 0, 2, 0, 0, 0}, []int64{0, 0, 0, 4, 0, 0, 0},
		[]int64{0, 0, 3, 0, 3, 0, 0}, []int64{0, 0, 3, 2, 3, 0, 0}, []int64{0, 0, 3, 4, 3, 0, 0})
	// The law of the tangent goes on with x^2 y^2 (x + y), which is not 0 in the first one.
	wantsPlane(t, "FirstExtension", planeSum(cutPlane(tangentLaw(7, 4), 5), planeOfLayer(7, []int64{0, 0, 1, 1, 0, 0})), impl.ErrNone)(impl.FirstExtension(tangentLaw(7, 4)))
	wantsList(t, "ParametersOfLaw", []int64{1, 0}, impl.ErrNone)(impl.ParametersOfLaw(bilinearLaw(5, 3, 1)))
	wantsPlane(t, "LawOfParameters", bilinearLaw(5, 3, 1), impl.ErrNone)(impl.LawOfParameters(5, []int64{1, 0}))
	wantsPlane(t, "LawOfParameters", tangentLaw(7, 5), impl.ErrNone)(impl.LawOfParameters(7, []int64{0, 1, 0, 0}))
	wantsPlane(t, "LawOfParameters", planeSum(bilinearLaw(5, 3, 2), lazardPlane(5, 3, 3, 4)), impl.ErrNone)(impl.LawOfParameters(5, []int64{2, 4}))
}

// TestFirstExtension takes laws of all degrees and moduli: the first extension is a law, equal to the
// one that it extends when it is cut, and none of those that differ by a cocycle is less.
func TestFirstExtension(t *testing.T) {
	for _, m := range moduliOfExtensions {
		for k, whole := range sampleLaws(t, m, 10) {
			for d := int64(1); d <= 9; d++ {
				if m > 100 && (int64(k)+d)%3 != 0 {
					continue
				}
				f := cutPlane(whole, d)
				first := madePlane(t, "FirstExtension")(impl.FirstExtension(f))
				if first.Modulus != m || degreeOfPlane(first) != d+1 || !isSamePlane(cutPlane(first, d), f) || !impl.IsLaw(first) {
					t.Fatalf("FirstExtension(%s) = %v", textOf(f), first)
				}
				if d < 5 && k < 3 && faultOf(first) != nil {
					t.Errorf("FirstExtension(%s) = %s is no law", textOf(f), textOf(first))
				}
				if c := leastFactor(m, layerOf(first, d+1)); c != 0 {
					t.Errorf("FirstExtension(%s) = %s is not the first one: %d", textOf(f), textOf(first), c)
				}
			}
		}
	}
}

// TestAllExtensions takes laws of all degrees and of all moduli up to the limit: all extensions are those
// that differ from the first one by a cocycle, in order.
func TestAllExtensions(t *testing.T) {
	for m := int64(2); m <= 50; m++ {
		laws := sampleLaws(t, m, 10)
		for d := int64(1); d <= 9; d++ {
			f := cutPlane(laws[(m+d)%int64(len(laws))], d)
			first := madePlane(t, "FirstExtension")(impl.FirstExtension(f))
			var want []impl.Plane
			for c := range m {
				want = append(want, planeSum(first, lazardPlane(m, d+1, d+1, c)))
			}
			slices.SortFunc(want, func(g impl.Plane, h impl.Plane) int { return slices.Compare(layerOf(g, d+1), layerOf(h, d+1)) })
			wantsList(t, "AllExtensions("+textOf(f)+")", want, impl.ErrNone)(impl.AllExtensions(f))
		}
	}
}

// TestLimitsOfExtensions gives laws of the greatest degree and moduli behind 50, also both at once.
func TestLimitsOfExtensions(t *testing.T) {
	for _, m := range append(moduliOfExtensions, moduli...) {
		for _, f := range []impl.Plane{bilinearLaw(m, 10, 0), bilinearLaw(m, 10, m-1)} {
			wantsNoPlane(t, "FirstExtension", impl.ErrState)(impl.FirstExtension(f))
			wantsList[impl.Plane](t, "AllExtensions", nil, impl.ErrState)(impl.AllExtensions(f))
		}
		for d := int64(1); d <= 9; d++ {
			list, code := impl.AllExtensions(bilinearLaw(m, d, 1))
			if m > 50 && (len(list) != 0 || code != impl.ErrLimit) || m <= 50 && (int64(len(list)) != m || code != impl.ErrNone) {
				t.Errorf("AllExtensions of degree %d modulo %d: %d laws, code %d", d, m, len(list), code)
			}
		}
	}
}

// TestExtensionFactor takes laws that differ by a cocycle in the last degree only, both in each place,
// and equal ones.
func TestExtensionFactor(t *testing.T) {
	wants(t, "ExtensionFactor", int64(4), impl.ErrNone)(impl.ExtensionFactor(bilinearLaw(10, 2, 3), bilinearLaw(10, 2, 7)))
	wants(t, "ExtensionFactor", int64(6), impl.ErrNone)(impl.ExtensionFactor(bilinearLaw(10, 2, 7), bilinearLaw(10, 2, 3)))
	for _, m := range moduliOfExtensions {
		for k, whole := range sampleLaws(t, m, 10) {
			for d := int64(2); d <= 10; d++ {
				f := cutPlane(whole, d)
				wants(t, "ExtensionFactor", int64(0), impl.ErrNone)(impl.ExtensionFactor(f, copyOfPlane(f)))
				for _, c := range []int64{1, m / 2, m - 1, int64(k)*37%(m-1) + 1} {
					g := planeSum(f, lazardPlane(m, d, d, c))
					wants(t, "ExtensionFactor", c, impl.ErrNone)(impl.ExtensionFactor(f, g))
					wants(t, "ExtensionFactor", m-c, impl.ErrNone)(impl.ExtensionFactor(g, f))
				}
			}
		}
	}
}

// TestLawsThatDifferBefore gives laws that are not equal when they are cut, for each degree in which
// they begin to differ, and some that are.
func TestLawsThatDifferBefore(t *testing.T) {
	counts := map[int64]int{}
	for _, m := range moduliOfLaws {
		for d := int64(2); d <= 10; d++ {
			var laws []impl.Plane
			for _, f := range sampleLaws(t, m, 10) {
				laws = append(laws, cutPlane(f, d))
			}
			for n := int64(2); n <= d; n++ {
				// In the coordinate t + t^n, the first difference is in degree n, or behind it.
				a := monomialOf(m, d, 1, 1)
				a.Coefficients[n] = 1
				laws = append(laws, inCoordinate(t, laws[n%4], a))
			}
			for k, f := range laws {
				for _, g := range []impl.Plane{laws[k%4], laws[(k*3+1)%len(laws)], laws[(k*5+2)%len(laws)]} {
					agreement, layer := differenceOf(f, g)
					switch {
					case agreement == d:
						wants(t, "ExtensionFactor", int64(0), impl.ErrNone)(impl.ExtensionFactor(f, g))
					case agreement == d-1:
						c := slices.IndexFunc(numbersModulo(m), func(c int64) bool { return slices.Equal(layer, layerOf(lazardPlane(m, d, d, c), d)) })
						wants(t, "ExtensionFactor", int64(c), impl.ErrNone)(impl.ExtensionFactor(f, g))
					default:
						wants(t, "ExtensionFactor", int64(0), impl.ErrState)(impl.ExtensionFactor(f, g))
					}
					counts[d-agreement]++
				}
			}
		}
	}
	if counts[0] < 100 || counts[1] < 100 || counts[2] < 50 || counts[8] < 10 {
		t.Errorf("numbers of pairs of laws by how much of them is different: %v", counts)
	}
}

// TestCountLaws compares numbers of laws with powers, for all moduli and degrees.
func TestCountLaws(t *testing.T) {
	wants(t, "CountLaws", int64(27), impl.ErrNone)(impl.CountLaws(3, 4))
	wants(t, "CountLaws", int64(1), impl.ErrNone)(impl.CountLaws(10000, 1))
	wants(t, "CountLaws", int64(10000), impl.ErrNone)(impl.CountLaws(10000, 2))
	wants(t, "CountLaws", int64(1000000000000000000), impl.ErrNone)(impl.CountLaws(1000, 7))
	wants(t, "CountLaws", int64(1000000000000000000), impl.ErrNone)(impl.CountLaws(100, 10))
	wants(t, "CountLaws", int64(0), impl.ErrLimit)(impl.CountLaws(1001, 7))
	wants(t, "CountLaws", int64(0), impl.ErrLimit)(impl.CountLaws(101, 10))
	limit := big.NewInt(1000000000000000000)
	for m := int64(2); m <= 10000; m++ {
		count := big.NewInt(1)
		for d := int64(1); d <= 10; d++ {
			if count.Cmp(limit) > 0 {
				wants(t, "CountLaws", int64(0), impl.ErrLimit)(impl.CountLaws(m, d))
			} else {
				wants(t, "CountLaws", count.Int64(), impl.ErrNone)(impl.CountLaws(m, d))
			}
			count.Mul(count, big.NewInt(m))
		}
	}
	for _, d := range []int64{math.MinInt64, -1, 0, 11, 12, math.MaxInt64} {
		for _, m := range moduli {
			wants(t, "CountLaws", int64(0), impl.ErrRange)(impl.CountLaws(m, d))
		}
	}
	for _, m := range noModuli {
		for _, d := range []int64{math.MinInt64, 0, 1, 2, 10, 11, math.MaxInt64} {
			wants(t, "CountLaws", int64(0), impl.ErrInvalid)(impl.CountLaws(m, d))
		}
	}
}

// sampleParameters returns lists of n numbers modulo m: those at the ends, those with one number other
// than 0, and some that are the same in each run.
func sampleParameters(m int64, n int64) [][]int64 {
	lists := [][]int64{make([]int64, n), slices.Repeat([]int64{m - 1}, int(n)), slices.Repeat([]int64{1}, int(n))}
	for k := range n {
		one := make([]int64, n)
		one[k] = m/2 + 1
		if m == 2 {
			one[k] = 1
		}
		lists = append(lists, one)
	}
	source := rand.New(rand.NewSource(m*100 + n))
	for range 4 {
		list := make([]int64, n)
		for k := range list {
			list[k] = source.Int63n(m)
		}
		lists = append(lists, list)
	}
	return lists
}

// TestLawOfParameters checks that there is a law of each list, which has these parameters: there is
// only one such law.
func TestLawOfParameters(t *testing.T) {
	for _, m := range moduliOfExtensions {
		for n := int64(1); n <= 9; n++ {
			for k, list := range sampleParameters(m, n) {
				if m > 100 && (int64(k)+n)%3 != 0 {
					continue
				}
				f := madePlane(t, "LawOfParameters")(impl.LawOfParameters(m, list))
				if f.Modulus != m || degreeOfPlane(f) != n+1 || !impl.IsLaw(f) || !slices.Equal(parametersOf(f), list) {
					t.Errorf("LawOfParameters(%d, %v) = %v", m, list, f)
				}
			}
		}
	}
}

// TestParametersOfLaw compares parameters of laws of all degrees and moduli, and of those of lists.
func TestParametersOfLaw(t *testing.T) {
	for _, m := range moduliOfExtensions {
		wantsList[int64](t, "ParametersOfLaw", nil, impl.ErrState)(impl.ParametersOfLaw(bilinearLaw(m, 1, 0)))
		for _, whole := range sampleLaws(t, m, 10) {
			list := parametersOf(whole)
			for d := int64(2); d <= 10; d++ {
				f := cutPlane(whole, d)
				wantsList(t, "ParametersOfLaw("+textOf(f)+")", list[:d-1], impl.ErrNone)(impl.ParametersOfLaw(f))
				wantsPlane(t, "LawOfParameters", f, impl.ErrNone)(impl.LawOfParameters(m, list[:d-1]))
			}
		}
	}
}

// TestNoParameters gives lists that are too short, too long, or of no numbers, each also where the
// modulus is none.
func TestNoParameters(t *testing.T) {
	lists := [][]int64{nil, {}, make([]int64, 10), make([]int64, 11), make([]int64, 10000), slices.Repeat([]int64{1}, 10)}
	for n := 1; n <= 10; n++ {
		for _, a := range noNumbers(10) {
			for k := range n {
				list := make([]int64, n)
				list[k] = a
				lists = append(lists, list)
			}
		}
	}
	for _, list := range lists {
		wantsNoPlane(t, "LawOfParameters", impl.ErrRange)(impl.LawOfParameters(10, list))
		for _, m := range noModuli {
			wantsNoPlane(t, "LawOfParameters", impl.ErrInvalid)(impl.LawOfParameters(m, list))
		}
	}
	for _, m := range noModuli {
		wantsNoPlane(t, "LawOfParameters", impl.ErrInvalid)(impl.LawOfParameters(m, []int64{0, 0}))
	}
	for _, m := range moduli {
		wantsNoPlane(t, "LawOfParameters", impl.ErrRange)(impl.LawOfParameters(m, []int64{0, m}))
		wantsPlane(t, "LawOfParameters", bilinearLaw(m, 2, m-1), impl.ErrNone)(impl.LawOfParameters(m, []int64{m - 1}))
	}
}

// TestNoLawsExtended gives each argument that has to be a law one that is none, also where an error
// behind that would hold: the degree is 1 or the greatest one, the modulus is too great, or the other
// law is none, not alike, or not equal when it is cut.
func TestNoLawsExtended(t *testing.T) {
	laws := []impl.Plane{bilinearLaw(10, 2, 1), bilinearLaw(10, 4, 1), bilinearLaw(7, 1, 0), bilinearLaw(10, 10, 1), bilinearLaw(10000, 3, 0), termOf(10, 2, 1, 0, 1), {}}
	bad := append(noLaws(), withTerm(bilinearLaw(51, 3, 0), 1, 2), withTerm(bilinearLaw(10, 10, 1), 5, 5), withTerm(bilinearLaw(10, 1, 0), 0, 0),
		withTerm(bilinearLaw(51, 10, 1), 9, 1), lazardPlane(10, 4, 4, 1), planeSum(bilinearLaw(5, 4, 1), termOf(5, 4, 2, 2, 1)))
	for _, f := range bad {
		wantsNoPlane(t, "FirstExtension", impl.ErrInvalid)(impl.FirstExtension(f))
		wantsList[impl.Plane](t, "AllExtensions", nil, impl.ErrInvalid)(impl.AllExtensions(f))
		wantsList[int64](t, "ParametersOfLaw", nil, impl.ErrInvalid)(impl.ParametersOfLaw(f))
		wants(t, "ExtensionFactor", int64(0), impl.ErrInvalid)(impl.ExtensionFactor(f, f))
		for _, g := range laws {
			wants(t, "ExtensionFactor", int64(0), impl.ErrInvalid)(impl.ExtensionFactor(f, g))
			wants(t, "ExtensionFactor", int64(0), impl.ErrInvalid)(impl.ExtensionFactor(g, f))
		}
	}
}

// TestLawsNotAlikeExtended gives laws with other moduli or degrees, also of degree 1, or not equal where
// both have coefficients; and laws of degree 1 that are equal.
func TestLawsNotAlikeExtended(t *testing.T) {
	laws := []impl.Plane{
		bilinearLaw(10, 2, 1), bilinearLaw(10, 3, 1), bilinearLaw(10, 3, 2), bilinearLaw(10, 1, 0), bilinearLaw(5, 2, 1), bilinearLaw(5, 1, 0), bilinearLaw(11, 2, 1),
		bilinearLaw(11, 3, 2), bilinearLaw(10, 10, 1), bilinearLaw(10000, 10, 0), bilinearLaw(9999, 10, 7),
	}
	for _, f := range laws {
		for _, g := range laws {
			if f.Modulus != g.Modulus || degreeOfPlane(f) != degreeOfPlane(g) || degreeOfPlane(f) == 1 {
				wants(t, "ExtensionFactor", int64(0), impl.ErrRange)(impl.ExtensionFactor(f, g))
			}
		}
	}
	for _, m := range moduli {
		wants(t, "ExtensionFactor", int64(0), impl.ErrRange)(impl.ExtensionFactor(bilinearLaw(m, 1, 0), bilinearLaw(m, 1, 0)))
	}
}

// operationsOnExtensions are all functions of the chapter that take a law or a list of parameters, given
// out as planes.
func operationsOnExtensions() map[string]func(f impl.Plane, a impl.Series) (impl.Plane, int64) {
	return map[string]func(f impl.Plane, a impl.Series) (impl.Plane, int64){
		"FirstExtension": func(f impl.Plane, a impl.Series) (impl.Plane, int64) { return impl.FirstExtension(f) },
		"AllExtensions": func(f impl.Plane, a impl.Series) (impl.Plane, int64) {
			list, code := impl.AllExtensions(f)
			all := plane(7)
			for _, g := range list {
				all.Table = append(all.Table, g.Table...)
			}
			return all, code
		},
		"ExtensionFactor": func(f impl.Plane, a impl.Series) (impl.Plane, int64) {
			first, _ := impl.ExtensionFactor(f, bilinearLaw(7, 4, 3))
			second, code := impl.ExtensionFactor(bilinearLaw(7, 4, 3), f)
			return plane(7, []int64{first, second}), code
		},
		"LawOfParameters": func(f impl.Plane, a impl.Series) (impl.Plane, int64) { return impl.LawOfParameters(7, a.Coefficients) },
		"ParametersOfLaw": func(f impl.Plane, a impl.Series) (impl.Plane, int64) {
			list, code := impl.ParametersOfLaw(f)
			return plane(7, list), code
		},
		"LazardCocycle": func(f impl.Plane, a impl.Series) (impl.Plane, int64) { return impl.LazardCocycle(7, 4) },
	}
}

// TestExtensionsMemory checks all functions of the chapter.
func TestExtensionsMemory(t *testing.T) {
	for name, operation := range operationsOnExtensions() {
		checkMemory(t, name, operation)
	}
	// The tables of all extensions are separate, too.
	f := bilinearLaw(7, 4, 3)
	want, _ := impl.AllExtensions(f)
	for n := range want {
		list, code := impl.AllExtensions(f)
		spoil(list[n])
		list[n] = want[n]
		wantsList(t, "AllExtensions", want, impl.ErrNone)(list, code)
	}
	// Cocycles are only read.
	memory := []int64{0, 0, 0, 0, 0, 50, 0, 0, 0, 4, 51, 0, 0, 6, 52, 0, 4, 53, 0, 54}
	before := slices.Clone(memory)
	g := plane(7, memory[:5], memory[6:10], memory[11:14], memory[15:17], memory[18:19])
	wantsCocycle(t, g, 2)
	g.Table[0][0] = 1
	wantsNoCocycle(t, g)
	g.Table[0][0] = 0
	if !slices.Equal(memory, before) {
		t.Errorf("IsCocycle or CocycleFactor changed its argument: %v", memory)
	}
}
