package tests

import (
	"testing"

	"loop.example/g01152/impl"
)

// madePlane returns the plane of a call that has to succeed.
func madePlane(t *testing.T, call string) func(impl.Plane, int64) impl.Plane {
	return func(f impl.Plane, code int64) impl.Plane {
		t.Helper()
		if code != impl.ErrNone {
			t.Fatalf("%s: code %d", call, code)
		}
		return f
	}
}

// allPlanes returns all planes of a small modulus and degree.
func allPlanes(m int64, d int64) []impl.Plane {
	var all []impl.Plane
	for _, a := range allSeries(m, (d+1)*(d+2)/2-1) {
		n := 0
		all = append(all, filledPlane(m, d, func(int64, int64) int64 {
			n++
			return a.Coefficients[n-1]
		}))
	}
	return all
}

// planesOfManyKinds are lists of planes that are alike: all those of small moduli and degrees, and
// some of all other ones.
func planesOfManyKinds() [][]impl.Plane {
	lists := [][]impl.Plane{allPlanes(2, 1), allPlanes(3, 1), allPlanes(4, 1), allPlanes(2, 2)}
	for _, m := range moduli {
		for _, d := range degrees {
			lists = append(lists, samplePlanes(m, d))
		}
	}
	return lists
}

// TestPromise3Curves checks that substituting curves in the same variable keeps sums and products.
func TestPromise3Curves(t *testing.T) {
	for _, list := range planesOfManyKinds() {
		curves := sampleCurves(list[0].Modulus, degreeOfPlane(list[0]))
		for n, f := range list {
			g := list[(n*5+3)%len(list)]
			a, b := curves[n%len(curves)], curves[(n*3+1)%len(curves)]
			inF := made(t, "SubstituteCurves")(impl.SubstituteCurves(f, a, b))
			inG := made(t, "SubstituteCurves")(impl.SubstituteCurves(g, a, b))
			sum := madePlane(t, "AddPlanes")(impl.AddPlanes(f, g))
			product := madePlane(t, "MultiplyPlanes")(impl.MultiplyPlanes(f, g))
			wantsSeries(t, "curves in a sum", made(t, "AddSeries")(impl.AddSeries(inF, inG)), impl.ErrNone)(impl.SubstituteCurves(sum, a, b))
			wantsSeries(t, "curves in a product", made(t, "MultiplySeries")(impl.MultiplySeries(inF, inG)), impl.ErrNone)(impl.SubstituteCurves(product, a, b))
		}
	}
}

// TestPromise3Both checks that substituting curves in x and in y keeps sums and products, and that
// one substitution after the other is that of compositions.
func TestPromise3Both(t *testing.T) {
	for _, list := range planesOfManyKinds() {
		curves := sampleCurves(list[0].Modulus, degreeOfPlane(list[0]))
		for n, f := range list {
			g := list[(n*5+3)%len(list)]
			a, b, c := curves[n%len(curves)], curves[(n*3+1)%len(curves)], curves[(n*7+4)%len(curves)]
			inF := madePlane(t, "SubstituteBoth")(impl.SubstituteBoth(f, a, b))
			inG := madePlane(t, "SubstituteBoth")(impl.SubstituteBoth(g, a, b))
			sum := madePlane(t, "AddPlanes")(impl.AddPlanes(f, g))
			product := madePlane(t, "MultiplyPlanes")(impl.MultiplyPlanes(f, g))
			wantsPlane(t, "both in a sum", madePlane(t, "AddPlanes")(impl.AddPlanes(inF, inG)), impl.ErrNone)(impl.SubstituteBoth(sum, a, b))
			wantsPlane(t, "both in a product", madePlane(t, "MultiplyPlanes")(impl.MultiplyPlanes(inF, inG)), impl.ErrNone)(impl.SubstituteBoth(product, a, b))
			inX := made(t, "ComposeSeries")(impl.ComposeSeries(a, c))
			inY := made(t, "ComposeSeries")(impl.ComposeSeries(b, a))
			wantsPlane(t, "both twice", madePlane(t, "SubstituteBoth")(impl.SubstituteBoth(f, inX, inY)), impl.ErrNone)(impl.SubstituteBoth(inF, c, a))
			wantsSeries(t, "curves after both", made(t, "SubstituteCurves")(impl.SubstituteCurves(f, inX, inY)), impl.ErrNone)(impl.SubstituteCurves(inF, c, a))
		}
	}
}

// TestPromise3Apply checks that sums, products and compositions of series are kept where they are
// applied to a plane, and that curves may be substituted before or behind.
func TestPromise3Apply(t *testing.T) {
	for _, list := range planesOfManyKinds() {
		all := sampleSeries(list[0].Modulus, degreeOfPlane(list[0]))
		curves := curvesOf(all)
		for n, f := range withoutConstant(list) {
			a, b, c := all[n%len(all)], all[(n*5+2)%len(all)], curves[(n*3+1)%len(all)]
			left := madePlane(t, "ApplySeries")(impl.ApplySeries(a, f))
			right := madePlane(t, "ApplySeries")(impl.ApplySeries(b, f))
			sum := made(t, "AddSeries")(impl.AddSeries(a, b))
			product := made(t, "MultiplySeries")(impl.MultiplySeries(a, b))
			wantsPlane(t, "a sum of a plane", madePlane(t, "AddPlanes")(impl.AddPlanes(left, right)), impl.ErrNone)(impl.ApplySeries(sum, f))
			wantsPlane(t, "a product of a plane", madePlane(t, "MultiplyPlanes")(impl.MultiplyPlanes(left, right)), impl.ErrNone)(impl.ApplySeries(product, f))
			composition := made(t, "ComposeSeries")(impl.ComposeSeries(a, c))
			middle := madePlane(t, "ApplySeries")(impl.ApplySeries(c, f))
			wantsPlane(t, "a composition of a plane", madePlane(t, "ApplySeries")(impl.ApplySeries(composition, f)), impl.ErrNone)(impl.ApplySeries(a, middle))
			curve := made(t, "SubstituteCurves")(impl.SubstituteCurves(f, c, curves[n%len(all)]))
			wantsSeries(t, "curves in a series of a plane", made(t, "ComposeSeries")(impl.ComposeSeries(a, curve)), impl.ErrNone)(impl.SubstituteCurves(left, c, curves[n%len(all)]))
		}
	}
}

// TestPromise3Coordinates checks that the planes x and y stand for the variables: substitution gives
// back each curve, and planes of series are these, applied to them.
func TestPromise3Coordinates(t *testing.T) {
	for _, m := range moduli {
		for _, d := range degrees {
			curves := sampleCurves(m, d)
			x := madePlane(t, "CoordinatePlane")(impl.CoordinatePlane(m, d, 0))
			y := madePlane(t, "CoordinatePlane")(impl.CoordinatePlane(m, d, 1))
			for n, a := range sampleSeries(m, d) {
				f, g := curves[n], curves[(n*5+1)%len(curves)]
				wantsSeries(t, "curves in x", f, impl.ErrNone)(impl.SubstituteCurves(x, f, g))
				wantsSeries(t, "curves in y", g, impl.ErrNone)(impl.SubstituteCurves(y, f, g))
				inX := madePlane(t, "PlaneOfSeries")(impl.PlaneOfSeries(a, 0))
				inY := madePlane(t, "PlaneOfSeries")(impl.PlaneOfSeries(a, 1))
				wantsPlane(t, "a series of x", inX, impl.ErrNone)(impl.ApplySeries(a, x))
				wantsPlane(t, "a series of y", inY, impl.ErrNone)(impl.ApplySeries(a, y))
				wantsSeries(t, "curves in a series of x", made(t, "ComposeSeries")(impl.ComposeSeries(a, f)), impl.ErrNone)(impl.SubstituteCurves(inX, f, g))
				wantsSeries(t, "curves in a series of y", made(t, "ComposeSeries")(impl.ComposeSeries(a, g)), impl.ErrNone)(impl.SubstituteCurves(inY, f, g))
			}
		}
	}
}

// TestPromise3Texts checks that planes come back from their texts, and texts from their planes.
func TestPromise3Texts(t *testing.T) {
	for _, list := range planesOfManyKinds() {
		seen := map[string]impl.Plane{}
		for _, f := range list {
			text, code := impl.PlaneText(f)
			if code != impl.ErrNone {
				t.Errorf("PlaneText(%v): code %d", f, code)
			}
			wantsPlane(t, "ParsePlane("+text+")", f, impl.ErrNone)(impl.ParsePlane(text))
			if other, ok := seen[text]; ok && !isSamePlane(f, other) {
				t.Errorf("%v and %v have the same text %s", f, other, text)
			}
			seen[text] = f
		}
	}
}

// TestGuarantee3Products checks that products are commutative and associative, with 1, and that they
// go along with the exchange of variables and with cutting.
func TestGuarantee3Products(t *testing.T) {
	multiply := func(f impl.Plane, g impl.Plane) impl.Plane {
		return madePlane(t, "MultiplyPlanes")(impl.MultiplyPlanes(f, g))
	}
	turn := func(f impl.Plane) impl.Plane { return madePlane(t, "TurnPlane")(impl.TurnPlane(f)) }
	cut := func(f impl.Plane) impl.Plane {
		return madePlane(t, "CutPlane")(impl.CutPlane(f, (degreeOfPlane(f)+1)/2))
	}
	for _, list := range planesOfManyKinds() {
		one := termOf(list[0].Modulus, degreeOfPlane(list[0]), 0, 0, 1)
		for n, f := range list {
			g, h := list[(n*5+3)%len(list)], list[(n*7+2)%len(list)]
			product := multiply(f, g)
			wantsPlane(t, "g f", product, impl.ErrNone)(impl.MultiplyPlanes(g, f))
			wantsPlane(t, "f (g h)", multiply(product, h), impl.ErrNone)(impl.MultiplyPlanes(f, multiply(g, h)))
			wantsPlane(t, "f 1", f, impl.ErrNone)(impl.MultiplyPlanes(f, one))
			wantsPlane(t, "the turned product", multiply(turn(f), turn(g)), impl.ErrNone)(impl.TurnPlane(product))
			wantsPlane(t, "the product of cut ones", cut(product), impl.ErrNone)(impl.MultiplyPlanes(cut(f), cut(g)))
		}
	}
}

// TestGuarantee3Partials checks that the derivative of a product is the sum of both products with a
// derivative, in x and in y, and that derivatives may be exchanged.
func TestGuarantee3Partials(t *testing.T) {
	for _, list := range planesOfManyKinds() {
		d := degreeOfPlane(list[0])
		if d == 1 {
			continue
		}
		for n, f := range list {
			g := list[(n*5+3)%len(list)]
			product := madePlane(t, "MultiplyPlanes")(impl.MultiplyPlanes(f, g))
			for k := int64(0); k <= 1; k++ {
				byF := madePlane(t, "PartialPlane")(impl.PartialPlane(f, k))
				byG := madePlane(t, "PartialPlane")(impl.PartialPlane(g, k))
				left := madePlane(t, "MultiplyPlanes")(impl.MultiplyPlanes(byF, madePlane(t, "CutPlane")(impl.CutPlane(g, d-1))))
				right := madePlane(t, "MultiplyPlanes")(impl.MultiplyPlanes(madePlane(t, "CutPlane")(impl.CutPlane(f, d-1)), byG))
				wantsPlane(t, "the derivative of a product", madePlane(t, "AddPlanes")(impl.AddPlanes(left, right)), impl.ErrNone)(impl.PartialPlane(product, k))
				if d > 2 {
					other := madePlane(t, "PartialPlane")(impl.PartialPlane(f, 1-k))
					twice := madePlane(t, "PartialPlane")(impl.PartialPlane(byF, 1-k))
					wantsPlane(t, "derivatives by both", twice, impl.ErrNone)(impl.PartialPlane(other, k))
				}
			}
		}
	}
}
