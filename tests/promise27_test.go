package tests

import (
	"testing"

	"loop.example/g01152/impl"
)

// extensionsOfAll returns all laws that extend some laws.
func extensionsOfAll(t *testing.T, laws []impl.Plane) []impl.Plane {
	t.Helper()
	var list []impl.Plane
	for _, f := range laws {
		all, code := impl.AllExtensions(f)
		if code != impl.ErrNone {
			t.Fatalf("AllExtensions(%s): code %d", textOf(f), code)
		}
		list = append(list, all...)
	}
	return list
}

// textsOf returns the texts of laws, each of which has to be a law.
func textsOf(t *testing.T, laws []impl.Plane) map[string]bool {
	t.Helper()
	texts := map[string]bool{}
	for _, f := range laws {
		if !impl.IsLaw(f) {
			t.Errorf("%s is no law", textOf(f))
		}
		texts[textOf(f)] = true
	}
	return texts
}

// TestPromise27AllLaws extends x + y again and again: all laws of each degree are found, each one once,
// as many as CountLaws tells, and they are those of all lists of parameters.
func TestPromise27AllLaws(t *testing.T) {
	for _, kind := range [][2]int64{{2, 10}, {3, 7}, {4, 6}, {5, 5}, {6, 4}, {7, 4}, {8, 4}, {9, 4}, {10, 4}, {12, 3}, {30, 3}, {50, 2}} {
		m := kind[0]
		laws := []impl.Plane{bilinearLaw(m, 1, 0)}
		wants(t, "CountLaws", int64(1), impl.ErrNone)(impl.CountLaws(m, 1))
		for d := int64(2); d <= kind[1]; d++ {
			laws = extensionsOfAll(t, laws)
			texts := textsOf(t, laws)
			wants(t, "CountLaws", int64(len(laws)), impl.ErrNone)(impl.CountLaws(m, d))
			for _, a := range allSeries(m, d-2) {
				f := madePlane(t, "LawOfParameters")(impl.LawOfParameters(m, a.Coefficients))
				if !texts[textOf(f)] {
					t.Errorf("LawOfParameters(%d, %v) = %s is not found, or twice", m, a.Coefficients, textOf(f))
				}
				delete(texts, textOf(f))
			}
			if len(texts) != 0 {
				t.Errorf("%d laws of degree %d modulo %d are those of no parameters", len(texts), d, m)
			}
		}
	}
}

// TestPromise27AllPlanes compares the laws of all parameters with those among all planes.
func TestPromise27AllPlanes(t *testing.T) {
	for _, laws := range lawsOfManyKinds(t)[:4] {
		m, d := laws[0].Modulus, degreeOfPlane(laws[0])
		wants(t, "CountLaws", int64(len(laws)), impl.ErrNone)(impl.CountLaws(m, d))
		texts := textsOf(t, laws)
		for _, a := range allSeries(m, d-2) {
			delete(texts, textOf(madePlane(t, "LawOfParameters")(impl.LawOfParameters(m, a.Coefficients))))
		}
		if len(texts) != 0 {
			t.Errorf("laws of no parameters: %v", texts)
		}
	}
}

// TestPromise27Extensions follows lists of parameters for all moduli: the law of a longer list extends
// that of the shorter one, and is its first extension plus its last parameter times the cocycle.
func TestPromise27Extensions(t *testing.T) {
	for _, m := range moduliOfExtensions {
		for _, list := range sampleParameters(m, 9) {
			f := bilinearLaw(m, 1, 0)
			for n := int64(2); n <= 10; n++ {
				c := list[n-2]
				first := madePlane(t, "FirstExtension")(impl.FirstExtension(f))
				g := madePlane(t, "LawOfParameters")(impl.LawOfParameters(m, list[:n-1]))
				wantsPlane(t, "the first extension plus a cocycle", g, impl.ErrNone)(impl.AddPlanes(first, multipleOfCocycle(t, m, n, c)))
				checkExtension(t, f, g, first, c)
				wantsList(t, "ParametersOfLaw", list[:n-1], impl.ErrNone)(impl.ParametersOfLaw(g))
				f = g
			}
		}
	}
}

// TestPromise27Laws follows laws of all moduli degree by degree: each one cut to a degree is the first
// extension of itself cut once more plus a multiple of the cocycle, whose factor is the parameter.
func TestPromise27Laws(t *testing.T) {
	for _, m := range moduliOfExtensions {
		for _, whole := range sampleLaws(t, m, 10) {
			list, code := impl.ParametersOfLaw(whole)
			if code != impl.ErrNone || len(list) != 9 {
				t.Fatalf("ParametersOfLaw(%s) = %v, %d", textOf(whole), list, code)
			}
			for d := int64(2); d <= 10; d++ {
				f := madePlane(t, "CutPlane")(impl.CutPlane(whole, d))
				before := madePlane(t, "CutPlane")(impl.CutPlane(whole, d-1))
				first := madePlane(t, "FirstExtension")(impl.FirstExtension(before))
				wants(t, "ExtensionFactor", list[d-2], impl.ErrNone)(impl.ExtensionFactor(first, f))
			}
		}
	}
}
