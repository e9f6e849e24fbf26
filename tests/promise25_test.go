package tests

import (
	"slices"
	"testing"

	"loop.example/g01152/impl"
)

// TestPromise25Lists checks that all laws are those of all lists of parameters in order, each at its number, and
// that each has its list and number.
func TestPromise25Lists(t *testing.T) {
	for _, kind := range kindsOfClasses() {
		laws, lists := lawsOf(t, kind), allLists(kind[0], int(kind[1])-1)
		wants(t, callOfKind("CountLaws", kind), int64(len(laws)), impl.ErrNone)(impl.CountLaws(kind[0], kind[1]))
		if len(laws) != len(lists) || !slices.IsSortedFunc(lists, slices.Compare[[]int64]) {
			t.Fatalf("%s: %d laws, %d lists", callOfKind("AllLaws", kind), len(laws), len(lists))
		}
		for n, list := range lists {
			wantsPlane(t, "LawOfParameters", laws[n], impl.ErrNone)(impl.LawOfParameters(kind[0], list))
			wantsList(t, "ParametersOfLaw("+textOf(laws[n])+")", list, impl.ErrNone)(impl.ParametersOfLaw(laws[n]))
			wants(t, "NumberOfLaw("+textOf(laws[n])+")", int64(n), impl.ErrNone)(impl.NumberOfLaw(laws[n]))
		}
	}
}

// TestPromise25Ends takes the first and the last number: the parameters are all 0, or all the greatest number.
func TestPromise25Ends(t *testing.T) {
	for _, kind := range kindsOfClasses() {
		m, n := kind[0], int(kind[1])-1
		laws := lawsOf(t, kind)
		wantsPlane(t, "LawOfParameters, first", laws[0], impl.ErrNone)(impl.LawOfParameters(m, make([]int64, n)))
		wantsPlane(t, "LawOfParameters, last", laws[len(laws)-1], impl.ErrNone)(impl.LawOfParameters(m, slices.Repeat([]int64{m - 1}, n)))
		if !isSamePlane(laws[0], bilinearLaw(m, kind[1], 0)) {
			t.Errorf("%s begins with %s", callOfKind("AllLaws", kind), textOf(laws[0]))
		}
	}
}

// TestPromise25Extensions checks that the laws that extend the law n have the numbers from n times the modulus
// on, and are it when they are cut.
func TestPromise25Extensions(t *testing.T) {
	for _, kind := range someKindsOfClasses() {
		m, d := kind[0], kind[1]
		if d == 2 {
			continue
		}
		longer := lawsOf(t, kind)
		for n, f := range lawsOf(t, [2]int64{m, d - 1}) {
			var numbers []int64
			for _, g := range extensionsOfAll(t, []impl.Plane{f}) {
				number, _ := impl.NumberOfLaw(g)
				numbers = append(numbers, number)
			}
			slices.Sort(numbers)
			for c := range m {
				k := int64(n)*m + c
				if int64(len(numbers)) != m || numbers[c] != k {
					t.Fatalf("the laws that extend %s have the numbers %v", textOf(f), numbers)
				}
				wantsPlane(t, "CutPlane", f, impl.ErrNone)(impl.CutPlane(longer[k], d-1))
				wants(t, "ExtensionFactor", c, impl.ErrNone)(impl.ExtensionFactor(longer[int64(n)*m], longer[k]))
			}
		}
	}
}

// TestPromise25Laws takes laws of other chapters: each is found at its number.
func TestPromise25Laws(t *testing.T) {
	for _, kind := range someKindsOfClasses() {
		laws := lawsOf(t, kind)
		for _, f := range append(standardLaws(t, kind[0], kind[1]), sampleLaws(t, kind[0], kind[1])...) {
			number, code := impl.NumberOfLaw(f)
			if code != impl.ErrNone || number >= int64(len(laws)) || !isSamePlane(laws[number], f) {
				t.Errorf("NumberOfLaw(%s) = %d, %d", textOf(f), number, code)
			}
		}
	}
}
