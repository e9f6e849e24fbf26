package tests

import (
	"slices"
	"testing"

	"loop.example/g01152/impl"
)

// sizeAndAutomorphisms returns the size of the strict class of a law and the number of its strict automorphisms,
// as the program tells them.
func sizeAndAutomorphisms(t *testing.T, f impl.Plane) (int64, int64) {
	t.Helper()
	size, first := impl.SizeOfClass(f)
	automorphisms, second := impl.CountStrictAutomorphisms(f)
	if first != impl.ErrNone || second != impl.ErrNone || size < 1 || automorphisms < 1 {
		t.Fatalf("size and automorphisms of %s: %d, %d and %d, %d", textOf(f), size, first, automorphisms, second)
	}
	return size, automorphisms
}

// TestPromise11Sizes checks for all laws that the size of their strict class, times the number of their strict
// automorphisms, is the number of laws, and that the size is how many laws have the same least one.
func TestPromise11Sizes(t *testing.T) {
	for _, kind := range kindsOfClasses() {
		strict, _ := classesOf(t, kind)
		count, code := impl.CountLaws(kind[0], kind[1])
		for n, f := range lawsOf(t, kind) {
			size, automorphisms := sizeAndAutomorphisms(t, f)
			if size*automorphisms != count || code != impl.ErrNone {
				t.Errorf("%s has a class of %d and %d automorphisms, of %d laws", textOf(f), size, automorphisms, count)
			}
			if kind[1] > 2 || n%5 == 0 {
				wants(t, "SizeOfClass("+textOf(f)+")", occurrences(strict, strict[n]), impl.ErrNone)(impl.SizeOfClass(f))
			}
		}
	}
}

// TestPromise11SumOfSizes checks that each law is in one strict class: their sizes add up to the number of laws,
// and all laws of one have equally many strict automorphisms.
func TestPromise11SumOfSizes(t *testing.T) {
	for _, kind := range someKindsOfClasses() {
		strict, _ := classesOf(t, kind)
		laws := lawsOf(t, kind)
		sum := int64(0)
		for n, f := range laws {
			size, automorphisms := sizeAndAutomorphisms(t, f)
			if first := strict[n]; first == int64(n) {
				sum += size
			} else {
				wants(t, "CountStrictAutomorphisms", automorphisms, impl.ErrNone)(impl.CountStrictAutomorphisms(laws[first]))
				wants(t, "SizeOfClass", size, impl.ErrNone)(impl.SizeOfClass(laws[first]))
			}
		}
		if sum != int64(len(laws)) {
			t.Errorf("%s: the sizes add up to %d", callOfKind("classes", kind), sum)
		}
		wants(t, callOfKind("CountStrictClasses", kind), countLeast(strict), impl.ErrNone)(impl.CountStrictClasses(kind[0], kind[1]))
	}
}

// TestPromise11Parts checks that strict classes are parts of classes, and that both have their least laws first.
func TestPromise11Parts(t *testing.T) {
	for _, kind := range kindsOfClasses() {
		strict, classes := classesOf(t, kind)
		for n := range strict {
			first, least := strict[n], classes[n]
			if first < 0 || first > int64(n) || strict[first] != first || least < 0 || least > first || classes[least] != least || strict[least] != least {
				t.Errorf("%s: the law %d is in the strict class of %d and the class of %d", callOfKind("classes", kind), n, first, least)
			}
			if classes[first] != least {
				t.Errorf("%s: the strict class of %d is no part of the class of %d", callOfKind("classes", kind), first, least)
			}
		}
	}
}

// TestPromise11Isomorphisms checks that laws of one strict class, and of one class, are those between which there
// is a strict isomorphism, or an isomorphism: one leads from each law to the least one, and none from one of the
// least laws to another.
func TestPromise11Isomorphisms(t *testing.T) {
	for _, kind := range someKindsOfClasses() {
		strict, classes := classesOf(t, kind)
		laws := lawsOf(t, kind)
		for n, f := range laws {
			h := homomorphism{from: f, to: laws[strict[n]]}
			h.with(made(t, "StrictIsomorphism")(impl.StrictIsomorphism(h.from, h.to))).check(t, "StrictIsomorphism")
			h.to = laws[classes[n]]
			if isSearched(kind[0], kind[1]) {
				h.with(made(t, "IsomorphismOf")(impl.IsomorphismOf(h.from, h.to))).check(t, "IsomorphismOf")
			}
			for k, g := range laws[:n] {
				if strict[n] == int64(n) && strict[k] == int64(k) {
					wantsCode(t, "StrictIsomorphism", impl.ErrNotFound)(impl.StrictIsomorphism(f, g))
				}
				if classes[n] == int64(n) && classes[k] == int64(k) && isSearched(kind[0], kind[1]) {
					wantsCode(t, "IsomorphismOf", impl.ErrNotFound)(impl.IsomorphismOf(f, g))
				}
			}
		}
	}
}

// TestPromise11Coordinates checks that laws in strict coordinates stay in their strict class, and in all other
// coordinates in their class.
func TestPromise11Coordinates(t *testing.T) {
	for _, kind := range someKindsOfClasses() {
		strict, classes := classesOf(t, kind)
		curves, units := invertibleCurves(kind[0], kind[1]), unitsModulo(kind[0])
		for n, f := range lawsOf(t, kind) {
			for _, k := range []int{n * 5, n*7 + 3} {
				a := curves[k%len(curves)]
				a.Coefficients[1] = 1
				number, code := impl.NumberOfLaw(madePlane(t, "LawInCoordinate")(impl.LawInCoordinate(f, a)))
				if code != impl.ErrNone || strict[number] != strict[n] {
					t.Errorf("%s in the coordinate %v is the law %d", textOf(f), a, number)
				}
				a.Coefficients[1] = units[(n+k)%len(units)]
				number, code = impl.NumberOfLaw(madePlane(t, "LawInCoordinate")(impl.LawInCoordinate(f, a)))
				if code != impl.ErrNone || classes[number] != classes[n] {
					t.Errorf("%s in the coordinate %v is the law %d", textOf(f), a, number)
				}
			}
		}
	}
}

// TestPromise11Automorphisms checks that strict automorphisms are the homomorphisms from a law to itself with the
// coefficient 1 at t.
func TestPromise11Automorphisms(t *testing.T) {
	for _, kind := range someKindsOfClasses() {
		for n, f := range lawsOf(t, kind) {
			if !isSearched(kind[0], kind[1]) || n%5 != 0 {
				continue
			}
			want := int64(0)
			for _, h := range homomorphismsBetween(t, f, f) {
				want += oneIf(h.curve.Coefficients[1] == 1)
			}
			wants(t, "CountStrictAutomorphisms("+textOf(f)+")", want, impl.ErrNone)(impl.CountStrictAutomorphisms(f))
		}
	}
}

// TestGuarantee11Heights checks that laws of a class have the same height and unit, and that CountHeights tells
// how many laws are in the classes of each height.
func TestGuarantee11Heights(t *testing.T) {
	for _, kind := range kindsOfClasses() {
		if !slices.Contains(typicalPrimes, kind[0]) {
			continue
		}
		_, classes := classesOf(t, kind)
		laws, counts := lawsOf(t, kind), make([]int64, 4)
		for n, f := range laws {
			wantsSameHeight(t, "IsomorphismClasses", f, laws[classes[n]])
			if classes[n] == int64(n) {
				counts[heightOf(t, f).number] += occurrences(classes, int64(n))
			}
		}
		wantsList(t, callOfKind("CountHeights", kind), counts, impl.ErrNone)(impl.CountHeights(kind[0], kind[1]))
	}
}
