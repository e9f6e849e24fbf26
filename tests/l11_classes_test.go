package tests

import (
	"math"
	"slices"
	"sort"
	"strconv"
	"sync"
	"testing"

	"loop.example/g01152/impl"
)

// countUpTo returns how many laws there are of a modulus and a degree of at least 2, and a number greater than
// MaxClassed where there are more.
func countUpTo(m int64, d int64) int64 {
	count := int64(1)
	for range d - 1 {
		count = min(count*min(m, 1000), 1000)
	}
	return count
}

// kindsOfClasses returns all moduli and degrees whose laws are put into classes.
func kindsOfClasses() [][2]int64 {
	var kinds [][2]int64
	for d := int64(2); d <= 10; d++ {
		for m := int64(2); countUpTo(m, d) <= 300; m++ {
			kinds = append(kinds, [2]int64{m, d})
		}
	}
	return kinds
}

// someKindsOfClasses leaves out most moduli for the degree 2: it keeps small ones, prime numbers, their powers
// and products of several of them, and those next to the limit.
func someKindsOfClasses() [][2]int64 {
	var kinds [][2]int64
	for _, kind := range kindsOfClasses() {
		if kind[1] > 2 || kind[0] <= 16 || slices.Contains([]int64{25, 27, 30, 36, 49, 97, 128, 210, 243, 256, 289, 293, 299, 300}, kind[0]) {
			kinds = append(kinds, kind)
		}
	}
	return kinds
}

// callOfKind returns the text of a call with a modulus and a degree.
func callOfKind(name string, kind [2]int64) string {
	return name + "(" + strconv.FormatInt(kind[0], 10) + ", " + strconv.FormatInt(kind[1], 10) + ")"
}

// lawsOf returns all laws of a modulus and a degree, as the program tells them.
func lawsOf(t *testing.T, kind [2]int64) []impl.Plane {
	t.Helper()
	laws, code := impl.AllLaws(kind[0], kind[1])
	if code != impl.ErrNone || int64(len(laws)) != countUpTo(kind[0], kind[1]) {
		t.Fatalf("%s: %d laws, code %d", callOfKind("AllLaws", kind), len(laws), code)
	}
	return laws
}

// classesOf returns the strict classes and the classes of a modulus and a degree, as the program tells them.
func classesOf(t *testing.T, kind [2]int64) ([]int64, []int64) {
	t.Helper()
	strict, first := impl.StrictClasses(kind[0], kind[1])
	classes, second := impl.IsomorphismClasses(kind[0], kind[1])
	count := countUpTo(kind[0], kind[1])
	if first != impl.ErrNone || second != impl.ErrNone || int64(len(strict)) != count || int64(len(classes)) != count {
		t.Fatalf("%s: codes %d and %d, %v and %v", callOfKind("classes", kind), first, second, strict, classes)
	}
	return strict, classes
}

// numberOf returns the number of a law without the program.
func numberOf(f impl.Plane) int64 {
	number := int64(0)
	for _, c := range parametersOf(f) {
		number = number*f.Modulus + c
	}
	return number
}

// lawsByTrial returns all laws in the order of their parameters without the program, but for IsLaw in degrees
// above 6: x + y is extended again and again by all layers that fit.
func lawsByTrial(kind [2]int64) []impl.Plane {
	laws := []impl.Plane{bilinearLaw(kind[0], 1, 0)}
	for range kind[1] - 1 {
		var longer []impl.Plane
		for _, f := range laws {
			longer = append(longer, extensionsByTrial(f)...)
		}
		laws = longer
	}
	sort.Slice(laws, func(i int, j int) bool { return slices.Compare(parametersOf(laws[i]), parametersOf(laws[j])) < 0 })
	return laws
}

// classesByCurves returns for each law the number of the least law to which one of all curves leads whose
// coefficients at t are in a list; these have to make a group. The curves are those from the least laws.
func classesByCurves(t *testing.T, kind [2]int64, firsts []int64) []int64 {
	t.Helper()
	laws := lawsOf(t, kind)
	numbers := map[string]int{}
	for n, f := range laws {
		numbers[textOf(f)] = n
	}
	least := slices.Repeat([]int64{-1}, len(laws))
	curves := curvesWithFirst(kind[0], kind[1], firsts)
	for n, f := range laws {
		if least[n] >= 0 {
			continue
		}
		for _, a := range curves {
			k, isThere := numbers[textOf(inCoordinate(t, f, a))]
			if !isThere {
				t.Fatalf("%s in the coordinate %v is not among all laws", textOf(f), a)
			}
			least[k] = int64(n)
		}
	}
	return least
}

// unitsModulo returns all units modulo m.
func unitsModulo(m int64) []int64 {
	return slices.DeleteFunc(numbersModulo(m), func(u int64) bool { return !isUnitOf(m, u) })
}

// occurrences returns how often a number is in a list.
func occurrences(list []int64, number int64) int64 {
	count := int64(0)
	for _, n := range list {
		count += oneIf(n == number)
	}
	return count
}

// countLeast returns the number of classes, each of which has one least law.
func countLeast(classes []int64) int64 {
	count := int64(0)
	for n, first := range classes {
		count += oneIf(first == int64(n))
	}
	return count
}

// TestClassesInExamples gives classes that are known.
func TestClassesInExamples(t *testing.T) {
	if impl.MaxClassed != 300 {
		t.Errorf("MaxClassed = %d", impl.MaxClassed)
	}
	wantsList(t, "AllLaws(2, 3)", []impl.Plane{
		parsed(t, "2:0,1,0,0/1,0,0/0,0/0"), parsed(t, "2:0,1,0,0/1,0,1/0,1/0"), parsed(t, "2:0,1,0,0/1,1,0/0,0/0"), parsed(t, "2:0,1,0,0/1,1,1/0,1/0"),
	}, impl.ErrNone)(impl.AllLaws(2, 3))
	wantsList(t, "AllLaws(3, 2)", []impl.Plane{bilinearLaw(3, 2, 0), bilinearLaw(3, 2, 1), bilinearLaw(3, 2, 2)}, impl.ErrNone)(impl.AllLaws(3, 2))
	wants(t, "NumberOfLaw", int64(3), impl.ErrNone)(impl.NumberOfLaw(parsed(t, "2:0,1,0,0/1,1,1/0,1/0")))
	wantsList(t, "StrictClasses(2, 2)", []int64{0, 1}, impl.ErrNone)(impl.StrictClasses(2, 2))
	wantsList(t, "IsomorphismClasses(3, 2)", []int64{0, 0, 0}, impl.ErrNone)(impl.IsomorphismClasses(3, 2))
	// In the coordinate t + t^2, x + y has the terms x^2 y and x y^2 modulo 2.
	wantsList(t, "StrictClasses(2, 3)", []int64{0, 0, 2, 2}, impl.ErrNone)(impl.StrictClasses(2, 3))
	wantsList(t, "IsomorphismClasses(2, 3)", []int64{0, 0, 2, 2}, impl.ErrNone)(impl.IsomorphismClasses(2, 3))
	// The multiple by 3 is t^3 for x + y + x y and x + y + 2 x y, and 2 c t^3 for x + y + c C(3).
	wantsList(t, "StrictClasses(3, 3)", []int64{0, 1, 2, 2, 0, 1, 2, 0, 1}, impl.ErrNone)(impl.StrictClasses(3, 3))
	wantsList(t, "IsomorphismClasses(3, 3)", []int64{0, 1, 2, 2, 0, 1, 2, 0, 1}, impl.ErrNone)(impl.IsomorphismClasses(3, 3))
	wants(t, "CountStrictClasses(2, 2)", int64(2), impl.ErrNone)(impl.CountStrictClasses(2, 2))
	wants(t, "CountStrictClasses(6, 4)", int64(12), impl.ErrNone)(impl.CountStrictClasses(6, 4))
	wants(t, "CountStrictClasses(2, 9)", int64(8), impl.ErrNone)(impl.CountStrictClasses(2, 9))
	wantsList(t, "CountHeights(2, 2)", []int64{1, 1, 0, 0}, impl.ErrNone)(impl.CountHeights(2, 2))
	wantsList(t, "CountHeights(2, 9)", []int64{32, 128, 64, 32}, impl.ErrNone)(impl.CountHeights(2, 9))
	wantsList(t, "CountHeights(3, 6)", []int64{81, 162, 0, 0}, impl.ErrNone)(impl.CountHeights(3, 6))
	wantsList(t, "CountHeights(7, 3)", []int64{49, 0, 0, 0}, impl.ErrNone)(impl.CountHeights(7, 3))
}

// TestAllLaws compares all laws with those found by trial. These are in the order of their parameters, and all
// are different.
func TestAllLaws(t *testing.T) {
	for _, kind := range someKindsOfClasses() {
		wantsList(t, callOfKind("AllLaws", kind), lawsByTrial(kind), impl.ErrNone)(impl.AllLaws(kind[0], kind[1]))
	}
}

// TestAllLawsInOrder checks for all moduli and degrees that the list has laws in the order of their parameters.
func TestAllLawsInOrder(t *testing.T) {
	for _, kind := range kindsOfClasses() {
		for n, f := range lawsOf(t, kind) {
			if f.Modulus != kind[0] || degreeOfPlane(f) != kind[1] || !impl.IsLaw(f) || numberOf(f) != int64(n) {
				t.Errorf("%s has %s at %d", callOfKind("AllLaws", kind), textOf(f), n)
			}
		}
	}
}

// TestAllLawsAmongPlanes compares all laws with those among all planes.
func TestAllLawsAmongPlanes(t *testing.T) {
	for _, kind := range [][2]int64{{2, 2}, {3, 2}, {4, 2}, {2, 3}} {
		var want []impl.Plane
		for _, f := range allPlanes(kind[0], kind[1]) {
			if faultOf(f) == nil {
				want = append(want, f)
			}
		}
		sort.Slice(want, func(i int, j int) bool { return numberOf(want[i]) < numberOf(want[j]) })
		wantsList(t, callOfKind("AllLaws", kind), want, impl.ErrNone)(impl.AllLaws(kind[0], kind[1]))
	}
}

// TestNumberOfLaw takes laws that are known without all others: those of other chapters, in coordinates, and the
// first and the last one.
func TestNumberOfLaw(t *testing.T) {
	for _, kind := range kindsOfClasses() {
		m, d := kind[0], kind[1]
		for n, f := range append(standardLaws(t, m, d), sampleLaws(t, m, d)...) {
			if m <= 16 || n%7 == 0 {
				wants(t, "NumberOfLaw("+textOf(f)+")", numberOf(f), impl.ErrNone)(impl.NumberOfLaw(f))
			}
		}
		last := madePlane(t, "LawOfParameters")(impl.LawOfParameters(m, slices.Repeat([]int64{m - 1}, int(d-1))))
		wants(t, "NumberOfLaw, first", int64(0), impl.ErrNone)(impl.NumberOfLaw(bilinearLaw(m, d, 0)))
		wants(t, "NumberOfLaw, last", countUpTo(m, d)-1, impl.ErrNone)(impl.NumberOfLaw(last))
		for _, c := range sample(m) {
			if d == 2 {
				wants(t, "NumberOfLaw", c, impl.ErrNone)(impl.NumberOfLaw(bilinearLaw(m, d, c)))
			}
		}
	}
}

// TestStrictClasses compares strict classes with those found by all strict curves.
func TestStrictClasses(t *testing.T) {
	for _, kind := range someKindsOfClasses() {
		want := classesByCurves(t, kind, []int64{1})
		wantsList(t, callOfKind("StrictClasses", kind), want, impl.ErrNone)(impl.StrictClasses(kind[0], kind[1]))
		wants(t, callOfKind("CountStrictClasses", kind), countLeast(want), impl.ErrNone)(impl.CountStrictClasses(kind[0], kind[1]))
	}
}

// TestIsomorphismClasses compares classes with those found by all curves whose coefficient at t is a unit.
func TestIsomorphismClasses(t *testing.T) {
	for _, kind := range someKindsOfClasses() {
		want := classesByCurves(t, kind, unitsModulo(kind[0]))
		wantsList(t, callOfKind("IsomorphismClasses", kind), want, impl.ErrNone)(impl.IsomorphismClasses(kind[0], kind[1]))
	}
}

// TestClassesInDegreeTwo takes all moduli with the degree 2: t + a t^2 adds 2 a to the coefficient at x y, and
// u t divides it by u, which is odd for even moduli.
func TestClassesInDegreeTwo(t *testing.T) {
	for m := int64(2); m <= 300; m++ {
		want := make([]int64, m)
		for c := range want {
			want[c] = int64(c) % 2 * oneIf(m%2 == 0)
		}
		kind := [2]int64{m, 2}
		wantsList(t, callOfKind("StrictClasses", kind), want, impl.ErrNone)(impl.StrictClasses(m, 2))
		wantsList(t, callOfKind("IsomorphismClasses", kind), want, impl.ErrNone)(impl.IsomorphismClasses(m, 2))
		wants(t, callOfKind("CountStrictClasses", kind), 1+oneIf(m%2 == 0), impl.ErrNone)(impl.CountStrictClasses(m, 2))
	}
}

// TestClassesWithLogarithms takes moduli and degrees for which the numbers 1 to the degree are units: all laws
// are in the class of x + y, to which their logarithms lead, and have no strict automorphisms but t.
func TestClassesWithLogarithms(t *testing.T) {
	count := 0
	for _, kind := range kindsOfClasses() {
		if !haveInverses(kind[0], kind[1]) {
			continue
		}
		count++
		size := countUpTo(kind[0], kind[1])
		wantsList(t, callOfKind("StrictClasses", kind), make([]int64, size), impl.ErrNone)(impl.StrictClasses(kind[0], kind[1]))
		wantsList(t, callOfKind("IsomorphismClasses", kind), make([]int64, size), impl.ErrNone)(impl.IsomorphismClasses(kind[0], kind[1]))
		wants(t, callOfKind("CountStrictClasses", kind), int64(1), impl.ErrNone)(impl.CountStrictClasses(kind[0], kind[1]))
		for n, f := range lawsOf(t, kind) {
			if n%17 == 0 {
				wants(t, "SizeOfClass("+textOf(f)+")", size, impl.ErrNone)(impl.SizeOfClass(f))
				wants(t, "CountStrictAutomorphisms("+textOf(f)+")", int64(1), impl.ErrNone)(impl.CountStrictAutomorphisms(f))
			}
		}
	}
	if count < 100 {
		t.Errorf("%d moduli and degrees with logarithms", count)
	}
}

// TestSizesOfClasses compares sizes with the classes found by all strict curves. Laws that are alone in their
// strict class are those of the modulus 2 and the degree 2.
func TestSizesOfClasses(t *testing.T) {
	for _, kind := range someKindsOfClasses() {
		classes := classesByCurves(t, kind, []int64{1})
		for n, f := range lawsOf(t, kind) {
			want := occurrences(classes, classes[n])
			wants(t, "SizeOfClass("+textOf(f)+")", want, impl.ErrNone)(impl.SizeOfClass(f))
			if (want == 1) != (kind == [2]int64{2, 2}) {
				t.Errorf("%d laws are in the strict class of %s", want, textOf(f))
			}
		}
	}
}

// TestCountStrictAutomorphisms compares numbers of strict automorphisms with those among all strict curves.
func TestCountStrictAutomorphisms(t *testing.T) {
	counts := map[int64]int{}
	for _, kind := range someKindsOfClasses() {
		curves := curvesWithFirst(kind[0], kind[1], []int64{1})
		for n, f := range lawsOf(t, kind) {
			if n%(len(curves)/30+1) != 0 && n+1 != len(curves) {
				continue
			}
			isAutomorphism, want := homomorphismTest(f, f), int64(0)
			for _, a := range curves {
				want += oneIf(isAutomorphism(a))
			}
			wants(t, "CountStrictAutomorphisms("+textOf(f)+")", want, impl.ErrNone)(impl.CountStrictAutomorphisms(f))
			counts[want]++
		}
	}
	for _, want := range []int64{1, 2, 3, 4, 6, 8, 12} {
		if counts[want] < 2 {
			t.Errorf("numbers of laws with each number of strict automorphisms: %v", counts)
		}
	}
}

// TestAutomorphismsOfAddition takes x + y with all moduli and degrees: its strict automorphisms are the strict
// curves that keep sums.
func TestAutomorphismsOfAddition(t *testing.T) {
	for _, kind := range kindsOfClasses() {
		f := bilinearLaw(kind[0], kind[1], 0)
		// With other coefficients at t there are as many such curves for each of them.
		want := int64(len(additiveCurves(kind[0], kind[1]))) / kind[0]
		wants(t, "CountStrictAutomorphisms("+textOf(f)+")", want, impl.ErrNone)(impl.CountStrictAutomorphisms(f))
		wants(t, "SizeOfClass("+textOf(f)+")", countUpTo(kind[0], kind[1])/want, impl.ErrNone)(impl.SizeOfClass(f))
	}
}

// TestCountHeights counts the heights of all laws without the program, and compares them with those of typical
// laws, to each of which equally many laws lead: p - 1 of p parameters v(1) make the height 1, with v(1) = 0 as
// many of p parameters v(2) the height 2, and so on.
func TestCountHeights(t *testing.T) {
	isThere := map[int64]bool{}
	for _, kind := range kindsOfClasses() {
		p, d := kind[0], kind[1]
		if !slices.Contains(typicalPrimes, p) {
			continue
		}
		counts, rest := make([]int64, 4), countUpTo(p, d)
		for _, f := range lawsOf(t, kind) {
			h, _ := heightByDefinition(t, f)
			counts[h]++
			isThere[h] = true
		}
		wantsList(t, callOfKind("CountHeights", kind), counts, impl.ErrNone)(impl.CountHeights(p, d))
		for h := int64(1); powerUpTo(p, h) <= d; h++ {
			rest /= p
			counts[h] -= rest * (p - 1)
		}
		counts[0] -= rest
		if !slices.Equal(counts, make([]int64, 4)) {
			t.Errorf("%s has %v more than typical laws tell", callOfKind("CountHeights", kind), counts)
		}
	}
	if len(isThere) != 4 {
		t.Errorf("heights of laws: %v", isThere)
	}
}

// wantsNoClasses checks that all functions that take a modulus and a degree return a code. The last one takes
// no other moduli than the four prime numbers.
func wantsNoClasses(t *testing.T, m int64, d int64, code int64) {
	t.Helper()
	kind := [2]int64{m, d}
	wantsList[impl.Plane](t, callOfKind("AllLaws", kind), nil, code)(impl.AllLaws(m, d))
	wantsList[int64](t, callOfKind("StrictClasses", kind), nil, code)(impl.StrictClasses(m, d))
	wantsList[int64](t, callOfKind("IsomorphismClasses", kind), nil, code)(impl.IsomorphismClasses(m, d))
	wants(t, callOfKind("CountStrictClasses", kind), int64(0), code)(impl.CountStrictClasses(m, d))
	if !slices.Contains(typicalPrimes, m) {
		code = impl.ErrRange
	}
	wantsList[int64](t, callOfKind("CountHeights", kind), nil, code)(impl.CountHeights(m, d))
}

// wantsCodeOfClasses checks that all functions that take a law return a code.
func wantsCodeOfClasses(t *testing.T, f impl.Plane, code int64) {
	t.Helper()
	call := "(" + textOf(f) + ")"
	wants(t, "NumberOfLaw"+call, int64(0), code)(impl.NumberOfLaw(f))
	wants(t, "SizeOfClass"+call, int64(0), code)(impl.SizeOfClass(f))
	wants(t, "CountStrictAutomorphisms"+call, int64(0), code)(impl.CountStrictAutomorphisms(f))
}

// TestClassesOutOfRange gives moduli and degrees out of their ranges, one or both of them, also where there
// would be too many laws.
func TestClassesOutOfRange(t *testing.T) {
	noDegrees := []int64{math.MinInt64, -2, -1, 0, 1, 11, 12, 100, math.MaxInt64}
	for _, m := range noModuli {
		for _, d := range append(slices.Clone(degrees), noDegrees...) {
			wantsNoClasses(t, m, d, impl.ErrRange)
		}
	}
	for _, m := range append([]int64{299, 300, 301, 4096}, append(moduli, typicalPrimes...)...) {
		for _, d := range noDegrees {
			wantsNoClasses(t, m, d, impl.ErrRange)
		}
	}
}

// TestNoHeightsCounted gives integers that are none of the four prime numbers, with all degrees, also those that
// are out of their range or for which there would be too many laws.
func TestNoHeightsCounted(t *testing.T) {
	for _, p := range append(slices.Clone(noTypicalPrimes), 12, 17, 97, 256, 300, 301, 10000, 10001) {
		for _, d := range append([]int64{math.MinInt64, 0, 11, math.MaxInt64}, degrees...) {
			wantsList[int64](t, callOfKind("CountHeights", [2]int64{p, d}), nil, impl.ErrRange)(impl.CountHeights(p, d))
		}
	}
}

// TestLimitsOfClasses gives, for each degree, moduli next to the greatest one with at most MaxClassed laws, and
// others up to MaxModulus: with powers of 2, products could come out as 0.
func TestLimitsOfClasses(t *testing.T) {
	for d := int64(2); d <= 10; d++ {
		list := []int64{2, 3, 4, 5, 6, 7, 8, 11, 12, 16, 17, 18, 64, 128, 256, 299, 300, 301, 302, 512, 1024, 2048, 4096, 8192, 9999, 10000}
		for m := int64(2); m <= 300; m++ {
			if countUpTo(m, d) <= 300 && countUpTo(m+1, d) > 300 {
				list = append(list, m, m+1)
			}
		}
		for _, m := range list {
			f := bilinearLaw(m, d, 1)
			if countUpTo(m, d) > 300 {
				wantsNoClasses(t, m, d, impl.ErrLimit)
				wantsCodeOfClasses(t, bilinearLaw(m, d, 0), impl.ErrLimit)
				wantsCodeOfClasses(t, f, impl.ErrLimit)
				continue
			}
			strict, _ := classesOf(t, [2]int64{m, d})
			number := numberOf(f)
			wants(t, "NumberOfLaw("+textOf(f)+")", number, impl.ErrNone)(impl.NumberOfLaw(f))
			wants(t, "SizeOfClass("+textOf(f)+")", occurrences(strict, strict[number]), impl.ErrNone)(impl.SizeOfClass(f))
			wants(t, "CountStrictClasses", countLeast(strict), impl.ErrNone)(impl.CountStrictClasses(m, d))
			if slices.Contains(typicalPrimes, m) {
				heights, code := impl.CountHeights(m, d)
				if len(heights) != 4 || code != impl.ErrNone {
					t.Errorf("CountHeights(%d, %d) = %v, %d", m, d, heights, code)
				}
			}
		}
	}
}

// TestNoLawsInClasses gives planes that are no laws, also those of the degree 1 and those with a modulus and a
// degree of which there are too many laws.
func TestNoLawsInClasses(t *testing.T) {
	for _, bad := range append(noHeightLaws(), withTerm(bilinearLaw(301, 2, 0), 0, 2), withTerm(bilinearLaw(10000, 10, 0), 5, 5), withTerm(bilinearLaw(10000, 1, 0), 0, 1)) {
		wantsCodeOfClasses(t, bad, impl.ErrInvalid)
	}
}

// TestDegreeOneInClasses gives the law of the degree 1 with all kinds of moduli.
func TestDegreeOneInClasses(t *testing.T) {
	for _, m := range append([]int64{299, 300, 301}, moduli...) {
		wantsCodeOfClasses(t, bilinearLaw(m, 1, 0), impl.ErrState)
	}
}

// operationsOnClasses are all functions that return lists of numbers or take a law, given out as lists.
func operationsOnClasses() map[string]func(f impl.Plane) ([]int64, int64) {
	inList := func(n int64, code int64) ([]int64, int64) { return []int64{n}, code }
	return map[string]func(f impl.Plane) ([]int64, int64){
		"NumberOfLaw":              func(f impl.Plane) ([]int64, int64) { return inList(impl.NumberOfLaw(f)) },
		"SizeOfClass":              func(f impl.Plane) ([]int64, int64) { return inList(impl.SizeOfClass(f)) },
		"CountStrictAutomorphisms": func(f impl.Plane) ([]int64, int64) { return inList(impl.CountStrictAutomorphisms(f)) },
		"StrictClasses":            func(f impl.Plane) ([]int64, int64) { return impl.StrictClasses(f.Modulus, 6) },
		"IsomorphismClasses":       func(f impl.Plane) ([]int64, int64) { return impl.IsomorphismClasses(f.Modulus, 6) },
		"CountStrictClasses":       func(f impl.Plane) ([]int64, int64) { return inList(impl.CountStrictClasses(f.Modulus, 6)) },
		"CountHeights":             func(f impl.Plane) ([]int64, int64) { return impl.CountHeights(f.Modulus, 6) },
	}
}

// TestClassesMemory checks all functions of the chapter.
func TestClassesMemory(t *testing.T) {
	for name, operation := range operationsOnClasses() {
		checkListMemory(t, name, madePlane(t, "TypicalLaw")(impl.TypicalLaw(3, 3, 6, []int64{2})), operation)
	}
	checkMemory(t, "AllLaws", func(f impl.Plane, a impl.Series) (impl.Plane, int64) {
		laws, code := impl.AllLaws(7, 3)
		all := plane(7)
		for _, g := range laws {
			all.Table = append(all.Table, g.Table...)
		}
		return all, code
	})
	// The tables of all laws are separate, too.
	want := lawsOf(t, [2]int64{2, 5})
	for n := range want {
		laws := lawsOf(t, [2]int64{2, 5})
		spoil(laws[n])
		laws[n] = want[n]
		wantsList(t, "AllLaws", want, impl.ErrNone)(laws, impl.ErrNone)
	}
}

// TestClassesAtTheSameTime makes many calls at the same time and again, which have to tell what one call alone
// tells.
func TestClassesAtTheSameTime(t *testing.T) {
	kinds := [][2]int64{{2, 5}, {2, 8}, {3, 4}, {4, 4}, {6, 3}, {16, 2}, {300, 2}}
	strict, classes := make([][]int64, len(kinds)), make([][]int64, len(kinds))
	for n, kind := range kinds {
		strict[n], classes[n] = classesOf(t, kind)
	}
	var calls sync.WaitGroup
	for n := range 5 * len(kinds) {
		calls.Add(1)
		go func() {
			defer calls.Done()
			k := n % len(kinds)
			wantsList(t, callOfKind("StrictClasses", kinds[k]), strict[k], impl.ErrNone)(impl.StrictClasses(kinds[k][0], kinds[k][1]))
			wantsList(t, callOfKind("IsomorphismClasses", kinds[k]), classes[k], impl.ErrNone)(impl.IsomorphismClasses(kinds[k][0], kinds[k][1]))
		}()
	}
	calls.Wait()
}
