package tests

import (
	"slices"
	"testing"

	"loop.example/g01119/impl"
)

// exchangeCycle returns the cycle set of two copies of a cycle set, which do not act on each other,
// and of one element behind them that exchanges the copies.
func exchangeCycle(c impl.CycleSet) impl.CycleSet {
	n := int64(len(c.Table))
	return cycleMade(2*len(c.Table)+1, func(x, y int64) int64 {
		switch {
		case y == 2*n:
			return y
		case x == 2*n:
			return (y + n) % (2 * n)
		case x/n == y/n:
			return c.Table[x%n][y%n] + x/n*n
		}
		return y
	})
}

// fallingCycle returns a cycle set of 4 elements whose retracts have 3, 2 and 1 elements.
func fallingCycle() impl.CycleSet {
	return impl.CycleSet{Table: [][]int64{{3, 2, 1, 0}, {0, 2, 1, 3}, {0, 2, 1, 3}, {3, 1, 2, 0}}}
}

// steepCycle returns a cycle set of 5 elements whose retracts have 4, 2 and 1 elements.
func steepCycle() impl.CycleSet {
	return impl.CycleSet{Table: [][]int64{{4, 3, 2, 1, 0}, {0, 3, 2, 1, 4}, {0, 1, 2, 3, 4}, {0, 3, 2, 1, 4}, {4, 1, 2, 3, 0}}}
}

// retractionSolutions returns nondegenerate solutions with 1 to 12 elements, of different levels and
// without one, all those of 4 elements that come from cycle sets or from racks with a twist among
// them.
func retractionSolutions() []impl.Solution {
	list := groupSolutions()
	for _, c := range slices.Concat(foundCycles(4), []impl.CycleSet{fallingCycle(), steepCycle(), exchangeCycle(trivialCycle(1)), exchangeCycle(trivialCycle(5)),
		exchangeCycle(permutationCycle(turn(2, 1))), exchangeCycle(exchangeCycle(trivialCycle(1))), exchangeCycle(fallingCycle()), exchangeCycle(steepCycle())}) {
		list = append(list, solutionOf(c), renamedMap(solutionOf(c), reversedTurn(len(c.Table))))
	}
	for _, r := range foundRacks(4) {
		for _, p := range everyPermutation(4) {
			if isAutomorphism(r, p) {
				list = append(list, twistedOf(r, p), mirrorOf(twistedOf(r, p)))
			}
		}
	}
	for _, r := range []impl.Rack{affineRack(8, 3), affineRack(8, 5), affineRack(9, 4), affineRack(12, 7)} {
		s := solutionOfRack(r)
		list = append(list, s, mirrorOf(s), renamedMap(s, reversedTurn(size(s))))
	}
	three, four := dihedralOf(3), dihedralOf(4)
	return append(list, productOf(three, mirrorOf(three)), productOf(mirrorOf(three), four), productOf(mirrorOf(four), three))
}

// alikeOf numbers the elements by what they do: by their rows of First and their columns of Second.
func alikeOf(s impl.Solution) []int64 {
	classes, found := []int64{}, []string{}
	for x := range s.First {
		does := textOf(s.First[x]) + "|" + textOf(rhosOf(s)[x])
		if !slices.Contains(found, does) {
			found = append(found, does)
		}
		classes = append(classes, int64(slices.Index(found, does)))
	}
	return classes
}

// retractBy returns the pair map of the classes, made from all pairs of elements. It fails if two
// pairs of elements of the same classes are led to different classes.
func retractBy(t *testing.T, s impl.Solution, classes []int64) impl.Solution {
	t.Helper()
	n := int(slices.Max(classes)) + 1
	r := sol(constantTable(n, -1), constantTable(n, -1))
	for x, a := range classes {
		for y, b := range classes {
			p, before := led(s, int64(x), int64(y)), led(r, a, b)
			want := [2]int64{classes[p[0]], classes[p[1]]}
			if before != want && before != [2]int64{-1, -1} {
				t.Errorf("%v, with the classes %v: the retract depends on the elements", s, classes)
			}
			r.First[a][b], r.Second[a][b] = want[0], want[1]
		}
	}
	return r
}

// seriesOf returns the solutions of the series, and the labels for each of them.
func seriesOf(t *testing.T, s impl.Solution) (list []impl.Solution, labels [][]int64) {
	t.Helper()
	list, labels = []impl.Solution{s}, [][]int64{identity(size(s))}
	for {
		last := list[len(list)-1]
		classes := alikeOf(last)
		if int(slices.Max(classes)) == size(last)-1 {
			return list, labels
		}
		list = append(list, retractBy(t, last, classes))
		labels = append(labels, doneThen(labels[len(labels)-1], classes))
	}
}

// checkClasses checks the classes of a solution and its retract. Promise 28: elements are of one
// class exactly if their lambda and rho are equal. Promise 8: the retract is a nondegenerate
// solution. The guarantee of the chapter: that of an involutive one is involutive.
func checkClasses(t *testing.T, s impl.Solution) {
	t.Helper()
	classes, c := impl.AlikeClasses(s)
	if !slices.Equal(classes, alikeOf(s)) || c != impl.ErrNone {
		t.Fatalf("AlikeClasses(%v) = %v, %d, want %v", s, classes, c, alikeOf(s))
	}
	lambdas, _ := impl.LambdaMaps(s)
	rhos, _ := impl.RhoMaps(s)
	for x := range classes {
		for y := range classes {
			if (classes[x] == classes[y]) != (slices.Equal(lambdas[x], lambdas[y]) && slices.Equal(rhos[x], rhos[y])) {
				t.Errorf("AlikeClasses(%v) = %v, but lambda are %v, and rho %v", s, classes, lambdas, rhos)
			}
		}
	}
	r, c := impl.RetractOf(s)
	if !equalSolutions(r, retractBy(t, s, classes)) || c != impl.ErrNone {
		t.Fatalf("RetractOf(%v) = %v, %d", s, r, c)
	}
	if !hasSolution(r) || !isNondegenerate(r) || !impl.IsSolution(r) {
		t.Errorf("RetractOf(%v) = %v is no nondegenerate solution", s, r)
	}
	if isInvolutive(s) && !isInvolutive(r) {
		t.Errorf("RetractOf(%v) = %v is not involutive", s, r)
	}
	twist, c := impl.IsTwist(s)
	if want := slices.Equal(classes, make([]int64, size(s))); twist != want || c != impl.ErrNone {
		t.Errorf("IsTwist(%v) = %v, %d", s, twist, c)
	}
	irretractable, c := impl.IsIrretractable(s)
	if want := size(s) > 1 && size(r) == size(s); irretractable != want || c != impl.ErrNone {
		t.Errorf("IsIrretractable(%v) = %v, %d", s, irretractable, c)
	}
}

// checkSeries checks the series of a solution, and returns its level, or -1 if it has none.
func checkSeries(t *testing.T, s impl.Solution) int64 {
	t.Helper()
	list, labels := seriesOf(t, s)
	sizes := []int64{}
	for k, r := range list {
		sizes = append(sizes, int64(size(r)))
		if got, c := impl.SeriesLabels(s, int64(k)); !slices.Equal(got, labels[k]) || c != impl.ErrNone {
			t.Errorf("SeriesLabels(%v, %d) = %v, %d, want %v", s, k, got, c, labels[k])
		}
	}
	for _, k := range notElements(len(list)) {
		if got, c := impl.SeriesLabels(s, k); len(got) != 0 || c != impl.ErrNotFound {
			t.Errorf("SeriesLabels(%v, %d) = %v, %d", s, k, got, c)
		}
	}
	if got, c := impl.RetractSizes(s); !slices.Equal(got, sizes) || c != impl.ErrNone {
		t.Errorf("RetractSizes(%v) = %v, %d, want %v", s, got, c, sizes)
	}
	last := list[len(list)-1]
	if got, c := impl.LastRetract(s); !equalSolutions(got, last) || c != impl.ErrNone {
		t.Errorf("LastRetract(%v) = %v, %d, want %v", s, got, c, last)
	}
	level, want := int64(len(list)-1), int64(impl.ErrNone)
	if size(last) > 1 {
		level, want = -1, impl.ErrNotFound
	}
	if got, c := impl.LevelOf(s); got != max(level, 0) || c != want {
		t.Errorf("LevelOf(%v) = %d, %d, want %d", s, got, c, level)
	}
	return level
}

// checkLevel checks what levels have to do with each other. Promise 28: the level of the retract is
// one less. The guarantee of the chapter: with more than one element the level is 1 exactly if all
// elements act alike.
func checkLevel(t *testing.T, s impl.Solution, level int64) {
	t.Helper()
	r, _ := impl.RetractOf(s)
	of, c := impl.LevelOf(r)
	switch {
	case level < 0 && (of != 0 || c != impl.ErrNotFound), level == 0 && (of != 0 || c != impl.ErrNone), level > 0 && (of != level-1 || c != impl.ErrNone):
		t.Errorf("%v has the level %d, and its retract %d, %d", s, level, of, c)
	}
	if alike := slices.Max(alikeOf(s)) == 0; size(s) > 1 && alike != (level == 1) {
		t.Errorf("%v has the level %d, and the classes %v", s, level, alikeOf(s))
	}
}

// checkClassSolutions checks the parts of a solution, and returns how many classes are closed.
func checkClassSolutions(t *testing.T, s impl.Solution) (closed int) {
	t.Helper()
	classes := alikeOf(s)
	count := int(slices.Max(classes)) + 1
	for class := range int64(count) {
		set := elementsIn(classes, class)
		got, c := impl.ClassSolution(s, class)
		if !isClosedUnder(s, set) {
			if !isZero(got) || c != impl.ErrNotFound {
				t.Errorf("ClassSolution(%v, %d) = %v, %d", s, class, got, c)
			}
			continue
		}
		closed++
		if !equalSolutions(got, partOf(s, set)) || c != impl.ErrNone {
			t.Errorf("ClassSolution(%v, %d) = %v, %d, want %v", s, class, got, c, partOf(s, set))
		}
		if part, _ := impl.SubSolution(s, set); !equalSolutions(got, part) {
			t.Errorf("ClassSolution(%v, %d) = %v, but SubSolution makes %v", s, class, got, part)
		}
	}
	for _, class := range notElements(count) {
		if got, c := impl.ClassSolution(s, class); !isZero(got) || c != impl.ErrNotFound {
			t.Errorf("ClassSolution(%v, %d) = %v, %d", s, class, got, c)
		}
	}
	return closed
}

// haveOnlyOne reports whether some elements have equal lambda and different rho.
func haveOnlyOne(lambdas [][]int64, rhos [][]int64) bool {
	for x := range lambdas {
		for y := range x {
			if slices.Equal(lambdas[x], lambdas[y]) && !slices.Equal(rhos[x], rhos[y]) {
				return true
			}
		}
	}
	return false
}

func TestRetraction(t *testing.T) {
	kinds, sizes, levels := map[string]int{}, map[int]bool{}, map[int64]int{}
	for _, s := range retractionSolutions() {
		if !hasSolution(s) || !isNondegenerate(s) {
			t.Fatalf("%v is no nondegenerate solution", s)
		}
		checkClasses(t, s)
		level := checkSeries(t, s)
		checkLevel(t, s, level)
		closed := checkClassSolutions(t, s)
		classes := alikeOf(s)
		count := int(slices.Max(classes)) + 1
		sizes[size(s)] = true
		levels[level]++
		for kind, is := range map[string]bool{"equal lambda, different rho": haveOnlyOne(s.First, rhosOf(s)), "equal rho, different lambda": haveOnlyOne(rhosOf(s), s.First),
			"all classes closed": closed == count, "no class closed": closed == 0, "some classes closed": closed > 0 && closed < count,
			"irretractable": level < 0 && count == size(s), "retracted to an irretractable one": level < 0 && count < size(s),
			"classes that lie apart": !slices.IsSorted(classes), "classes of different sizes": size(s)%count != 0, "involutive": isInvolutive(s), "not involutive": !isInvolutive(s)} {
			if is {
				kinds[kind]++
			}
		}
	}
	if len(kinds) != 11 || len(sizes) != impl.MaxSize {
		t.Errorf("kinds of solutions: %v, sizes %v", kinds, sizes)
	}
	for kind, count := range kinds {
		if count < 15 {
			t.Errorf("%d solutions of the kind %q", count, kind)
		}
	}
	for level := int64(-1); level <= 4; level++ {
		if levels[level] < 4 {
			t.Errorf("%d solutions of level %d", levels[level], level)
		}
	}
}

// callsOnRetracts calls each function of the chapter, and returns the codes and whether all other
// results are zero.
func callsOnRetracts(s impl.Solution, k int64) (map[string]int64, bool) {
	codes, zero := map[string]int64{}, true
	for name, f := range map[string]func(impl.Solution) ([]int64, int64){"AlikeClasses": impl.AlikeClasses, "RetractSizes": impl.RetractSizes,
		"SeriesLabels": func(s impl.Solution) ([]int64, int64) { return impl.SeriesLabels(s, k) }} {
		list, c := f(s)
		codes[name], zero = c, zero && len(list) == 0
	}
	for name, f := range map[string]func(impl.Solution) (impl.Solution, int64){"RetractOf": impl.RetractOf, "LastRetract": impl.LastRetract,
		"ClassSolution": func(s impl.Solution) (impl.Solution, int64) { return impl.ClassSolution(s, k) }} {
		r, c := f(s)
		codes[name], zero = c, zero && isZero(r)
	}
	for name, f := range map[string]func(impl.Solution) (bool, int64){"IsIrretractable": impl.IsIrretractable, "IsTwist": impl.IsTwist} {
		is, c := f(s)
		codes[name], zero = c, zero && !is
	}
	level, c := impl.LevelOf(s)
	codes["LevelOf"] = c
	return codes, zero && level == 0
}

// ErrInvalid comes before ErrNotFound.
func TestRetractsOfNoNondegenerateSolutions(t *testing.T) {
	refused := func(name string, s impl.Solution) {
		t.Helper()
		for _, k := range append(notElements(12), 0, 1, 2) {
			codes, zero := callsOnRetracts(s, k)
			for f, c := range codes {
				code(t, f+" of "+name, c, impl.ErrInvalid)
			}
			if len(codes) != 9 || !zero {
				t.Errorf("%s: %d functions, and a result beside an error", name, len(codes))
			}
		}
	}
	for name, s := range noSolutions() {
		refused(name, s)
	}
	for _, s := range degenerateSolutions(t) {
		refused("a degenerate solution", s)
	}
}

func TestChapter8KeepsMemoryApart(t *testing.T) {
	two := union(t, dihedralOf(3), twistOf(turn(2, 1), turn(2, 0)), flipOf(2))
	for _, s := range []impl.Solution{flipOf(1), flipOf(5), dihedralOf(3), mirrorOf(dihedralOf(3)), dihedralOf(4), dihedralOf(12), twistOf(turn(12, 1), turn(12, 5)),
		two, renamedMap(two, turn(7, 3)), solutionOf(crossCycle()), solutionOf(fallingCycle()), solutionOf(exchangeCycle(steepCycle())),
		sameOf(4), flipOf(13), sol(sumTable(4), sumTable(4))} {
		check := func(name string, call func(s impl.Solution) []any) {
			t.Helper()
			checkMemory(t, name, func(a []any) []any { return call(sol(a[0].([][]int64), a[1].([][]int64))) }, s.First, s.Second)
		}
		check("AlikeClasses", func(s impl.Solution) []any { return listsAndCode(impl.AlikeClasses(s)) })
		check("RetractOf", func(s impl.Solution) []any { return parts(impl.RetractOf(s)) })
		check("RetractSizes", func(s impl.Solution) []any { return listsAndCode(impl.RetractSizes(s)) })
		check("LevelOf", func(s impl.Solution) []any { return listsAndCode(impl.LevelOf(s)) })
		check("IsIrretractable", func(s impl.Solution) []any { return listsAndCode(impl.IsIrretractable(s)) })
		check("LastRetract", func(s impl.Solution) []any { return parts(impl.LastRetract(s)) })
		check("IsTwist", func(s impl.Solution) []any { return listsAndCode(impl.IsTwist(s)) })
		for k := int64(-1); k <= 4; k++ {
			check("SeriesLabels", func(s impl.Solution) []any { return listsAndCode(impl.SeriesLabels(s, k)) })
			check("ClassSolution", func(s impl.Solution) []any { return parts(impl.ClassSolution(s, k)) })
		}
	}
}

// One list that is all rows of a table stays as it is, and no result has it.
func TestRetractsOfSharedRows(t *testing.T) {
	row := []int64{1, 2, 0}
	s := sol([][]int64{row, row, row}, transposedTable([][]int64{row, row, row}))
	part, _ := impl.ClassSolution(s, 0)
	// The mirror of a dihedral rack is irretractable, and has one lambda.
	line := identity(3)
	mirror := sol([][]int64{line, line, line}, mirrorOf(dihedralOf(3)).Second)
	r, _ := impl.RetractOf(mirror)
	last, _ := impl.LastRetract(mirror)
	for i, list := range slices.Concat(part.First, part.Second, r.First, r.Second, last.First, last.Second) {
		if slices.Contains(list, -1) {
			t.Errorf("list %d of the results is one of the others", i)
		}
		fill(list, -1)
	}
	if !slices.Equal(row, []int64{1, 2, 0}) || !slices.Equal(line, identity(3)) || !equalSolutions(mirror, mirrorOf(dihedralOf(3))) {
		t.Errorf("arguments are changed: %v, %v", row, mirror)
	}
}

// A result that is overwritten must not change what a later call returns.
func TestChapter8KeepsNoState(t *testing.T) {
	s, three := dihedralOf(4), read(t, "012/012/102|001/110/222")
	for range 3 {
		classes, _ := impl.AlikeClasses(s)
		r, _ := impl.RetractOf(s)
		sizes, _ := impl.RetractSizes(s)
		last, _ := impl.LastRetract(dihedralOf(3))
		first, _ := impl.SeriesLabels(s, 0)
		labels, _ := impl.SeriesLabels(s, 1)
		part, _ := impl.ClassSolution(three, 0)
		if !slices.Equal(classes, []int64{0, 1, 0, 1}) || !equalSolutions(r, flipOf(2)) || !slices.Equal(sizes, []int64{4, 2, 1}) || !equalSolutions(last, dihedralOf(3)) ||
			!slices.Equal(first, identity(4)) || !slices.Equal(labels, classes) || !equalSolutions(part, flipOf(2)) {
			t.Errorf("results %v, %v, %v, %v, %v, %v, %v", classes, r, sizes, last, first, labels, part)
		}
		for _, list := range slices.Concat(r.First, r.Second, last.First, last.Second, part.First, part.Second, [][]int64{classes, sizes, first, labels}) {
			fill(list, -1)
		}
	}
}
