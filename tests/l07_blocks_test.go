package tests

import (
	"slices"
	"testing"

	"loop.example/g01119/impl"
)

// indecomposableSolutions returns solutions with one orbit and 1 to 12 elements.
func indecomposableSolutions() []impl.Solution {
	list := slices.DeleteFunc(nondegenerateSolutions(), func(s impl.Solution) bool { return slices.Max(elementOrbits(s)) > 0 })
	for n := 1; n <= impl.MaxSize; n++ {
		for a := range n {
			// Turns by a and by 2 or by 3 often have one orbit only together.
			for _, b := range []int{0, 1, 2 % n, 3 % n, n - a} {
				if !haveCommonDivisor(int64(n), int64(greatestDivisor(a, b))) {
					list = append(list, twistOf(turn(n, a), turn(n, b)))
				}
			}
		}
	}
	three, four, cross := dihedralOf(3), solutionOfRack(tetrahedralRack()), solutionOf(crossCycle())
	plane := twistOf([]int64{1, 0, 3, 2}, []int64{2, 3, 0, 1})
	list = append(list, cross, plane, productOf(three, three), productOf(three, four), productOf(three, cross), productOf(plane, three), productOf(twistOf(turn(3, 1), turn(3, 0)), plane),
		solutionOfRack(affineRack(9, 2)), solutionOfRack(affineRack(11, 2)), solutionOfRack(classRack(4, 1, 1, 2)), solutionOfRack(classRack(4, 4)), solutionOfRack(classRack(5, 1, 1, 1, 2)))
	for _, s := range slices.Clone(list[len(list)-12:]) {
		list = append(list, mirrorOf(s), renamedMap(s, reversedTurn(size(s))))
	}
	return list
}

// greatestDivisor returns the greatest common divisor of two numbers, that of 0 and 0 being 0.
func greatestDivisor(a int, b int) int {
	for b != 0 {
		a, b = b, a%b
	}
	return a
}

// reversedTurn returns the permutation of n elements that leads x to 2 - x modulo n.
func reversedTurn(n int) []int64 {
	p := identity(n)
	for x := range p {
		p[x] = int64((2 - x + 2*n) % n)
	}
	return p
}

// isBlockSystem reports whether each permutation leads all elements of a class, and no others, to
// one class.
func isBlockSystem(list [][]int64, classes []int64) bool {
	for _, p := range list {
		for x := range classes {
			for y := range classes {
				if (classes[x] == classes[y]) != (classes[p[x]] == classes[p[y]]) {
					return false
				}
			}
		}
	}
	return true
}

// imagesOf returns all sets to which permutations lead a set, this one among them, or nil if two of
// them are different but have a common element. Sets are sums of 2^x.
func imagesOf(list [][]int64, set int64) []int64 {
	images := []int64{set}
	for i := 0; i < len(images); i++ {
		for _, p := range list {
			image := int64(0)
			for x, y := range p {
				image |= images[i] >> x & 1 << y
			}
			meets := func(other int64) bool { return other&image != 0 }
			if k := slices.IndexFunc(images, meets); k < 0 {
				images = append(images, image)
			} else if images[k] != image {
				return nil
			}
		}
	}
	return images
}

// blockSystemsOf returns all block systems of a solution with one orbit: each set with the element 0
// is tried as a block, the others then being its images.
func blockSystemsOf(s impl.Solution) [][]int64 {
	systems := [][]int64{}
	for rest := range int64(1) << (size(s) - 1) {
		images := imagesOf(wholeList(s), 2*rest+1)
		if images == nil {
			continue
		}
		classes := make([]int64, size(s))
		for x := range classes {
			classes[x] = int64(slices.IndexFunc(images, func(image int64) bool { return image>>x&1 == 1 }))
		}
		systems = append(systems, together([][]int64{classes}))
	}
	return systems
}

// checkBlocks checks all block systems of a solution with one orbit. Promise 7: blocks are led to
// blocks. It returns the number of them.
func checkBlocks(t *testing.T, s impl.Solution) int {
	t.Helper()
	systems := blockSystemsOf(s)
	isTrivial := func(classes []int64) bool {
		return slices.Max(classes) == 0 || slices.Equal(classes, identity(size(s)))
	}
	primitive := !slices.ContainsFunc(systems, func(classes []int64) bool { return !isTrivial(classes) })
	if got, c := impl.IsPrimitiveSolution(s); got != primitive || c != impl.ErrNone {
		t.Errorf("IsPrimitiveSolution(%v) = %v, %d, block systems %v", s, got, c, systems)
	}
	for x := range int64(size(s)) {
		for y := range int64(size(s)) {
			got, c := impl.BlockSystemOf(s, x, y)
			if x == y {
				if len(got) != 0 || c != impl.ErrRange {
					t.Errorf("BlockSystemOf(%v, %d, %d) = %v, %d", s, x, y, got, c)
				}
				continue
			}
			// Two elements are in one block of the least system exactly if they are in each system.
			want := together(slices.DeleteFunc(slices.Clone(systems), func(classes []int64) bool { return classes[x] != classes[y] }))
			if !slices.Equal(got, want) || c != impl.ErrNone {
				t.Errorf("BlockSystemOf(%v, %d, %d) = %v, %d, want %v", s, x, y, got, c, want)
			}
			if !isBlockSystem(wholeList(s), got) {
				t.Errorf("BlockSystemOf(%v, %d, %d) = %v: some block is led to none", s, x, y, got)
			}
		}
	}
	return len(systems)
}

func TestBlocks(t *testing.T) {
	sizes, primitive, others := map[int]bool{}, 0, 0
	for _, s := range indecomposableSolutions() {
		if !hasSolution(s) || !isNondegenerate(s) || slices.Max(elementOrbits(s)) > 0 {
			t.Fatalf("%v is no nondegenerate solution with one orbit", s)
		}
		sizes[size(s)] = true
		if checkBlocks(t, s) > 2 {
			others++
		} else {
			primitive++
		}
	}
	if len(sizes) != impl.MaxSize || primitive < 30 || others < 30 {
		t.Errorf("sizes %v, %d primitive solutions and %d others", sizes, primitive, others)
	}
}

// All partitions that permutations respect are met by trying blocks with the element 0.
func TestBlockSystemsAmongAllPartitions(t *testing.T) {
	for _, s := range indecomposableSolutions() {
		if size(s) > 6 {
			continue
		}
		want := slices.DeleteFunc(partitionsOf(size(s)), func(classes []int64) bool { return !isBlockSystem(wholeList(s), classes) })
		got := blockSystemsOf(s)
		slices.SortFunc(got, slices.Compare[[]int64])
		slices.SortFunc(want, slices.Compare[[]int64])
		if !equalTables(got, want) {
			t.Errorf("%v has the block systems %v, not %v", s, want, got)
		}
	}
}

func TestNamedBlocks(t *testing.T) {
	twelve, zeros := twistOf(turn(12, 1), identity(12)), func(n int) []int64 { return make([]int64, n) }
	plane := twistOf([]int64{1, 0, 3, 2}, []int64{2, 3, 0, 1})
	pairs := solutionOfRack(classRack(4, 1, 1, 2))
	for _, x := range []struct {
		s    impl.Solution
		x, y int64
		want []int64
	}{
		{dihedralOf(3), 0, 1, zeros(3)}, {twistOf(turn(4, 1), turn(4, 1)), 0, 2, []int64{0, 1, 0, 1}}, {twistOf(turn(4, 1), turn(4, 1)), 3, 1, []int64{0, 1, 0, 1}},
		{twelve, 0, 6, []int64{0, 1, 2, 3, 4, 5, 0, 1, 2, 3, 4, 5}}, {twelve, 11, 3, []int64{0, 1, 2, 3, 0, 1, 2, 3, 0, 1, 2, 3}},
		{twelve, 5, 8, []int64{0, 1, 2, 0, 1, 2, 0, 1, 2, 0, 1, 2}}, {twelve, 1, 11, []int64{0, 1, 0, 1, 0, 1, 0, 1, 0, 1, 0, 1}}, {twelve, 11, 4, zeros(12)},
		// Each of both permutations alone has more orbits.
		{plane, 0, 1, []int64{0, 0, 1, 1}}, {plane, 1, 3, []int64{0, 1, 0, 1}}, {plane, 0, 3, []int64{0, 1, 1, 0}},
		{dihedralOf(9), 1, 4, []int64{0, 1, 2, 0, 1, 2, 0, 1, 2}}, {dihedralOf(9), 1, 2, zeros(9)},
		// Lambda alone, and rho alone, would leave two blocks of two elements.
		{solutionOf(crossCycle()), 0, 1, zeros(4)}, {twistOf(turn(2, 1), turn(2, 0)), 1, 0, zeros(2)},
		// Exchanges of two of four points, in lexicographic order: 0 and 3, 1 and 5, 2 and 4 have no
		// common point.
		{pairs, 0, 3, []int64{0, 1, 2, 0, 2, 1}}, {pairs, 5, 1, []int64{0, 1, 2, 0, 2, 1}}, {pairs, 0, 1, zeros(6)},
	} {
		if got, c := impl.BlockSystemOf(x.s, x.x, x.y); !slices.Equal(got, x.want) || c != impl.ErrNone {
			t.Errorf("BlockSystemOf(%v, %d, %d) = %v, %d, want %v", x.s, x.x, x.y, got, c, x.want)
		}
	}
}

// The only block of two or more elements with 0 may have any other element.
func TestBlocksWithEachElement(t *testing.T) {
	for _, s := range []impl.Solution{twistOf(turn(4, 1), turn(4, 0)), solutionOfRack(classRack(4, 1, 1, 2)), solutionOfRack(affineRack(9, 2))} {
		for y := range size(s) {
			for z := range y {
				p := identity(size(s))
				p[z], p[y] = p[y], p[z]
				if renamed := renamedMap(s, p); checkBlocks(t, renamed) != 3 {
					t.Errorf("%v has the block systems %v", renamed, blockSystemsOf(renamed))
				}
			}
		}
	}
}

func TestNamedPrimitiveSolutions(t *testing.T) {
	for n := 1; n <= impl.MaxSize; n++ {
		isPrime := n == 2 || n == 3 || n == 5 || n == 7 || n == 11
		twist, dihedral := twistOf(turn(n, 1), turn(n, 0)), dihedralOf(n)
		if got, c := impl.IsPrimitiveSolution(twist); got != (n == 1 || isPrime) || c != impl.ErrNone {
			t.Errorf("IsPrimitiveSolution of a twist of %d elements = %v, %d", n, got, c)
		}
		if got, c := impl.IsPrimitiveSolution(dihedral); got != (n == 1 || isPrime && n > 2) || c != impl.ErrNone {
			t.Errorf("IsPrimitiveSolution of a dihedral rack of %d elements = %v, %d", n, got, c)
		}
		// Not even of two elements, where all partitions are trivial, is one with two orbits primitive.
		if got, c := impl.IsPrimitiveSolution(flipOf(n)); got != (n == 1) || c != impl.ErrNone {
			t.Errorf("IsPrimitiveSolution of the flip of %d elements = %v, %d", n, got, c)
		}
	}
	for name, x := range map[string]struct {
		s    impl.Solution
		want bool
	}{
		"cross": {solutionOf(crossCycle()), true}, "exchanges of 4 points": {solutionOfRack(classRack(4, 1, 1, 2)), false},
		"exchanges of 5 points": {solutionOfRack(classRack(5, 1, 1, 1, 2)), true}, "tetrahedral": {solutionOfRack(tetrahedralRack()), true},
		"two primitive parts": {union(t, dihedralOf(3), dihedralOf(3)), false}, "plane": {productOf(dihedralOf(3), dihedralOf(3)), false},
		"and an element": {union(t, dihedralOf(3), flipOf(1)), false}, "before it an element": {union(t, flipOf(1), dihedralOf(3)), false},
	} {
		if got, c := impl.IsPrimitiveSolution(x.s); got != x.want || c != impl.ErrNone {
			t.Errorf("IsPrimitiveSolution of %s = %v, %d", name, got, c)
		}
	}
}

// callsOnGroups calls each function of the chapter, and returns the codes and whether all other
// results are zero.
func callsOnGroups(s impl.Solution, x int64, y int64) (map[string]int64, bool) {
	codes, zero := map[string]int64{}, true
	for name, f := range map[string]func(impl.Solution) ([][]int64, int64){"LambdaMaps": impl.LambdaMaps, "RhoMaps": impl.RhoMaps, "LeftGroup": impl.LeftGroup} {
		list, c := f(s)
		codes[name], zero = c, zero && len(list) == 0
	}
	for name, f := range map[string]func(impl.Solution) (int64, int64){
		"LeftGroupOrder": impl.LeftGroupOrder, "RightGroupOrder": impl.RightGroupOrder, "WholeGroupOrder": impl.WholeGroupOrder} {
		order, c := f(s)
		codes[name], zero = c, zero && order == 0
	}
	for name, f := range map[string]func(impl.Solution) (bool, int64){
		"IsIndecomposable": impl.IsIndecomposable, "IsPrimitiveSolution": impl.IsPrimitiveSolution, "IsAbelianLeft": impl.IsAbelianLeft} {
		is, c := f(s)
		codes[name], zero = c, zero && !is
	}
	for name, f := range map[string]func(impl.Solution) ([]int64, int64){"OrbitsOfSolution": impl.OrbitsOfSolution, "FixedElements": impl.FixedElements} {
		list, c := f(s)
		codes[name], zero = c, zero && len(list) == 0
	}
	parts, c := impl.OrbitSolutions(s)
	codes["OrbitSolutions"], zero = c, zero && len(parts) == 0
	blocks, c := impl.BlockSystemOf(s, x, y)
	codes["BlockSystemOf"], zero = c, zero && len(blocks) == 0
	first, others, c := impl.DecompositionOf(s)
	codes["DecompositionOf"], zero = c, zero && len(first) == 0 && len(others) == 0
	return codes, zero
}

// ErrInvalid comes before all other errors.
func TestGroupsOfNoNondegenerateSolutions(t *testing.T) {
	refused := func(name string, s impl.Solution) {
		t.Helper()
		for _, pair := range [][2]int64{{0, 1}, {0, 0}, {-1, 0}, {0, 12}, {100, -100}} {
			codes, zero := callsOnGroups(s, pair[0], pair[1])
			for f, c := range codes {
				code(t, f+" of "+name, c, impl.ErrInvalid)
			}
			if len(codes) != 14 || !zero {
				t.Errorf("%s: %d functions, and a result beside an error", name, len(codes))
			}
		}
	}
	for name, s := range noSolutions() {
		refused(name, s)
	}
	for _, s := range degenerateSolutions(t) {
		refused("a degenerate solution", s)
	}
}

// ErrRange comes before ErrState.
func TestBlocksRefused(t *testing.T) {
	for n := 1; n <= impl.MaxSize; n++ {
		refused := func(x int64, y int64) {
			t.Helper()
			for _, s := range []impl.Solution{flipOf(n), twistOf(turn(n, 1), turn(n, 0)), dihedralOf(n)} {
				if got, c := impl.BlockSystemOf(s, x, y); len(got) != 0 || c != impl.ErrRange {
					t.Errorf("BlockSystemOf(%v, %d, %d) = %v, %d", s, x, y, got, c)
				}
			}
		}
		for _, bad := range notElements(n) {
			refused(bad, bad)
			for x := range int64(n) {
				refused(bad, x)
				refused(x, bad)
			}
		}
		for x := range int64(n) {
			refused(x, x)
			for y := range int64(n) {
				if x == y {
					continue
				}
				if got, c := impl.BlockSystemOf(flipOf(n), x, y); len(got) != 0 || c != impl.ErrState {
					t.Errorf("BlockSystemOf the flip of %d elements, %d and %d = %v, %d", n, x, y, got, c)
				}
			}
		}
	}
	// Neither elements of one orbit nor those of two have a block system if there are two orbits.
	two := union(t, twistOf(turn(4, 1), turn(4, 1)), dihedralOf(3))
	for x := range int64(7) {
		for y := range x {
			if got, c := impl.BlockSystemOf(two, x, y); len(got) != 0 || c != impl.ErrState {
				t.Errorf("BlockSystemOf(%v, %d, %d) = %v, %d", two, x, y, got, c)
			}
		}
	}
}

// solutionsAndCode puts the tables of solutions and a code into a list as checkMemory takes them.
func solutionsAndCode(list []impl.Solution, c int64) []any {
	values := []any{c}
	for _, s := range list {
		values = append(values, s.First, s.Second)
	}
	return values
}

// setsAndCode puts two sets and a code into such a list.
func setsAndCode(first []int64, others []int64, c int64) []any { return []any{first, others, c} }

func TestChapter7KeepsMemoryApart(t *testing.T) {
	two := union(t, dihedralOf(3), twistOf(turn(2, 1), turn(2, 0)), flipOf(2))
	for _, s := range []impl.Solution{flipOf(1), flipOf(5), sameOf(4), dihedralOf(3), dihedralOf(4), twistOf(turn(12, 1), turn(12, 5)), two, renamedMap(two, turn(7, 3)),
		factorSolutions()[0], solutionOf(crossCycle()), flipOf(13), sol(sumTable(4), sumTable(4))} {
		check := func(name string, call func(s impl.Solution) []any) {
			t.Helper()
			checkMemory(t, name, func(a []any) []any { return call(sol(a[0].([][]int64), a[1].([][]int64))) }, s.First, s.Second)
		}
		check("LambdaMaps", func(s impl.Solution) []any { return listsAndCode(impl.LambdaMaps(s)) })
		check("RhoMaps", func(s impl.Solution) []any { return listsAndCode(impl.RhoMaps(s)) })
		check("LeftGroup", func(s impl.Solution) []any { return listsAndCode(impl.LeftGroup(s)) })
		check("LeftGroupOrder", func(s impl.Solution) []any { return listsAndCode(impl.LeftGroupOrder(s)) })
		check("RightGroupOrder", func(s impl.Solution) []any { return listsAndCode(impl.RightGroupOrder(s)) })
		check("WholeGroupOrder", func(s impl.Solution) []any { return listsAndCode(impl.WholeGroupOrder(s)) })
		check("OrbitsOfSolution", func(s impl.Solution) []any { return listsAndCode(impl.OrbitsOfSolution(s)) })
		check("IsIndecomposable", func(s impl.Solution) []any { return listsAndCode(impl.IsIndecomposable(s)) })
		check("OrbitSolutions", func(s impl.Solution) []any { return solutionsAndCode(impl.OrbitSolutions(s)) })
		check("BlockSystemOf", func(s impl.Solution) []any { return listsAndCode(impl.BlockSystemOf(s, 2, 0)) })
		check("IsPrimitiveSolution", func(s impl.Solution) []any { return listsAndCode(impl.IsPrimitiveSolution(s)) })
		check("IsAbelianLeft", func(s impl.Solution) []any { return listsAndCode(impl.IsAbelianLeft(s)) })
		check("FixedElements", func(s impl.Solution) []any { return listsAndCode(impl.FixedElements(s)) })
		check("DecompositionOf", func(s impl.Solution) []any { return setsAndCode(impl.DecompositionOf(s)) })
	}
}

// One list that is all rows of a table stays as it is, and no result has it.
func TestGroupsOfSharedRows(t *testing.T) {
	row := []int64{1, 2, 0}
	s := sol([][]int64{row, row, row}, transposedTable([][]int64{row, row, row}))
	lambdas, _ := impl.LambdaMaps(s)
	rhos, _ := impl.RhoMaps(s)
	group, _ := impl.LeftGroup(s)
	parts, _ := impl.OrbitSolutions(s)
	for i, list := range slices.Concat(lambdas, rhos, group, parts[0].First, parts[0].Second) {
		if slices.Contains(list, -1) {
			t.Errorf("list %d of the results is one of the others", i)
		}
		fill(list, -1)
	}
	if !slices.Equal(row, []int64{1, 2, 0}) {
		t.Errorf("the row is changed: %v", row)
	}
}

// A result that is overwritten must not change what a later call returns.
func TestChapter7KeepsNoState(t *testing.T) {
	s, two := dihedralOf(3), union(t, dihedralOf(3), flipOf(1))
	for range 3 {
		lambdas, _ := impl.LambdaMaps(s)
		rhos, _ := impl.RhoMaps(s)
		group, _ := impl.LeftGroup(s)
		orbits, _ := impl.OrbitsOfSolution(two)
		parts, _ := impl.OrbitSolutions(two)
		blocks, _ := impl.BlockSystemOf(s, 0, 2)
		fixed, _ := impl.FixedElements(two)
		first, others, _ := impl.DecompositionOf(two)
		if !equalTables(lambdas, dihedralRack(3).Table) || !equalTables(rhos, trivialRack(3).Table) || !equalTables(group, everyPermutation(3)) ||
			!slices.Equal(orbits, []int64{0, 0, 0, 1}) || len(parts) != 2 || !equalSolutions(parts[0], s) || !equalSolutions(parts[1], flipOf(1)) ||
			!slices.Equal(blocks, []int64{0, 0, 0}) || !slices.Equal(fixed, []int64{3}) || !slices.Equal(first, []int64{0, 1, 2}) || !slices.Equal(others, []int64{3}) {
			t.Errorf("results %v, %v, %v, %v, %v, %v, %v, %v, %v", lambdas, rhos, group, orbits, parts, blocks, fixed, first, others)
		}
		for _, list := range slices.Concat(lambdas, rhos, group, parts[0].First, parts[0].Second, [][]int64{orbits, blocks, fixed, first, others}) {
			fill(list, -1)
		}
		clear(parts)
	}
}
