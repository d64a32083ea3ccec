package tests

import (
	"math/rand"
	"slices"
	"testing"

	"loop.example/g01119/impl"
)

// rhosOf returns for each element y the list that leads x to the second element of the pair to which
// a pair map leads (x, y).
func rhosOf(s impl.Solution) [][]int64 { return transposedTable(s.Second) }

// wholeList returns all lambda, followed by all rho.
func wholeList(s impl.Solution) [][]int64 { return slices.Concat(s.First, rhosOf(s)) }

// generated returns the group of permutations of n elements in lexicographic order, or nil if there
// are more than 2000 in it.
func generated(n int, list [][]int64) [][]int64 {
	group, found := [][]int64{identity(n)}, map[string]bool{textOf(identity(n)): true}
	for i := 0; i < len(group); i++ {
		for _, p := range list {
			q := doneThen(group[i], p)
			if !found[textOf(q)] {
				group, found[textOf(q)] = append(group, q), true
			}
		}
		if len(group) > 2000 {
			return nil
		}
	}
	slices.SortFunc(group, slices.Compare[[]int64])
	return group
}

// elementOrbits numbers the orbits of the elements by their least elements: each element takes the
// least one that it is led to or from, until that makes no more difference.
func elementOrbits(s impl.Solution) []int64 {
	least := identity(size(s))
	for before := []int64{}; !slices.Equal(before, least); {
		before = slices.Clone(least)
		for _, p := range wholeList(s) {
			for x, y := range p {
				both := min(least[x], least[y])
				least[x], least[y] = both, both
			}
		}
	}
	return together([][]int64{least})
}

// elementsIn returns the elements for which a list has a number.
func elementsIn(labels []int64, number int64) []int64 {
	set := []int64{}
	for x, label := range labels {
		if label == number {
			set = append(set, int64(x))
		}
	}
	return set
}

// partOf returns the pair map on a closed set, with the indices in the set as new elements.
func partOf(s impl.Solution, set []int64) impl.Solution {
	index := func(x int64) int64 { return int64(slices.Index(set, x)) }
	return madeOf(len(set), func(x, y int64) (int64, int64) {
		p := led(s, set[x], set[y])
		return index(p[0]), index(p[1])
	})
}

// isClosedUnder reports whether a pair map leads pairs of elements of a set to such pairs.
func isClosedUnder(s impl.Solution, set []int64) bool {
	for _, x := range set {
		for _, y := range set {
			p := led(s, x, y)
			if !slices.Contains(set, p[0]) || !slices.Contains(set, p[1]) {
				return false
			}
		}
	}
	return true
}

// actingSolutions returns solutions in which a single element does anything: its lambda, or its rho,
// exchanges two others.
func actingSolutions() []impl.Solution {
	list := []impl.Solution{}
	for n := 3; n <= impl.MaxSize; n++ {
		for _, acting := range []int{0, n / 2, n - 1} {
			r := trivialRack(n)
			x, y := (acting+1)%n, (acting+2)%n
			r.Table[acting][x], r.Table[acting][y] = int64(y), int64(x)
			list = append(list, solutionOfRack(r), mirrorOf(solutionOfRack(r)))
		}
	}
	return list
}

// doubleCross returns a cycle set of 8 elements whose rows make up a group of 128 permutations.
func doubleCross() impl.CycleSet {
	return impl.CycleSet{Table: [][]int64{{1, 0, 2, 3, 4, 5, 6, 7}, {4, 5, 6, 7, 2, 3, 1, 0}, {0, 1, 3, 2, 6, 7, 4, 5}, {0, 1, 3, 2, 4, 5, 6, 7},
		{7, 6, 4, 5, 0, 1, 2, 3}, {0, 1, 2, 3, 5, 4, 6, 7}, {3, 2, 1, 0, 4, 5, 7, 6}, {0, 1, 2, 3, 4, 5, 7, 6}}}
}

// groupSolutions returns nondegenerate solutions with 1 to 12 elements, of one orbit and of several,
// with fixed elements and without.
func groupSolutions() []impl.Solution {
	list := slices.Concat(nondegenerateSolutions(), actingSolutions(), indecomposableSolutions())
	return append(list, solutionOf(doubleCross()), mirrorOf(solutionOf(doubleCross())))
}

// checkOrder checks the order of a group against its permutations, and returns whether it is told.
func checkOrder(t *testing.T, name string, group [][]int64, got int64, c int64) bool {
	t.Helper()
	want, wantCode := int64(len(group)), int64(impl.ErrNone)
	if group == nil || len(group) > impl.MaxElements {
		want, wantCode = 0, impl.ErrLimit
	}
	if got != want || c != wantCode {
		t.Errorf("%s = %d, %d, want %d, %d", name, got, c, want, wantCode)
	}
	return c == impl.ErrNone
}

// checkGroups checks the groups of a solution. Promise 7: the orders of left and right groups are
// divisors of that of the whole group.
func checkGroups(t *testing.T, s impl.Solution) {
	t.Helper()
	lambdas, c := impl.LambdaMaps(s)
	if !equalTables(lambdas, s.First) || c != impl.ErrNone {
		t.Errorf("LambdaMaps(%v) = %v, %d", s, lambdas, c)
	}
	rhos, c := impl.RhoMaps(s)
	if !equalTables(rhos, rhosOf(s)) || c != impl.ErrNone {
		t.Errorf("RhoMaps(%v) = %v, %d", s, rhos, c)
	}
	leftGroup, rightGroup := generated(size(s), s.First), generated(size(s), rhosOf(s))
	left, c := impl.LeftGroupOrder(s)
	isTold := checkOrder(t, "LeftGroupOrder", leftGroup, left, c)
	group, d := impl.LeftGroup(s)
	if d != c || isTold && !equalTables(group, leftGroup) || !isTold && len(group) != 0 {
		t.Errorf("LeftGroup(%v) = %v, %d, want %v", s, group, d, leftGroup)
	}
	right, c := impl.RightGroupOrder(s)
	checkOrder(t, "RightGroupOrder", rightGroup, right, c)
	whole, c := impl.WholeGroupOrder(s)
	if checkOrder(t, "WholeGroupOrder", generated(size(s), wholeList(s)), whole, c) && (whole%max(1, left) != 0 || whole%max(1, right) != 0) {
		t.Errorf("%v has groups of %d, %d and %d permutations", s, left, right, whole)
	}
	abelian := true
	for _, p := range leftGroup {
		for _, q := range s.First {
			abelian = abelian && slices.Equal(doneThen(p, q), doneThen(q, p))
		}
	}
	if got, c := impl.IsAbelianLeft(s); leftGroup != nil && got != abelian || c != impl.ErrNone {
		t.Errorf("IsAbelianLeft(%v) = %v, %d", s, got, c)
	}
}

// checkElementOrbits checks the orbits of a solution and what follows from them. Promise 7: orbits
// are closed sets. The guarantee of the chapter: those of lambda and of rho are the same if the
// solution is involutive.
func checkElementOrbits(t *testing.T, s impl.Solution) {
	t.Helper()
	want := elementOrbits(s)
	labels, c := impl.OrbitsOfSolution(s)
	if !slices.Equal(labels, want) || c != impl.ErrNone {
		t.Fatalf("OrbitsOfSolution(%v) = %v, %d, want %v", s, labels, c, want)
	}
	if group := generated(size(s), wholeList(s)); group != nil && !slices.Equal(labels, labelsOf(size(s), group)) {
		t.Errorf("OrbitsOfSolution(%v) = %v", s, labels)
	}
	count := slices.Max(want) + 1
	if is, c := impl.IsIndecomposable(s); is != (count == 1) || c != impl.ErrNone {
		t.Errorf("IsIndecomposable(%v) = %v, %d", s, is, c)
	}
	parts, c := impl.OrbitSolutions(s)
	if int64(len(parts)) != count || c != impl.ErrNone {
		t.Fatalf("OrbitSolutions(%v) = %v, %d", s, parts, c)
	}
	for number, part := range parts {
		set := elementsIn(want, int64(number))
		if !isClosedUnder(s, set) || !equalSolutions(part, partOf(s, set)) || !hasSolution(part) || !isNondegenerate(part) {
			t.Errorf("OrbitSolutions(%v) has %v as number %d", s, part, number)
		}
	}
	if isInvolutive(s) {
		byLambda, _ := impl.OrbitLabels(int64(size(s)), s.First)
		byRho, _ := impl.OrbitLabels(int64(size(s)), rhosOf(s))
		if !slices.Equal(byLambda, labels) || !slices.Equal(byRho, labels) {
			t.Errorf("%v has the orbits %v, by lambda %v and by rho %v", s, labels, byLambda, byRho)
		}
	}
}

// fixedBy returns the elements that no permutation leads to others.
func fixedBy(n int, list [][]int64) []int64 {
	fixed := identity(n)
	for _, p := range list {
		fixed = slices.DeleteFunc(fixed, func(x int64) bool { return p[x] != x })
	}
	return fixed
}

// checkSplit checks fixed elements and decompositions.
func checkSplit(t *testing.T, s impl.Solution) {
	t.Helper()
	want := fixedBy(size(s), wholeList(s))
	if got, c := impl.FixedElements(s); !slices.Equal(got, want) || c != impl.ErrNone {
		t.Errorf("FixedElements(%v) = %v, %d, want %v", s, got, c, want)
	}
	labels := elementOrbits(s)
	first, others, c := impl.DecompositionOf(s)
	if slices.Max(labels) == 0 {
		if len(first) != 0 || len(others) != 0 || c != impl.ErrNotFound {
			t.Errorf("DecompositionOf(%v) = %v, %v, %d", s, first, others, c)
		}
		return
	}
	rest := slices.DeleteFunc(identity(size(s)), func(x int64) bool { return labels[x] == 0 })
	if !slices.Equal(first, elementsIn(labels, 0)) || !slices.Equal(others, rest) || c != impl.ErrNone {
		t.Errorf("DecompositionOf(%v) = %v, %v, %d", s, first, others, c)
	}
	for _, set := range [][]int64{first, others} {
		if is, c := impl.IsClosedSet(s, set); !is || c != impl.ErrNone {
			t.Errorf("%v is no closed set of %v", set, s)
		}
	}
}

func TestGroupsOfSolutions(t *testing.T) {
	kinds := map[string]int{}
	for _, s := range groupSolutions() {
		if !hasSolution(s) || !isNondegenerate(s) {
			t.Fatalf("%v is no nondegenerate solution", s)
		}
		checkGroups(t, s)
		checkElementOrbits(t, s)
		checkSplit(t, s)
		orbits, fixed := slices.Max(elementOrbits(s))+1, len(fixedBy(size(s), wholeList(s)))
		abelian, _ := impl.IsAbelianLeft(s)
		for kind, is := range map[string]bool{"one orbit": orbits == 1, "several orbits, none fixed": orbits > 1 && fixed == 0,
			"all fixed": fixed == size(s), "some fixed": fixed > 0 && fixed < size(s), "abelian": abelian, "not abelian": !abelian,
			"great whole system": 2*size(s) > impl.MaxGenerators} {
			if is {
				kinds[kind]++
			}
		}
	}
	for kind, count := range kinds {
		if count < 30 {
			t.Errorf("%d solutions of the kind %q", count, kind)
		}
	}
	if len(kinds) != 7 {
		t.Errorf("kinds of solutions: %v", kinds)
	}
}

// groupCase is what is known of a solution.
type groupCase struct {
	s                  impl.Solution
	left, right, whole int64
	orbits, fixed      []int64
	abelian            bool
}

// namedGroupCases returns named solutions.
func namedGroupCases(t *testing.T) map[string]groupCase {
	zeros := func(n int) []int64 { return make([]int64, n) }
	swap, all := turn(2, 1), identity(12)
	last := trivialRack(12)
	last.Table[11] = []int64{1, 0, 2, 3, 4, 5, 6, 7, 8, 9, 10, 11}
	joined := []int64{0, 0, 1, 2, 3, 4, 5, 6, 7, 8, 9, 10}
	cross := solutionOf(crossCycle())
	return map[string]groupCase{
		"one element":         {flipOf(1), 1, 1, 1, []int64{0}, []int64{0}, true},
		"flip of 12":          {flipOf(12), 1, 1, 1, all, all, true},
		"both swap":           {twistOf(swap, swap), 2, 2, 2, zeros(2), nil, true},
		"lambda swap":         {twistOf(swap, identity(2)), 2, 1, 2, zeros(2), nil, true},
		"rho swap":            {twistOf(identity(2), swap), 1, 2, 2, zeros(2), nil, true},
		"twos and threes":     {twistOf(turn(6, 2), turn(6, 3)), 3, 2, 6, zeros(6), nil, true},
		"fours and sixes":     {twistOf(turn(12, 4), turn(12, 6)), 3, 2, 6, []int64{0, 1, 0, 1, 0, 1, 0, 1, 0, 1, 0, 1}, nil, true},
		"dihedral 3":          {dihedralOf(3), 6, 1, 6, zeros(3), nil, false},
		"mirrored dihedral 3": {mirrorOf(dihedralOf(3)), 1, 6, 6, zeros(3), nil, true},
		"dihedral 4":          {dihedralOf(4), 4, 1, 4, []int64{0, 1, 0, 1}, nil, true},
		"dihedral 12":         {dihedralOf(12), 12, 1, 12, []int64{0, 1, 0, 1, 0, 1, 0, 1, 0, 1, 0, 1}, nil, false},
		"last lambda":         {solutionOfRack(last), 2, 1, 2, joined, all[2:], true},
		"last rho":            {mirrorOf(solutionOfRack(last)), 1, 2, 2, joined, all[2:], true},
		// Lambda and rho make up a group of 8 permutations each, and all permutations together.
		"cross":      {cross, 8, 8, 24, zeros(4), nil, false},
		"fixed last": {union(t, dihedralOf(3), flipOf(2)), 6, 1, 6, []int64{0, 0, 0, 1, 2}, []int64{3, 4}, false},
		"fixed first": {union(t, flipOf(1), twistOf(identity(4), turn(4, 1)), dihedralOf(3)), 6, 4, 24,
			[]int64{0, 1, 1, 1, 1, 2, 2, 2}, []int64{0}, false},
		"orbits that cross": {renamedMap(union(t, twistOf(swap, swap), dihedralOf(3)), []int64{0, 3, 1, 2, 4}), 12, 2, 12,
			[]int64{0, 1, 1, 0, 1}, nil, false},
	}
}

func TestNamedGroupsOfSolutions(t *testing.T) {
	for name, x := range namedGroupCases(t) {
		left, a := impl.LeftGroupOrder(x.s)
		right, b := impl.RightGroupOrder(x.s)
		whole, c := impl.WholeGroupOrder(x.s)
		if left != x.left || right != x.right || whole != x.whole || a != impl.ErrNone || b != impl.ErrNone || c != impl.ErrNone {
			t.Errorf("%s: orders %d, %d; %d, %d; %d, %d", name, left, a, right, b, whole, c)
		}
		orbits, a := impl.OrbitsOfSolution(x.s)
		fixed, b := impl.FixedElements(x.s)
		abelian, c := impl.IsAbelianLeft(x.s)
		if !slices.Equal(orbits, x.orbits) || !slices.Equal(fixed, x.fixed) || abelian != x.abelian || a != impl.ErrNone || b != impl.ErrNone || c != impl.ErrNone {
			t.Errorf("%s: orbits %v, %d, fixed %v, %d, abelian %v, %d", name, orbits, a, fixed, b, abelian, c)
		}
	}
}

func TestNamedLeftGroups(t *testing.T) {
	group, c := impl.LeftGroup(dihedralOf(3))
	if !equalTables(group, everyPermutation(3)) || c != impl.ErrNone {
		t.Errorf("LeftGroup of a dihedral rack = %v, %d", group, c)
	}
	group, c = impl.LeftGroup(mirrorOf(dihedralOf(3)))
	if !equalTables(group, [][]int64{{0, 1, 2}}) || c != impl.ErrNone {
		t.Errorf("LeftGroup of its mirror = %v, %d", group, c)
	}
	group, c = impl.LeftGroup(solutionOf(crossCycle()))
	want := [][]int64{{0, 1, 2, 3}, {0, 1, 3, 2}, {1, 0, 2, 3}, {1, 0, 3, 2}, {2, 3, 0, 1}, {2, 3, 1, 0}, {3, 2, 0, 1}, {3, 2, 1, 0}}
	if !equalTables(group, want) || c != impl.ErrNone {
		t.Errorf("LeftGroup of a cycle set = %v, %d", group, c)
	}
	rhos, c := impl.RhoMaps(flipOf(2))
	if !equalTables(rhos, [][]int64{{0, 1}, {0, 1}}) || c != impl.ErrNone {
		t.Errorf("RhoMaps of the flip = %v, %d", rhos, c)
	}
	rhos, c = impl.RhoMaps(read(t, "021/210/102|000/111/222"))
	if !equalTables(rhos, [][]int64{{0, 1, 2}, {0, 1, 2}, {0, 1, 2}}) || c != impl.ErrNone {
		t.Errorf("RhoMaps of a dihedral rack = %v, %d", rhos, c)
	}
}

func TestNamedOrbitSolutions(t *testing.T) {
	list, c := impl.OrbitSolutions(renamedMap(union(t, twistOf(turn(2, 1), turn(2, 1)), dihedralOf(3)), []int64{0, 3, 1, 2, 4}))
	if c != impl.ErrNone || len(list) != 2 || !equalSolutions(list[0], twistOf(turn(2, 1), turn(2, 1))) || !equalSolutions(list[1], dihedralOf(3)) {
		t.Errorf("OrbitSolutions = %v, %d", list, c)
	}
	for n := 1; n <= impl.MaxSize; n++ {
		list, c := impl.OrbitSolutions(flipOf(n))
		if len(list) != n || c != impl.ErrNone || slices.ContainsFunc(list, func(s impl.Solution) bool { return !equalSolutions(s, flipOf(1)) }) {
			t.Errorf("OrbitSolutions of the flip of %d elements = %v, %d", n, list, c)
		}
		twist := twistOf(turn(n, n-1), turn(n, 1))
		if list, c := impl.OrbitSolutions(twist); len(list) != 1 || c != impl.ErrNone || !equalSolutions(list[0], twist) {
			t.Errorf("OrbitSolutions of a twist of %d elements = %v, %d", n, list, c)
		}
		first, others, c := impl.DecompositionOf(flipOf(n))
		if n == 1 && (len(first) != 0 || len(others) != 0 || c != impl.ErrNotFound) {
			t.Errorf("DecompositionOf the flip of 1 element = %v, %v, %d", first, others, c)
		}
		if n > 1 && (!slices.Equal(first, []int64{0}) || !slices.Equal(others, identity(n)[1:]) || c != impl.ErrNone) {
			t.Errorf("DecompositionOf the flip of %d elements = %v, %v, %d", n, first, others, c)
		}
	}
}

// tooGreat stands for the order of a group with more than MaxElements permutations.
const tooGreat = 0

// No group of permutations of at most 12 elements has 973 to 1007 of them. Among the left groups that
// I know, 960 and 1024 come nearest to that, and among the whole groups 960 and 1008.
func TestOrdersAroundMaxElements(t *testing.T) {
	three, five, seven, swap := dihedralOf(3), solutionOfRack(affineRack(5, 2)), solutionOfRack(affineRack(7, 3)), twistOf(turn(2, 1), turn(2, 1))
	cross, eight, four := solutionOf(crossCycle()), solutionOf(doubleCross()), solutionOfRack(tetrahedralRack())
	random := rand.New(rand.NewSource(98))
	for name, x := range map[string]struct {
		s                  impl.Solution
		left, right, whole int64
	}{
		"960 to the left":   {union(t, three, cross, five), 960, 8, tooGreat},
		"1024 to the left":  {union(t, eight, cross), tooGreat, tooGreat, tooGreat},
		"960 on the whole":  {union(t, cross, five, swap, flipOf(1)), 320, 16, 960},
		"1008 on the whole": {union(t, cross, seven, flipOf(1)), 336, 8, tooGreat},
		"840":               {union(t, seven, five), 840, 1, 840},
		"864":               {union(t, three, four, four, flipOf(1)), 864, 1, 864},
		"1152":              {union(t, four, four, cross), tooGreat, 8, tooGreat},
		"1296":              {union(t, three, three, three, three), tooGreat, 1, tooGreat},
		"1728":              {union(t, four, four, four), tooGreat, 1, tooGreat},
		"128":               {eight, 128, 128, tooGreat},
	} {
		for range 3 {
			s := renamedMap(x.s, randomPermutation(random, size(x.s)))
			checkOrders(t, name, s, x.left, x.right, x.whole)
			checkOrders(t, name+", mirrored", mirrorOf(s), x.right, x.left, x.whole)
		}
	}
}

// checkOrders checks the orders of the groups of a solution, and that a left group is complete.
func checkOrders(t *testing.T, name string, s impl.Solution, wants ...int64) {
	t.Helper()
	for i, f := range []func(impl.Solution) (int64, int64){impl.LeftGroupOrder, impl.RightGroupOrder, impl.WholeGroupOrder} {
		want := int64(impl.ErrNone)
		if wants[i] == tooGreat {
			want = impl.ErrLimit
		}
		if got, c := f(s); got != wants[i] || c != want {
			t.Errorf("%s: order %d is %d, %d, want %d", name, i, got, c, wants[i])
		}
	}
	group, c := impl.LeftGroup(s)
	if int64(len(group)) != wants[0] || (c == impl.ErrNone) != (wants[0] != tooGreat) || c != impl.ErrNone && c != impl.ErrLimit {
		t.Errorf("%s: LeftGroup has %d permutations, code %d", name, len(group), c)
	}
	if c == impl.ErrNone && !equalTables(group, generated(size(s), s.First)) {
		t.Errorf("%s: LeftGroup = %v", name, group)
	}
	// What has no limit is told all the same.
	checkElementOrbits(t, s)
	checkSplit(t, s)
}
