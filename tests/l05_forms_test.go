package tests

import (
	"math/rand"
	"slices"
	"testing"

	"loop.example/g01119/impl"
)

// solutionOf returns the solution of a cycle set, found by trying all elements.
func solutionOf(c impl.CycleSet) impl.Solution {
	return madeOf(len(c.Table), func(x, y int64) (int64, int64) {
		u := int64(0)
		for c.Table[x][u] != y {
			u++
		}
		return u, c.Table[u][x]
	})
}

// mirrorOf returns the mirror of a pair map.
func mirrorOf(s impl.Solution) impl.Solution {
	return madeOf(size(s), func(x, y int64) (int64, int64) { return s.Second[y][x], s.First[y][x] })
}

// isInvolutive reports whether a pair map done twice leads each pair to itself, and isNondegenerate
// whether it is nondegenerate.
func isInvolutive(s impl.Solution) bool {
	return equalSolutions(sameOf(size(s)), madeOf(size(s), func(x, y int64) (int64, int64) {
		p := led(s, s.First[x][y], s.Second[x][y])
		return p[0], p[1]
	}))
}

func isNondegenerate(s impl.Solution) bool {
	return hasRows(s.First) && hasRows(mirrorOf(s).First)
}

// checkCycle checks the solution of a cycle set and its dual. Promise 27: they lead to each other,
// and duals to mirrors. Promise 5: the dual of the dual is the cycle set.
func checkCycle(t *testing.T, c impl.CycleSet) {
	t.Helper()
	s, e := impl.SolutionOfCycleSet(c)
	if !equalSolutions(s, solutionOf(c)) || e != impl.ErrNone {
		t.Errorf("SolutionOfCycleSet(%v) = %v, %d", c, s, e)
	}
	if !impl.IsSolution(s) || !isInvolutive(s) || !isNondegenerate(s) {
		t.Errorf("%v, that of %v, is no nondegenerate involutive solution", s, c)
	}
	back, e := impl.CycleSetOfSolution(s)
	if !equalCycles(back, c) || e != impl.ErrNone {
		t.Errorf("CycleSetOfSolution(%v) = %v, %d, want %v", s, back, e, c)
	}
	dual, e := impl.DualCycleSet(c)
	if !impl.IsCycleSet(dual) || e != impl.ErrNone || len(dual.Table) != len(c.Table) {
		t.Fatalf("DualCycleSet(%v) = %v, %d", c, dual, e)
	}
	if !equalSolutions(solutionOf(dual), mirrorOf(s)) {
		t.Errorf("DualCycleSet(%v) = %v, whose solution is no mirror", c, dual)
	}
	again, e := impl.DualCycleSet(dual)
	if !equalCycles(again, c) || e != impl.ErrNone {
		t.Errorf("the dual of the dual of %v is %v, %d", c, again, e)
	}
}

func TestSolutionsAndDualsOfCycleSets(t *testing.T) {
	for _, c := range append(someCycles(), foundCycles(4)...) {
		checkCycle(t, c)
	}
	for n := int64(1); n <= impl.MaxSize; n++ {
		for i := range n * n * n {
			if c, e := impl.AffineCycleSet(n, i/n/n, i/n%n, i%n); e == impl.ErrNone {
				checkCycle(t, c)
			}
		}
	}
}

func TestSolutionsAndDualsOfNamedCycleSets(t *testing.T) {
	swap := permutationCycle(turn(2, 1))
	three := impl.CycleSet{Table: [][]int64{{0, 1, 2}, {0, 1, 2}, {1, 0, 2}}}
	texts := map[string]impl.CycleSet{
		"10/10|11/00": swap, "0|0": trivialCycle(1), "01/01|00/11": trivialCycle(2), "012/012/102|001/110/222": three,
		// The inverse of the row turns first elements back, and the row second ones.
		"201/201/201|111/222/000": permutationCycle(turn(3, 1)),
	}
	for want, c := range texts {
		s, e := impl.SolutionOfCycleSet(c)
		if text, _ := impl.SolutionText(s); text != want || e != impl.ErrNone {
			t.Errorf("SolutionOfCycleSet(%v) = %q, %d, want %q", c, text, e, want)
		}
		got, e := impl.CycleSetOfSolution(read(t, want))
		if !equalCycles(got, c) || e != impl.ErrNone {
			t.Errorf("CycleSetOfSolution(%q) = %v, %d", want, got, e)
		}
	}
	duals := [][2]impl.CycleSet{
		{trivialCycle(12), trivialCycle(12)}, {swap, swap}, {permutationCycle(turn(3, 1)), permutationCycle(turn(3, 2))},
		{permutationCycle(turn(12, 5)), permutationCycle(turn(12, 7))}, {three, three},
	}
	for _, both := range duals {
		got, e := impl.DualCycleSet(both[0])
		if !equalCycles(got, both[1]) || e != impl.ErrNone {
			t.Errorf("DualCycleSet(%v) = %v, %d, want %v", both[0], got, e, both[1])
		}
	}
	if dual, _ := impl.DualCycleSet(crossCycle()); equalCycles(dual, crossCycle()) {
		t.Errorf("%v is its own dual", dual)
	}
}

// checkBack checks the cycle set of a pair map, and returns its code.
func checkBack(t *testing.T, s impl.Solution, isSolution bool) int64 {
	t.Helper()
	want := int64(impl.ErrNone)
	switch {
	case !isSolution:
		want = impl.ErrInvalid
	case !isNondegenerate(s) || !isInvolutive(s):
		want = impl.ErrState
	}
	c, e := impl.CycleSetOfSolution(s)
	if e != want || e != impl.ErrNone && len(c.Table) != 0 {
		t.Errorf("CycleSetOfSolution(%v) = %v, %d, want code %d", s, c, e, want)
	}
	if e == impl.ErrNone && (!impl.IsCycleSet(c) || !equalSolutions(solutionOf(c), s)) {
		t.Errorf("CycleSetOfSolution(%v) = %v", s, c)
	}
	return e
}

// Each nondegenerate involutive solution is that of exactly one cycle set, and no other pair map is
// that of any (guarantee of chapter 5).
func TestCycleSetsOfAllSmallSolutions(t *testing.T) {
	for n := 1; n <= 3; n++ {
		count := 0
		for _, s := range foundSolutions(n) {
			if checkBack(t, s, true) == impl.ErrNone {
				count++
			}
		}
		if want := len(foundCycles(n)); count != want {
			t.Errorf("%d solutions of %d elements are those of cycle sets, want %d", count, n, want)
		}
	}
	for _, s := range everyPairMap(2) {
		checkBack(t, s, collisionOf(s) == nil && faultOf(s) == nil)
	}
}

func TestSolutionsOfNoCycleSet(t *testing.T) {
	kinds := map[[2]bool]int{}
	neither, _ := impl.ProductSolution(sameOf(2), dihedralOf(3))
	list := append(greatSolutions(), neither)
	list = append(list, foundSolutions(3)...)
	for _, r := range someRacks() {
		list = append(list, madeOf(len(r.Table), func(x, y int64) (int64, int64) { return r.Table[x][y], x }))
	}
	for _, s := range list {
		kinds[[2]bool{isNondegenerate(s), isInvolutive(s)}]++
		checkBack(t, s, true)
	}
	if len(kinds) != 4 {
		t.Errorf("kinds of solutions: %v", kinds)
	}
	codes := []struct {
		s    impl.Solution
		want int64
	}{
		{sameOf(1), impl.ErrNone}, {flipOf(12), impl.ErrNone}, {twistOf(turn(12, 1), turn(12, 11)), impl.ErrNone},
		{sameOf(2), impl.ErrState}, {sameOf(12), impl.ErrState}, {dihedralOf(3), impl.ErrState}, {dihedralOf(12), impl.ErrState},
		{twistOf(turn(12, 1), turn(12, 1)), impl.ErrState}, {flipOf(13), impl.ErrInvalid}, {sameOf(13), impl.ErrInvalid},
		{twistOf([]int64{1, 0, 2}, []int64{0, 2, 1}), impl.ErrInvalid},
		// Involutive and nondegenerate, but with a fault: it would have a dot table that is no cycle set.
		{sol([][]int64{{0, 1, 2}, {2, 1, 0}, {1, 0, 2}}, [][]int64{{0, 1, 2}, {0, 1, 2}, {0, 1, 2}}), impl.ErrInvalid},
	}
	for _, x := range codes {
		if c, e := impl.CycleSetOfSolution(x.s); e != x.want || e != impl.ErrNone && len(c.Table) != 0 {
			t.Errorf("CycleSetOfSolution(%v) = %v, %d, want %d", x.s, c, e, x.want)
		}
	}
	for name, s := range badMaps() {
		if c, e := impl.CycleSetOfSolution(s); len(c.Table) != 0 || e != impl.ErrInvalid {
			t.Errorf("CycleSetOfSolution of %s = %v, %d", name, c, e)
		}
	}
}

// What is made like the solution of a cycle set of a dot table that is none is no solution.
func TestPairMapsOfDotTablesThatAreNoCycleSets(t *testing.T) {
	refused := 0
	for _, c := range noCycles() {
		if !hasRows(c.Table) {
			continue
		}
		refused++
		s := solutionOf(c)
		if impl.IsSolution(s) && isNondegenerate(s) {
			t.Errorf("%v is a nondegenerate solution", s)
		}
		checkBack(t, s, faultOf(s) == nil && collisionOf(s) == nil)
	}
	if refused < 6 {
		t.Errorf("%d dot tables", refused)
	}
}

// checkLeast checks the least form of a dot table with at most MaxForm elements.
func checkLeast(t *testing.T, c impl.CycleSet) impl.CycleSet {
	t.Helper()
	least, e := impl.LeastCycleSet(c)
	if want := ofRack(leastRackOf(asRack(c))); !equalCycles(least, want) || e != impl.ErrNone {
		t.Errorf("LeastCycleSet(%v) = %v, %d, want %v", c, least, e, want)
	}
	return least
}

// The least form is that of any dot table, be it a cycle set or not.
func TestLeastCycleSet(t *testing.T) {
	for n := 1; n <= 2; n++ {
		for _, u := range everyTable(n) {
			checkLeast(t, impl.CycleSet{Table: u})
		}
	}
	r := rand.New(rand.NewSource(90))
	for n := 3; n <= impl.MaxForm; n++ {
		for range 4 {
			c := impl.CycleSet{Table: randomTable(r, n)}
			least := checkLeast(t, c)
			if other := checkLeast(t, renamedCycle(c, randomPermutation(r, n))); !equalCycles(least, other) {
				t.Errorf("least forms %v and %v", least, other)
			}
		}
	}
	for _, c := range append(someCycles(), impl.CycleSet{Table: constantTable(7, 3)}) {
		if len(c.Table) <= impl.MaxForm {
			checkLeast(t, c)
		}
	}
}

func TestDotTablesWithoutLeastForms(t *testing.T) {
	r := rand.New(rand.NewSource(91))
	for n := 1; n <= impl.MaxSize; n++ {
		for _, c := range []impl.CycleSet{trivialCycle(n), permutationCycle(turn(n, 1)), {Table: constantTable(n, 0)}, {Table: randomTable(r, n)}} {
			least, e := impl.LeastCycleSet(c)
			switch {
			case n > impl.MaxForm && (len(least.Table) != 0 || e != impl.ErrLimit):
				t.Errorf("LeastCycleSet(%v) = %v, %d", c, least, e)
			case n <= impl.MaxForm && (len(least.Table) != n || e != impl.ErrNone):
				t.Errorf("LeastCycleSet(%v) = %v, %d", c, least, e)
			}
		}
	}
}

// checkCycleMatch checks the isomorphism of cycle sets with few elements.
func checkCycleMatch(t *testing.T, c impl.CycleSet, d impl.CycleSet) (isomorphic bool) {
	t.Helper()
	got, e := impl.CycleIsomorphism(c, d)
	wants := rackIsomorphisms(asRack(c), asRack(d))
	if len(wants) == 0 {
		if len(got) != 0 || e != impl.ErrNotFound {
			t.Errorf("CycleIsomorphism(%v, %v) = %v, %d, want none", c, d, got, e)
		}
	} else if !slices.Equal(got, wants[0]) || e != impl.ErrNone {
		t.Errorf("CycleIsomorphism(%v, %v) = %v, %d, want %v", c, d, got, e, wants[0])
	}
	return len(wants) > 0
}

// Cycle sets are isomorphic exactly if they have the same least form, and exactly if their solutions
// are isomorphic (promise 27).
func TestIsomorphismsOfCycleSets(t *testing.T) {
	for n := 1; n <= 4; n++ {
		list := foundCycles(n)
		leasts, solutions := []impl.CycleSet{}, []impl.Solution{}
		for _, c := range list {
			leasts = append(leasts, checkLeast(t, c))
			solutions = append(solutions, solutionOf(c))
		}
		for i, c := range list {
			for j, d := range list {
				is := checkCycleMatch(t, c, d)
				_, e := impl.SolutionIsomorphism(solutions[i], solutions[j])
				if is != equalCycles(leasts[i], leasts[j]) || is != (e == impl.ErrNone) {
					t.Errorf("%v and %v: isomorphic %v, least forms %v and %v, solutions %d", c, d, is, leasts[i], leasts[j], e)
				}
			}
		}
	}
}

// The numbers of cycle sets up to isomorphism are known, and of those that are square-free.
func TestNumbersOfCycleSets(t *testing.T) {
	all, free := []int{1, 2, 5, 23, 88}, []int{1, 1, 2, 5, 17}
	for n := 1; n <= 5; n++ {
		forms, squareFree := map[string]bool{}, 0
		for _, c := range foundCycles(n) {
			least, _ := impl.LeastCycleSet(c)
			text, _ := impl.CycleSetText(least)
			if is, _ := impl.IsSquareFreeCycleSet(c); is && !forms[text] {
				squareFree++
			}
			forms[text] = true
		}
		if len(forms) != all[n-1] || squareFree != free[n-1] {
			t.Errorf("%d cycle sets of %d elements, %d of them square-free", len(forms), n, squareFree)
		}
	}
}

// A cycle set of fewer elements is not isomorphic to one of more, even if its table is the beginning.
func TestIsomorphismsOfCycleSetsOfDifferentSizes(t *testing.T) {
	for n := 1; n <= impl.MaxSize; n++ {
		for m := 1; m <= impl.MaxSize; m++ {
			got, e := impl.CycleIsomorphism(trivialCycle(n), trivialCycle(m))
			if n == m && (!slices.Equal(got, identity(n)) || e != impl.ErrNone) {
				t.Errorf("trivial cycle sets of %d elements: %v, %d", n, got, e)
			}
			if n != m && (len(got) != 0 || e != impl.ErrNotFound) {
				t.Errorf("trivial cycle sets of %d and %d elements: %v, %d", n, m, got, e)
			}
		}
	}
	four := crossCycle()
	for _, d := range []impl.CycleSet{unionOfCycles(four, trivialCycle(1)), productOfCycles(four, trivialCycle(3)), trivialCycle(3)} {
		for _, both := range [][2]impl.CycleSet{{four, d}, {d, four}} {
			got, e := impl.CycleIsomorphism(both[0], both[1])
			if len(got) != 0 || e != impl.ErrNotFound {
				t.Errorf("CycleIsomorphism(%v, %v) = %v, %d", both[0], both[1], got, e)
			}
		}
	}
}

func TestIsomorphismsOfGreatCycleSets(t *testing.T) {
	r := rand.New(rand.NewSource(92))
	list := someCycles()
	for _, c := range list {
		d := renamedCycle(c, randomPermutation(r, len(c.Table)))
		got, e := impl.CycleIsomorphism(c, d)
		if want := smallestIsomorphism(asRack(c), asRack(d), nil); !slices.Equal(got, want) || e != impl.ErrNone {
			t.Errorf("CycleIsomorphism(%v, %v) = %v, %d, want %v", c, d, got, e, want)
		}
		if same, _ := impl.CycleIsomorphism(c, c); !slices.Equal(same, identity(len(c.Table))) {
			t.Errorf("CycleIsomorphism(%v, itself) = %v", c, same)
		}
		if other := list[r.Intn(len(list))]; len(c.Table) < 7 && len(other.Table) == len(c.Table) {
			checkCycleMatch(t, c, other)
		}
	}
}

// circles returns the matrix of circles with given numbers of elements, one behind the other: a 1
// stands for each two neighbours.
func circles(lengths ...int) [][]int64 {
	n := 0
	for _, length := range lengths {
		n += length
	}
	matrix, start := constantTable(n, 0), 0
	for _, length := range lengths {
		for i := range length {
			x, y := start+i, start+(i+1)%length
			matrix[x][y], matrix[y][x] = 1, 1
		}
		start += length
	}
	return matrix
}

// Cycle sets that are not isomorphic, though they look alike in much.
func TestCycleSetsThatAreNotIsomorphic(t *testing.T) {
	four, cross := affineTable(4, 2, 1, 1), crossCycle()
	dual, _ := impl.DualCycleSet(cross)
	other := impl.CycleSet{Table: [][]int64{{1, 0, 2, 3}, {2, 3, 1, 0}, {3, 2, 0, 1}, {0, 1, 3, 2}}}
	pairs := [][2]impl.CycleSet{
		{trivialCycle(2), permutationCycle(turn(2, 1))}, {permutationCycle(turn(12, 1)), permutationCycle(turn(12, 3))},
		{permutationCycle(turn(12, 2)), permutationCycle(turn(12, 3))}, {cross, other}, {cross, four}, {affineTable(9, 3, 1, 0), affineTable(9, 3, 1, 1)},
		{doubled(circles(6)), doubled(circles(3, 3))}, {doubled(circles(5)), doubled(circles(3, 2))}, {doubled(circles(2, 4)), doubled(circles(3, 3))},
		{unionOfCycles(cross, cross, other), unionOfCycles(cross, other, other)}, {unionOfCycles(four, four, four), unionOfCycles(four, four, cross)},
		{productOfCycles(cross, trivialCycle(3)), productOfCycles(other, trivialCycle(3))},
		{productOfCycles(cross, trivialCycle(3)), unionOfCycles(cross, cross, cross)},
		{productOfCycles(cross, permutationCycle(turn(3, 1))), productOfCycles(four, permutationCycle(turn(3, 1)))},
		{permutationCycle([]int64{1, 2, 0, 4, 5, 6, 7, 3, 8, 9, 10, 11}), permutationCycle([]int64{1, 2, 0, 4, 5, 6, 3, 7, 8, 9, 10, 11})},
	}
	for _, pair := range pairs {
		if !impl.IsCycleSet(pair[0]) || !impl.IsCycleSet(pair[1]) {
			t.Errorf("%v are no cycle sets", pair)
		}
		if len(pair[0].Table) == len(pair[1].Table) && smallestIsomorphism(asRack(pair[0]), asRack(pair[1]), nil) != nil {
			t.Errorf("%v are isomorphic", pair)
		}
		for _, both := range [][2]impl.CycleSet{pair, {pair[1], pair[0]}} {
			got, e := impl.CycleIsomorphism(both[0], both[1])
			if len(got) != 0 || e != impl.ErrNotFound {
				t.Errorf("CycleIsomorphism(%v, %v) = %v, %d", both[0], both[1], got, e)
			}
		}
	}
	checkCycleMatch(t, cross, dual)
	checkCycleMatch(t, other, dual)
}

// cycleAndCode puts a dot table and a code into a list as checkMemory takes them.
func cycleAndCode(c impl.CycleSet, e int64) []any { return []any{c.Table, e} }

func TestChapter5KeepsMemoryApart(t *testing.T) {
	one := func(a []any) impl.CycleSet { return impl.CycleSet{Table: a[0].([][]int64)} }
	two := func(a []any) impl.CycleSet { return impl.CycleSet{Table: a[1].([][]int64)} }
	pairMap := func(a []any) impl.Solution { return sol(a[0].([][]int64), a[1].([][]int64)) }
	cycles := []impl.CycleSet{trivialCycle(1), trivialCycle(4), permutationCycle(turn(4, 1)), affineTable(4, 2, 1, 1), crossCycle(),
		unionOfCycles(crossCycle(), trivialCycle(3)), trivialCycle(9), {Table: sumTable(4)}, {Table: constantTable(4, 1)}, {Table: constantTable(4, 4)}}
	for _, c := range cycles {
		check := func(name string, call func(a []any) []any) {
			t.Helper()
			checkMemory(t, name, call, c.Table)
		}
		check("IsCycleSet", func(a []any) []any { return []any{impl.IsCycleSet(one(a))} })
		check("CycleFault", func(a []any) []any { return listsAndCode(impl.CycleFault(one(a))) })
		check("SquaresOf", func(a []any) []any { return listsAndCode(impl.SquaresOf(one(a))) })
		check("DotSolve", func(a []any) []any { return listsAndCode(impl.DotSolve(one(a), 0, 0)) })
		check("SolutionOfCycleSet", func(a []any) []any { return parts(impl.SolutionOfCycleSet(one(a))) })
		check("DualCycleSet", func(a []any) []any { return cycleAndCode(impl.DualCycleSet(one(a))) })
		check("IsSquareFreeCycleSet", func(a []any) []any { return listsAndCode(impl.IsSquareFreeCycleSet(one(a))) })
		check("RowOrders", func(a []any) []any { return listsAndCode(impl.RowOrders(one(a))) })
		check("DotPower", func(a []any) []any { return listsAndCode(impl.DotPower(one(a), 0, 7)) })
		check("LeastCycleSet", func(a []any) []any { return cycleAndCode(impl.LeastCycleSet(one(a))) })
		check("CycleSetText", func(a []any) []any { return listsAndCode(impl.CycleSetText(one(a))) })
		for _, d := range append(cycles, renamedCycle(crossCycle(), turn(4, 1))) {
			checkMemory(t, "CycleIsomorphism", func(a []any) []any { return listsAndCode(impl.CycleIsomorphism(one(a), two(a))) }, c.Table, d.Table)
		}
		text, _ := impl.CycleSetText(c)
		checkMemory(t, "ParseCycleSet", func(a []any) []any { return cycleAndCode(impl.ParseCycleSet(text)) })
	}
	for _, s := range []impl.Solution{flipOf(1), flipOf(5), twistOf(turn(5, 1), turn(5, 4)), solutionOf(crossCycle()), sameOf(4), dihedralOf(4), flipOf(13),
		sol(sumTable(4), sumTable(4))} {
		checkMemory(t, "CycleSetOfSolution", func(a []any) []any { return cycleAndCode(impl.CycleSetOfSolution(pairMap(a))) }, s.First, s.Second)
	}
	least := ofRack(leastRackOf(asRack(crossCycle())))
	checkMemory(t, "LeastCycleSet of a least form", func(a []any) []any { return cycleAndCode(impl.LeastCycleSet(one(a))) }, least.Table)
	for n := range int64(impl.MaxSize + 2) {
		checkMemory(t, "AffineCycleSet", func(a []any) []any { return cycleAndCode(impl.AffineCycleSet(n, 0, 1, 0)) })
	}
	// Rows that are one list, as an argument, are several ones in a result.
	row := []int64{1, 0, 2}
	shared := impl.CycleSet{Table: [][]int64{row, row, row}}
	for _, f := range []func(impl.CycleSet) (impl.CycleSet, int64){impl.DualCycleSet, impl.LeastCycleSet} {
		checkMemory(t, "rows that are one list", func(a []any) []any { return cycleAndCode(f(shared)) })
	}
	checkMemory(t, "rows that are one list", func(a []any) []any { return parts(impl.SolutionOfCycleSet(shared)) })
	both := sol(shared.Table, transposedTable(shared.Table))
	checkMemory(t, "rows that are one list", func(a []any) []any { return cycleAndCode(impl.CycleSetOfSolution(both)) })
	if !slices.Equal(row, []int64{1, 0, 2}) {
		t.Errorf("the row is changed: %v", row)
	}
}

// transposedTable returns a table with rows and columns exchanged.
func transposedTable(u [][]int64) [][]int64 {
	return rackMade(len(u), func(x, y int64) int64 { return u[y][x] }).Table
}

// A result that is overwritten must not change what a later call returns.
func TestChapter5KeepsNoState(t *testing.T) {
	swap := permutationCycle(turn(2, 1))
	for range 2 {
		made := []impl.CycleSet{}
		keep := func(c impl.CycleSet, _ int64) { made = append(made, c) }
		keep(impl.DualCycleSet(swap))
		keep(impl.AffineCycleSet(2, 0, 1, 1))
		keep(impl.LeastCycleSet(swap))
		keep(impl.ParseCycleSet("10/10"))
		keep(impl.CycleSetOfSolution(read(t, "10/10|11/00")))
		for i, c := range made {
			if !equalCycles(c, swap) {
				t.Errorf("result %d: %v", i, c)
			}
		}
		s, _ := impl.SolutionOfCycleSet(trivialCycle(2))
		squares, _ := impl.SquaresOf(swap)
		orders, _ := impl.RowOrders(swap)
		p, _ := impl.CycleIsomorphism(swap, swap)
		fault, _ := impl.CycleFault(impl.CycleSet{Table: [][]int64{{0, 1}, {1, 0}}})
		if !equalSolutions(s, flipOf(2)) || !slices.Equal(squares, []int64{1, 0}) || !slices.Equal(orders, []int64{2, 2}) ||
			!slices.Equal(p, []int64{0, 1}) || !slices.Equal(fault, []int64{0, 1, 0}) {
			t.Errorf("results %v, %v, %v, %v, %v", s, squares, orders, p, fault)
		}
		for _, c := range append(made, impl.CycleSet{Table: s.First}, impl.CycleSet{Table: s.Second}, impl.CycleSet{Table: [][]int64{squares, orders, p, fault}}) {
			for _, row := range c.Table {
				fill(row, -1)
			}
			clear(c.Table)
		}
	}
}
