package tests

import (
	"math/rand"
	"slices"
	"testing"

	"loop.example/g01119/impl"
)

// renamedMap returns the pair map that has, for the elements to which p leads x and y, those to
// which p leads what s has for x and y.
func renamedMap(s impl.Solution, p []int64) impl.Solution {
	r := sol(constantTable(size(s), 0), constantTable(size(s), 0))
	for x := range s.First {
		for y := range s.First {
			r.First[p[x]][p[y]], r.Second[p[x]][p[y]] = p[s.First[x][y]], p[s.Second[x][y]]
		}
	}
	return r
}

// compareMaps compares First before Second.
func compareMaps(s impl.Solution, u impl.Solution) int {
	rows := slices.Concat(s.First, s.Second)
	return slices.CompareFunc(rows, slices.Concat(u.First, u.Second), slices.Compare[[]int64])
}

// isomorphismsOf returns all isomorphisms of pair maps with few elements in lexicographic order.
func isomorphismsOf(s impl.Solution, u impl.Solution) [][]int64 {
	found := [][]int64{}
	for _, p := range everyPermutation(size(s)) {
		if equalSolutions(renamedMap(s, p), u) {
			found = append(found, p)
		}
	}
	return found
}

// doneThen returns the permutation that does p then q.
func doneThen(p []int64, q []int64) []int64 {
	r := make([]int64, len(p))
	for x := range p {
		r[x] = q[p[x]]
	}
	return r
}

func TestRenameSolution(t *testing.T) {
	r := rand.New(rand.NewSource(40))
	for i := range 60 {
		n := 1 + i%impl.MaxSize
		s, p, q := randomMap(r, n), randomPermutation(r, n), randomPermutation(r, n)
		got, c := impl.RenameSolution(s, p)
		if !equalSolutions(got, renamedMap(s, p)) || c != impl.ErrNone {
			t.Errorf("RenameSolution(%v, %v) = %v, %d", s, p, got, c)
		}
		again, _ := impl.RenameSolution(got, q)
		once, _ := impl.RenameSolution(s, doneThen(p, q))
		if !equalSolutions(again, once) {
			t.Errorf("renaming %v by %v then %v", s, p, q)
		}
	}
	for _, s := range greatSolutions() {
		got, _ := impl.RenameSolution(s, randomPermutation(r, size(s)))
		if !impl.IsSolution(got) {
			t.Errorf("renaming the solution %v makes %v", s, got)
		}
	}
}

func TestRenamingsRefused(t *testing.T) {
	refused := func(name string, s impl.Solution, p []int64) {
		t.Helper()
		got, c := impl.RenameSolution(s, p)
		code(t, "RenameSolution by "+name, c, impl.ErrRange)
		if !isZero(got) {
			t.Errorf("%s: %v beside an error", name, got)
		}
	}
	for name, p := range badPermutations() {
		refused(name, flipOf(2), p)
		refused(name, flipOf(max(1, min(12, len(p)))), p)
	}
	refused("one element", flipOf(2), identity(1))
	refused("three elements", flipOf(2), identity(3))
	refused("11 elements", flipOf(12), identity(11))
	refused("12 elements", flipOf(11), identity(12))
}

// leastOf returns the least form of a pair map with few elements.
func leastOf(s impl.Solution) impl.Solution {
	least := s
	for _, p := range everyPermutation(size(s)) {
		if u := renamedMap(s, p); compareMaps(u, least) < 0 {
			least = u
		}
	}
	return least
}

func TestLeastSolution(t *testing.T) {
	r := rand.New(rand.NewSource(41))
	list := append(everyPairMap(1), everyPairMap(2)...)
	for i := range 60 {
		list = append(list, randomMap(r, 3+i%3))
	}
	for n := 6; n <= impl.MaxForm; n++ {
		// With equal tables First, Second decides.
		list = append(list, randomMap(r, n), sol(constantTable(n, 2), randomTable(r, n)), sol(flipOf(n).First, randomTable(r, n)),
			sol(randomTable(r, n), constantTable(n, int64(n-1))), dihedralOf(n), flipOf(n))
	}
	for _, s := range list {
		want := leastOf(s)
		for _, u := range []impl.Solution{s, renamedMap(s, randomPermutation(r, size(s)))} {
			got, c := impl.LeastSolution(u)
			if !equalSolutions(got, want) || c != impl.ErrNone {
				t.Errorf("LeastSolution(%v) = %v, %d, want %v", u, got, c, want)
			}
		}
	}
	for n := impl.MaxForm + 1; n <= impl.MaxSize; n++ {
		got, c := impl.LeastSolution(flipOf(n))
		if !isZero(got) || c != impl.ErrLimit {
			t.Errorf("LeastSolution of %d elements = %v, %d", n, got, c)
		}
	}
}

// The numbers of nondegenerate solutions up to isomorphism are known: 4 with 2 elements, of which 2
// are involutive, and 26 with 3, of which 5 are.
func TestNumbersOfLeastForms(t *testing.T) {
	wants := map[int][2]int{1: {1, 1}, 2: {4, 2}, 3: {26, 5}}
	for n, want := range wants {
		all, involutive := map[string]bool{}, map[string]bool{}
		for _, s := range foundSolutions(n) {
			if ok, _ := impl.IsNondegenerate(s); !ok {
				continue
			}
			least, _ := impl.LeastSolution(s)
			text, _ := impl.SolutionText(least)
			all[text] = true
			if ok, _ := impl.IsInvolutive(s); ok {
				involutive[text] = true
			}
		}
		if got := [2]int{len(all), len(involutive)}; got != want {
			t.Errorf("%d elements: %v, want %v", n, got, want)
		}
	}
}

// checkMatch checks isomorphisms and automorphisms of pair maps with few elements.
func checkMatch(t *testing.T, s impl.Solution, u impl.Solution) {
	t.Helper()
	wants := isomorphismsOf(s, u)
	got, c := impl.SolutionIsomorphism(s, u)
	if len(wants) == 0 {
		if len(got) != 0 || c != impl.ErrNotFound {
			t.Errorf("SolutionIsomorphism(%v, %v) = %v, %d, want none", s, u, got, c)
		}
	} else if !slices.Equal(got, wants[0]) || c != impl.ErrNone {
		t.Errorf("SolutionIsomorphism(%v, %v) = %v, %d, want %v", s, u, got, c, wants[0])
	}
	group, c := impl.SolutionAutomorphisms(s)
	if want := isomorphismsOf(s, s); !equalTables(group, want) || c != impl.ErrNone {
		t.Errorf("SolutionAutomorphisms(%v) = %v, %d, want %v", s, group, c, want)
	}
}

func TestIsomorphismsOfSmallMaps(t *testing.T) {
	few := append(everyPairMap(1), everyPairMap(2)...)
	for _, s := range few {
		for _, u := range few[1:] {
			if size(s) == size(u) {
				checkMatch(t, s, u)
			}
		}
	}
	found := foundSolutions(3)
	for i, s := range found {
		for j := i % 3; j < len(found); j += 3 {
			checkMatch(t, s, found[j])
		}
	}
	r := rand.New(rand.NewSource(42))
	for i := range 40 {
		// Pair maps with few different values have automorphisms more often.
		n := 3 + i%3
		for _, s := range []impl.Solution{randomMap(r, n), twistOf(randomPermutation(r, n), randomPermutation(r, n)),
			madeOf(n, func(x, y int64) (int64, int64) { return int64(r.Intn(2)), x })} {
			u := renamedMap(s, randomPermutation(r, n))
			checkMatch(t, s, u)
			u.Second[r.Intn(n)][r.Intn(n)] = int64(r.Intn(n))
			checkMatch(t, s, u)
		}
	}
}

// A value among elements that all look different tells pair maps apart, though each element looks as
// before.
func TestIsomorphismsOfMapsThatDifferAtOnePair(t *testing.T) {
	r := rand.New(rand.NewSource(45))
	for range 40 {
		s := randomMap(r, 6)
		u := sol(guardedTable(s.First), guardedTable(s.Second))
		tables := [][][]int64{u.First, u.Second}
		tables[r.Intn(2)][r.Intn(6)][r.Intn(6)] = int64(r.Intn(6))
		checkMatch(t, s, renamedMap(u, randomPermutation(r, 6)))
	}
}

// Twists of 6 elements, each against itself, renamed, and against another one.
func TestIsomorphismsOfTwists(t *testing.T) {
	n := 6
	list := []impl.Solution{}
	for _, p := range [][]int64{identity(n), turn(n, 1), turn(n, 2), turn(n, 3), {1, 0, 3, 2, 4, 5}, {1, 0, 2, 3, 4, 5}, {1, 2, 0, 3, 4, 5}} {
		for _, q := range [][]int64{identity(n), turn(n, 1), turn(n, 4), {1, 0, 3, 2, 5, 4}, {0, 1, 2, 4, 5, 3}} {
			list = append(list, twistOf(p, q))
		}
	}
	r := rand.New(rand.NewSource(43))
	for i, s := range list {
		checkMatch(t, s, renamedMap(s, randomPermutation(r, n)))
		checkMatch(t, s, list[(i*7+3)%len(list)])
	}
}

// Different numbers of elements have no isomorphism.
func TestIsomorphismsOfDifferentSizes(t *testing.T) {
	for n := 1; n <= impl.MaxSize; n++ {
		for m := 1; m <= impl.MaxSize; m++ {
			got, c := impl.SolutionIsomorphism(flipOf(n), flipOf(m))
			if n == m && (!slices.Equal(got, identity(n)) || c != impl.ErrNone) {
				t.Errorf("flips of %d elements: %v, %d", n, got, c)
			}
			if n != m && (len(got) != 0 || c != impl.ErrNotFound) {
				t.Errorf("flips of %d and %d elements: %v, %d", n, m, got, c)
			}
		}
	}
}

// The isomorphisms to a renamed pair map are the automorphisms, then the renaming.
func TestIsomorphismsOfGreatMaps(t *testing.T) {
	r := rand.New(rand.NewSource(44))
	list := greatSolutions()
	for n := 7; n <= impl.MaxSize; n++ {
		list = append(list, randomMap(r, n), sol(sumTable(n), sumTable(n)), sol(constantTable(n, 1), constantTable(n, 0)))
	}
	for _, s := range list {
		p := randomPermutation(r, size(s))
		u := renamedMap(s, p)
		got, c := impl.SolutionIsomorphism(s, u)
		if len(got) != size(s) || c != impl.ErrNone || !equalSolutions(renamedMap(s, got), u) {
			t.Errorf("SolutionIsomorphism(%v, %v) = %v, %d", s, u, got, c)
			continue
		}
		group, c := impl.SolutionAutomorphisms(s)
		if c == impl.ErrLimit {
			continue
		}
		checkGroup(t, s, group)
		want := slices.Clone(p)
		for _, a := range group {
			if q := doneThen(a, p); slices.Compare(q, want) < 0 {
				want = q
			}
		}
		if !slices.Equal(got, want) {
			t.Errorf("SolutionIsomorphism(%v, %v) = %v, want %v", s, u, got, want)
		}
	}
}

// checkGroup checks that a list has automorphisms in strictly lexicographic order, the identity
// first.
func checkGroup(t *testing.T, s impl.Solution, group [][]int64) {
	t.Helper()
	if len(group) == 0 || !slices.Equal(group[0], identity(size(s))) {
		t.Errorf("automorphisms of %v without the identity: %v", s, group)
	}
	for i, a := range group {
		if !equalSolutions(renamedMap(s, a), s) || i > 0 && slices.Compare(group[i-1], a) >= 0 {
			t.Errorf("SolutionAutomorphisms(%v) has %v behind %d others", s, a, i)
		}
	}
}

// planeOf returns the pair map of the seven points of a plane that leads two points to the third one
// of their line and to the first one of them; it has 168 automorphisms.
func planeOf() impl.Solution {
	third := constantTable(7, 0)
	for x := range int64(7) {
		third[x][x] = x
		line := []int64{x, (x + 1) % 7, (x + 3) % 7}
		for i := range line {
			third[line[i]][line[(i+1)%3]] = line[(i+2)%3]
			third[line[(i+1)%3]][line[i]] = line[(i+2)%3]
		}
	}
	return sol(third, flipOf(7).Second)
}

// union returns the union of pair maps.
func union(t *testing.T, list ...impl.Solution) impl.Solution {
	t.Helper()
	all := list[0]
	for _, s := range list[1:] {
		var c int64
		all, c = impl.UnionSolution(all, s)
		code(t, "UnionSolution", c, impl.ErrNone)
	}
	return all
}

// Of the groups of permutations of at most 12 elements, none has 973 to 1007 of them. One with 960
// is accepted, and one with 1008 is not.
func TestAutomorphismsAroundMaxElements(t *testing.T) {
	square := twistOf([]int64{1, 0, 3, 2}, identity(4))
	accepted := map[int]impl.Solution{
		1:   sol([][]int64{{1, 2, 0}, {0, 0, 0}, {0, 1, 2}}, flipOf(3).Second),
		8:   square,
		12:  twistOf(turn(12, 1), turn(12, 5)),
		42:  madeOf(7, func(x, y int64) (int64, int64) { return (3*x + 5*y) % 7, (2*x + 6*y) % 7 }),
		48:  dihedralOf(12),
		110: madeOf(11, func(x, y int64) (int64, int64) { return (3*x + 9*y) % 11, (2*x + 10*y) % 11 }),
		120: flipOf(5),
		168: planeOf(),
		336: union(t, twistOf(turn(2, 1), turn(2, 1)), planeOf()),
		720: flipOf(6),
		960: union(t, flipOf(5), square),
	}
	for want, s := range accepted {
		group, c := impl.SolutionAutomorphisms(s)
		if len(group) != want || c != impl.ErrNone {
			t.Errorf("%d automorphisms, code %d, want %d", len(group), c, want)
		}
		checkGroup(t, s, group)
	}
	refused := []impl.Solution{union(t, planeOf(), flipOf(3)), union(t, flipOf(3), planeOf()), flipOf(7), flipOf(12), sameOf(12),
		sol(constantTable(12, 3), constantTable(12, 3)), union(t, square, flipOf(6)), union(t, square, square, square)}
	for _, s := range refused {
		group, c := impl.SolutionAutomorphisms(s)
		if len(group) != 0 || c != impl.ErrLimit {
			t.Errorf("%v has %d automorphisms, code %d, want ErrLimit", s, len(group), c)
		}
	}
}

// Pair maps that hardly differ, or look alike from each element, are told apart soon.
func TestIsomorphismsThatAreHardToRefuse(t *testing.T) {
	changed := flipOf(12)
	changed.First[3][8] = 3
	other := flipOf(12)
	other.First[3][8] = 5
	// Three elements in a circle, led around it or back by those that are all alike.
	circle := func(k int64) impl.Solution {
		return madeOf(12, func(x, y int64) (int64, int64) {
			switch {
			case x >= 9 && y >= 9:
				return 9 + (2*x+2*y+k*(y-x)+9)%3, x
			case x >= 9:
				return 9 + (x-9+k)%3, x
			}
			return y, x
		})
	}
	six := twistOf(turn(6, 1), identity(6))
	threes := twistOf([]int64{1, 2, 0, 4, 5, 3}, identity(6))
	product := func(s impl.Solution, u impl.Solution) impl.Solution {
		p, c := impl.ProductSolution(s, u)
		code(t, "ProductSolution", c, impl.ErrNone)
		return p
	}
	sums := func(n int) impl.Solution { return sol(sumTable(n), sumTable(n)) }
	pairs := [][2]impl.Solution{
		{flipOf(12), changed}, {changed, other}, {changed, flipOf(12)}, {circle(1), circle(2)},
		{union(t, flipOf(6), six), union(t, flipOf(6), threes)}, {union(t, six, flipOf(6)), union(t, threes, flipOf(6))},
		{sums(12), product(sums(2), sums(6))}, {product(sums(2), dihedralOf(6)), dihedralOf(12)}, {six, threes},
		{twistOf(turn(12, 1), turn(12, 1)), twistOf(turn(12, 1), turn(12, 5))}, {dihedralOf(12), flipOf(12)},
	}
	for _, pair := range pairs {
		for _, both := range [][2]impl.Solution{pair, {pair[1], pair[0]}} {
			got, c := impl.SolutionIsomorphism(both[0], both[1])
			if len(got) != 0 || c != impl.ErrNotFound {
				t.Errorf("SolutionIsomorphism(%v, %v) = %v, %d", both[0], both[1], got, c)
			}
		}
	}
	// The elements 3 and 8 are led to 7 and 0, and the others in ascending order to what is left.
	got, c := impl.SolutionIsomorphism(changed, renamedMap(changed, turn(12, 4)))
	if !slices.Equal(got, []int64{1, 2, 3, 7, 4, 5, 6, 8, 0, 9, 10, 11}) || c != impl.ErrNone {
		t.Errorf("isomorphism of a changed flip: %v, %d", got, c)
	}
}

// parts puts a pair map and a code into a list as checkMemory takes them.
func parts(s impl.Solution, c int64) []any { return []any{s.First, s.Second, c} }

func TestChapter2KeepsMemoryApart(t *testing.T) {
	list := func(a any) []int64 { return a.([]int64) }
	one := func(a []any) impl.Solution { return sol(a[0].([][]int64), a[1].([][]int64)) }
	two := func(a []any) impl.Solution { return sol(a[2].([][]int64), a[3].([][]int64)) }
	check := checkMemory
	maps := []impl.Solution{flipOf(1), flipOf(5), sameOf(5), dihedralOf(5), twistOf(turn(5, 1), turn(5, 2)), sol(constantTable(5, 0), sumTable(5))}
	for _, s := range maps {
		all, twist := identity(size(s)), turn(size(s), 1)
		check(t, "IsPairMap", func(a []any) []any { return []any{impl.IsPairMap(one(a))} }, s.First, s.Second)
		check(t, "IsSolution", func(a []any) []any { return []any{impl.IsSolution(one(a))} }, s.First, s.Second)
		check(t, "ApplyPair", func(a []any) []any { impl.ApplyPair(one(a), 0, 0); return nil }, s.First, s.Second)
		check(t, "EquationFault", func(a []any) []any { return listsAndCode(impl.EquationFault(one(a))) }, s.First, s.Second)
		check(t, "CollisionOf", func(a []any) []any { return listsAndCode(impl.CollisionOf(one(a))) }, s.First, s.Second)
		check(t, "IsNondegenerate", func(a []any) []any { return listsAndCode(impl.IsNondegenerate(one(a))) }, s.First, s.Second)
		check(t, "IsInvolutive", func(a []any) []any { return listsAndCode(impl.IsInvolutive(one(a))) }, s.First, s.Second)
		check(t, "IsSquareFree", func(a []any) []any { return listsAndCode(impl.IsSquareFree(one(a))) }, s.First, s.Second)
		check(t, "OrderOfSolution", func(a []any) []any { return listsAndCode(impl.OrderOfSolution(one(a))) }, s.First, s.Second)
		check(t, "InverseSolution", func(a []any) []any { return parts(impl.InverseSolution(one(a))) }, s.First, s.Second)
		check(t, "MirrorSolution", func(a []any) []any { return parts(impl.MirrorSolution(one(a))) }, s.First, s.Second)
		check(t, "IsClosedSet", func(a []any) []any { return listsAndCode(impl.IsClosedSet(one(a), list(a[2]))) }, s.First, s.Second, all)
		check(t, "SubSolution", func(a []any) []any { return parts(impl.SubSolution(one(a), list(a[2]))) }, s.First, s.Second, all)
		check(t, "RenameSolution", func(a []any) []any { return parts(impl.RenameSolution(one(a), list(a[2]))) }, s.First, s.Second, all)
		check(t, "RenameSolution", func(a []any) []any { return parts(impl.RenameSolution(one(a), list(a[2]))) }, s.First, s.Second, twist)
		check(t, "LeastSolution", func(a []any) []any { return parts(impl.LeastSolution(one(a))) }, s.First, s.Second)
		check(t, "SolutionAutomorphisms", func(a []any) []any { return listsAndCode(impl.SolutionAutomorphisms(one(a))) }, s.First, s.Second)
		check(t, "SolutionText", func(a []any) []any { return listsAndCode(impl.SolutionText(one(a))) }, s.First, s.Second)
		check(t, "TwistSolution", func(a []any) []any { return parts(impl.TwistSolution(list(a[0]), list(a[1]))) }, twist, all)
		for _, u := range append(maps, renamedMap(s, twist)) {
			check(t, "ProductSolution", func(a []any) []any { return parts(impl.ProductSolution(one(a), two(a))) }, s.First, s.Second, u.First, u.Second)
			check(t, "UnionSolution", func(a []any) []any { return parts(impl.UnionSolution(one(a), two(a))) }, s.First, s.Second, u.First, u.Second)
			check(t, "SolutionIsomorphism", func(a []any) []any { return listsAndCode(impl.SolutionIsomorphism(one(a), two(a))) },
				s.First, s.Second, u.First, u.Second)
		}
		text, _ := impl.SolutionText(s)
		check(t, "ParseSolution", func(a []any) []any { return parts(impl.ParseSolution(text)) })
	}
	check(t, "FlipSolution", func(a []any) []any { return parts(impl.FlipSolution(5)) })
	first := constantTable(3, 1)
	check(t, "First that is Second", func(a []any) []any {
		u := a[0].([][]int64)
		return parts(impl.MirrorSolution(sol(u, u)))
	}, first)
}

// A result that is overwritten must not change what a later call returns.
func TestChapter2KeepsNoState(t *testing.T) {
	for range 2 {
		flip, _ := impl.FlipSolution(3)
		parsed, _ := impl.ParseSolution("01/01|00/11")
		group, _ := impl.SolutionAutomorphisms(flipOf(3))
		least, _ := impl.LeastSolution(dihedralOf(3))
		if !equalSolutions(flip, flipOf(3)) || !equalSolutions(parsed, flipOf(2)) || !equalTables(group, everyPermutation(3)) ||
			!equalSolutions(least, dihedralOf(3)) {
			t.Errorf("results %v, %v, %v, %v", flip, parsed, group, least)
		}
		for _, rows := range [][][]int64{flip.First, flip.Second, parsed.First, parsed.Second, group, least.First, least.Second} {
			for _, row := range rows {
				fill(row, -1)
			}
			clear(rows)
		}
	}
}
