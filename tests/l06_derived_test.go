package tests

import (
	"math/rand"
	"slices"
	"testing"

	"loop.example/g01119/impl"
)

// derivedOf returns the derived rack of a nondegenerate solution, with z found by trying all elements.
func derivedOf(s impl.Solution) impl.Rack {
	return rackMade(size(s), func(x, y int64) int64 {
		z := int64(slices.Index(s.First[y], x))
		return s.First[x][s.Second[y][z]]
	})
}

// twistedOf returns the solution that leads (x, y) to p(y) and what p leads to p(y) > x.
func twistedOf(r impl.Rack, p []int64) impl.Solution {
	return madeOf(len(p), func(x, y int64) (int64, int64) {
		return p[y], int64(slices.Index(p, r.Table[p[y]][x]))
	})
}

// solutionOfRack returns the solution that leads (x, y) to (x > y, x).
func solutionOfRack(r impl.Rack) impl.Solution {
	return madeOf(len(r.Table), func(x, y int64) (int64, int64) { return r.Table[x][y], x })
}

// productOf returns the pair map of pairs that acts by both pair maps at once.
func productOf(s impl.Solution, u impl.Solution) impl.Solution {
	m := int64(size(u))
	return madeOf(size(s)*size(u), func(x, y int64) (int64, int64) {
		a, b := led(s, x/m, y/m), led(u, x%m, y%m)
		return a[0]*m + b[0], a[1]*m + b[1]
	})
}

// factorGroup returns the permutations that are first times second, the former in the outer loop.
func factorGroup(firsts [][]int64, seconds [][]int64) [][]int64 {
	group := [][]int64{}
	for _, a := range firsts {
		for _, b := range seconds {
			group = append(group, doneThen(a, b))
		}
	}
	return group
}

// factorSolution returns the solution of a group in which each element is in exactly one way first
// times second: g o x, with g = a b, is a x b; (x, y) is led to (u, v) with x o y = x u = u o v.
func factorSolution(firsts [][]int64, seconds [][]int64) impl.Solution {
	group := factorGroup(firsts, seconds)
	circle := func(x int64, y int64) []int64 {
		a, b := firsts[int(x)/len(seconds)], seconds[int(x)%len(seconds)]
		return doneThen(doneThen(a, group[y]), b)
	}
	find := func(is func(g int64) bool) int64 {
		g := int64(0)
		for !is(g) {
			g++
		}
		return g
	}
	return madeOf(len(group), func(x, y int64) (int64, int64) {
		both := circle(x, y)
		u := find(func(g int64) bool { return slices.Equal(doneThen(group[x], group[g]), both) })
		return u, find(func(g int64) bool { return slices.Equal(circle(u, g), both) })
	})
}

// someFactors returns the factors of groups with 6, 8 and 12 elements.
func someFactors() [][2][][]int64 {
	three := [][]int64{{0, 1, 2, 3}, {1, 2, 0, 3}, {2, 0, 1, 3}}
	two := [][]int64{{0, 1, 2, 3}, {1, 0, 2, 3}}
	turns := [][]int64{{0, 1, 2, 3}, {1, 2, 3, 0}, {2, 3, 0, 1}, {3, 0, 1, 2}}
	plane := [][]int64{{0, 1, 2, 3}, {1, 0, 3, 2}, {2, 3, 0, 1}, {3, 2, 1, 0}}
	mirror := [][]int64{{0, 1, 2, 3}, {0, 3, 2, 1}}
	return [][2][][]int64{{three, two}, {two, three}, {turns, mirror}, {mirror, turns}, {plane, three}, {three, plane}}
}

// factorSolutions returns the solutions of these groups.
func factorSolutions() []impl.Solution {
	list := []impl.Solution{}
	for _, factors := range someFactors() {
		list = append(list, factorSolution(factors[0], factors[1]))
	}
	return list
}

// nondegenerateSolutions returns nondegenerate solutions of different kinds with 1 to 12 elements.
func nondegenerateSolutions() []impl.Solution {
	list := slices.Concat(foundSolutions(1), foundSolutions(2), foundSolutions(3), greatSolutions(), factorSolutions())
	list = slices.DeleteFunc(list, func(s impl.Solution) bool { return !isNondegenerate(s) })
	r := rand.New(rand.NewSource(90))
	for _, q := range someRacks() {
		list = append(list, solutionOfRack(q), twistedOf(q, q.Table[r.Intn(len(q.Table))]))
	}
	for _, c := range someCycles() {
		list = append(list, solutionOf(c))
	}
	three, cross, swap := solutionOfRack(dihedralRack(3)), solutionOf(crossCycle()), twistOf(turn(2, 1), turn(2, 0))
	list = append(list, productOf(three, cross), productOf(cross, three), productOf(factorSolutions()[0], swap), productOf(swap, factorSolutions()[1]),
		productOf(solutionOfRack(tetrahedralRack()), twistOf(turn(3, 1), turn(3, 1))))
	for _, s := range slices.Clone(list[len(list)-5:]) {
		list = append(list, mirrorOf(s), renamedMap(s, randomPermutation(r, size(s))))
	}
	for _, s := range factorSolutions() {
		list = append(list, mirrorOf(s), renamedMap(s, randomPermutation(r, size(s))))
	}
	return list
}

// degenerateSolutions returns solutions that are degenerate. In all of them neither all lambda nor
// all rho are permutations: by a theorem no finite solution has the ones without the other ones.
func degenerateSolutions(t *testing.T) []impl.Solution {
	t.Helper()
	list := []impl.Solution{}
	for n := 2; n <= 3; n++ {
		for _, s := range foundSolutions(n) {
			if !isNondegenerate(s) {
				list = append(list, s)
			}
		}
	}
	return append(list, sameOf(12), union(t, flipOf(10), sameOf(2)), union(t, sameOf(2), flipOf(10)), productOf(sameOf(2), dihedralOf(6)))
}

// noSolutions are pair maps that are no solutions, and tables that are no pair maps.
func noSolutions() map[string]impl.Solution {
	bad := badMaps()
	bad["collision alone"] = sol([][]int64{{0, 0}, {0, 0}}, [][]int64{{0, 0}, {0, 0}})
	bad["fault alone"] = sol([][]int64{{0, 0}, {1, 1}}, [][]int64{{1, 0}, {0, 1}})
	bad["collision and fault"] = sol([][]int64{{1, 1}, {0, 0}}, [][]int64{{1, 1}, {1, 1}})
	bad["constant of 12"] = sol(constantTable(12, 5), constantTable(12, 7))
	late := flipOf(12)
	late.First[11][10], late.First[11][11], late.Second[11][10], late.Second[11][11] = 11, 10, 11, 11
	bad["flip of 12 with two pairs exchanged"] = late
	// Bijections with permutations as lambda and rho that have a fault.
	bad["sums and first elements"] = madeOf(3, func(x, y int64) (int64, int64) { return (x + y) % 3, x })
	bad["sums and first elements of 12"] = madeOf(12, func(x, y int64) (int64, int64) { return (x + y) % 12, x })
	return bad
}

// hasSolution reports whether a pair map is a bijection that satisfies the equation.
func hasSolution(s impl.Solution) bool {
	pairs := map[[2]int64]bool{}
	for x := range int64(size(s)) {
		for y := range int64(size(s)) {
			pairs[led(s, x, y)] = true
		}
	}
	return len(pairs) == size(s)*size(s) && faultOf(s) == nil
}

// checkDerived checks the derived rack of a nondegenerate solution. The guarantee: the permutations
// lambda(x) are automorphisms of it; promise 21: the solution is involutive exactly if it is trivial.
func checkDerived(t *testing.T, s impl.Solution) impl.Rack {
	t.Helper()
	got, c := impl.DerivedRack(s)
	if !equalRacks(got, derivedOf(s)) || c != impl.ErrNone {
		t.Fatalf("DerivedRack(%v) = %v, %d, want %v", s, got, c, derivedOf(s))
	}
	if !hasRows(got.Table) || faultOfRack(got.Table) != nil {
		t.Errorf("DerivedRack(%v) = %v is no rack", s, got)
	}
	for _, lambda := range s.First {
		if !isAutomorphism(got, lambda) {
			t.Errorf("%v: %v is no automorphism of %v", s, lambda, got)
		}
	}
	if isInvolutive(s) != equalRacks(got, trivialRack(size(s))) {
		t.Errorf("%v: involutive %v, derived rack %v", s, isInvolutive(s), got)
	}
	return got
}

func TestDerivedRack(t *testing.T) {
	trivial, others := 0, 0
	for _, s := range nondegenerateSolutions() {
		if !hasSolution(s) || !isNondegenerate(s) {
			t.Fatalf("%v is no nondegenerate solution", s)
		}
		if r := checkDerived(t, s); equalRacks(r, trivialRack(size(s))) {
			trivial++
		} else {
			others++
		}
	}
	if trivial < 50 || others < 50 {
		t.Errorf("%d trivial derived racks, and %d others", trivial, others)
	}
}

// Promise 21: the solution of a rack has the rack as its derived rack; its inverse has the dual one.
func TestDerivedRacksOfSolutionsOfRacks(t *testing.T) {
	for _, r := range append(someRacks(), foundRacks(4)...) {
		s, c := impl.RackSolution(r)
		code(t, "RackSolution", c, impl.ErrNone)
		got, c := impl.DerivedRack(s)
		if !equalRacks(got, r) || c != impl.ErrNone {
			t.Errorf("DerivedRack of the solution of %v = %v, %d", r, got, c)
		}
		inverse, _ := impl.InverseSolution(s)
		dual, _ := impl.DualRack(r)
		if got, c := impl.DerivedRack(inverse); !equalRacks(got, dual) || c != impl.ErrNone {
			t.Errorf("DerivedRack(%v) = %v, %d, want %v", inverse, got, c, dual)
		}
	}
}

func TestNamedDerivedRacks(t *testing.T) {
	cases := []struct {
		s    impl.Solution
		want impl.Rack
	}{
		{flipOf(1), trivialRack(1)}, {sameOf(1), trivialRack(1)}, {flipOf(12), trivialRack(12)},
		{twistOf(turn(5, 1), turn(5, 1)), permutationRack(turn(5, 2))}, {twistOf(turn(5, 1), turn(5, 4)), trivialRack(5)},
		{twistOf(turn(12, 5), turn(12, 6)), permutationRack(turn(12, 11))}, {twistOf(identity(12), turn(12, 1)), permutationRack(turn(12, 1))},
		{dihedralOf(3), dihedralRack(3)}, {mirrorOf(dihedralOf(3)), dihedralRack(3)}, {dihedralOf(12), dihedralRack(12)},
		// Modulo 5: z is 3 x, rho(z) makes 2 y + 2 z = x + 2 y of y, and lambda(x) makes 2 x + 4 y of it.
		{madeOf(5, func(x, y int64) (int64, int64) { return 2 * y % 5, (2*x + 2*y) % 5 }), dihedralRack(5)},
		// Modulo 9: z is x - 3 y, rho(z) makes y + 3 z = y + 3 x of y, and lambda(x) makes y + 6 x of it.
		{madeOf(9, func(x, y int64) (int64, int64) { return (3*x + y) % 9, (x + 3*y) % 9 }),
			rackMade(9, func(x, y int64) int64 { return (6*x + y) % 9 })},
	}
	for _, x := range cases {
		if got, c := impl.DerivedRack(x.s); !equalRacks(got, x.want) || c != impl.ErrNone {
			t.Errorf("DerivedRack(%v) = %v, %d, want %v", x.s, got, c, x.want)
		}
	}
}

// The derived rack of a solution that comes from a group has its conjugation.
func TestDerivedRacksOfGroups(t *testing.T) {
	for _, factors := range someFactors() {
		s := factorSolution(factors[0], factors[1])
		want := conjugationRack(factorGroup(factors[0], factors[1]))
		if got, c := impl.DerivedRack(s); !equalRacks(got, want) || c != impl.ErrNone {
			t.Errorf("DerivedRack(%v) = %v, %d, want %v", s, got, c, want)
		}
	}
}

func TestDerivedRackErrors(t *testing.T) {
	for _, s := range degenerateSolutions(t) {
		got, c := impl.DerivedRack(s)
		checkNone(t, "DerivedRack of a degenerate solution", impl.ErrState, got, c)
	}
	for name, s := range noSolutions() {
		got, c := impl.DerivedRack(s)
		checkNone(t, "DerivedRack of "+name, impl.ErrInvalid, got, c)
	}
}

// checkTwisted checks the twisted solution of a rack by a list that may be an automorphism. Promise 6
// and 21: it is a nondegenerate solution with the rack as its derived rack.
func checkTwisted(t *testing.T, r impl.Rack, p []int64) (made bool) {
	t.Helper()
	got, c := impl.TwistedSolution(r, p)
	if !isAutomorphism(r, p) {
		if !isZero(got) || c != impl.ErrState {
			t.Errorf("TwistedSolution(%v, %v) = %v, %d", r, p, got, c)
		}
		return false
	}
	if !equalSolutions(got, twistedOf(r, p)) || c != impl.ErrNone {
		t.Fatalf("TwistedSolution(%v, %v) = %v, %d", r, p, got, c)
	}
	if !hasSolution(got) || !isNondegenerate(got) || !impl.IsSolution(got) {
		t.Errorf("TwistedSolution(%v, %v) = %v is no nondegenerate solution", r, p, got)
	}
	if !equalRacks(derivedOf(got), r) {
		t.Errorf("the derived rack of TwistedSolution(%v, %v) is %v", r, p, derivedOf(got))
	}
	checkDerived(t, got)
	return true
}

func TestTwistedSolution(t *testing.T) {
	for n := 1; n <= 4; n++ {
		for _, r := range foundRacks(n) {
			made := 0
			for _, p := range everyPermutation(n) {
				if checkTwisted(t, r, p) {
					made++
				}
			}
			if count, _ := impl.CountRackAutomorphisms(r); int64(made) != count {
				t.Errorf("%v has %d twists, and %d automorphisms", r, made, count)
			}
		}
	}
	random := rand.New(rand.NewSource(91))
	refused := 0
	for _, r := range someRacks() {
		kink, _ := impl.KinkOf(r)
		n := len(r.Table)
		for _, p := range [][]int64{identity(n), kink, r.Table[0], r.Table[n-1], doneThen(kink, r.Table[n/2])} {
			if !checkTwisted(t, r, p) {
				t.Errorf("%v is no twist of %v", p, r)
			}
		}
		if !checkTwisted(t, r, randomPermutation(random, n)) {
			refused++
		}
	}
	if refused == 0 {
		t.Errorf("no permutation is refused")
	}
}

// Permutations that are automorphisms, but for two elements, are none.
func TestPermutationsThatAreNoTwists(t *testing.T) {
	random := rand.New(rand.NewSource(92))
	refused := 0
	for _, r := range someRacks() {
		p := slices.Clone(r.Table[random.Intn(len(r.Table))])
		x, y := random.Intn(len(p)), random.Intn(len(p))
		p[x], p[y] = p[y], p[x]
		if !checkTwisted(t, r, p) {
			refused++
		}
	}
	if refused < 10 {
		t.Errorf("%d permutations are refused", refused)
	}
	// The last element alone does anything here: it exchanges the first two.
	last := trivialRack(12)
	last.Table[11] = []int64{1, 0, 2, 3, 4, 5, 6, 7, 8, 9, 10, 11}
	for _, x := range []struct {
		p    []int64
		want bool
	}{
		{last.Table[11], true}, {[]int64{0, 1, 3, 2, 4, 5, 6, 7, 8, 9, 10, 11}, true}, {[]int64{0, 2, 1, 3, 4, 5, 6, 7, 8, 9, 10, 11}, false},
		{[]int64{0, 1, 2, 3, 4, 5, 6, 7, 8, 9, 11, 10}, false},
	} {
		if made := checkTwisted(t, last, x.p); made != x.want {
			t.Errorf("%v is a twist of %v: %v", x.p, last, made)
		}
	}
}

func TestNamedTwistedSolutions(t *testing.T) {
	cases := []struct {
		r    impl.Rack
		p    []int64
		want impl.Solution
	}{
		{trivialRack(1), identity(1), flipOf(1)}, {trivialRack(12), identity(12), flipOf(12)},
		{trivialRack(5), turn(5, 2), twistOf(turn(5, 2), turn(5, 3))}, {trivialRack(12), turn(12, 1), twistOf(turn(12, 1), turn(12, 11))},
		{permutationRack(turn(12, 1)), turn(12, 5), twistOf(turn(12, 5), turn(12, 8))},
		{dihedralRack(12), identity(12), mirrorOf(dihedralOf(12))},
		{dihedralRack(5), []int64{0, 2, 4, 1, 3}, madeOf(5, func(x, y int64) (int64, int64) { return 2 * y % 5, (2*x + 2*y) % 5 })},
	}
	for _, x := range cases {
		if got, c := impl.TwistedSolution(x.r, x.p); !equalSolutions(got, x.want) || c != impl.ErrNone {
			t.Errorf("TwistedSolution(%v, %v) = %v, %d, want %v", x.r, x.p, got, c, x.want)
		}
	}
}

func TestTwistedSolutionErrors(t *testing.T) {
	refused := func(name string, r impl.Rack, p []int64, want int64) {
		t.Helper()
		if got, c := impl.TwistedSolution(r, p); !isZero(got) || c != want {
			t.Errorf("TwistedSolution of %s by %v = %v, %d, want %d", name, p, got, c, want)
		}
	}
	// ErrInvalid comes first, whatever the list is.
	for name, r := range badRacks() {
		for _, p := range append([][]int64{nil, identity(1), identity(2), identity(12), {1, 1}}, identity(len(r.Table)), turn(len(r.Table), 1)) {
			refused(name, r, p, impl.ErrInvalid)
		}
	}
	for n := 1; n <= impl.MaxSize; n++ {
		for _, r := range []impl.Rack{trivialRack(n), dihedralRack(n)} {
			for _, p := range badPermutations() {
				refused("a rack", r, p, impl.ErrRange)
			}
			for m := range 14 {
				if m != n {
					refused("a rack", r, identity(m), impl.ErrRange)
					refused("a rack", r, turn(m, 1), impl.ErrRange)
				}
			}
			for _, bad := range notElements(n) {
				p := identity(n)
				p[n-1] = bad
				refused("a rack", r, p, impl.ErrRange)
			}
		}
	}
}
