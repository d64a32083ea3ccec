package tests

import (
	"fmt"
	"math"
	"math/rand"
	"slices"
	"strings"
	"testing"

	"loop.example/g01119/impl"
)

// sol puts two tables into a pair map.
func sol(first [][]int64, second [][]int64) impl.Solution {
	return impl.Solution{First: first, Second: second}
}

// read returns the pair map with a text, and stops the test if there is none.
func read(t *testing.T, text string) impl.Solution {
	t.Helper()
	s, c := impl.ParseSolution(text)
	if c != impl.ErrNone {
		t.Fatalf("ParseSolution(%q): code %d", text, c)
	}
	return s
}

// size returns the number of elements of a pair map.
func size(s impl.Solution) int { return len(s.First) }

// led returns both elements of the pair to which a pair map leads (x, y), read from its tables.
func led(s impl.Solution, x int64, y int64) [2]int64 {
	return [2]int64{s.First[x][y], s.Second[x][y]}
}

// madeOf returns the pair map of n elements that leads each pair to what a function makes of it.
func madeOf(n int, f func(x, y int64) (int64, int64)) impl.Solution {
	s := sol(constantTable(n, 0), constantTable(n, 0))
	for x := range int64(n) {
		for y := range int64(n) {
			s.First[x][y], s.Second[x][y] = f(x, y)
		}
	}
	return s
}

// flipOf and sameOf return the pair maps that exchange and that keep the elements of pairs.
func flipOf(n int) impl.Solution {
	return madeOf(n, func(x, y int64) (int64, int64) { return y, x })
}

func sameOf(n int) impl.Solution {
	return madeOf(n, func(x, y int64) (int64, int64) { return x, y })
}

// dihedralOf returns the solution that leads (x, y) to (2 x - y, x) modulo n.
func dihedralOf(n int) impl.Solution {
	return madeOf(n, func(x, y int64) (int64, int64) { return (2*x - y + int64(n)) % int64(n), x })
}

// twistOf returns the pair map that leads (x, y) to (p[y], q[x]).
func twistOf(p []int64, q []int64) impl.Solution {
	return madeOf(len(p), func(x, y int64) (int64, int64) { return p[y], q[x] })
}

// turn returns the permutation that adds k modulo n.
func turn(n int, k int) []int64 {
	p := identity(n)
	for x := range p {
		p[x] = int64((x + k) % n)
	}
	return p
}

// equalSolutions reports whether two pair maps have equal tables.
func equalSolutions(s impl.Solution, t impl.Solution) bool {
	return equalTables(s.First, t.First) && equalTables(s.Second, t.Second)
}

// isZero reports whether a pair map is the zero value.
func isZero(s impl.Solution) bool { return len(s.First) == 0 && len(s.Second) == 0 }

// randomMap returns a pair map of n elements.
func randomMap(r *rand.Rand, n int) impl.Solution {
	return sol(randomTable(r, n), randomTable(r, n))
}

// bijectionOf returns the pair map that leads the pairs in lexicographic order to those with the
// numbers in p, where the pair (x, y) has the number x n + y.
func bijectionOf(n int, p []int64) impl.Solution {
	m := int64(n)
	return madeOf(n, func(x, y int64) (int64, int64) { return p[x*m+y] / m, p[x*m+y] % m })
}

// randomBijection returns a bijection of n elements.
func randomBijection(r *rand.Rand, n int) impl.Solution {
	return bijectionOf(n, randomPermutation(r, n*n))
}

// everyPairMap returns all pair maps of n elements.
func everyPairMap(n int) []impl.Solution {
	maps, tables := []impl.Solution{}, everyTable(n)
	for _, first := range tables {
		for _, second := range tables {
			maps = append(maps, sol(first, second))
		}
	}
	return maps
}

// foundSolutions returns all solutions with n elements, n at most 3, found without the program.
func foundSolutions(n int) []impl.Solution {
	found := []impl.Solution{}
	p := identity(n * n)
	var search func(k int)
	search = func(k int) {
		if k == len(p) {
			if s := bijectionOf(n, p); faultOf(s) == nil {
				found = append(found, s)
			}
			return
		}
		for i := k; i < len(p); i++ {
			p[k], p[i] = p[i], p[k]
			search(k + 1)
			p[k], p[i] = p[i], p[k]
		}
	}
	search(0)
	return found
}

// greatSolutions returns solutions of different kinds, with up to 12 elements.
func greatSolutions() []impl.Solution {
	list := []impl.Solution{flipOf(1), flipOf(12), sameOf(4), sameOf(12), dihedralOf(5), dihedralOf(12)}
	for n := 2; n <= 12; n++ {
		list = append(list, twistOf(turn(n, 1), turn(n, n/2)), twistOf(turn(n, 1), turn(n, n-1)))
	}
	return append(list, twistOf([]int64{1, 2, 0, 4, 3, 5}, []int64{0, 1, 2, 4, 3, 5}))
}

// done returns the list that doing a pair map at places, one after the other, makes of a list.
func done(s impl.Solution, list []int64, places ...int) []int64 {
	list = slices.Clone(list)
	for _, i := range places {
		list[i], list[i+1] = s.First[list[i]][list[i+1]], s.Second[list[i]][list[i+1]]
	}
	return list
}

// faultOf returns the first list at which a pair map does not satisfy the equation, or nil.
func faultOf(s impl.Solution) []int64 {
	for x := range s.First {
		for y := range s.First {
			for z := range s.First {
				list := []int64{int64(x), int64(y), int64(z)}
				if !slices.Equal(done(s, list, 0, 1, 0), done(s, list, 1, 0, 1)) {
					return list
				}
			}
		}
	}
	return nil
}

// collisionOf returns the first list of two different pairs that are led to one, or nil.
func collisionOf(s impl.Solution) []int64 {
	for _, list := range everyList(size(s), 4) {
		p, q := [2]int64(list[:2]), [2]int64(list[2:])
		if p != q && led(s, p[0], p[1]) == led(s, q[0], q[1]) {
			return list
		}
	}
	return nil
}

// badMaps are pairs of tables that are no pair maps.
func badMaps() map[string]impl.Solution {
	bad := map[string]impl.Solution{
		"zero value":        {},
		"no Second":         sol(constantTable(2, 0), nil),
		"no First":          sol(nil, constantTable(2, 0)),
		"smaller First":     sol(constantTable(2, 0), constantTable(3, 0)),
		"smaller Second":    sol(constantTable(3, 0), constantTable(2, 0)),
		"sizes 12 and 11":   sol(constantTable(12, 0), constantTable(11, 0)),
		"sizes 12 and 13":   sol(constantTable(12, 0), constantTable(13, 0)),
		"sizes 13 and 12":   sol(constantTable(13, 0), constantTable(12, 0)),
		"flip of 13":        flipOf(13),
		"flip of 100":       flipOf(100),
		"value of other":    sol(constantTable(2, 2), constantTable(3, 2)),
		"both lack a row":   sol(constantTable(3, 0)[:2], constantTable(3, 0)[:2]),
		"both have one row": sol([][]int64{{0, 0}}, [][]int64{{0, 0}}),
	}
	for name, u := range badTables() {
		good := constantTable(max(1, min(12, len(u))), 0)
		bad["First "+name] = sol(u, good)
		bad["Second "+name] = sol(good, u)
		bad["both "+name] = sol(u, u)
	}
	return bad
}

func TestIsPairMap(t *testing.T) {
	r := rand.New(rand.NewSource(20))
	for n := 1; n <= impl.MaxSize; n++ {
		for _, s := range []impl.Solution{flipOf(n), sameOf(n), randomMap(r, n)} {
			if !impl.IsPairMap(s) {
				t.Errorf("a pair map of %d elements is refused: %v", n, s)
			}
		}
	}
	for name, s := range badMaps() {
		if impl.IsPairMap(s) || impl.IsSolution(s) {
			t.Errorf("%s is accepted", name)
		}
	}
}

// callsOnMaps calls each function that takes one pair map, with other arguments that are right for
// all but 1 element, and returns the codes and whether all other results are zero.
func callsOnMaps(s impl.Solution, x int64, set []int64, p []int64) (map[string]int64, bool) {
	codes, zero := map[string]int64{}, true
	keep := func(name string, c int64, isZero bool) {
		codes[name] = c
		zero = zero && isZero
	}
	u, v, c := impl.ApplyPair(s, x, x)
	keep("ApplyPair", c, u == 0 && v == 0)
	a, c := impl.EquationFault(s)
	keep("EquationFault", c, len(a) == 0)
	a, c = impl.CollisionOf(s)
	keep("CollisionOf", c, len(a) == 0)
	ok, c := impl.IsNondegenerate(s)
	keep("IsNondegenerate", c, !ok)
	ok, c = impl.IsInvolutive(s)
	keep("IsInvolutive", c, !ok)
	ok, c = impl.IsSquareFree(s)
	keep("IsSquareFree", c, !ok)
	k, c := impl.OrderOfSolution(s)
	keep("OrderOfSolution", c, k == 0)
	r, c := impl.InverseSolution(s)
	keep("InverseSolution", c, isZero(r))
	r, c = impl.MirrorSolution(s)
	keep("MirrorSolution", c, isZero(r))
	ok, c = impl.IsClosedSet(s, set)
	keep("IsClosedSet", c, !ok)
	r, c = impl.SubSolution(s, set)
	keep("SubSolution", c, isZero(r))
	r, c = impl.RenameSolution(s, p)
	keep("RenameSolution", c, isZero(r))
	r, c = impl.LeastSolution(s)
	keep("LeastSolution", c, isZero(r))
	b, c := impl.SolutionAutomorphisms(s)
	keep("SolutionAutomorphisms", c, len(b) == 0)
	text, c := impl.SolutionText(s)
	keep("SolutionText", c, text == "")
	return codes, zero
}

// ErrInvalid comes before all other errors.
func TestPairMapsRefused(t *testing.T) {
	for name, s := range badMaps() {
		for _, wrong := range []bool{false, true} {
			x, set, p := int64(0), []int64{0}, identity(max(1, len(s.First)))
			if wrong {
				x, set, p = -1, []int64{1, 0}, []int64{0, 0}
			}
			codes, zero := callsOnMaps(s, x, set, p)
			for f, c := range codes {
				code(t, f+" of "+name, c, impl.ErrInvalid)
			}
			if !zero {
				t.Errorf("%s: a result beside an error", name)
			}
		}
		for _, good := range []impl.Solution{flipOf(2), flipOf(12)} {
			for _, pair := range [][2]impl.Solution{{s, good}, {good, s}, {s, s}} {
				a, c := impl.ProductSolution(pair[0], pair[1])
				code(t, "ProductSolution of "+name, c, impl.ErrInvalid)
				b, c := impl.UnionSolution(pair[0], pair[1])
				code(t, "UnionSolution of "+name, c, impl.ErrInvalid)
				p, c := impl.SolutionIsomorphism(pair[0], pair[1])
				code(t, "SolutionIsomorphism of "+name, c, impl.ErrInvalid)
				if !isZero(a) || !isZero(b) || len(p) > 0 {
					t.Errorf("%s: a result beside an error", name)
				}
			}
		}
	}
}

// Pair maps that are no solutions are refused only where a solution is told.
func TestOnlyOrderAndInverseAskForSolutions(t *testing.T) {
	noSolutions := map[string]impl.Solution{
		"collision alone": sol([][]int64{{0, 0}, {0, 0}}, [][]int64{{0, 0}, {0, 0}}),
		"fault alone":     sol([][]int64{{0, 0}, {1, 1}}, [][]int64{{1, 0}, {0, 1}}),
		"both":            sol([][]int64{{1, 1}, {0, 0}}, [][]int64{{1, 1}, {1, 1}}),
	}
	for name, s := range noSolutions {
		if impl.IsSolution(s) {
			t.Errorf("%s is a solution", name)
		}
		if (collisionOf(s) != nil) == (name == "fault alone") || (faultOf(s) != nil) == (name == "collision alone") {
			t.Fatalf("%s: collision %v, fault %v", name, collisionOf(s), faultOf(s))
		}
		codes, _ := callsOnMaps(s, 0, []int64{0, 1}, []int64{1, 0})
		for f, c := range codes {
			want := int64(impl.ErrNone)
			switch {
			case f == "OrderOfSolution", f == "InverseSolution":
				want = impl.ErrInvalid
			case f == "EquationFault" && name == "collision alone", f == "CollisionOf" && name == "fault alone":
				want = impl.ErrNotFound
			}
			code(t, f+" with "+name, c, want)
		}
		for _, f := range []func(impl.Solution, impl.Solution) (impl.Solution, int64){impl.ProductSolution, impl.UnionSolution} {
			_, c := f(s, s)
			code(t, "two with "+name, c, impl.ErrNone)
		}
		p, c := impl.SolutionIsomorphism(s, s)
		if !slices.Equal(p, []int64{0, 1}) || c != impl.ErrNone {
			t.Errorf("%s: isomorphism to itself %v, %d", name, p, c)
		}
	}
}

func TestApplyPair(t *testing.T) {
	r := rand.New(rand.NewSource(21))
	for n := 1; n <= impl.MaxSize; n++ {
		s := randomMap(r, n)
		for x := range int64(n) {
			for y := range int64(n) {
				u, v, c := impl.ApplyPair(s, x, y)
				if led(s, x, y) != [2]int64{u, v} || c != impl.ErrNone {
					t.Errorf("ApplyPair(%v, %d, %d) = %d, %d, %d", s, x, y, u, v, c)
				}
			}
		}
		for _, bad := range []int64{-1, int64(n), math.MinInt64, math.MaxInt64, 1 << 32} {
			for _, p := range [][2]int64{{bad, 0}, {0, bad}, {bad, bad}, {-1, bad}, {bad, int64(n)}} {
				u, v, c := impl.ApplyPair(s, p[0], p[1])
				if u != 0 || v != 0 || c != impl.ErrRange {
					t.Errorf("ApplyPair at %v of %d elements = %d, %d, %d", p, n, u, v, c)
				}
			}
		}
	}
}

// checkWitnesses checks fault, collision and IsSolution against the definitions (promise 2), and
// returns whether the pair map is a solution.
func checkWitnesses(t *testing.T, s impl.Solution) bool {
	t.Helper()
	check := func(name string, got []int64, c int64, want []int64) {
		t.Helper()
		wantCode := int64(impl.ErrNone)
		if want == nil {
			wantCode = impl.ErrNotFound
		}
		if !slices.Equal(got, want) || c != wantCode {
			t.Errorf("%s of %v = %v, %d, want %v, %d", name, s, got, c, want, wantCode)
		}
	}
	fault, collision := faultOf(s), collisionOf(s)
	got, c := impl.EquationFault(s)
	check("EquationFault", got, c, fault)
	got, c = impl.CollisionOf(s)
	check("CollisionOf", got, c, collision)
	is := fault == nil && collision == nil
	if impl.IsSolution(s) != is {
		t.Errorf("IsSolution(%v) = %v", s, !is)
	}
	return is
}

// Promise 2: a pair map is a solution exactly if it has neither a collision nor a fault.
func TestFaultsAndCollisions(t *testing.T) {
	r := rand.New(rand.NewSource(22))
	list := append(everyPairMap(1), everyPairMap(2)...)
	list = append(list, greatSolutions()...)
	for i := range 300 {
		n := 3 + i%3
		list = append(list, randomMap(r, n), randomBijection(r, n))
	}
	// A solution that is changed at one pair has its first fault or collision late.
	for _, s := range []impl.Solution{flipOf(4), sameOf(4), dihedralOf(5), twistOf(turn(12, 1), turn(12, 5))} {
		for range 20 {
			n := size(s)
			u := sol(guardedTable(s.First), guardedTable(s.Second))
			u.First[r.Intn(n)][r.Intn(n)], u.Second[r.Intn(n)][r.Intn(n)] = int64(r.Intn(n)), int64(r.Intn(n))
			list = append(list, u)
		}
	}
	for _, s := range list {
		checkWitnesses(t, s)
	}
	last := flipOf(12)
	last.First[11][11], last.Second[11][11] = 11, 10
	got, c := impl.CollisionOf(last)
	if !slices.Equal(got, []int64{10, 11, 11, 11}) || c != impl.ErrNone {
		t.Errorf("CollisionOf at the end = %v, %d", got, c)
	}
}

// The first pair of the first collision decides, even if the second pair of another one comes earlier.
func TestCollisionWithTheFirstPair(t *testing.T) {
	cases := map[string][]int64{
		"00/01|01/10": {0, 1, 1, 0},
		"01/10|00/00": {0, 0, 1, 1},
		"00/11|00/00": {0, 0, 0, 1},
		"00/00|01/11": {0, 1, 1, 0},
	}
	for text, want := range cases {
		got, c := impl.CollisionOf(read(t, text))
		if !slices.Equal(got, want) || c != impl.ErrNone {
			t.Errorf("CollisionOf(%q) = %v, %d, want %v", text, got, c, want)
		}
	}
}

// A fault at each list of two elements, among them the first and the last one.
func TestFaultsOfTwoElements(t *testing.T) {
	cases := map[string][]int64{
		"00/00|10/00": {0, 0, 0},
		"01/00|01/00": {0, 0, 1},
		"00/01|10/00": {0, 1, 0},
		"00/01|01/00": {0, 1, 1},
		"00/10|00/10": {1, 0, 0},
		"00/00|00/10": {1, 0, 1},
		"00/10|00/01": {1, 1, 0},
		"00/00|00/01": {1, 1, 1},
	}
	for text, want := range cases {
		got, c := impl.EquationFault(read(t, text))
		if !slices.Equal(got, want) || c != impl.ErrNone {
			t.Errorf("EquationFault(%q) = %v, %d, want %v", text, got, c, want)
		}
	}
}

// timesToReturn does a bijection until all pairs are back, and counts.
func timesToReturn(s impl.Solution) int64 {
	now := sameOf(size(s))
	for times := int64(1); ; times++ {
		now = madeOf(size(s), func(x, y int64) (int64, int64) {
			p := led(s, now.First[x][y], now.Second[x][y])
			return p[0], p[1]
		})
		if equalSolutions(now, sameOf(size(s))) {
			return times
		}
	}
}

// checkProperties checks the properties of a pair map against their definitions.
func checkProperties(t *testing.T, s impl.Solution) {
	t.Helper()
	nondegenerate, involutive, squareFree := true, true, true
	for x := range int64(size(s)) {
		rho := []int64{}
		for y := range int64(size(s)) {
			p := led(s, x, y)
			involutive = involutive && led(s, p[0], p[1]) == [2]int64{x, y}
			rho = append(rho, s.Second[y][x])
		}
		squareFree = squareFree && led(s, x, x) == [2]int64{x, x}
		nondegenerate = nondegenerate && impl.IsPermutation(s.First[x]) && impl.IsPermutation(rho)
	}
	for name, f := range map[string]func() (bool, int64, bool){
		"IsNondegenerate": func() (bool, int64, bool) { ok, c := impl.IsNondegenerate(s); return ok, c, nondegenerate },
		"IsInvolutive":    func() (bool, int64, bool) { ok, c := impl.IsInvolutive(s); return ok, c, involutive },
		"IsSquareFree":    func() (bool, int64, bool) { ok, c := impl.IsSquareFree(s); return ok, c, squareFree },
	} {
		if ok, c, want := f(); ok != want || c != impl.ErrNone {
			t.Errorf("%s(%v) = %v, %d, want %v", name, s, ok, c, want)
		}
	}
}

func TestPropertiesOfPairMaps(t *testing.T) {
	r := rand.New(rand.NewSource(23))
	list := append(everyPairMap(1), everyPairMap(2)...)
	list = append(list, greatSolutions()...)
	list = append(list, foundSolutions(3)...)
	for i := range 100 {
		n := 2 + i%11
		list = append(list, randomMap(r, n), randomBijection(r, n))
		// Rows that are permutations on one side only, and a flip that is wrong at one pair.
		p, q := randomMap(r, n), flipOf(n)
		for x := range p.First {
			p.First[x] = randomPermutation(r, n)
		}
		x, y := r.Intn(n), r.Intn(n)
		q.First[x][y] = int64(r.Intn(n))
		u, c := impl.MirrorSolution(p)
		code(t, "MirrorSolution", c, impl.ErrNone)
		list = append(list, p, q, u)
	}
	for _, s := range list {
		checkProperties(t, s)
	}
}

// checkSolution checks order, inverse and mirror of a solution (promise 2).
func checkSolution(t *testing.T, s impl.Solution) {
	t.Helper()
	if !impl.IsSolution(s) {
		t.Fatalf("%v is no solution", s)
	}
	order, c := impl.OrderOfSolution(s)
	if want := timesToReturn(s); order != want || c != impl.ErrNone {
		t.Errorf("OrderOfSolution(%v) = %d, %d, want %d", s, order, c, want)
	}
	inverse, c := impl.InverseSolution(s)
	if !impl.IsSolution(inverse) || c != impl.ErrNone {
		t.Fatalf("InverseSolution(%v) = %v, %d", s, inverse, c)
	}
	for x := range int64(size(s)) {
		for y := range int64(size(s)) {
			p, q := led(s, x, y), led(inverse, x, y)
			if led(inverse, p[0], p[1]) != [2]int64{x, y} || led(s, q[0], q[1]) != [2]int64{x, y} {
				t.Errorf("InverseSolution(%v) = %v", s, inverse)
			}
		}
	}
	mirror, c := impl.MirrorSolution(s)
	if !impl.IsSolution(mirror) || c != impl.ErrNone {
		t.Errorf("MirrorSolution(%v) = %v, %d", s, mirror, c)
	}
}

// Promise 2: inverses and mirrors of solutions are solutions.
func TestOrderInverseAndMirrorOfSolutions(t *testing.T) {
	for n := 1; n <= 3; n++ {
		for _, s := range foundSolutions(n) {
			checkSolution(t, s)
		}
	}
	for _, s := range greatSolutions() {
		checkSolution(t, s)
	}
	wants := map[int64]impl.Solution{
		1: sameOf(12), 2: flipOf(12), 3: dihedralOf(3), 24: twistOf(turn(12, 1), identity(12)),
		120: twistOf([]int64{1, 2, 0, 4, 5, 6, 3, 8, 9, 10, 11, 7}, identity(12)),
	}
	for want, s := range wants {
		if got, c := impl.OrderOfSolution(s); got != want || c != impl.ErrNone {
			t.Errorf("OrderOfSolution(%v) = %d, %d, want %d", s, got, c, want)
		}
	}
}

func TestMirror(t *testing.T) {
	r := rand.New(rand.NewSource(24))
	list := everyPairMap(2)
	for n := 1; n <= impl.MaxSize; n++ {
		list = append(list, randomMap(r, n))
	}
	for _, s := range list {
		mirror, c := impl.MirrorSolution(s)
		want := madeOf(size(s), func(x, y int64) (int64, int64) { return s.Second[y][x], s.First[y][x] })
		if !equalSolutions(mirror, want) || c != impl.ErrNone {
			t.Errorf("MirrorSolution(%v) = %v, %d", s, mirror, c)
		}
	}
}

func TestFlipSolution(t *testing.T) {
	for n := 1; n <= impl.MaxSize; n++ {
		s, c := impl.FlipSolution(int64(n))
		if !equalSolutions(s, flipOf(n)) || c != impl.ErrNone {
			t.Errorf("FlipSolution(%d) = %v, %d", n, s, c)
		}
	}
	for _, n := range []int64{0, -1, impl.MaxSize + 1, math.MinInt64, math.MaxInt64, 1<<32 + 1} {
		s, c := impl.FlipSolution(n)
		if !isZero(s) || c != impl.ErrRange {
			t.Errorf("FlipSolution(%d) = %v, %d", n, s, c)
		}
	}
}

func TestTwistSolution(t *testing.T) {
	for n := 1; n <= 4; n++ {
		for _, p := range everyPermutation(n) {
			for _, q := range everyPermutation(n) {
				checkTwist(t, p, q)
			}
		}
	}
	r := rand.New(rand.NewSource(25))
	for n := 5; n <= impl.MaxSize; n++ {
		checkTwist(t, turn(n, 1), turn(n, 3))
		checkTwist(t, turn(n, 2), identity(n))
		checkTwist(t, turn(n, 1), randomPermutation(r, n))
	}
	s, c := impl.TwistSolution([]int64{1, 0}, []int64{1, 0})
	if !equalSolutions(s, sol([][]int64{{1, 0}, {1, 0}}, [][]int64{{1, 1}, {0, 0}})) || c != impl.ErrNone {
		t.Errorf("the example is %v, %d", s, c)
	}
}

// checkTwist checks a twist, and that it is a solution exactly if it is returned.
func checkTwist(t *testing.T, p []int64, q []int64) {
	t.Helper()
	commute := true
	for x := range p {
		commute = commute && p[q[x]] == q[p[x]]
	}
	s, c := impl.TwistSolution(p, q)
	if !commute {
		if !isZero(s) || c != impl.ErrState || impl.IsSolution(twistOf(p, q)) {
			t.Errorf("TwistSolution(%v, %v) = %v, %d", p, q, s, c)
		}
		return
	}
	if !equalSolutions(s, twistOf(p, q)) || c != impl.ErrNone || !impl.IsSolution(s) {
		t.Errorf("TwistSolution(%v, %v) = %v, %d", p, q, s, c)
	}
}

func TestTwistsRefused(t *testing.T) {
	refused := func(name string, p []int64, q []int64) {
		t.Helper()
		s, c := impl.TwistSolution(p, q)
		code(t, "TwistSolution of "+name, c, impl.ErrRange)
		if !isZero(s) {
			t.Errorf("%s: %v beside an error", name, s)
		}
	}
	for name, p := range badPermutations() {
		refused(name, p, identity(2))
		refused("second "+name, identity(2), p)
		refused("both "+name, p, p)
		refused("cycle and "+name, []int64{1, 2, 0}, p)
	}
	refused("1 and 2", identity(1), identity(2))
	refused("12 and 11", identity(12), identity(11))
	refused("3 and 2, which would not commute", []int64{1, 2, 0}, []int64{1, 0})
	refused("11 and 12, with a turn", turn(11, 1), turn(12, 1))
}

// checkTwo checks a product or union of solutions (promise 2), or of other pair maps.
func checkTwo(t *testing.T, s impl.Solution, u impl.Solution) {
	t.Helper()
	n, m := int64(size(s)), int64(size(u))
	areSolutions := impl.IsSolution(s) && impl.IsSolution(u)
	product, c := impl.ProductSolution(s, u)
	if n*m > impl.MaxSize {
		if !isZero(product) || c != impl.ErrLimit {
			t.Errorf("ProductSolution of %d and %d elements = %v, %d", n, m, product, c)
		}
	} else {
		want := madeOf(int(n*m), func(x, y int64) (int64, int64) {
			a, b := led(s, x/m, y/m), led(u, x%m, y%m)
			return a[0]*m + b[0], a[1]*m + b[1]
		})
		if !equalSolutions(product, want) || c != impl.ErrNone || impl.IsSolution(product) != areSolutions {
			t.Errorf("ProductSolution(%v, %v) = %v, %d", s, u, product, c)
		}
	}
	union, c := impl.UnionSolution(s, u)
	if n+m > impl.MaxSize {
		if !isZero(union) || c != impl.ErrLimit {
			t.Errorf("UnionSolution of %d and %d elements = %v, %d", n, m, union, c)
		}
		return
	}
	want := flipOf(int(n + m))
	for x := range n {
		copy(want.First[x], s.First[x])
		copy(want.Second[x], s.Second[x])
	}
	for x := range m {
		for y := range m {
			want.First[n+x][n+y], want.Second[n+x][n+y] = n+u.First[x][y], n+u.Second[x][y]
		}
	}
	if !equalSolutions(union, want) || c != impl.ErrNone || impl.IsSolution(union) != areSolutions {
		t.Errorf("UnionSolution(%v, %v) = %v, %d", s, u, union, c)
	}
}

// Promise 2: products and unions of solutions are solutions.
func TestProductsAndUnions(t *testing.T) {
	few := append(everyPairMap(1), everyPairMap(2)...)
	for i, s := range few {
		for j, u := range few {
			if (i+j)%7 == 0 {
				checkTwo(t, s, u)
			}
		}
	}
	found := append(foundSolutions(1), foundSolutions(2)...)
	for i, s := range foundSolutions(3) {
		if i%5 == 0 {
			found = append(found, s)
		}
	}
	for _, s := range found {
		for _, u := range found {
			checkTwo(t, s, u)
		}
	}
	// All numbers of elements, those at both limits and behind them too.
	r := rand.New(rand.NewSource(26))
	for n := 1; n <= impl.MaxSize; n++ {
		for m := 1; m <= impl.MaxSize; m++ {
			checkTwo(t, randomMap(r, n), randomMap(r, m))
			checkTwo(t, dihedralOf(n), twistOf(turn(m, 1), turn(m, 2)))
		}
	}
}

// setsOf returns all sets of elements of n, each strictly increasing, the empty one among them.
func setsOf(n int) [][]int64 {
	sets := [][]int64{}
	for bits := range 1 << n {
		set := []int64{}
		for x := range n {
			if bits>>x&1 == 1 {
				set = append(set, int64(x))
			}
		}
		sets = append(sets, set)
	}
	return sets
}

// checkSets checks which sets are closed, and the pair maps on them.
func checkSets(t *testing.T, s impl.Solution) (closed int) {
	t.Helper()
	for _, set := range setsOf(size(s))[1:] {
		isClosed := true
		for _, x := range set {
			for _, y := range set {
				isClosed = isClosed && slices.Contains(set, s.First[x][y]) && slices.Contains(set, s.Second[x][y])
			}
		}
		got, c := impl.IsClosedSet(s, set)
		if got != isClosed || c != impl.ErrNone {
			t.Errorf("IsClosedSet(%v, %v) = %v, %d", s, set, got, c)
		}
		sub, c := impl.SubSolution(s, set)
		if !isClosed {
			if !isZero(sub) || c != impl.ErrState {
				t.Errorf("SubSolution(%v, %v) = %v, %d", s, set, sub, c)
			}
			continue
		}
		closed++
		if size(sub) != len(set) || !impl.IsPairMap(sub) || c != impl.ErrNone {
			t.Fatalf("SubSolution(%v, %v) = %v, %d", s, set, sub, c)
		}
		for i, x := range set {
			for j, y := range set {
				if p := led(s, x, y); set[sub.First[i][j]] != p[0] || set[sub.Second[i][j]] != p[1] {
					t.Errorf("SubSolution(%v, %v) = %v", s, set, sub)
				}
			}
		}
		if impl.IsSolution(s) && !impl.IsSolution(sub) {
			t.Errorf("SubSolution(%v, %v) is no solution", s, set)
		}
	}
	return closed
}

func TestClosedSets(t *testing.T) {
	list := append(everyPairMap(1), everyPairMap(2)...)
	list = append(list, foundSolutions(3)...)
	for _, s := range append(list, dihedralOf(8), twistOf(turn(6, 2), turn(6, 3))) {
		checkSets(t, s)
	}
	r := rand.New(rand.NewSource(27))
	for i := range 50 {
		// The sets are closed for one of both tables more often than for both.
		s := randomMap(r, 3+i%3)
		for _, row := range s.First {
			copy(row, randomPermutation(r, len(row)))
		}
		checkSets(t, s)
		checkSets(t, sol(s.First, flipOf(size(s)).Second))
		checkSets(t, sol(flipOf(size(s)).First, s.Second))
	}
	if closed := checkSets(t, flipOf(12)); closed != 4095 {
		t.Errorf("%d closed sets of the flip of 12 elements, want 4095", closed)
	}
	if closed := checkSets(t, twistOf(turn(12, 1), turn(12, 11))); closed != 1 {
		t.Errorf("%d closed sets of a turn of 12 elements, want 1", closed)
	}
}

func TestSetsRefused(t *testing.T) {
	s := read(t, "10/10|11/00")
	bad := map[string][]int64{
		"nil": nil, "empty": {}, "negative": {-1}, "negative first": {-1, 0}, "too great": {2}, "too great last": {0, 2},
		"twice": {1, 1}, "descending": {1, 0}, "many": {0, 1, 2, 3}, "twice at the end": {0, 1, 1}, "smallest": {math.MinInt64},
		"greatest": {0, math.MaxInt64}, "wrapped": {1 << 32}, "100000 elements": identity(100000), "13": identity(13),
	}
	for name, set := range bad {
		for _, s := range []impl.Solution{s, flipOf(2)} {
			ok, c := impl.IsClosedSet(s, set)
			code(t, "IsClosedSet of "+name, c, impl.ErrRange)
			sub, c := impl.SubSolution(s, set)
			code(t, "SubSolution of "+name, c, impl.ErrRange)
			if ok || !isZero(sub) {
				t.Errorf("%s: a result beside an error", name)
			}
		}
	}
	for _, bad := range [][]int64{{12}, {0, 12}, {3, 2}, {-1, 11}} {
		_, c := impl.IsClosedSet(flipOf(12), bad)
		code(t, fmt.Sprint("IsClosedSet of ", bad), c, impl.ErrRange)
	}
	if ok, c := impl.IsClosedSet(s, []int64{1}); ok || c != impl.ErrNone {
		t.Errorf("a set that is not closed: %v, %d", ok, c)
	}
}

func TestSolutionTexts(t *testing.T) {
	if text, c := impl.SolutionText(flipOf(2)); text != "01/01|00/11" || c != impl.ErrNone {
		t.Errorf("the text of the example is %q, %d", text, c)
	}
	great, c := impl.SolutionText(flipOf(12))
	want := strings.Repeat("0123456789ab/", 12)
	rows := ""
	for _, digit := range "0123456789ab" {
		rows += strings.Repeat(string(digit), 12) + "/"
	}
	if great != want[:len(want)-1]+"|"+rows[:len(rows)-1] || c != impl.ErrNone {
		t.Errorf("the text of the flip of 12 elements is %q, %d", great, c)
	}
	r := rand.New(rand.NewSource(28))
	for i := range 60 {
		s := randomMap(r, 1+i%impl.MaxSize)
		first, _ := impl.TableText(s.First)
		second, _ := impl.TableText(s.Second)
		text, c := impl.SolutionText(s)
		if text != first+"|"+second || c != impl.ErrNone {
			t.Errorf("SolutionText(%v) = %q, %d", s, text, c)
		}
		got, c := impl.ParseSolution(text)
		if !equalSolutions(got, s) || c != impl.ErrNone {
			t.Errorf("ParseSolution(%q) = %v, %d", text, got, c)
		}
	}
}

func TestSolutionTextsRefused(t *testing.T) {
	great, _ := impl.SolutionText(flipOf(12))
	bad := []string{"", "|", "||", "0", "0|", "|0", "0||0", "0|0|", "|0|0", "0|0|0", "0|0/", "0|0\n", "0|0 ", " 0|0", "0 |0", "0| 0",
		"0/|0", "0|/0", "0|1", "1|0", "01/01", "01/01|0", "0|01/01", "01/01|01", "01|01/01", "01/01/01|01/01/01", "01/02|01/01",
		"01/01|01/02", "01/01|011/01", "010/01|01/01", "01/01/00/11", "01/01,00/11", "01/01|00/11\x00", "01/01|00/11|", "01/01|00/11x",
		"01/01|00/11/", "01/01|00/11|00/11", "01/0a|00/11", "01/01|00/1b", "A|A", "0\uff5c0", great + "0", great + "/", great + "|",
		great + "|" + great, great[1:], great[:len(great)-1], strings.ToUpper(great), strings.Replace(great, "b", "c", 1),
		strings.Repeat("|", 100000), strings.Repeat("0", 100000), "0|" + strings.Repeat("0", 100000), strings.Repeat("0/", 100000) + "|0",
		strings.Repeat("0000000000000/", 12) + "0000000000000|" + strings.Repeat("0000000000000/", 12) + "0000000000000"}
	for _, text := range bad {
		s, c := impl.ParseSolution(text)
		if !isZero(s) || c != impl.ErrSyntax {
			t.Errorf("ParseSolution(%q) = %v, %d, want ErrSyntax", text, s, c)
		}
	}
}
