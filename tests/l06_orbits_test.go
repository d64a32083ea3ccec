package tests

import (
	"math"
	"math/rand"
	"slices"
	"testing"

	"loop.example/g01119/impl"
)

// orbitsOf returns for each one of all tuples of k elements, in lexicographic order, the least one of
// those that moves, forward and backward, lead it to: labels are made smaller until none can be.
func orbitsOf(s impl.Solution, k int) (lists [][]int64, labels []int) {
	lists = everyList(size(s), k)
	labels = make([]int, len(lists))
	for i := range labels {
		labels[i] = i
	}
	number := func(list []int64) int {
		i := 0
		for _, x := range list {
			i = i*size(s) + int(x)
		}
		return i
	}
	for isChanged := true; isChanged; {
		isChanged = false
		for i, list := range lists {
			for place := range k - 1 {
				j := number(done(s, list, place))
				if labels[i] != labels[j] {
					least := min(labels[i], labels[j])
					labels[i], labels[j], isChanged = least, least, true
				}
			}
		}
	}
	return lists, labels
}

// checkOrbits checks all orbits of tuples of k elements. Promise 6: moves lead tuples of an orbit to
// tuples of it. It returns the number of orbits.
func checkOrbits(t *testing.T, s impl.Solution, k int) int {
	t.Helper()
	lists, labels := orbitsOf(s, k)
	orbits := map[int][][]int64{}
	for i, list := range lists {
		orbits[labels[i]] = append(orbits[labels[i]], list)
	}
	for i, list := range lists {
		got, c := impl.TupleOrbit(s, list)
		if !slices.EqualFunc(got, orbits[labels[i]], slices.Equal[[]int64]) || c != impl.ErrNone {
			t.Errorf("TupleOrbit(%v, %v) = %v, %d, want %v", s, list, got, c, orbits[labels[i]])
		}
	}
	if got, c := impl.CountTupleOrbits(s, int64(k)); got != int64(len(orbits)) || c != impl.ErrNone {
		t.Errorf("CountTupleOrbits(%v, %d) = %d, %d, want %d", s, k, got, c, len(orbits))
	}
	return len(orbits)
}

func TestTupleOrbits(t *testing.T) {
	random := rand.New(rand.NewSource(96))
	list := slices.Concat(foundSolutions(1), foundSolutions(2), foundSolutions(3), factorSolutions(), greatSolutions(), degenerateSolutions(t))
	all := nondegenerateSolutions()
	for range 60 {
		list = append(list, all[random.Intn(len(all))])
	}
	for _, s := range list {
		for k, tuples := 0, 1; tuples <= 30 || k <= 2 && tuples <= 64; k, tuples = k+1, tuples*size(s) {
			checkOrbits(t, s, k)
			if k == impl.MaxTuple {
				break
			}
		}
	}
	for _, s := range []impl.Solution{flipOf(3), dihedralOf(3), dihedralOf(4), sameOf(3), solutionOf(crossCycle())} {
		checkOrbits(t, s, 4)
	}
}

// Promise 6: a move leads from a tuple of an orbit to a tuple of it, and each one has the same orbit.
func TestMovesStayInOrbits(t *testing.T) {
	random := rand.New(rand.NewSource(97))
	for i, s := range append(nondegenerateSolutions(), degenerateSolutions(t)...) {
		if i%6 != 0 {
			continue
		}
		// There are at most 1728 tuples of 3 elements.
		list := randomTuple(random, size(s), 2+random.Intn(2))
		orbit, c := impl.TupleOrbit(s, list)
		if c != impl.ErrNone || !hasList(orbit, list) {
			t.Errorf("TupleOrbit(%v, %v) = %v, %d", s, list, orbit, c)
		}
		for j := range orbit {
			if j > 0 && slices.Compare(orbit[j-1], orbit[j]) >= 0 {
				t.Errorf("TupleOrbit(%v, %v) has %v after %v", s, list, orbit[j], orbit[j-1])
			}
		}
		for range 5 {
			member := orbit[random.Intn(len(orbit))]
			moved, _ := impl.TupleMove(s, member, random.Int63n(int64(len(list)-1)))
			if !hasList(orbit, moved) {
				t.Errorf("%v: %v is led to %v outside of the orbit of %v", s, member, moved, list)
			}
			again, c := impl.TupleOrbit(s, moved)
			if !slices.EqualFunc(again, orbit, slices.Equal[[]int64]) || c != impl.ErrNone {
				t.Errorf("TupleOrbit(%v, %v) = %v, and of %v it is %v", s, list, orbit, moved, again)
			}
		}
	}
}

// hasList reports whether one of some lists, which are in lexicographic order, is equal to a list.
func hasList(lists [][]int64, list []int64) bool {
	_, ok := slices.BinarySearchFunc(lists, list, slices.Compare[[]int64])
	return ok
}

// Promise 22: the guitar map carries orbits to those of rack moves, so that there are as many of them
// as by the twisted solution of the derived rack by the identity.
func TestOrbitsOfDerivedRacks(t *testing.T) {
	for i, s := range nondegenerateSolutions() {
		if i%3 != 0 {
			continue
		}
		rack, _ := impl.DerivedRack(s)
		twist, _ := impl.TwistedSolution(rack, identity(size(s)))
		for k := range int64(3) {
			got, c := impl.CountTupleOrbits(s, k)
			want, d := impl.CountTupleOrbits(twist, k)
			if got != want || c != impl.ErrNone || d != impl.ErrNone {
				t.Errorf("CountTupleOrbits(%v, %d) = %d, %d, and by the derived rack it is %d, %d", s, k, got, c, want, d)
			}
		}
		list := turn(size(s), 1)[:min(3, size(s))]
		there, _ := impl.GuitarMap(s, list)
		orbit, _ := impl.TupleOrbit(s, list)
		other, _ := impl.TupleOrbit(twist, there)
		for j, list := range orbit {
			orbit[j] = guitarOf(s, list)
		}
		slices.SortFunc(orbit, slices.Compare[[]int64])
		if !slices.EqualFunc(orbit, other, slices.Equal[[]int64]) {
			t.Errorf("%v, %v: the orbit is carried to %v, and that of %v is %v", s, list, orbit, there, other)
		}
	}
}

// chosen returns in how many ways k of n things can be chosen.
func chosen(n int64, k int64) int64 {
	ways := int64(1)
	for i := range k {
		ways = ways * (n - i) / (i + 1)
	}
	return ways
}

// For each number of elements, greatest has the greatest k for which there are at most 5000 tuples of
// k elements. There are at most 4096 of them then, and at least 6561 of one element more: no number of
// tuples lies nearer to the limit.
func TestCountTupleOrbitsOfAllSizes(t *testing.T) {
	greatest := []int64{12, 12, 7, 6, 5, 4, 4, 4, 3, 3, 3, 3}
	for n := int64(1); n <= impl.MaxSize; n++ {
		tuples := int64(1)
		for k := range int64(impl.MaxTuple + 1) {
			flip, c := impl.CountTupleOrbits(flipOf(int(n)), k)
			same, d := impl.CountTupleOrbits(sameOf(int(n)), k)
			if k > greatest[n-1] {
				if flip != 0 || same != 0 || c != impl.ErrLimit || d != impl.ErrLimit || tuples <= 5000 {
					t.Errorf("CountTupleOrbits of %d and %d: %d, %d and %d, %d", n, k, flip, c, same, d)
				}
			} else if flip != chosen(n+k-1, k) || same != tuples || c != impl.ErrNone || d != impl.ErrNone || tuples > 5000 {
				t.Errorf("CountTupleOrbits of %d and %d: %d, %d and %d, %d", n, k, flip, c, same, d)
			}
			tuples = min(tuples*n, 10000)
		}
	}
	// The example.
	if got, c := impl.CountTupleOrbits(flipOf(2), 3); got != 4 || c != impl.ErrNone {
		t.Errorf("CountTupleOrbits of the flip of 2 elements and 3 = %d, %d", got, c)
	}
}

// ErrRange comes before ErrLimit.
func TestCountTupleOrbitsRefused(t *testing.T) {
	for n := 1; n <= impl.MaxSize; n++ {
		for _, s := range []impl.Solution{flipOf(n), sameOf(n)} {
			for _, k := range []int64{-1, -2, impl.MaxTuple + 1, 14, 100, 1 << 32, 1<<32 + 1, math.MinInt64, math.MinInt64 + 1, math.MaxInt64} {
				if got, c := impl.CountTupleOrbits(s, k); got != 0 || c != impl.ErrRange {
					t.Errorf("CountTupleOrbits of %d and %d = %d, %d", n, k, got, c)
				}
			}
		}
	}
}

func TestNamedTupleOrbits(t *testing.T) {
	cases := []struct {
		s    impl.Solution
		list []int64
		want [][]int64
	}{
		{flipOf(12), nil, [][]int64{{}}}, {sameOf(12), nil, [][]int64{{}}}, {flipOf(12), []int64{11}, [][]int64{{11}}},
		{flipOf(3), []int64{2, 0, 0}, [][]int64{{0, 0, 2}, {0, 2, 0}, {2, 0, 0}}}, {sameOf(3), []int64{2, 0, 0}, [][]int64{{2, 0, 0}}},
		{dihedralOf(3), []int64{1, 0}, [][]int64{{0, 2}, {1, 0}, {2, 1}}}, {dihedralOf(3), []int64{1, 1}, [][]int64{{1, 1}}},
		{twistOf(turn(12, 1), identity(12)), []int64{0, 0}, [][]int64{{0, 0}, {1, 0}, {1, 1}, {2, 1}, {2, 2}, {3, 2}, {3, 3}, {4, 3}, {4, 4}, {5, 4}, {5, 5},
			{6, 5}, {6, 6}, {7, 6}, {7, 7}, {8, 7}, {8, 8}, {9, 8}, {9, 9}, {10, 9}, {10, 10}, {11, 10}, {11, 11}, {0, 11}}},
		{flipOf(1), make([]int64, 12), [][]int64{make([]int64, 12)}},
		{sameOf(12), []int64{0, 1, 2, 3, 4, 5, 6, 7, 8, 9, 10, 11}, [][]int64{{0, 1, 2, 3, 4, 5, 6, 7, 8, 9, 10, 11}}},
	}
	for _, x := range cases {
		slices.SortFunc(x.want, slices.Compare[[]int64])
		got, c := impl.TupleOrbit(x.s, x.list)
		if !slices.EqualFunc(got, x.want, slices.Equal[[]int64]) || c != impl.ErrNone {
			t.Errorf("TupleOrbit(%v, %v) = %v, %d, want %v", x.s, x.list, got, c, x.want)
		}
	}
}

// Two turns act on the tuples with three elements of the one and two of the other one: all 10 * 125 * 4
// of them lie in one orbit. I know of no orbit with 5001 tuples; the flip has one with 5040.
func TestTupleOrbitsAroundTheLimit(t *testing.T) {
	turns := append(turn(5, 1), 6, 5)
	limit := []impl.Solution{twistOf(turns, identity(7)), twistOf(identity(7), turns), solutionOfRack(permutationRack(turns)), union(t, twistOf(turns, identity(7)), sameOf(5))}
	for _, s := range limit {
		for _, list := range [][]int64{{0, 0, 0, 5, 5}, {5, 4, 6, 3, 1}, {6, 6, 4, 4, 4}} {
			orbit, c := impl.TupleOrbit(s, list)
			if len(orbit) != 5000 || c != impl.ErrNone || !hasList(orbit, list) {
				t.Fatalf("TupleOrbit(%v, %v) has %d tuples, code %d", s, list, len(orbit), c)
			}
			for i, member := range orbit {
				fives := 0
				for _, x := range member {
					if x >= 5 {
						fives++
					}
				}
				if fives != 2 || len(member) != 5 || i > 0 && slices.Compare(orbit[i-1], member) >= 0 {
					t.Fatalf("TupleOrbit(%v, %v) has %v", s, list, member)
				}
			}
		}
		if orbit, c := impl.TupleOrbit(s, []int64{5, 0, 1, 2, 5, 3}); len(orbit) != 0 || c != impl.ErrLimit {
			t.Errorf("an orbit of %v has %d tuples, code %d", s, len(orbit), c)
		}
	}
	// Where the number is 0, there are too many tuples.
	for name, x := range map[string]struct {
		s    impl.Solution
		list []int64
		want int
	}{
		"4950": {twistOf([]int64{0, 1, 3, 4, 5, 6, 7, 8, 9, 10, 11, 2}, identity(12)), []int64{0, 0, 0, 0, 0, 0, 0, 0, 1, 1, 2}, 4950},
		"5040": {flipOf(7), identity(7), 0}, "5040 of others": {flipOf(12), []int64{5, 11, 6, 10, 7, 9, 8}, 0}, "5040 with equal ones": {flipOf(5), []int64{0, 0, 1, 1, 2, 2, 3, 4}, 0},
		"5040 as involutive": {twistOf(turn(12, 1), turn(12, 11)), []int64{0, 0, 0, 0, 0, 0, 0}, 0},
		"greatest":           {flipOf(12), identity(12), 0}, "all of 12 and 12": {twistOf(turn(12, 1), turn(12, 5)), identity(12), 0},
		"720": {flipOf(12), []int64{11, 9, 7, 5, 3, 1}, 720},
	} {
		want := int64(impl.ErrNone)
		if x.want == 0 {
			want = impl.ErrLimit
		}
		orbit, c := impl.TupleOrbit(x.s, x.list)
		if len(orbit) != x.want || c != want {
			t.Errorf("%s: TupleOrbit(%v, %v) has %d tuples, code %d", name, x.s, x.list, len(orbit), c)
		}
	}
}

func TestChapter6KeepsMemoryApart(t *testing.T) {
	pairMap := func(a []any) impl.Solution { return sol(a[0].([][]int64), a[1].([][]int64)) }
	rack := func(a []any) impl.Rack { return impl.Rack{Table: a[0].([][]int64)} }
	solutions := []impl.Solution{flipOf(1), flipOf(5), sameOf(4), dihedralOf(4), factorSolutions()[0], solutionOf(crossCycle()), twistOf(turn(7, 1), identity(7)),
		flipOf(13), sol(sumTable(4), sumTable(4))}
	for _, s := range solutions {
		check := func(name string, call func(a []any) []any, list []int64) {
			t.Helper()
			checkMemory(t, name, call, s.First, s.Second, list)
		}
		check("DerivedRack", func(a []any) []any { return rackAndCode(impl.DerivedRack(pairMap(a))) }, nil)
		check("CountTupleOrbits", func(a []any) []any { return listsAndCode(impl.CountTupleOrbits(pairMap(a), 3)) }, nil)
		for _, list := range [][]int64{nil, {0}, {0, 0}, {3, 1, 2}, {0, 1, 2, 3, 2}, make([]int64, 12), make([]int64, 13), {0, -1}} {
			for k := range int64(3) {
				check("TupleMove", func(a []any) []any { return listsAndCode(impl.TupleMove(pairMap(a), a[2].([]int64), k)) }, list)
			}
			check("GuitarMap", func(a []any) []any { return listsAndCode(impl.GuitarMap(pairMap(a), a[2].([]int64))) }, list)
			check("GuitarBack", func(a []any) []any { return listsAndCode(impl.GuitarBack(pairMap(a), a[2].([]int64))) }, list)
			check("TupleOrbit", func(a []any) []any { return listsAndCode(impl.TupleOrbit(pairMap(a), a[2].([]int64))) }, list)
		}
	}
	for _, r := range []impl.Rack{trivialRack(1), trivialRack(4), dihedralRack(4), tetrahedralRack(), permutationRack(turn(5, 1)), {Table: sumTable(4)}} {
		for _, p := range [][]int64{identity(len(r.Table)), r.Table[0], turn(len(r.Table), 1), {0, 0}} {
			twisted := func(a []any) []any { return parts(impl.TwistedSolution(rack(a), a[1].([]int64))) }
			checkMemory(t, "TwistedSolution", twisted, r.Table, p)
			moved := func(a []any) []any { return listsAndCode(impl.RackMove(rack(a), a[1].([]int64), 1)) }
			checkMemory(t, "RackMove", moved, r.Table, slices.Concat(p, p))
		}
	}
	// One list as several arguments at once, and as all rows of a table, stays as it is.
	row := []int64{1, 2, 0}
	r := impl.Rack{Table: [][]int64{row, row, row}}
	twist, _ := impl.TwistedSolution(r, row)
	moved, _ := impl.RackMove(r, row, 0)
	s := sol(r.Table, transposedTable(r.Table))
	there, _ := impl.GuitarMap(s, row)
	back, _ := impl.GuitarBack(s, row)
	derived, _ := impl.DerivedRack(s)
	orbit, _ := impl.TupleOrbit(s, row)
	for _, list := range slices.Concat(twist.First, twist.Second, derived.Table, orbit, [][]int64{moved, there, back}) {
		fill(list, -1)
	}
	if !slices.Equal(row, []int64{1, 2, 0}) {
		t.Errorf("the list is changed: %v", row)
	}
}

// A result that is overwritten must not change what a later call returns.
func TestChapter6KeepsNoState(t *testing.T) {
	d := dihedralOf(3)
	for range 3 {
		r, _ := impl.DerivedRack(d)
		twist, _ := impl.TwistedSolution(dihedralRack(3), identity(3))
		moved, _ := impl.TupleMove(d, []int64{0, 1, 2}, 0)
		turned, _ := impl.RackMove(dihedralRack(3), []int64{0, 1, 2}, 1)
		there, _ := impl.GuitarMap(d, []int64{0, 1, 2})
		back, _ := impl.GuitarBack(d, []int64{0, 2, 0})
		orbit, _ := impl.TupleOrbit(d, []int64{1, 0})
		count, _ := impl.CountTupleOrbits(d, 2)
		if !equalRacks(r, dihedralRack(3)) || !equalSolutions(twist, mirrorOf(d)) || !slices.Equal(moved, []int64{2, 0, 2}) ||
			!slices.Equal(turned, []int64{0, 2, 0}) || !slices.Equal(there, []int64{0, 2, 0}) || !slices.Equal(back, []int64{0, 1, 2}) ||
			!slices.EqualFunc(orbit, [][]int64{{0, 2}, {1, 0}, {2, 1}}, slices.Equal[[]int64]) || count != 5 {
			t.Errorf("results %v, %v, %v, %v, %v, %v, %v, %d", r, twist, moved, turned, there, back, orbit, count)
		}
		for _, list := range slices.Concat(r.Table, twist.First, twist.Second, orbit, [][]int64{moved, turned, there, back}) {
			fill(list, -1)
		}
		clear(orbit)
	}
}
