package tests

import (
	"math"
	"math/rand"
	"slices"
	"testing"

	"loop.example/g01119/impl"
)

// rackDone returns the list after the rack move k.
func rackDone(r impl.Rack, list []int64, k int) []int64 {
	list = slices.Clone(list)
	list[k], list[k+1] = list[k+1], r.Table[list[k+1]][list[k]]
	return list
}

// guitarOf returns the list to which the guitar map leads one: without its first element it leads to
// what lambda of this element then still has to be done to.
func guitarOf(s impl.Solution, list []int64) []int64 {
	if len(list) == 0 {
		return nil
	}
	rest := guitarOf(s, list[1:])
	for i, y := range rest {
		rest[i] = s.First[list[0]][y]
	}
	return append([]int64{list[0]}, rest...)
}

// randomTuple returns a list of elements of a set of n.
func randomTuple(r *rand.Rand, n int, length int) []int64 {
	list := make([]int64, length)
	for i := range list {
		list[i] = int64(r.Intn(n))
	}
	return list
}

// someTuples returns all tuples of few elements for sets of up to 3, and else some tuples of all
// lengths.
func someTuples(r *rand.Rand, n int) [][]int64 {
	list := [][]int64{{}, randomTuple(r, n, 1), randomTuple(r, n, 12)}
	if n <= 3 {
		return slices.Concat(list, everyList(n, 1), everyList(n, 2), everyList(n, 3))
	}
	for range 2 {
		list = append(list, randomTuple(r, n, 2+r.Intn(11)))
	}
	return list
}

// noMoves are numbers that are no moves of a tuple of some length.
func noMoves(length int) []int64 {
	list := []int64{-1, -2, int64(length) - 1, int64(length), int64(length) + 1, 12, 100, 1 << 32, math.MinInt64, math.MaxInt64}
	return slices.DeleteFunc(list, func(k int64) bool { return k >= 0 && k <= int64(length)-2 })
}

// noTuples are lists that are no tuples of elements of a set of n.
func noTuples(n int) [][]int64 { return listsOutside(n, impl.MaxTuple) }

// listsOutside are lists that have more than the longest length or a number that is no element of a set
// of n.
func listsOutside(n int, longest int) [][]int64 {
	bad := [][]int64{make([]int64, longest+1), make([]int64, 10000), slices.Repeat([]int64{-1}, longest+1)}
	for _, x := range notElements(n) {
		for _, length := range []int{1, 2, longest} {
			for _, i := range []int{0, length / 2, length - 1} {
				list := slices.Repeat([]int64{int64(n) - 1}, length)
				list[i] = x
				bad = append(bad, list)
			}
		}
	}
	return bad
}

func TestTupleMove(t *testing.T) {
	r := rand.New(rand.NewSource(93))
	for _, s := range append(nondegenerateSolutions(), degenerateSolutions(t)...) {
		for _, list := range someTuples(r, size(s)) {
			for k := range len(list) - 1 {
				want := done(s, list, k)
				if got, c := impl.TupleMove(s, list, int64(k)); !slices.Equal(got, want) || c != impl.ErrNone {
					t.Errorf("TupleMove(%v, %v, %d) = %v, %d, want %v", s, list, k, got, c, want)
				}
			}
		}
	}
}

func TestRackMove(t *testing.T) {
	random := rand.New(rand.NewSource(94))
	for _, r := range append(someRacks(), foundRacks(4)...) {
		for _, list := range someTuples(random, len(r.Table)) {
			for k := range len(list) - 1 {
				want := rackDone(r, list, k)
				if got, c := impl.RackMove(r, list, int64(k)); !slices.Equal(got, want) || c != impl.ErrNone {
					t.Errorf("RackMove(%v, %v, %d) = %v, %d, want %v", r, list, k, got, c, want)
				}
			}
		}
	}
	// Of five elements, 2 > 1 is 3: the element behind acts on the one before it, and both change places.
	if got, _ := impl.RackMove(dihedralRack(5), []int64{3, 1, 2, 3}, 1); !slices.Equal(got, []int64{3, 2, 3, 3}) {
		t.Errorf("RackMove leads to %v", got)
	}
}

// The moves of each length are 0 to two less than it; none is left for the empty tuple and for one
// element.
func TestMovesRefused(t *testing.T) {
	for n := 1; n <= impl.MaxSize; n++ {
		for _, s := range []impl.Solution{flipOf(n), sameOf(n), dihedralOf(n)} {
			for length := range impl.MaxTuple + 1 {
				for _, k := range noMoves(length) {
					if got, c := impl.TupleMove(s, make([]int64, length), k); len(got) != 0 || c != impl.ErrRange {
						t.Errorf("TupleMove(%v, %d elements, %d) = %v, %d", s, length, k, got, c)
					}
					if got, c := impl.RackMove(dihedralRack(n), make([]int64, length), k); len(got) != 0 || c != impl.ErrRange {
						t.Errorf("RackMove(%d elements, %d) = %v, %d", length, k, got, c)
					}
				}
			}
		}
	}
}

// callsOnTuples calls each function that takes a solution and a tuple, or a number, and returns the
// codes and whether all other results are zero.
func callsOnTuples(s impl.Solution, list []int64, k int64) (map[string]int64, bool) {
	codes := map[string]int64{}
	moved, c := impl.TupleMove(s, list, k)
	codes["TupleMove"] = c
	there, c := impl.GuitarMap(s, list)
	codes["GuitarMap"] = c
	back, c := impl.GuitarBack(s, list)
	codes["GuitarBack"] = c
	orbit, c := impl.TupleOrbit(s, list)
	codes["TupleOrbit"] = c
	count, c := impl.CountTupleOrbits(s, k)
	codes["CountTupleOrbits"] = c
	return codes, len(moved) == 0 && len(there) == 0 && len(back) == 0 && len(orbit) == 0 && count == 0
}

// ErrInvalid comes before all other errors.
func TestTuplesOfNoSolutions(t *testing.T) {
	for name, s := range noSolutions() {
		for _, list := range [][]int64{nil, {0}, {0, 0}, make([]int64, 12), make([]int64, 13), {-1, 0}, {0, 12}} {
			for _, k := range []int64{0, 1, -1, 2, 12, 13, math.MinInt64, math.MaxInt64} {
				codes, zero := callsOnTuples(s, list, k)
				for f, c := range codes {
					code(t, f+" of "+name, c, impl.ErrInvalid)
				}
				if !zero {
					t.Errorf("%s: a result beside an error", name)
				}
			}
		}
	}
	for name, r := range badRacks() {
		for _, list := range [][]int64{nil, {0}, {0, 0}, make([]int64, 12), make([]int64, 13), {-1, 0}} {
			for _, k := range []int64{0, -1, 10, 12, math.MaxInt64} {
				if got, c := impl.RackMove(r, list, k); len(got) != 0 || c != impl.ErrInvalid {
					t.Errorf("RackMove of %s = %v, %d", name, got, c)
				}
			}
		}
	}
}

// ErrRange comes before ErrState and before ErrLimit.
func TestListsThatAreNoTuples(t *testing.T) {
	for n := 1; n <= impl.MaxSize; n++ {
		for _, s := range []impl.Solution{flipOf(n), sameOf(n)} {
			for _, list := range noTuples(n) {
				codes, zero := callsOnTuples(s, list, -1)
				for f, c := range codes {
					code(t, f, c, impl.ErrRange)
				}
				if !zero {
					t.Errorf("a result beside an error")
				}
				for _, k := range []int64{0, int64(len(list)) - 2} {
					got, c := impl.TupleMove(s, list, k)
					other, d := impl.RackMove(trivialRack(n), list, k)
					if len(got) != 0 || c != impl.ErrRange || len(other) != 0 || d != impl.ErrRange {
						t.Errorf("moves of %v: %v, %d and %v, %d", list, got, c, other, d)
					}
				}
			}
		}
	}
}

// checkGuitar checks the guitar map at a tuple. Promise 22 and the guarantee: it carries moves to
// rack moves of the derived rack.
func checkGuitar(t *testing.T, s impl.Solution, r impl.Rack, list []int64) {
	t.Helper()
	there, c := impl.GuitarMap(s, list)
	if !slices.Equal(there, guitarOf(s, list)) || c != impl.ErrNone {
		t.Fatalf("GuitarMap(%v, %v) = %v, %d, want %v", s, list, there, c, guitarOf(s, list))
	}
	back, c := impl.GuitarBack(s, there)
	if !slices.Equal(back, list) || c != impl.ErrNone {
		t.Errorf("GuitarBack(%v, %v) = %v, %d, want %v", s, there, back, c, list)
	}
	back, c = impl.GuitarBack(s, list)
	if !slices.Equal(guitarOf(s, back), list) || c != impl.ErrNone {
		t.Errorf("GuitarBack(%v, %v) = %v, %d, which is led to %v", s, list, back, c, guitarOf(s, back))
	}
	for k := range int64(len(list)) - 1 {
		moved, _ := impl.TupleMove(s, list, k)
		first, _ := impl.GuitarMap(s, moved)
		second, _ := impl.RackMove(r, there, k)
		if !slices.Equal(first, second) || len(first) != len(list) {
			t.Errorf("%v, %v, move %d: %v and %v", s, list, k, first, second)
		}
	}
}

func TestGuitarMaps(t *testing.T) {
	r := rand.New(rand.NewSource(95))
	for _, s := range nondegenerateSolutions() {
		rack, _ := impl.DerivedRack(s)
		for _, list := range someTuples(r, size(s)) {
			checkGuitar(t, s, rack, list)
		}
	}
}

// The guitar map is a bijection of the tuples with equally many elements.
func TestGuitarMapIsABijection(t *testing.T) {
	for _, s := range []impl.Solution{dihedralOf(3), solutionOf(crossCycle()), factorSolutions()[0], factorSolutions()[2]} {
		for length := range 5 {
			lists := everyList(size(s), length)
			if len(lists) > 1000 {
				break
			}
			images := map[string]bool{}
			for _, list := range lists {
				there, _ := impl.GuitarMap(s, list)
				if images[textOf(there)] || len(there) != length {
					t.Errorf("GuitarMap(%v, %v) = %v", s, list, there)
				}
				images[textOf(there)] = true
			}
		}
	}
}

// textOf returns the elements of a list as a string.
func textOf(list []int64) string {
	text := make([]byte, len(list))
	for i, x := range list {
		text[i] = byte(x)
	}
	return string(text)
}

func TestNamedGuitarMaps(t *testing.T) {
	cross := solutionOf(crossCycle())
	cases := []struct {
		s          impl.Solution
		list, want []int64
	}{
		{dihedralOf(3), []int64{0, 1, 2}, []int64{0, 2, 0}}, {dihedralOf(12), []int64{5}, []int64{5}}, {dihedralOf(12), nil, nil},
		{dihedralOf(12), []int64{1, 2, 5}, []int64{1, 0, 3}}, {flipOf(12), []int64{3, 1, 4, 1, 5, 9, 2, 6, 5, 3, 5, 8}, []int64{3, 1, 4, 1, 5, 9, 2, 6, 5, 3, 5, 8}},
		{twistOf(turn(12, 1), identity(12)), make([]int64, 12), []int64{0, 1, 2, 3, 4, 5, 6, 7, 8, 9, 10, 11}},
		{twistOf(turn(12, 11), turn(12, 1)), identity(12), make([]int64, 12)},
		// Lambda of 0 and of 1 are {0, 1, 3, 2} and {3, 2, 0, 1}: 1 leads 0 to 3, and 0 leads 3 to 2.
		{cross, []int64{0, 1, 0}, []int64{0, 1, 2}}, {cross, []int64{1, 0, 0}, []int64{1, 3, 3}}, {sameOf(1), make([]int64, 12), make([]int64, 12)},
	}
	for _, x := range cases {
		there, c := impl.GuitarMap(x.s, x.list)
		back, d := impl.GuitarBack(x.s, x.want)
		if !slices.Equal(there, x.want) || !slices.Equal(back, x.list) || c != impl.ErrNone || d != impl.ErrNone {
			t.Errorf("%v: %v is led to %v, %d, and %v back to %v, %d", x.s, x.list, there, c, x.want, back, d)
		}
	}
}

func TestGuitarMapsOfDegenerateSolutions(t *testing.T) {
	for _, s := range degenerateSolutions(t) {
		for _, list := range [][]int64{nil, {0}, {1, 0}, make([]int64, impl.MaxTuple)} {
			there, c := impl.GuitarMap(s, list)
			back, d := impl.GuitarBack(s, list)
			if len(there) != 0 || len(back) != 0 || c != impl.ErrState || d != impl.ErrState {
				t.Errorf("%v, %v: %v, %d and %v, %d", s, list, there, c, back, d)
			}
		}
	}
}
