package tests

import (
	"math"
	"math/rand"
	"slices"
	"testing"

	"loop.example/g01119/impl"
)

// isQuandle reports whether x > x is x for all elements.
func isQuandle(r impl.Rack) bool { return propertiesOf(r.Table)["IsQuandle"] }

// checkPair checks product and union of racks. Promise 4: they are racks, and quandles exactly if
// both racks are.
func checkPair(t *testing.T, r impl.Rack, s impl.Rack) {
	t.Helper()
	product, c := impl.ProductRack(r, s)
	union, d := impl.UnionRack(r, s)
	both := isQuandle(r) && isQuandle(s)
	if len(r.Table)*len(s.Table) > impl.MaxSize {
		checkNone(t, "ProductRack", impl.ErrLimit, product, c)
	} else {
		checkMade(t, "ProductRack", productOfRacks(r, s), both, product, c)
	}
	if len(r.Table)+len(s.Table) > impl.MaxSize {
		checkNone(t, "UnionRack", impl.ErrLimit, union, d)
	} else {
		checkMade(t, "UnionRack", unionOfRacks(r, s), both, union, d)
	}
}

func TestProductsAndUnionsOfRacks(t *testing.T) {
	racks := someRacks()
	for _, r := range racks {
		for _, s := range racks {
			checkPair(t, r, s)
		}
	}
	three, swap := dihedralRack(3), permutationRack([]int64{1, 0})
	product, _ := impl.ProductRack(three, swap)
	union, _ := impl.UnionRack(swap, three)
	if !slices.Equal(product.Table[2], []int64{5, 4, 3, 2, 1, 0}) || !slices.Equal(product.Table[5], []int64{3, 2, 1, 0, 5, 4}) {
		t.Errorf("ProductRack = %v", product)
	}
	if !equalTables(union.Table, [][]int64{{1, 0, 2, 3, 4}, {1, 0, 2, 3, 4}, {0, 1, 2, 4, 3}, {0, 1, 4, 3, 2}, {0, 1, 3, 2, 4}}) {
		t.Errorf("UnionRack = %v", union)
	}
}

// All pairs of sizes: products of 12 elements and more than 12, unions of 12 and of 13.
func TestProductsAndUnionsAroundMaxSize(t *testing.T) {
	for n := 1; n <= impl.MaxSize; n++ {
		for m := 1; m <= impl.MaxSize; m++ {
			checkPair(t, dihedralRack(n), permutationRack(turn(m, 1)))
			checkPair(t, permutationRack(turn(n, 1)), trivialRack(m))
			checkPair(t, trivialRack(n), dihedralRack(m))
		}
	}
}

func TestProductsAndUnionsRefused(t *testing.T) {
	for name, bad := range badRacks() {
		for _, good := range []impl.Rack{trivialRack(1), dihedralRack(3), dihedralRack(12)} {
			for _, pair := range [][2]impl.Rack{{bad, good}, {good, bad}, {bad, bad}} {
				r, c := impl.ProductRack(pair[0], pair[1])
				checkNone(t, "ProductRack of "+name, impl.ErrInvalid, r, c)
				r, c = impl.UnionRack(pair[0], pair[1])
				checkNone(t, "UnionRack of "+name, impl.ErrInvalid, r, c)
			}
		}
	}
}

// The guarantee: products have the numbers of homomorphisms into both racks, multiplied.
func TestMapsIntoProducts(t *testing.T) {
	for _, r := range smallRacks(3) {
		for _, s := range smallRacks(3) {
			product, c := impl.ProductRack(r, s)
			code(t, "ProductRack", c, impl.ErrNone)
			for _, from := range []impl.Rack{trivialRack(1), trivialRack(2), dihedralRack(3), permutationRack(turn(3, 1)), permutationRack(turn(4, 2)), tetrahedralRack()} {
				one, _ := impl.CountRackMaps(from, r)
				two, _ := impl.CountRackMaps(from, s)
				if got, c := impl.CountRackMaps(from, product); got != one*two || c != impl.ErrNone {
					t.Errorf("CountRackMaps(%v, %v) = %d, %d, want %d times %d", from, product, got, c, one, two)
				}
			}
		}
	}
}

// closedSets returns, as sums of 2^x, all sets of elements that are not empty and have x > y with
// any x and y.
func closedSets(r impl.Rack) []int64 {
	sets := []int64{}
	for set := int64(1); set < 1<<len(r.Table); set++ {
		closed := true
		for x, row := range r.Table {
			for y, z := range row {
				closed = closed && (set>>x&1 == 0 || set>>y&1 == 0 || set>>z&1 == 1)
			}
		}
		if closed {
			sets = append(sets, set)
		}
	}
	return sets
}

// elementsOfSet returns, in ascending order, the elements of a set given as a sum of 2^x.
func elementsOfSet(set int64) []int64 {
	list := []int64{}
	for x := range int64(62) {
		if set>>x&1 == 1 {
			list = append(list, x)
		}
	}
	return list
}

// checkSubracks checks SubracksOf, and SubrackFrom and RestrictRack for each set of elements.
func checkSubracks(t *testing.T, r impl.Rack) {
	t.Helper()
	sets := closedSets(r)
	got, c := impl.SubracksOf(r)
	if !slices.Equal(got, sets) || c != impl.ErrNone {
		t.Errorf("SubracksOf(%v) = %v, %d, want %v", r, got, c, sets)
	}
	for set := int64(1); set < 1<<len(r.Table); set++ {
		list, least := elementsOfSet(set), int64(1)<<len(r.Table)-1
		for _, closed := range sets {
			if closed&set == set {
				least &= closed
			}
		}
		from, c := impl.SubrackFrom(r, list)
		if !slices.Equal(from, elementsOfSet(least)) || c != impl.ErrNone {
			t.Errorf("SubrackFrom(%v, %v) = %v, %d, want %v", r, list, from, c, elementsOfSet(least))
		}
		part, c := impl.RestrictRack(r, list)
		if least != set {
			checkNone(t, "RestrictRack", impl.ErrState, part, c)
			continue
		}
		want := rackMade(len(list), func(x, y int64) int64 { return int64(slices.Index(list, r.Table[list[x]][list[y]])) })
		checkMade(t, "RestrictRack", want, isQuandle(want), part, c)
	}
}

func TestSubracks(t *testing.T) {
	for _, r := range slices.Concat(smallRacks(8), foundRacks(4)) {
		checkSubracks(t, r)
	}
	three, four := dihedralRack(3), tetrahedralRack()
	for _, r := range []impl.Rack{dihedralRack(9), affineRack(9, 2), affineRack(11, 2), classRack(5, 1, 1, 1, 2),
		dihedralRack(12), trivialRack(12), permutationRack(turn(12, 1)), permutationRack([]int64{1, 2, 0, 4, 5, 6, 3, 8, 9, 10, 11, 7}), productOfRacks(three, four), unionOfRacks(four, three, permutationRack(turn(5, 2)))} {
		checkSubracks(t, r)
	}
	twelve, c := impl.SubracksOf(trivialRack(12))
	if len(twelve) != 4095 || twelve[0] != 1 || twelve[4094] != 4095 || c != impl.ErrNone {
		t.Errorf("%d subracks of the trivial rack of 12 elements", len(twelve))
	}
	masks, _ := impl.SubracksOf(dihedralRack(4))
	if !slices.Equal(masks, []int64{1, 2, 4, 5, 8, 10, 15}) {
		t.Errorf("SubracksOf the dihedral quandle of 4 = %v", masks)
	}
}

// The elements of the list that SubrackFrom takes may be in any order, and there more than once.
func TestSubrackFromAnyList(t *testing.T) {
	six := dihedralRack(6)
	for _, x := range []struct{ list, want []int64 }{
		{[]int64{5, 5, 5}, []int64{5}}, {[]int64{2, 0}, []int64{0, 2, 4}}, {[]int64{4, 1, 4, 1, 4}, []int64{1, 4}},
		{[]int64{1, 0}, identity(6)}, {[]int64{3, 5, 3}, []int64{1, 3, 5}}, {slices.Repeat([]int64{3, 0}, 50000), []int64{0, 3}},
		{[]int64{5, 4, 3, 2, 1, 0}, identity(6)}, {[]int64{5, 2, 0}, identity(6)},
	} {
		if got, c := impl.SubrackFrom(six, x.list); !slices.Equal(got, x.want) || c != impl.ErrNone {
			t.Errorf("SubrackFrom of %v = %v, %d, want %v", x.list, got, c, x.want)
		}
	}
	// In a permutation rack one element may bring all other ones, step by step.
	if got, c := impl.SubrackFrom(permutationRack(turn(12, 1)), []int64{7}); !slices.Equal(got, identity(12)) || c != impl.ErrNone {
		t.Errorf("SubrackFrom of one element = %v, %d", got, c)
	}
}

func TestSubracksRefused(t *testing.T) {
	r := dihedralRack(4)
	for _, x := range []struct {
		list     []int64
		from, in int64 // the codes of SubrackFrom and RestrictRack
	}{
		{nil, impl.ErrState, impl.ErrState}, {[]int64{}, impl.ErrState, impl.ErrState},
		{[]int64{-1}, impl.ErrRange, impl.ErrRange}, {[]int64{4}, impl.ErrRange, impl.ErrRange}, {[]int64{0, 4}, impl.ErrRange, impl.ErrRange},
		{[]int64{-1, 0}, impl.ErrRange, impl.ErrRange}, {[]int64{0, math.MaxInt64}, impl.ErrRange, impl.ErrRange},
		{[]int64{math.MinInt64, 1}, impl.ErrRange, impl.ErrRange}, {[]int64{1 << 32}, impl.ErrRange, impl.ErrRange}, {[]int64{0, 1, 2, 3, 4}, impl.ErrRange, impl.ErrRange},
		{[]int64{2, 0}, impl.ErrNone, impl.ErrRange}, {[]int64{0, 0}, impl.ErrNone, impl.ErrRange}, {[]int64{0, 2, 2}, impl.ErrNone, impl.ErrRange},
		{[]int64{1, 0}, impl.ErrNone, impl.ErrRange}, {[]int64{0, 1, 2, 3, 3}, impl.ErrNone, impl.ErrRange}, {slices.Repeat([]int64{1}, 1000), impl.ErrNone, impl.ErrRange},
		{[]int64{0, 1}, impl.ErrNone, impl.ErrState}, {[]int64{0, 1, 2}, impl.ErrNone, impl.ErrState},
		{[]int64{0, 2}, impl.ErrNone, impl.ErrNone}, {[]int64{3}, impl.ErrNone, impl.ErrNone}, {identity(4), impl.ErrNone, impl.ErrNone},
	} {
		list, c := impl.SubrackFrom(r, x.list)
		if c != x.from || c != impl.ErrNone && len(list) != 0 {
			t.Errorf("SubrackFrom of %v = %v, %d, want code %d", x.list, list, c, x.from)
		}
		part, c := impl.RestrictRack(r, x.list)
		if c != x.in || c != impl.ErrNone && len(part.Table) != 0 {
			t.Errorf("RestrictRack to %v = %v, %d, want code %d", x.list, part, c, x.in)
		}
	}
	for name, bad := range badRacks() {
		for _, given := range [][]int64{nil, {0}, {0, 1}, {-1}, {1, 0}, {100}} {
			list, c := impl.SubrackFrom(bad, given)
			part, d := impl.RestrictRack(bad, given)
			if len(list) != 0 || c != impl.ErrInvalid || len(part.Table) != 0 || d != impl.ErrInvalid {
				t.Errorf("%s: SubrackFrom %v, %d, RestrictRack %v, %d", name, list, c, part, d)
			}
		}
		if sets, c := impl.SubracksOf(bad); len(sets) != 0 || c != impl.ErrInvalid {
			t.Errorf("SubracksOf %s = %v, %d", name, sets, c)
		}
	}
}

// partitionsOf returns all partitions of n elements.
func partitionsOf(n int) [][]int64 {
	if n == 0 {
		return [][]int64{{}}
	}
	list := [][]int64{}
	for _, front := range partitionsOf(n - 1) {
		next := int64(0)
		for _, class := range front {
			next = max(next, class+1)
		}
		for class := range next + 1 {
			list = append(list, append(slices.Clone(front), class))
		}
	}
	return list
}

// isCongruence reports whether x > y and z > w are in one class whenever x and z are, and y and w.
func isCongruence(r impl.Rack, classes []int64) bool {
	for x := range classes {
		for z := range classes {
			if classes[x] != classes[z] {
				continue
			}
			for y := range classes {
				for w := range classes {
					if classes[y] == classes[w] && classes[r.Table[x][y]] != classes[r.Table[z][w]] {
						return false
					}
				}
			}
		}
	}
	return true
}

// checkQuotient checks IsCongruence and QuotientRack for a partition, and returns whether it is a
// congruence. Promise 4: quotients are racks.
func checkQuotient(t *testing.T, r impl.Rack, classes []int64) bool {
	t.Helper()
	want := isCongruence(r, classes)
	is, c := impl.IsCongruence(r, classes)
	if is != want || c != impl.ErrNone {
		t.Errorf("IsCongruence(%v, %v) = %v, %d", r, classes, is, c)
	}
	quotient, c := impl.QuotientRack(r, classes)
	if !want {
		checkNone(t, "QuotientRack", impl.ErrState, quotient, c)
		return false
	}
	if c != impl.ErrNone || !impl.IsRack(quotient) || len(quotient.Table) != int(slices.Max(classes))+1 {
		t.Fatalf("QuotientRack(%v, %v) = %v, %d", r, classes, quotient, c)
	}
	if !isHomomorphism(r, quotient, classes) || isQuandle(r) && !isQuandle(quotient) {
		t.Errorf("QuotientRack(%v, %v) = %v", r, classes, quotient)
	}
	return true
}

// together returns the partition in which two elements are in one class exactly if they are in each
// of some partitions.
func together(partitions [][]int64) []int64 {
	classes, next := make([]int64, len(partitions[0])), int64(0)
	for x := range classes {
		classes[x] = next
		for y := range x {
			if !slices.ContainsFunc(partitions, func(p []int64) bool { return p[x] != p[y] }) {
				classes[x] = classes[y]
			}
		}
		if classes[x] == next {
			next++
		}
	}
	return classes
}

// checkCongruences checks all functions of congruences for a rack with few elements.
func checkCongruences(t *testing.T, r impl.Rack) {
	t.Helper()
	n := len(r.Table)
	congruences := [][]int64{}
	for _, classes := range partitionsOf(n) {
		if checkQuotient(t, r, classes) {
			congruences = append(congruences, classes)
		}
	}
	simple, c := impl.IsSimpleRack(r)
	if simple != (n >= 2 && len(congruences) == 2) || c != impl.ErrNone {
		t.Errorf("IsSimpleRack(%v) = %v, %d; it has %d congruences", r, simple, c, len(congruences))
	}
	for x := range n {
		for y := range n {
			want := together(slices.DeleteFunc(slices.Clone(congruences), func(p []int64) bool { return p[x] != p[y] }))
			got, c := impl.CongruenceFrom(r, int64(x), int64(y))
			if !slices.Equal(got, want) || c != impl.ErrNone {
				t.Errorf("CongruenceFrom(%v, %d, %d) = %v, %d, want %v", r, x, y, got, c, want)
			}
		}
	}
}

func TestCongruences(t *testing.T) {
	for _, r := range slices.Concat(smallRacks(6), foundRacks(4)) {
		checkCongruences(t, r)
	}
	for _, r := range []impl.Rack{dihedralRack(8), permutationRack(turn(8, 2)), unionOfRacks(tetrahedralRack(), permutationRack(turn(3, 1))), classRack(4, 1, 3),
		unionOfRacks(dihedralRack(3), tetrahedralRack()), renamedRack(affineRack(8, 5), []int64{3, 6, 1, 7, 0, 2, 5, 4})} {
		checkCongruences(t, r)
	}
}

// leastCongruence returns the congruence with two elements in one class that joins only what must
// be: it tries all quadruples until nothing changes.
func leastCongruence(r impl.Rack, x int, y int) []int64 {
	n := len(r.Table)
	least := identity(n)
	join := func(a, b int64) bool {
		if least[a] == least[b] {
			return false
		}
		low, high := min(least[a], least[b]), max(least[a], least[b])
		for i, class := range least {
			if class == high {
				least[i] = low
			}
		}
		return true
	}
	for changed := join(int64(x), int64(y)); changed; {
		changed = false
		for x := range n {
			for z := range n {
				for y := range n {
					for w := range n {
						if least[x] == least[z] && least[y] == least[w] && join(r.Table[x][y], r.Table[z][w]) {
							changed = true
						}
					}
				}
			}
		}
	}
	return together([][]int64{least})
}

func TestCongruencesOfGreatRacks(t *testing.T) {
	for _, r := range someRacks() {
		n := len(r.Table)
		simple := n >= 2
		for x := range n {
			for y := range n {
				want := leastCongruence(r, x, y)
				got, c := impl.CongruenceFrom(r, int64(x), int64(y))
				if !slices.Equal(got, want) || c != impl.ErrNone {
					t.Errorf("CongruenceFrom(%v, %d, %d) = %v, %d, want %v", r, x, y, got, c, want)
				}
				if !checkQuotient(t, r, want) {
					t.Errorf("%v is no congruence of %v", want, r)
				}
				simple = simple && (x == y || slices.Max(want) == 0)
			}
		}
		if got, c := impl.IsSimpleRack(r); got != simple || c != impl.ErrNone {
			t.Errorf("IsSimpleRack(%v) = %v, %d", r, got, c)
		}
		checkQuotient(t, r, make([]int64, n))
		checkQuotient(t, r, identity(n))
	}
	// Most partitions of greater racks are no congruences, some only just.
	random := rand.New(rand.NewSource(74))
	for i := range 2000 {
		r := []impl.Rack{dihedralRack(12), productOfRacks(dihedralRack(3), tetrahedralRack()), permutationRack(turn(12, 4)), trivialRack(12)}[i%4]
		classes := leastCongruence(r, random.Intn(12), random.Intn(12))
		classes[random.Intn(12)] = int64(12 + random.Intn(2))
		checkQuotient(t, r, together([][]int64{classes}))
	}
}

func TestQuotientsOfNamedRacks(t *testing.T) {
	turned, four, swap := permutationRack(turn(12, 1)), permutationRack(turn(4, 1)), permutationRack(turn(2, 1))
	product, twice := productOfRacks(dihedralRack(3), four), permutationRack(turn(4, 2))
	for _, x := range []struct {
		r       impl.Rack
		classes []int64
		want    impl.Rack // none if the partition is no congruence
	}{
		{trivialRack(1), []int64{0}, trivialRack(1)},
		{dihedralRack(4), []int64{0, 1, 0, 1}, trivialRack(2)},
		{dihedralRack(6), []int64{0, 1, 2, 0, 1, 2}, dihedralRack(3)},
		{dihedralRack(6), []int64{0, 1, 0, 1, 0, 1}, trivialRack(2)},
		{dihedralRack(12), []int64{0, 1, 2, 3, 0, 1, 2, 3, 0, 1, 2, 3}, dihedralRack(4)},
		{dihedralRack(12), identity(12), dihedralRack(12)},
		{dihedralRack(12), make([]int64, 12), trivialRack(1)},
		{trivialRack(5), []int64{0, 1, 1, 2, 0}, trivialRack(3)},
		{product, []int64{0, 0, 0, 0, 1, 1, 1, 1, 2, 2, 2, 2}, dihedralRack(3)},
		{product, []int64{0, 1, 2, 3, 0, 1, 2, 3, 0, 1, 2, 3}, four},
		{turned, []int64{0, 1, 2, 0, 1, 2, 0, 1, 2, 0, 1, 2}, permutationRack(turn(3, 1))},
		// A quotient of a rack that is no quandle may be one.
		{twice, []int64{0, 1, 0, 1}, trivialRack(2)},
		{twice, []int64{0, 0, 1, 1}, swap},
		{unionOfRacks(dihedralRack(3), trivialRack(2)), []int64{0, 0, 0, 1, 2}, trivialRack(3)},
		{twice, []int64{0, 0, 1, 2}, impl.Rack{}},
		{dihedralRack(3), []int64{0, 0, 1}, impl.Rack{}},
		{dihedralRack(12), []int64{0, 1, 2, 3, 4, 0, 1, 2, 3, 4, 0, 1}, impl.Rack{}},
	} {
		got, c := impl.QuotientRack(x.r, x.classes)
		want := int64(impl.ErrNone)
		if len(x.want.Table) == 0 {
			want = impl.ErrState
		}
		if !equalRacks(got, x.want) || c != want {
			t.Errorf("QuotientRack(%v, %v) = %v, %d, want %v", x.r, x.classes, got, c, x.want)
		}
	}
	six, c := impl.CongruenceFrom(dihedralRack(6), 5, 2)
	if !slices.Equal(six, []int64{0, 1, 2, 0, 1, 2}) || c != impl.ErrNone {
		t.Errorf("CongruenceFrom = %v, %d", six, c)
	}
}

func TestIsSimpleRack(t *testing.T) {
	simple := []impl.Rack{trivialRack(2), permutationRack(turn(2, 1)), dihedralRack(3), dihedralRack(5), dihedralRack(7), dihedralRack(11), affineRack(11, 2),
		tetrahedralRack(), affineRack(5, 2), permutationRack(turn(3, 1)), permutationRack(turn(11, 1)), classRack(5, 1, 1, 1, 2)}
	others := []impl.Rack{trivialRack(1), trivialRack(3), trivialRack(12), dihedralRack(4), dihedralRack(6), dihedralRack(9), dihedralRack(12), permutationRack(turn(4, 1)),
		permutationRack(turn(12, 1)), classRack(4, 4), classRack(4, 1, 1, 2), affineRack(9, 2), productOfRacks(dihedralRack(3), tetrahedralRack()),
		unionOfRacks(dihedralRack(3), trivialRack(1)), unionOfRacks(trivialRack(1), dihedralRack(11)), permutationRack([]int64{0, 2, 1})}
	for i, r := range append(simple, others...) {
		if got, c := impl.IsSimpleRack(r); got != (i < len(simple)) || c != impl.ErrNone {
			t.Errorf("IsSimpleRack(%v) = %v, %d", r, got, c)
		}
	}
}

func TestCongruencesRefused(t *testing.T) {
	r := dihedralRack(4)
	for name, classes := range map[string][]int64{
		"nil": nil, "empty": {}, "one less": {0, 1, 0}, "one more": {0, 1, 0, 1, 0}, "in another order": {1, 0, 1, 0}, "begins with 1": {1, 1, 1, 1},
		"without 1": {0, 2, 0, 2}, "without 2": {0, 1, 3, 1}, "2 before 1": {0, 2, 0, 1}, "negative": {0, -1, 0, -1}, "negative at first": {-1, 0, -1, 0},
		"negative at last": {0, 1, 0, -1}, "too great": {0, 1, 2, 4}, "by least elements": {0, 1, 0, 3}, "greatest": {0, math.MaxInt64, 0, 1},
		"smallest": {0, math.MinInt64, 0, 1}, "wrapped": {0, 1 << 32, 0, 1 << 32}, "many": make([]int64, 100000),
	} {
		is, c := impl.IsCongruence(r, classes)
		if is || c != impl.ErrInvalid {
			t.Errorf("IsCongruence of %s = %v, %d", name, is, c)
		}
		quotient, c := impl.QuotientRack(r, classes)
		checkNone(t, "QuotientRack of "+name, impl.ErrInvalid, quotient, c)
	}
	for _, x := range [][2]int64{{-1, 0}, {0, -1}, {4, 0}, {0, 4}, {4, 4}, {-1, -1}, {math.MaxInt64, 1}, {1, math.MinInt64}, {1 << 32, 0}} {
		if classes, c := impl.CongruenceFrom(r, x[0], x[1]); len(classes) != 0 || c != impl.ErrRange {
			t.Errorf("CongruenceFrom of %v = %v, %d", x, classes, c)
		}
	}
	for name, bad := range badRacks() {
		for _, classes := range [][]int64{nil, {0}, {0, 0}, {0, 1, 2}, {1, 0}, make([]int64, len(bad.Table))} {
			is, c := impl.IsCongruence(bad, classes)
			quotient, d := impl.QuotientRack(bad, classes)
			if is || c != impl.ErrInvalid || len(quotient.Table) != 0 || d != impl.ErrInvalid {
				t.Errorf("%s: IsCongruence %v, %d, QuotientRack %v, %d", name, is, c, quotient, d)
			}
		}
		for _, x := range [][2]int64{{0, 0}, {0, 1}, {-1, 0}, {0, 100}} {
			if classes, c := impl.CongruenceFrom(bad, x[0], x[1]); len(classes) != 0 || c != impl.ErrInvalid {
				t.Errorf("CongruenceFrom of %s and %v = %v, %d", name, x, classes, c)
			}
		}
		if simple, c := impl.IsSimpleRack(bad); simple || c != impl.ErrInvalid {
			t.Errorf("IsSimpleRack of %s = %v, %d", name, simple, c)
		}
	}
}

func TestChapter4KeepsMemoryApart(t *testing.T) {
	one := func(a []any) impl.Rack { return impl.Rack{Table: a[0].([][]int64)} }
	two := func(a []any) impl.Rack { return impl.Rack{Table: a[1].([][]int64)} }
	list := func(a any) []int64 { return a.([]int64) }
	racks := []impl.Rack{trivialRack(1), trivialRack(4), dihedralRack(4), permutationRack(turn(4, 2)), tetrahedralRack(), dihedralRack(6), {Table: sumTable(4)}}
	for _, r := range racks {
		n := len(r.Table)
		for _, s := range racks {
			checkMemory(t, "ProductRack", func(a []any) []any { return rackAndCode(impl.ProductRack(one(a), two(a))) }, r.Table, s.Table)
			checkMemory(t, "UnionRack", func(a []any) []any { return rackAndCode(impl.UnionRack(one(a), two(a))) }, r.Table, s.Table)
		}
		for _, set := range [][]int64{{}, {0}, {0, 2}, identity(n), make([]int64, n), {1, 0}, make([]int64, n+1)} {
			checkMemory(t, "SubrackFrom", func(a []any) []any { return listsAndCode(impl.SubrackFrom(one(a), list(a[1]))) }, r.Table, set)
			checkMemory(t, "RestrictRack", func(a []any) []any { return rackAndCode(impl.RestrictRack(one(a), list(a[1]))) }, r.Table, set)
			checkMemory(t, "IsCongruence", func(a []any) []any { return listsAndCode(impl.IsCongruence(one(a), list(a[1]))) }, r.Table, set)
			checkMemory(t, "QuotientRack", func(a []any) []any { return rackAndCode(impl.QuotientRack(one(a), list(a[1]))) }, r.Table, set)
		}
		checkMemory(t, "SubracksOf", func(a []any) []any { return listsAndCode(impl.SubracksOf(one(a))) }, r.Table)
		checkMemory(t, "CongruenceFrom", func(a []any) []any { return listsAndCode(impl.CongruenceFrom(one(a), 0, 0)) }, r.Table)
		checkMemory(t, "CongruenceFrom", func(a []any) []any { return listsAndCode(impl.CongruenceFrom(one(a), 0, 2)) }, r.Table)
		checkMemory(t, "IsSimpleRack", func(a []any) []any { return listsAndCode(impl.IsSimpleRack(one(a))) }, r.Table)
	}
	for _, p := range [][]int64{{0}, {1, 2, 0}, identity(5), turn(12, 1), {0, 0}} {
		checkMemory(t, "PermutationRack", func(a []any) []any { return rackAndCode(impl.PermutationRack(list(a[0]))) }, p)
		checkMemory(t, "ClassQuandle", func(a []any) []any { return rackAndCode(impl.ClassQuandle(list(a[0]))) }, p)
	}
	for _, perms := range [][][]int64{{{0}}, {{2, 1, 0}, {1, 0, 2}, {0, 2, 1}}, everyPermutation(3), {{1, 0, 2}, {2, 1, 0}}, {{0}, {0}}} {
		checkMemory(t, "ConjugationQuandle", func(a []any) []any { return rackAndCode(impl.ConjugationQuandle(a[0].([][]int64))) }, perms)
	}
	for _, g := range append(someGroups(), impl.Group{Table: constantTable(3, 0)}) {
		checkMemory(t, "CoreQuandle", func(a []any) []any { return rackAndCode(impl.CoreQuandle(impl.Group{Table: a[0].([][]int64)})) }, g.Table)
		checkMemory(t, "GroupConjugation", func(a []any) []any { return rackAndCode(impl.GroupConjugation(impl.Group{Table: a[0].([][]int64)})) }, g.Table)
	}
	for n := range int64(impl.MaxSize + 2) {
		checkMemory(t, "TrivialRack", func(a []any) []any { return rackAndCode(impl.TrivialRack(n)) })
		checkMemory(t, "DihedralQuandle", func(a []any) []any { return rackAndCode(impl.DihedralQuandle(n)) })
		checkMemory(t, "AlexanderQuandle", func(a []any) []any { return rackAndCode(impl.AlexanderQuandle(n, 1)) })
	}
}

// A result that is overwritten must not change what a later call returns.
func TestChapter4KeepsNoState(t *testing.T) {
	three := dihedralRack(3)
	g := impl.Group{Table: sumTable(3)}
	for range 2 {
		made := []impl.Rack{}
		keep := func(r impl.Rack, _ int64) { made = append(made, r) }
		keep(impl.DihedralQuandle(3))
		keep(impl.AlexanderQuandle(3, 2))
		keep(impl.ClassQuandle([]int64{1, 0, 2}))
		keep(impl.ConjugationQuandle([][]int64{{1, 0, 2}, {0, 2, 1}, {2, 1, 0}}))
		keep(impl.CoreQuandle(g))
		keep(impl.ProductRack(three, trivialRack(1)))
		keep(impl.RestrictRack(unionOfRacks(three, three), identity(3)))
		keep(impl.QuotientRack(three, identity(3)))
		for i, r := range made {
			if !equalRacks(r, dihedralRack(3)) {
				t.Errorf("result %d: %v", i, r)
			}
		}
		trivial, _ := impl.TrivialRack(3)
		same, _ := impl.PermutationRack(identity(3))
		still, _ := impl.GroupConjugation(g)
		union, _ := impl.UnionRack(trivialRack(1), trivialRack(2))
		sets, _ := impl.SubracksOf(three)
		list, _ := impl.SubrackFrom(three, []int64{1})
		classes, _ := impl.CongruenceFrom(three, 1, 1)
		if !equalRacks(trivial, trivialRack(3)) || !equalRacks(same, trivialRack(3)) || !equalRacks(still, trivialRack(3)) || !equalRacks(union, trivialRack(3)) ||
			!slices.Equal(sets, []int64{1, 2, 4, 7}) || !slices.Equal(list, []int64{1}) || !slices.Equal(classes, []int64{0, 1, 2}) {
			t.Errorf("results %v, %v, %v, %v, %v, %v, %v", trivial, same, still, union, sets, list, classes)
		}
		for _, r := range append(made, trivial, same, still, union, impl.Rack{Table: [][]int64{sets, list, classes}}) {
			for _, row := range r.Table {
				fill(row, -1)
			}
			clear(r.Table)
		}
	}
}
