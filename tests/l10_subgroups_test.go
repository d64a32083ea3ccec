package tests

import (
	"math"
	"math/rand"
	"slices"
	"testing"

	"loop.example/g01119/impl"
)

// groupFacts tells what is known of a named group: the orders of its elements in ascending order, and
// numbers of elements of the center, classes, subgroups, normal subgroups and automorphisms.
type groupFacts struct {
	orders                                            []int64
	center, classes, subgroups, normal, automorphisms int
}

// factsOf returns what is known of the named groups of an order, in their order.
func factsOf(n int) []groupFacts {
	return [][]groupFacts{
		1:  {{[]int64{1}, 1, 1, 1, 1, 1}},
		2:  {{[]int64{1, 2}, 2, 2, 2, 2, 1}},
		3:  {{[]int64{1, 3, 3}, 3, 3, 2, 2, 2}},
		4:  {{[]int64{1, 2, 4, 4}, 4, 4, 3, 3, 2}, {[]int64{1, 2, 2, 2}, 4, 4, 5, 5, 6}},
		5:  {{[]int64{1, 5, 5, 5, 5}, 5, 5, 2, 2, 4}},
		6:  {{[]int64{1, 2, 3, 3, 6, 6}, 6, 6, 4, 4, 2}, {[]int64{1, 2, 2, 2, 3, 3}, 1, 3, 6, 3, 6}},
		7:  {{[]int64{1, 7, 7, 7, 7, 7, 7}, 7, 7, 2, 2, 6}},
		8:  factsOf8(),
		9:  {{[]int64{1, 3, 3, 9, 9, 9, 9, 9, 9}, 9, 9, 3, 3, 6}, {[]int64{1, 3, 3, 3, 3, 3, 3, 3, 3}, 9, 9, 6, 6, 48}},
		10: {{[]int64{1, 2, 5, 5, 5, 5, 10, 10, 10, 10}, 10, 10, 4, 4, 4}, {[]int64{1, 2, 2, 2, 2, 2, 5, 5, 5, 5}, 1, 4, 8, 3, 20}},
		11: {{[]int64{1, 11, 11, 11, 11, 11, 11, 11, 11, 11, 11}, 11, 11, 2, 2, 10}},
		12: factsOf12(),
	}[n]
}

func factsOf8() []groupFacts {
	return []groupFacts{
		{[]int64{1, 2, 4, 4, 8, 8, 8, 8}, 8, 8, 4, 4, 4},
		{[]int64{1, 2, 2, 2, 4, 4, 4, 4}, 8, 8, 8, 8, 8},
		{[]int64{1, 2, 2, 2, 2, 2, 2, 2}, 8, 8, 16, 16, 168},
		{[]int64{1, 2, 2, 2, 2, 2, 4, 4}, 2, 5, 10, 6, 8},
		{[]int64{1, 2, 4, 4, 4, 4, 4, 4}, 2, 5, 6, 6, 24},
	}
}

func factsOf12() []groupFacts {
	return []groupFacts{
		{[]int64{1, 2, 3, 3, 4, 4, 6, 6, 12, 12, 12, 12}, 12, 12, 6, 6, 4},
		{[]int64{1, 2, 2, 2, 3, 3, 6, 6, 6, 6, 6, 6}, 12, 12, 10, 10, 12},
		{[]int64{1, 2, 2, 2, 2, 2, 2, 2, 3, 3, 6, 6}, 2, 6, 16, 7, 12},
		{[]int64{1, 2, 3, 3, 4, 4, 4, 4, 4, 4, 6, 6}, 2, 6, 8, 5, 12},
		{[]int64{1, 2, 2, 2, 3, 3, 3, 3, 3, 3, 3, 3}, 1, 4, 10, 3, 24},
	}
}

// ordersIn returns the orders of all elements in ascending order.
func ordersIn(u [][]int64) []int64 {
	orders := make([]int64, len(u))
	for x := range u {
		orders[x] = 1
		for y := int64(x); y != 0; y = u[y][x] {
			orders[x]++
		}
	}
	slices.Sort(orders)
	return orders
}

// nameOf returns the index of the named group whose elements have the same orders. Up to 12 elements
// groups that differ have elements of other orders.
func nameOf(u [][]int64) int {
	orders := ordersIn(u)
	return slices.IndexFunc(factsOf(len(u)), func(f groupFacts) bool { return slices.Equal(f.orders, orders) })
}

// knownOf returns what is known of the named group that a group is isomorphic to.
func knownOf(u [][]int64) groupFacts { return factsOf(len(u))[nameOf(u)] }

// conjugate returns x y times the inverse of x.
func conjugate(u [][]int64, x int64, y int64) int64 {
	return u[u[x][y]][slices.Index(u[x], 0)]
}

// checkCenter checks the center. Elements lead all elements to their conjugates in as many different
// ways, the inner automorphisms, as the quotient by the center has elements.
func checkCenter(t *testing.T, u [][]int64) {
	t.Helper()
	n, known := len(u), knownOf(u)
	want, inner := int64(0), map[string]bool{}
	for x := range int64(n) {
		ways := make([]int64, n)
		isCentral := true
		for y := range int64(n) {
			ways[y] = conjugate(u, x, y)
			isCentral = isCentral && u[x][y] == u[y][x]
		}
		if isCentral {
			want |= 1 << x
		}
		inner[textOf(ways)] = true
	}
	center, c := impl.CenterOf(grp(u))
	if center != want || c != impl.ErrNone || len(elementsOfSet(center)) != known.center {
		t.Errorf("CenterOf(%v) = %d, %d, want %d", u, center, c, want)
	}
	isAbelian, c := impl.IsAbelianGroup(grp(u))
	if isAbelian != (known.center == n) || c != impl.ErrNone {
		t.Errorf("IsAbelianGroup(%v) = %v, %d", u, isAbelian, c)
	}
	quotient, c := impl.QuotientGroup(grp(u), center)
	if len(quotient.Table) != len(inner) || c != impl.ErrNone {
		t.Errorf("the quotient of %v by its center is %v, code %d, but there are %d inner automorphisms", u, quotient, c, len(inner))
	}
}

// checkConjugates checks the classes of elements.
func checkConjugates(t *testing.T, u [][]int64) {
	t.Helper()
	n := len(u)
	want, next := make([]int64, n), int64(0)
	fill(want, -1)
	for y := range int64(n) {
		if want[y] >= 0 {
			continue
		}
		for x := range int64(n) {
			want[conjugate(u, x, y)] = next
		}
		next++
	}
	classes, c := impl.ClassesOf(grp(u))
	if !slices.Equal(classes, want) || c != impl.ErrNone || int(next) != knownOf(u).classes {
		t.Errorf("ClassesOf(%v) = %v, %d, want %v", u, classes, c, want)
	}
}

func TestCentersAndClasses(t *testing.T) {
	for _, u := range groupTables() {
		checkCenter(t, u)
		checkConjugates(t, u)
	}
	for _, u := range slices.Concat(loopsOf(4), loopsOf(5), loopsOf(6)) {
		if isGroup(u) {
			checkCenter(t, u)
			checkConjugates(t, u)
		}
	}
}

func TestNamedCentersAndClasses(t *testing.T) {
	cases := []struct {
		u       [][]int64
		abelian bool
		center  int64
		classes []int64
	}{
		{[][]int64{{0}}, true, 1, []int64{0}},
		{sumTable(12), true, 1<<12 - 1, identity(12)},
		{flippedTable(3, 0), false, 1, []int64{0, 1, 1, 2, 2, 2}},
		{flippedTable(4, 0), false, 5, []int64{0, 1, 2, 1, 3, 4, 3, 4}},
		{flippedTable(4, 2), false, 5, []int64{0, 1, 2, 1, 3, 4, 3, 4}},
		{flippedTable(6, 0), false, 9, []int64{0, 1, 2, 3, 2, 1, 4, 5, 4, 5, 4, 5}},
		{flippedTable(6, 3), false, 9, []int64{0, 1, 2, 3, 2, 1, 4, 5, 4, 5, 4, 5}},
		{tableOf(everyPermutation(3)), false, 1, []int64{0, 1, 1, 2, 2, 1}},
		{namedTables(12)[4], false, 1, []int64{0, 1, 2, 3, 2, 1, 1, 2, 3, 2, 1, 3}},
	}
	for _, x := range cases {
		abelian, c := impl.IsAbelianGroup(grp(x.u))
		center, d := impl.CenterOf(grp(x.u))
		classes, e := impl.ClassesOf(grp(x.u))
		if abelian != x.abelian || center != x.center || !slices.Equal(classes, x.classes) || c != impl.ErrNone || d != impl.ErrNone || e != impl.ErrNone {
			t.Errorf("%v: abelian %v, center %d, classes %v, codes %d, %d, %d", x.u, abelian, center, classes, c, d, e)
		}
	}
}

// hasSubgroup reports whether a set of elements is a subgroup.
func hasSubgroup(u [][]int64, set int64) bool {
	list := elementsOfSet(set)
	for _, x := range list {
		for _, y := range list {
			if !slices.Contains(list, u[x][y]) {
				return false
			}
		}
	}
	return slices.Contains(list, 0)
}

// hasNormal reports whether a set has all conjugates of its elements.
func hasNormal(u [][]int64, set int64) bool {
	list := elementsOfSet(set)
	for x := range int64(len(u)) {
		for _, y := range list {
			if !slices.Contains(list, conjugate(u, x, y)) {
				return false
			}
		}
	}
	return true
}

// checkQuotientGroup checks the quotient by a normal subgroup: the products of all elements, not only of the
// least ones, tell the products of the sets that they are in.
func checkQuotientGroup(t *testing.T, u [][]int64, set int64) {
	t.Helper()
	n := len(u)
	of, next := make([]int64, n), int64(0)
	fill(of, -1)
	for x := range n {
		if of[x] >= 0 {
			continue
		}
		for _, y := range elementsOfSet(set) {
			of[u[x][y]] = next
		}
		next++
	}
	g, c := impl.QuotientGroup(grp(u), set)
	if c != impl.ErrNone || len(g.Table) != int(next) || !isGroup(g.Table) {
		t.Fatalf("QuotientGroup(%v, %d) = %v, %d", u, set, g, c)
	}
	for x := range n {
		for y := range n {
			if g.Table[of[x]][of[y]] != of[u[x][y]] {
				t.Fatalf("QuotientGroup(%v, %d) = %v", u, set, g)
			}
		}
	}
}

// checkSet checks what is said of one set, and reports whether it is a subgroup, and a normal one.
func checkSet(t *testing.T, u [][]int64, set int64) (isSubgroup bool, isNormal bool) {
	t.Helper()
	isSubgroup = hasSubgroup(u, set)
	isNormal = isSubgroup && hasNormal(u, set)
	want := int64(impl.ErrNone)
	if !isSubgroup {
		want = impl.ErrState
	}
	if got, c := impl.IsNormalIn(grp(u), set); got != isNormal || c != want {
		t.Errorf("IsNormalIn(%v, %d) = %v, %d", u, set, got, c)
	}
	if isNormal {
		checkQuotientGroup(t, u, set)
	} else if g, c := impl.QuotientGroup(grp(u), set); !isNoGroup(g, c, impl.ErrState) {
		t.Errorf("QuotientGroup(%v, %d) = %v, %d", u, set, g, c)
	}
	return isSubgroup, isNormal
}

// checkSubgroups checks all sets of elements. Promise 10: the numbers of elements of subgroups are
// divisors of that of the group.
func checkSubgroups(t *testing.T, u [][]int64) {
	t.Helper()
	want, normal := []int64{}, 0
	for set := range int64(1) << len(u) {
		isSubgroup, isNormal := checkSet(t, u, set)
		if isSubgroup {
			want = append(want, set)
		}
		if isNormal {
			normal++
		}
	}
	got, c := impl.SubgroupsOf(grp(u))
	if !slices.Equal(got, want) || c != impl.ErrNone {
		t.Errorf("SubgroupsOf(%v) = %v, %d, want %v", u, got, c, want)
	}
	for _, set := range got {
		if len(u)%len(elementsOfSet(set)) != 0 {
			t.Errorf("%v has a subgroup %d", u, set)
		}
	}
	if known := knownOf(u); len(got) != known.subgroups || normal != known.normal {
		t.Errorf("%v has %d subgroups, %d of them normal", u, len(got), normal)
	}
	if got[0] != 1 || got[len(got)-1] != int64(1)<<len(u)-1 {
		t.Errorf("%v has no least and no greatest subgroup among %v", u, got)
	}
}

// checkWrongSets checks numbers that are no sums for elements.
func checkWrongSets(t *testing.T, u [][]int64) {
	t.Helper()
	whole := int64(1)<<len(u) - 1
	for _, set := range []int64{-1, -2, whole + 1, whole + 2, 2*whole + 1, 1<<32 + 1, 1 << 62, math.MinInt64, math.MinInt64 + 1, math.MaxInt64, -whole} {
		if is, c := impl.IsNormalIn(grp(u), set); is || c != impl.ErrRange {
			t.Errorf("IsNormalIn(%v, %d) = %v, %d", u, set, is, c)
		}
		if g, c := impl.QuotientGroup(grp(u), set); !isNoGroup(g, c, impl.ErrRange) {
			t.Errorf("QuotientGroup(%v, %d) = %v, %d", u, set, g, c)
		}
	}
}

func TestSubgroups(t *testing.T) {
	for _, u := range groupTables() {
		checkWrongSets(t, u)
		if len(u) < 10 {
			checkSubgroups(t, u)
		}
	}
	r := rand.New(rand.NewSource(104))
	for n := 10; n <= impl.MaxSize; n++ {
		for _, u := range namedTables(n) {
			checkSubgroups(t, u)
			checkSubgroups(t, renamedGroup(u, keepingZero(r, n)))
		}
	}
}

func TestNamedSubgroups(t *testing.T) {
	cases := []struct {
		u         [][]int64
		subgroups []int64
		normal    []int64
	}{
		{[][]int64{{0}}, []int64{1}, []int64{1}},
		{sumTable(2), []int64{1, 3}, []int64{1, 3}},
		{sumTable(12), []int64{1, 65, 273, 585, 1365, 4095}, []int64{1, 65, 273, 585, 1365, 4095}},
		{flippedTable(3, 0), []int64{1, 7, 9, 17, 33, 63}, []int64{1, 7, 63}},
		{flippedTable(4, 2), []int64{1, 5, 15, 85, 165, 255}, []int64{1, 5, 15, 85, 165, 255}},
		{flippedTable(4, 0), []int64{1, 5, 15, 17, 33, 65, 85, 129, 165, 255}, []int64{1, 5, 15, 85, 165, 255}},
		{productTable(sumTable(2), sumTable(2)), []int64{1, 3, 5, 9, 15}, []int64{1, 3, 5, 9, 15}},
	}
	for _, x := range cases {
		got, c := impl.SubgroupsOf(grp(x.u))
		if !slices.Equal(got, x.subgroups) || c != impl.ErrNone {
			t.Errorf("SubgroupsOf(%v) = %v, %d", x.u, got, c)
		}
		for _, set := range x.subgroups {
			is, c := impl.IsNormalIn(grp(x.u), set)
			if is != slices.Contains(x.normal, set) || c != impl.ErrNone {
				t.Errorf("IsNormalIn(%v, %d) = %v, %d", x.u, set, is, c)
			}
		}
	}
}

// The quotient by the subgroup of 0 alone is the group, and that by the whole group has one element.
func TestQuotients(t *testing.T) {
	for _, u := range groupTables() {
		if g, c := impl.QuotientGroup(grp(u), 1); !equalTables(g.Table, u) || c != impl.ErrNone {
			t.Errorf("QuotientGroup(%v, 1) = %v, %d", u, g, c)
		}
		if g, c := impl.QuotientGroup(grp(u), 1<<len(u)-1); !equalTables(g.Table, [][]int64{{0}}) || c != impl.ErrNone {
			t.Errorf("QuotientGroup(%v, all) = %v, %d", u, g, c)
		}
	}
	cases := []struct {
		u    [][]int64
		set  int64
		want [][]int64
	}{
		{sumTable(12), 65, sumTable(6)},
		{sumTable(12), 273, sumTable(4)},
		{sumTable(12), 1365, sumTable(2)},
		{flippedTable(3, 0), 7, sumTable(2)},
		{flippedTable(4, 2), 5, productTable(sumTable(2), sumTable(2))},
		{flippedTable(6, 0), 9, flippedTable(3, 0)},
		{flippedTable(6, 3), 9, flippedTable(3, 0)},
		{flippedTable(6, 3), 21, [][]int64{{0, 1, 2, 3}, {1, 0, 3, 2}, {2, 3, 1, 0}, {3, 2, 0, 1}}},
		{namedTables(12)[4], 1<<0 | 1<<3 | 1<<8 | 1<<11, sumTable(3)},
	}
	for _, x := range cases {
		g, c := impl.QuotientGroup(grp(x.u), x.set)
		if !equalTables(g.Table, x.want) || c != impl.ErrNone {
			t.Errorf("QuotientGroup(%v, %d) = %v, %d", x.u, x.set, g, c)
		}
	}
}
