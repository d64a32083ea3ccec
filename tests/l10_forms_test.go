package tests

import (
	"math/rand"
	"slices"
	"testing"

	"loop.example/g01119/impl"
)

func TestNamedGroups(t *testing.T) {
	for n := 1; n <= impl.MaxSize; n++ {
		want := namedTables(n)
		got, c := impl.NamedGroups(int64(n))
		if len(got) != len(want) || c != impl.ErrNone || len(want) != len(factsOf(n)) {
			t.Fatalf("NamedGroups(%d) = %v, %d", n, got, c)
		}
		for i, g := range got {
			checkGroupMade(t, "a named group", want[i], g, c)
			if !slices.Equal(ordersIn(g.Table), factsOf(n)[i].orders) {
				t.Errorf("group %d of order %d is %v", i, n, g)
			}
			// No other group of the list is isomorphic to it.
			name, c := impl.NameOfGroup(g)
			if name != int64(i) || c != impl.ErrNone {
				t.Errorf("NameOfGroup(%v) = %d, %d", g, name, c)
			}
		}
	}
	for _, n := range wrongSizes() {
		if got, c := impl.NamedGroups(n); len(got) != 0 || c != impl.ErrRange {
			t.Errorf("NamedGroups(%d) = %v, %d", n, got, c)
		}
	}
}

// hasIsomorphism reports whether two groups are isomorphic by a list.
func hasIsomorphism(u [][]int64, v [][]int64, p []int64) bool {
	if len(p) != len(u) || !slices.Equal(slices.Sorted(slices.Values(p)), identity(len(u))) || p[0] != 0 {
		return false
	}
	return equalTables(renamedGroup(u, p), v)
}

// checkName checks that a group is isomorphic to exactly one of the named groups (promise 10).
func checkName(t *testing.T, u [][]int64) {
	t.Helper()
	name, c := impl.NameOfGroup(grp(u))
	if name != int64(nameOf(u)) || c != impl.ErrNone {
		t.Errorf("NameOfGroup(%v) = %d, %d, want %d", u, name, c, nameOf(u))
	}
	named, _ := impl.NamedGroups(int64(len(u)))
	for i, g := range named {
		p, c := impl.GroupIsomorphism(grp(u), g)
		if i == int(name) && (c != impl.ErrNone || !hasIsomorphism(u, g.Table, p)) {
			t.Errorf("GroupIsomorphism(%v, %v) = %v, %d", u, g, p, c)
		}
		if i != int(name) && (c != impl.ErrNotFound || len(p) != 0) {
			t.Errorf("GroupIsomorphism(%v, %v) = %v, %d", u, g, p, c)
		}
	}
}

func TestNameOfGroup(t *testing.T) {
	for _, u := range groupTables() {
		checkName(t, u)
	}
	for n := 4; n <= 6; n++ {
		for _, u := range loopsOf(n) {
			if isGroup(u) {
				checkName(t, u)
			}
		}
	}
	// Products of any groups, each of them named in another way.
	names := map[int64]int{}
	for _, u := range groupTables() {
		for _, v := range groupTables() {
			if g, c := impl.ProductGroup(grp(u), grp(v)); c == impl.ErrNone && len(g.Table) == impl.MaxSize {
				checkName(t, g.Table)
				name, _ := impl.NameOfGroup(g)
				names[name]++
			}
		}
	}
	// The dihedral group of 6 is the product of that of 3 and the cyclic group of 2, but the dicyclic
	// group of 3 and the one of even permutations are no products.
	if names[2] == 0 || names[3] != len(pairsNamed(3)) || names[4] != len(pairsNamed(4)) {
		t.Errorf("products with the names %v", names)
	}
}

// pairsNamed returns the pairs of groups, one of them with one element, whose product is a group of 12
// elements with a name.
func pairsNamed(name int) [][2][][]int64 {
	list := [][2][][]int64{}
	for _, u := range groupTables() {
		for _, v := range groupTables() {
			if len(u) == 1 && len(v) == 12 && nameOf(v) == name || len(v) == 1 && len(u) == 12 && nameOf(u) == name {
				list = append(list, [2][][]int64{u, v})
			}
		}
	}
	return list
}

// isomorphismsBetween returns all permutations of few elements by which two groups are isomorphic.
func isomorphismsBetween(u [][]int64, v [][]int64) [][]int64 {
	list := everyPermutation(len(u))
	return slices.DeleteFunc(list, func(p []int64) bool { return !hasIsomorphism(u, v, p) })
}

// checkGroupAutomorphisms checks that there are as many automorphisms as is known, all different.
func checkGroupAutomorphisms(t *testing.T, u [][]int64) [][]int64 {
	t.Helper()
	list, c := impl.GroupAutomorphisms(grp(u))
	if len(list) != knownOf(u).automorphisms || c != impl.ErrNone {
		t.Errorf("GroupAutomorphisms(%v) = %v, %d", u, list, c)
	}
	for i, p := range list {
		if !hasIsomorphism(u, u, p) || i > 0 && slices.Compare(list[i-1], p) >= 0 {
			t.Errorf("GroupAutomorphisms(%v) has %v", u, p)
		}
	}
	return list
}

// checkIsomorphismOf checks the isomorphism of two groups with automorphisms of the first one: doing
// these and then any isomorphism makes all isomorphisms.
func checkIsomorphismOf(t *testing.T, u [][]int64, v [][]int64, automorphisms [][]int64) bool {
	t.Helper()
	p, c := impl.GroupIsomorphism(grp(u), grp(v))
	if len(u) != len(v) || nameOf(u) != nameOf(v) {
		if len(p) != 0 || c != impl.ErrNotFound {
			t.Errorf("GroupIsomorphism(%v, %v) = %v, %d", u, v, p, c)
		}
		return false
	}
	if c != impl.ErrNone || !hasIsomorphism(u, v, p) {
		t.Fatalf("GroupIsomorphism(%v, %v) = %v, %d", u, v, p, c)
	}
	for _, f := range automorphisms {
		if q := doneThen(f, p); slices.Compare(q, p) < 0 {
			t.Errorf("GroupIsomorphism(%v, %v) = %v, but %v is less", u, v, p, q)
		}
	}
	return true
}

func TestGroupIsomorphisms(t *testing.T) {
	isomorphic, equally := 0, 0
	list := groupTables()
	for _, u := range list {
		automorphisms := checkGroupAutomorphisms(t, u)
		for _, v := range list {
			if checkIsomorphismOf(t, u, v, automorphisms) {
				isomorphic++
			} else if len(u) == len(v) {
				equally++
			}
		}
	}
	if isomorphic < 400 || equally < 400 {
		t.Errorf("%d pairs that are isomorphic, %d others of one order", isomorphic, equally)
	}
}

// All automorphisms and isomorphisms of the groups of few elements, among all permutations.
func TestIsomorphismsAmongAllPermutations(t *testing.T) {
	r := rand.New(rand.NewSource(105))
	tables := slices.Concat(loopsOf(1), loopsOf(2), loopsOf(3), loopsOf(4), loopsOf(5))
	for _, u := range append(namedTables(6), namedTables(7)...) {
		tables = append(tables, u, renamedGroup(u, keepingZero(r, len(u))))
	}
	for _, u := range tables {
		if !isGroup(u) {
			continue
		}
		for _, v := range tables {
			if len(v) != len(u) || !isGroup(v) {
				continue
			}
			all := isomorphismsBetween(u, v)
			p, c := impl.GroupIsomorphism(grp(u), grp(v))
			if len(all) > 0 && (!slices.Equal(p, all[0]) || c != impl.ErrNone) || len(all) == 0 && (len(p) != 0 || c != impl.ErrNotFound) {
				t.Errorf("GroupIsomorphism(%v, %v) = %v, %d, want one of %v", u, v, p, c, all)
			}
		}
		want := isomorphismsBetween(u, u)
		if got, c := impl.GroupAutomorphisms(grp(u)); !equalTables(got, want) || c != impl.ErrNone {
			t.Errorf("GroupAutomorphisms(%v) = %v, %d, want %v", u, got, c, want)
		}
	}
}

func TestNamedIsomorphisms(t *testing.T) {
	cases := []struct {
		u    [][]int64
		want [][]int64
	}{
		{[][]int64{{0}}, [][]int64{{0}}},
		{sumTable(2), [][]int64{{0, 1}}},
		{sumTable(12), [][]int64{identity(12), {0, 5, 10, 3, 8, 1, 6, 11, 4, 9, 2, 7}, {0, 7, 2, 9, 4, 11, 6, 1, 8, 3, 10, 5}, {0, 11, 10, 9, 8, 7, 6, 5, 4, 3, 2, 1}}},
		{productTable(sumTable(2), sumTable(2)), [][]int64{{0, 1, 2, 3}, {0, 1, 3, 2}, {0, 2, 1, 3}, {0, 2, 3, 1}, {0, 3, 1, 2}, {0, 3, 2, 1}}},
		{flippedTable(3, 0), [][]int64{{0, 1, 2, 3, 4, 5}, {0, 1, 2, 4, 5, 3}, {0, 1, 2, 5, 3, 4}, {0, 2, 1, 3, 5, 4}, {0, 2, 1, 4, 3, 5}, {0, 2, 1, 5, 4, 3}}},
	}
	for _, x := range cases {
		if got, c := impl.GroupAutomorphisms(grp(x.u)); !equalTables(got, x.want) || c != impl.ErrNone {
			t.Errorf("GroupAutomorphisms(%v) = %v, %d", x.u, got, c)
		}
	}
	// Elements of the order 6 of the product are 4 and 5; the least one to which 1 may be led is 4.
	if p, c := impl.GroupIsomorphism(grp(sumTable(6)), grp(productTable(sumTable(2), sumTable(3)))); !slices.Equal(p, []int64{0, 4, 2, 3, 1, 5}) || c != impl.ErrNone {
		t.Errorf("the isomorphism of cyclic groups is %v, %d", p, c)
	}
	// Exchanges 1, 2 and 5, and 3 and 4 of the order 3, are turns 1 and 2 and flips 3, 4 and 5.
	if p, c := impl.GroupIsomorphism(grp(tableOf(everyPermutation(3))), grp(flippedTable(3, 0))); !slices.Equal(p, []int64{0, 3, 4, 2, 1, 5}) || c != impl.ErrNone {
		t.Errorf("the isomorphism of groups that are not abelian is %v, %d", p, c)
	}
}

// Each named group is isomorphic to itself alone among all of them, by the identity.
func TestGroupsThatAreNotIsomorphic(t *testing.T) {
	list := [][][]int64{}
	for n := 1; n <= impl.MaxSize; n++ {
		list = append(list, namedTables(n)...)
	}
	for i, u := range list {
		for k, v := range list {
			p, c := impl.GroupIsomorphism(grp(u), grp(v))
			if i == k && (c != impl.ErrNone || !slices.Equal(p, identity(len(u)))) || i != k && (c != impl.ErrNotFound || len(p) != 0) {
				t.Errorf("GroupIsomorphism(%v, %v) = %v, %d", u, v, p, c)
			}
		}
	}
}

// Leading each element to its inverse makes the opposite group.
func TestOppositeGroup(t *testing.T) {
	for _, u := range groupTables() {
		g, c := impl.OppositeGroup(grp(u))
		checkGroupMade(t, "OppositeGroup", transposedTable(u), g, c)
		inverses := make([]int64, len(u))
		for x := range u {
			inverses[x] = int64(slices.Index(u[x], 0))
		}
		if !hasIsomorphism(u, g.Table, inverses) {
			t.Errorf("OppositeGroup(%v) = %v", u, g)
		}
		if _, c := impl.GroupIsomorphism(grp(u), g); c != impl.ErrNone {
			t.Errorf("%v and %v are not isomorphic", u, g)
		}
		if again, c := impl.OppositeGroup(g); !equalTables(again.Table, u) || c != impl.ErrNone {
			t.Errorf("OppositeGroup(%v) = %v, %d", g, again, c)
		}
		isAbelian, _ := impl.IsAbelianGroup(grp(u))
		if isAbelian != equalTables(g.Table, u) {
			t.Errorf("%v is abelian: %v", u, isAbelian)
		}
	}
}
