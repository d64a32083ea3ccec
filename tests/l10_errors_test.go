package tests

import (
	"math"
	"slices"
	"testing"

	"loop.example/g01119/impl"
)

// callsOnGroup calls each function that takes one group, and returns the codes and whether all other
// results are zero.
func callsOnGroup(g impl.Group, x int64, set int64) (map[string]int64, bool) {
	codes, zero := map[string]int64{}, true
	for name, f := range map[string]func(impl.Group, int64) (int64, int64){"InverseIn": impl.InverseIn, "OrderIn": impl.OrderIn} {
		y, c := f(g, x)
		codes[name], zero = c, zero && y == 0
	}
	for name, f := range map[string]func(impl.Group) (int64, int64){"NameOfGroup": impl.NameOfGroup, "CenterOf": impl.CenterOf} {
		y, c := f(g)
		codes[name], zero = c, zero && y == 0
	}
	for name, f := range map[string]func(impl.Group) ([]int64, int64){"ClassesOf": impl.ClassesOf, "SubgroupsOf": impl.SubgroupsOf} {
		list, c := f(g)
		codes[name], zero = c, zero && len(list) == 0
	}
	is, c := impl.IsAbelianGroup(g)
	codes["IsAbelianGroup"] = c
	isNormal, c := impl.IsNormalIn(g, set)
	codes["IsNormalIn"] = c
	quotient, c := impl.QuotientGroup(g, set)
	codes["QuotientGroup"] = c
	opposite, c := impl.OppositeGroup(g)
	codes["OppositeGroup"] = c
	automorphisms, c := impl.GroupAutomorphisms(g)
	codes["GroupAutomorphisms"] = c
	return codes, zero && !is && !isNormal && len(quotient.Table) == 0 && len(opposite.Table) == 0 && len(automorphisms) == 0
}

// callsOnTwoGroups calls each function that takes two groups.
func callsOnTwoGroups(g impl.Group, h impl.Group) (map[string]int64, bool) {
	product, c := impl.ProductGroup(g, h)
	p, d := impl.GroupIsomorphism(g, h)
	return map[string]int64{"ProductGroup": c, "GroupIsomorphism": d}, len(product.Table) == 0 && len(p) == 0
}

// ErrInvalid comes before ErrRange, ErrLimit, ErrState and ErrNotFound.
func TestWhatIsNoGroup(t *testing.T) {
	for name, g := range noGroups() {
		for _, x := range []int64{0, 1, -1, 11, 12, math.MinInt64, math.MaxInt64} {
			for _, set := range []int64{0, 1, 2, 3, -1, 4095, 4096, math.MinInt64, math.MaxInt64} {
				codes, zero := callsOnGroup(g, x, set)
				checkCodes(t, name, impl.ErrInvalid, codes, zero)
			}
		}
		for n := 1; n <= impl.MaxSize; n++ {
			for _, u := range namedTables(n) {
				codes, zero := callsOnTwoGroups(g, grp(u))
				checkCodes(t, name+" first", impl.ErrInvalid, codes, zero)
				codes, zero = callsOnTwoGroups(grp(u), g)
				checkCodes(t, name+" second", impl.ErrInvalid, codes, zero)
			}
		}
		codes, zero := callsOnTwoGroups(g, g)
		checkCodes(t, name+" twice", impl.ErrInvalid, codes, zero)
	}
}

// The group of one element is where each range is smallest.
func TestGroupOfOneElement(t *testing.T) {
	one := grp([][]int64{{0}})
	inverse, c := impl.InverseIn(one, 0)
	name, d := impl.NameOfGroup(one)
	if inverse != 0 || c != impl.ErrNone || name != 0 || d != impl.ErrNone {
		t.Errorf("InverseIn, NameOfGroup: %d, %d, %d, %d", inverse, c, name, d)
	}
	for set, want := range map[int64]int64{-1: impl.ErrRange, 0: impl.ErrState, 1: impl.ErrNone, 2: impl.ErrRange, 3: impl.ErrRange} {
		is, c := impl.IsNormalIn(one, set)
		g, d := impl.QuotientGroup(one, set)
		if is != (set == 1) || c != want || d != want || (len(g.Table) == 1) != (set == 1) {
			t.Errorf("the set %d: %v, %d, %v, %d", set, is, c, g, d)
		}
	}
	list, c := impl.GroupAutomorphisms(one)
	p, d := impl.GroupIsomorphism(one, one)
	if !equalTables(list, [][]int64{{0}}) || !slices.Equal(p, []int64{0}) || c != impl.ErrNone || d != impl.ErrNone {
		t.Errorf("GroupAutomorphisms, GroupIsomorphism: %v, %v, %d, %d", list, p, c, d)
	}
	twelve := grp(sumTable(12))
	for _, pair := range [][2]impl.Group{{one, twelve}, {twelve, one}} {
		product, c := impl.ProductGroup(pair[0], pair[1])
		checkGroupMade(t, "ProductGroup", twelve.Table, product, c)
		if p, c := impl.GroupIsomorphism(pair[0], pair[1]); len(p) != 0 || c != impl.ErrNotFound {
			t.Errorf("GroupIsomorphism = %v, %d", p, c)
		}
	}
}

// groupAndCode puts a group into a list as checkMemory takes it.
func groupAndCode(g impl.Group, c int64) []any { return []any{g.Table, c} }

// groupsAndCode puts groups into a list as checkMemory takes them.
func groupsAndCode(list []impl.Group, c int64) []any {
	results := []any{c}
	for _, g := range list {
		results = append(results, g.Table)
	}
	return results
}

// checkGroupMemory checks the functions that take one table.
func checkGroupMemory(t *testing.T, u [][]int64) {
	t.Helper()
	one := func(a []any) impl.Group { return grp(a[0].([][]int64)) }
	check := func(name string, call func(g impl.Group) []any) {
		t.Helper()
		checkMemory(t, name, func(a []any) []any { return call(one(a)) }, u)
	}
	check("IsGroup", func(g impl.Group) []any { return []any{impl.IsGroup(g)} })
	check("InverseIn", func(g impl.Group) []any { return listsAndCode(impl.InverseIn(g, 0)) })
	check("OrderIn", func(g impl.Group) []any { return listsAndCode(impl.OrderIn(g, 1)) })
	check("NameOfGroup", func(g impl.Group) []any { return listsAndCode(impl.NameOfGroup(g)) })
	check("IsAbelianGroup", func(g impl.Group) []any { return listsAndCode(impl.IsAbelianGroup(g)) })
	check("CenterOf", func(g impl.Group) []any { return listsAndCode(impl.CenterOf(g)) })
	check("ClassesOf", func(g impl.Group) []any { return listsAndCode(impl.ClassesOf(g)) })
	check("SubgroupsOf", func(g impl.Group) []any { return listsAndCode(impl.SubgroupsOf(g)) })
	check("OppositeGroup", func(g impl.Group) []any { return groupAndCode(impl.OppositeGroup(g)) })
	check("GroupAutomorphisms", func(g impl.Group) []any { return listsAndCode(impl.GroupAutomorphisms(g)) })
	for _, set := range []int64{1, 0, 5, 7, 1<<len(u) - 1, -1} {
		check("IsNormalIn", func(g impl.Group) []any { return listsAndCode(impl.IsNormalIn(g, set)) })
		check("QuotientGroup", func(g impl.Group) []any { return groupAndCode(impl.QuotientGroup(g, set)) })
	}
	checkMemory(t, "GroupOfPermutations", func(a []any) []any {
		return groupAndCode(impl.GroupOfPermutations(int64(len(u)), a[0].([][]int64)))
	}, u)
}

func TestChapter10KeepsMemoryApart(t *testing.T) {
	list := [][][]int64{{{0}}, sumTable(2), sumTable(12), flippedTable(3, 0), flippedTable(4, 2), namedTables(12)[4], namedTables(8)[2], nonassociative(3), sumTable(13), {{0, 1}, {1, 1}}}
	for _, u := range list {
		checkGroupMemory(t, u)
		for _, v := range list {
			checkMemory(t, "ProductGroup", func(a []any) []any {
				return groupAndCode(impl.ProductGroup(grp(a[0].([][]int64)), grp(a[1].([][]int64))))
			}, u, v)
			checkMemory(t, "GroupIsomorphism", func(a []any) []any {
				return listsAndCode(impl.GroupIsomorphism(grp(a[0].([][]int64)), grp(a[1].([][]int64))))
			}, u, v)
		}
		// One group as both arguments.
		checkMemory(t, "ProductGroup", func(a []any) []any {
			g := grp(a[0].([][]int64))
			return groupAndCode(impl.ProductGroup(g, g))
		}, u)
		checkMemory(t, "GroupIsomorphism", func(a []any) []any {
			g := grp(a[0].([][]int64))
			return listsAndCode(impl.GroupIsomorphism(g, g))
		}, u)
	}
	for n := range int64(impl.MaxSize + 2) {
		checkMemory(t, "CyclicGroup", func(a []any) []any { return groupAndCode(impl.CyclicGroup(n)) })
		checkMemory(t, "DihedralGroup", func(a []any) []any { return groupAndCode(impl.DihedralGroup(n)) })
		checkMemory(t, "DicyclicGroup", func(a []any) []any { return groupAndCode(impl.DicyclicGroup(n)) })
		checkMemory(t, "NamedGroups", func(a []any) []any { return groupsAndCode(impl.NamedGroups(n)) })
	}
}

// The rows of a cyclic group may lie in each other in one list. Nothing of it is changed, and no result
// has a part of it.
func TestGroupOfOverlappingRows(t *testing.T) {
	whole := slices.Concat(identity(6), identity(6))
	rows := func() [][]int64 {
		u := [][]int64{}
		for x := range 6 {
			u = append(u, whole[x:x+6])
		}
		return u
	}
	g := grp(rows())
	opposite, c := impl.OppositeGroup(g)
	code(t, "OppositeGroup", c, impl.ErrNone)
	same, c := impl.QuotientGroup(g, 1)
	code(t, "QuotientGroup", c, impl.ErrNone)
	product, c := impl.ProductGroup(g, grp([][]int64{{0}}))
	code(t, "ProductGroup", c, impl.ErrNone)
	group, c := impl.GroupOfPermutations(6, g.Table)
	code(t, "GroupOfPermutations", c, impl.ErrNone)
	automorphisms, c := impl.GroupAutomorphisms(g)
	code(t, "GroupAutomorphisms", c, impl.ErrNone)
	for _, u := range [][][]int64{opposite.Table, same.Table, product.Table, group.Table} {
		if !equalTables(u, sumTable(6)) {
			t.Errorf("%v is not the table", u)
		}
	}
	for _, row := range slices.Concat(opposite.Table, same.Table, product.Table, group.Table, automorphisms) {
		if slices.Contains(row, -1) {
			t.Errorf("two rows of the results are one")
		}
		fill(row, -1)
	}
	if !slices.Equal(whole, slices.Concat(identity(6), identity(6))) || !equalTables(g.Table, rows()) {
		t.Errorf("the list is changed: %v", whole)
	}
}

// A result that is overwritten must not change what a later call returns.
func TestChapter10KeepsNoState(t *testing.T) {
	three := grp(flippedTable(3, 0))
	for range 3 {
		made := []impl.Group{}
		keep := func(g impl.Group, _ int64) { made = append(made, g) }
		keep(impl.DihedralGroup(3))
		keep(impl.DicyclicGroup(2))
		keep(impl.CyclicGroup(4))
		keep(impl.ProductGroup(three, grp([][]int64{{0}})))
		keep(impl.OppositeGroup(three))
		keep(impl.QuotientGroup(three, 7))
		keep(impl.GroupOfPermutations(4, [][]int64{{1, 2, 0, 3}, {0, 2, 3, 1}}))
		wants := [][][]int64{three.Table, flippedTable(4, 2), sumTable(4), three.Table, transposedTable(three.Table), sumTable(2), namedTables(12)[4]}
		for n := range int64(impl.MaxSize) {
			named, _ := impl.NamedGroups(n + 1)
			made, wants = append(made, named...), append(wants, namedTables(int(n)+1)...)
		}
		for i, g := range made {
			if !equalTables(g.Table, wants[i]) {
				t.Errorf("result %d: %v", i, g)
			}
		}
		classes, _ := impl.ClassesOf(three)
		subgroups, _ := impl.SubgroupsOf(three)
		automorphisms, _ := impl.GroupAutomorphisms(three)
		p, _ := impl.GroupIsomorphism(three, three)
		if !slices.Equal(classes, []int64{0, 1, 1, 2, 2, 2}) || !slices.Equal(subgroups, []int64{1, 7, 9, 17, 33, 63}) || len(automorphisms) != 6 || !slices.Equal(p, identity(6)) ||
			!equalTables(automorphisms[:1], [][]int64{p}) {
			t.Errorf("results %v, %v, %v, %v", classes, subgroups, automorphisms, p)
		}
		for _, g := range append(made, grp(automorphisms), grp([][]int64{classes, subgroups, p})) {
			for _, row := range g.Table {
				fill(row, -1)
			}
			clear(g.Table)
		}
	}
}
