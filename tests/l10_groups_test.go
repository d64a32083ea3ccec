package tests

import (
	"math"
	"math/rand"
	"slices"
	"testing"

	"loop.example/g01119/impl"
)

// grp returns what is given as the table of a group.
func grp(u [][]int64) impl.Group { return impl.Group{Table: u} }

// isNoGroup reports whether nothing is returned beside a code.
func isNoGroup(g impl.Group, c int64, want int64) bool { return len(g.Table) == 0 && c == want }

// checkGroupMade checks a group that is to have a table.
func checkGroupMade(t *testing.T, name string, want [][]int64, got impl.Group, c int64) {
	t.Helper()
	if !equalTables(got.Table, want) || c != impl.ErrNone {
		t.Errorf("%s = %v, %d, want %v", name, got, c, want)
	}
	if !isGroup(got.Table) || !impl.IsGroup(got) {
		t.Errorf("%s = %v is no group", name, got)
	}
}

// flippedTable returns the table of the dihedral group of m if twist is 0, and that of the dicyclic
// group of m / 2 if it is m / 2.
func flippedTable(m int64, twist int64) [][]int64 {
	by := func(a int64) int64 { return (a + 2*m) % m }
	return rackMade(int(2*m), func(x, y int64) int64 {
		i, k := x%m, y%m
		switch {
		case x < m && y < m:
			return by(i + k)
		case x < m:
			return m + by(i+k)
		case y < m:
			return m + by(i-k)
		}
		return by(i - k + twist)
	}).Table
}

// productTable returns the table of the product of two groups.
func productTable(u [][]int64, v [][]int64) [][]int64 {
	return productOfRacks(impl.Rack{Table: u}, impl.Rack{Table: v}).Table
}

// namedTables returns the tables of the named groups of an order.
func namedTables(n int) [][][]int64 {
	list := [][][]int64{sumTable(n)}
	switch n {
	case 4:
		list = append(list, productTable(sumTable(2), sumTable(2)))
	case 6:
		list = append(list, flippedTable(3, 0))
	case 8:
		list = append(list, productTable(sumTable(2), sumTable(4)), productTable(sumTable(2), productTable(sumTable(2), sumTable(2))), flippedTable(4, 0), flippedTable(4, 2))
	case 9:
		list = append(list, productTable(sumTable(3), sumTable(3)))
	case 10:
		list = append(list, flippedTable(5, 0))
	case 12:
		list = append(list, productTable(sumTable(2), sumTable(6)), flippedTable(6, 0), flippedTable(6, 3), tableOf(groupOf(4, [][]int64{{1, 2, 0, 3}, {0, 2, 3, 1}})))
	}
	return list
}

// keepingZero returns a permutation of n elements that leads 0 to 0.
func keepingZero(r *rand.Rand, n int) []int64 {
	p := []int64{0}
	for _, x := range randomPermutation(r, n-1) {
		p = append(p, x+1)
	}
	return p
}

// renamedGroup returns the table that renaming by a permutation makes.
func renamedGroup(u [][]int64, p []int64) [][]int64 {
	return renamedRack(impl.Rack{Table: u}, p).Table
}

// groupTables returns the tables of all named groups, of ones that renaming makes of them, and of
// groups of permutations.
func groupTables() [][][]int64 {
	r := rand.New(rand.NewSource(101))
	list := [][][]int64{}
	for n := 1; n <= impl.MaxSize; n++ {
		for _, u := range namedTables(n) {
			list = append(list, u, renamedGroup(u, keepingZero(r, n)), renamedGroup(u, keepingZero(r, n)))
		}
	}
	for _, g := range someGroups() {
		list = append(list, g.Table)
	}
	return list
}

// nonassociative returns the table of the sums modulo 2 m with two products exchanged in two rows:
// still with 0 as identity, and with permutations as rows and columns.
func nonassociative(m int) [][]int64 {
	u := sumTable(2 * m)
	for _, x := range []int{1, 1 + m} {
		u[x][1], u[x][1+m] = u[x][1+m], u[x][1]
	}
	return u
}

// noGroups returns tables that are no groups, and what is no table.
func noGroups() map[string]impl.Group {
	greatest := func(n int) [][]int64 { return rackMade(n, func(x, y int64) int64 { return max(x, y) }).Table }
	least := rackMade(4, func(x, y int64) int64 { return min(x, y) }).Table
	less := rackMade(5, func(x, y int64) int64 { return (x - y + 5) % 5 }).Table
	long := sumTable(4)
	long[2] = append(long[2], 0)
	bad := map[string]impl.Group{
		"13 sums":                           grp(sumTable(13)),
		"rows that are no permutations":     grp([][]int64{{0, 1}, {1, 1}}),
		"greatest of 3":                     grp(greatest(3)),
		"greatest of 12":                    grp(greatest(12)),
		"the identity is the last element":  grp(least),
		"the identity is 1":                 grp([][]int64{{1, 0}, {0, 1}}),
		"sums renamed":                      grp(renamedGroup(sumTable(12), turn(12, 1))),
		"identity only on the left":         grp(trivialRack(3).Table),
		"12 with identity only on the left": grp(trivialRack(12).Table),
		"identity only on the right":        grp(transposedTable(trivialRack(3).Table)),
		"differences":                       grp(less),
		"loop of 5":                         grp([][]int64{{0, 1, 2, 3, 4}, {1, 0, 3, 4, 2}, {2, 4, 0, 1, 3}, {3, 2, 4, 0, 1}, {4, 3, 1, 2, 0}}),
		"loop of 6":                         grp(nonassociative(3)),
		"loop of 12":                        grp(nonassociative(6)),
		"columns that are no permutations":  grp([][]int64{{0, 1, 2}, {1, 0, 2}, {2, 0, 1}}),
		"constant":                          grp(constantTable(4, 0)),
		"one row less":                      grp(sumTable(4)[:3]),
		"last row too long":                 grp(long),
		"greatest number":                   grp([][]int64{{0, 1}, {1, math.MaxInt64}}),
	}
	for name, u := range badTables() {
		bad[name] = grp(u)
	}
	return bad
}

// IsGroup is asked for all tables of few elements, for all with permutations as rows and columns and 0
// as identity of some more, and for tables that differ a little from groups.
func TestIsGroup(t *testing.T) {
	check := func(u [][]int64) bool {
		t.Helper()
		want := isGroup(u)
		if got := impl.IsGroup(grp(u)); got != want {
			t.Errorf("IsGroup(%v) = %v", u, got)
		}
		return want
	}
	// As many as permutations that keep 0, divided by the automorphisms, over all named groups.
	wants := []int{0, 1, 1, 1, 4, 6, 80}
	for n := 1; n <= 6; n++ {
		tables := loopsOf(n)
		if n <= 3 {
			tables = everyTable(n)
		}
		count := 0
		for _, u := range tables {
			if check(u) {
				count++
			}
		}
		if count != wants[n] {
			t.Errorf("%d groups of %d elements", count, n)
		}
	}
	r := rand.New(rand.NewSource(102))
	for _, u := range groupTables() {
		if !check(u) {
			t.Errorf("%v is no group", u)
		}
		n := len(u)
		check(renamedGroup(u, randomPermutation(r, n)))
		v := guardedTable(u)
		x, y, z := r.Intn(n), r.Intn(n), r.Intn(n)
		v[x][y], v[x][z] = v[x][z], v[x][y]
		check(v)
		v = guardedTable(u)
		v[x][y] = u[z][z]
		check(v)
		check(u[:n-1])
	}
	for name, g := range noGroups() {
		if isGroup(g.Table) || impl.IsGroup(g) {
			t.Errorf("%s is a group", name)
		}
	}
}

// checkElementsOf checks inverses and orders. Promise 10: orders are divisors of the number of elements.
func checkElementsOf(t *testing.T, u [][]int64) {
	t.Helper()
	n := len(u)
	for x := range int64(n) {
		inverse, c := impl.InverseIn(grp(u), x)
		if c != impl.ErrNone || !slices.Contains(identity(n), inverse) || u[x][inverse] != 0 || u[inverse][x] != 0 {
			t.Errorf("InverseIn(%v, %d) = %d, %d", u, x, inverse, c)
		}
		want, product := int64(1), x
		for product != 0 {
			want, product = want+1, u[x][product]
		}
		order, c := impl.OrderIn(grp(u), x)
		if order != want || c != impl.ErrNone || int64(n)%order != 0 {
			t.Errorf("OrderIn(%v, %d) = %d, %d", u, x, order, c)
		}
	}
	for _, x := range notElements(n) {
		if inverse, c := impl.InverseIn(grp(u), x); inverse != 0 || c != impl.ErrRange {
			t.Errorf("InverseIn(%v, %d) = %d, %d", u, x, inverse, c)
		}
		if order, c := impl.OrderIn(grp(u), x); order != 0 || c != impl.ErrRange {
			t.Errorf("OrderIn(%v, %d) = %d, %d", u, x, order, c)
		}
	}
}

func TestInversesAndOrders(t *testing.T) {
	for _, u := range groupTables() {
		checkElementsOf(t, u)
	}
	twelve := grp(sumTable(12))
	wants := []int64{1, 12, 6, 4, 3, 12, 2, 12, 3, 4, 6, 12}
	for x, want := range wants {
		if order, c := impl.OrderIn(twelve, int64(x)); order != want || c != impl.ErrNone {
			t.Errorf("the order of %d is %d, %d", x, order, c)
		}
	}
	six, _ := impl.DihedralGroup(6)
	for x, want := range []int64{0, 5, 4, 3, 2, 1, 6, 7, 8, 9, 10, 11} {
		if inverse, c := impl.InverseIn(six, int64(x)); inverse != want || c != impl.ErrNone {
			t.Errorf("the inverse of %d is %d, %d", x, inverse, c)
		}
	}
	if order, c := impl.OrderIn(grp([][]int64{{0}}), 0); order != 1 || c != impl.ErrNone {
		t.Errorf("the order of the only element is %d, %d", order, c)
	}
}

// wrongNumbers returns numbers outside a range, among them ones whose double or fourfold is in it if
// it overflows.
func wrongNumbers(low int64, high int64) []int64 {
	return append(wrongSizes(), low-1, high+1, -high, 1<<62+low, 1<<62+high, math.MinInt64+low, math.MinInt64+high, 1<<32+low, math.MaxInt64/2, math.MaxInt64/4)
}

func TestGroupsByFormulas(t *testing.T) {
	for n := int64(1); n <= 6; n++ {
		g, c := impl.DihedralGroup(n)
		checkGroupMade(t, "DihedralGroup", flippedTable(n, 0), g, c)
	}
	for n := int64(2); n <= 3; n++ {
		g, c := impl.DicyclicGroup(n)
		checkGroupMade(t, "DicyclicGroup", flippedTable(2*n, n), g, c)
	}
	for n := 1; n <= impl.MaxSize; n++ {
		g, c := impl.CyclicGroup(int64(n))
		checkGroupMade(t, "CyclicGroup", sumTable(n), g, c)
	}
	for _, n := range wrongNumbers(1, 6) {
		if g, c := impl.DihedralGroup(n); !isNoGroup(g, c, impl.ErrRange) {
			t.Errorf("DihedralGroup(%d) = %v, %d", n, g, c)
		}
	}
	for _, n := range append(wrongNumbers(2, 3), 1, 6) {
		if g, c := impl.DicyclicGroup(n); !isNoGroup(g, c, impl.ErrRange) {
			t.Errorf("DicyclicGroup(%d) = %v, %d", n, g, c)
		}
	}
	for _, n := range wrongNumbers(1, impl.MaxSize) {
		if g, c := impl.CyclicGroup(n); !isNoGroup(g, c, impl.ErrRange) {
			t.Errorf("CyclicGroup(%d) = %v, %d", n, g, c)
		}
	}
}

// Tables that are written down here by hand.
func TestNamedTables(t *testing.T) {
	cases := []struct {
		text string
		make func() (impl.Group, int64)
	}{
		{"0", func() (impl.Group, int64) { return impl.CyclicGroup(1) }},
		{"012/120/201", func() (impl.Group, int64) { return impl.CyclicGroup(3) }},
		{"01/10", func() (impl.Group, int64) { return impl.DihedralGroup(1) }},
		{"0123/1032/2301/3210", func() (impl.Group, int64) { return impl.DihedralGroup(2) }},
		{"012345/120453/201534/354021/435102/543210", func() (impl.Group, int64) { return impl.DihedralGroup(3) }},
		{"01234567/12305674/23016745/30127456/47652103/54763210/65470321/76541032", func() (impl.Group, int64) { return impl.DicyclicGroup(2) }},
		{"012345/120453/201534/345012/453120/534201", func() (impl.Group, int64) { return impl.ProductGroup(grp(sumTable(2)), grp(sumTable(3))) }},
		{"012345/103254/234501/325410/450123/541032", func() (impl.Group, int64) { return impl.ProductGroup(grp(sumTable(3)), grp(sumTable(2))) }},
		// The powers 0, 4, 2, 3, 1 and 5 in lexicographic order.
		{"012345/120453/201534/345012/453120/534201", func() (impl.Group, int64) {
			return impl.GroupOfPermutations(5, [][]int64{{1, 0, 3, 4, 2}})
		}},
		// 1 is {0, 2, 1} and 2 is {1, 0, 2}; 1 then 2 is {1, 2, 0}, which is 3.
		{"012345/103254/240513/351402/425031/534120", func() (impl.Group, int64) {
			return impl.GroupOfPermutations(3, [][]int64{{2, 1, 0}, {0, 2, 1}})
		}},
	}
	for _, x := range cases {
		g, c := x.make()
		got, d := impl.TableText(g.Table)
		if got != x.text || c != impl.ErrNone || d != impl.ErrNone {
			t.Errorf("the table %q, want %q, code %d", got, x.text, c)
		}
	}
}

func TestProductGroup(t *testing.T) {
	full, beyond := 0, 0
	list := groupTables()
	for _, u := range list {
		for _, v := range list {
			g, c := impl.ProductGroup(grp(u), grp(v))
			switch size := len(u) * len(v); {
			case size > impl.MaxSize:
				if !isNoGroup(g, c, impl.ErrLimit) {
					t.Errorf("ProductGroup(%v, %v) = %v, %d", u, v, g, c)
				}
				beyond++
				continue
			case size == impl.MaxSize:
				full++
			}
			checkGroupMade(t, "ProductGroup", productTable(u, v), g, c)
		}
	}
	if full < 100 || beyond < 100 {
		t.Errorf("%d products of 12 elements, %d of more", full, beyond)
	}
}

// checkGroupOf checks the group of permutations of a system whose group has a table.
func checkGroupOf(t *testing.T, name string, n int, list [][]int64, want [][]int64) {
	t.Helper()
	g, c := impl.GroupOfPermutations(int64(n), list)
	if len(want) > impl.MaxSize {
		if !isNoGroup(g, c, impl.ErrLimit) {
			t.Errorf("GroupOfPermutations(%d, %v) = %v, %d", n, list, g, c)
		}
		return
	}
	checkGroupMade(t, name, want, g, c)
}

func TestGroupOfPermutations(t *testing.T) {
	r := rand.New(rand.NewSource(103))
	sizes := map[int]int{}
	for range 400 {
		n := 1 + r.Intn(5)
		list := [][]int64{}
		for range r.Intn(4) {
			list = append(list, randomPermutation(r, n))
		}
		group := groupOf(n, list)
		sizes[len(group)]++
		checkGroupOf(t, "random system", n, list, tableOf(group))
	}
	if sizes[1] == 0 || sizes[6] == 0 || sizes[12] == 0 || sizes[24] == 0 {
		t.Errorf("groups of %v permutations", sizes)
	}
	for n := 1; n <= impl.MaxSize; n++ {
		one := [][]int64{{0}}
		checkGroupOf(t, "no permutations", n, nil, one)
		checkGroupOf(t, "no permutations", n, [][]int64{}, one)
		checkGroupOf(t, "the identity", n, [][]int64{identity(n)}, one)
		checkGroupOf(t, "the identity often", n, slices.Repeat([][]int64{identity(n)}, impl.MaxGenerators), one)
		checkGroupOf(t, "one turn", n, [][]int64{turn(n, 1)}, sumTable(n))
		checkGroupOf(t, "the same turn often", n, slices.Repeat([][]int64{turn(n, 1)}, impl.MaxGenerators), sumTable(n))
		all := [][]int64{}
		for k := range n {
			all = append(all, turn(n, k))
		}
		checkGroupOf(t, "all turns", n, all, sumTable(n))
	}
}

// Of any group, x y for all x are the places to which a permutation leads all x; doing two of these is
// multiplying by both elements. They are in lexicographic order, since they lead 0 to each y.
func TestGroupsArePermutationGroups(t *testing.T) {
	for _, u := range groupTables() {
		checkGroupOf(t, "products from the right", len(u), transposedTable(u), u)
		checkGroupOf(t, "products from the left", len(u), u, transposedTable(u))
	}
}

// No permutation of at most 12 elements has an order of 13, so that 14 is the first one beyond MaxSize.
func TestGroupsOfPermutationsAroundTheLimit(t *testing.T) {
	for _, lengths := range [][]int{{3, 4}, {3, 4, 2}, {3, 4, 2, 3}, {4, 6, 2}, {12}, {4, 3, 1, 1, 1, 1, 1}, {11}, {11, 1}, {5, 2}, {3, 3, 3, 3}, {1, 2, 3, 6}} {
		p := cyclesOf(lengths...)
		order := 1
		for _, k := range lengths {
			order = order / greatestDivisor(order, k) * k
		}
		group := sortedPowers(p)
		if len(group) != order {
			t.Fatalf("%v has %d powers", p, len(group))
		}
		checkGroupOf(t, "powers", len(p), [][]int64{p}, tableOf(group))
	}
	many := map[string][][]int64{
		"14 powers":            {{1, 0, 3, 4, 5, 6, 7, 8, 2}},
		"15 powers":            {{1, 2, 0, 4, 5, 6, 7, 3}},
		"60 powers":            {{1, 2, 0, 4, 5, 6, 3, 8, 9, 10, 11, 7}},
		"all of 4":             {{1, 2, 3, 0}, {1, 0, 2, 3}},
		"all of 12":            {turn(12, 1), append([]int64{1, 0}, identity(12)[2:]...)},
		"14 flips and turns":   {turn(7, 1), reversedTurn(7)},
		"16 of 4 exchanges":    {{1, 0, 2, 3, 4, 5, 6, 7}, {0, 1, 3, 2, 4, 5, 6, 7}, {0, 1, 2, 3, 5, 4, 6, 7}, {0, 1, 2, 3, 4, 5, 7, 6}},
		"the last one is more": {{1, 2, 0, 3, 4, 5, 6}, {0, 1, 2, 4, 5, 6, 3}, {0, 1, 2, 3, 4, 6, 5}},
	}
	for name, list := range many {
		if g, c := impl.GroupOfPermutations(int64(len(list[0])), list); !isNoGroup(g, c, impl.ErrLimit) {
			t.Errorf("%s: %v, %d", name, g, c)
		}
	}
}

// cyclesOf returns the permutation with cycles of given lengths, one behind the other.
func cyclesOf(lengths ...int) []int64 {
	p := []int64{}
	for _, k := range lengths {
		start := int64(len(p))
		for _, x := range turn(k, 1) {
			p = append(p, start+x)
		}
	}
	return p
}

// sortedPowers returns all powers of a permutation in lexicographic order.
func sortedPowers(p []int64) [][]int64 {
	list := [][]int64{identity(len(p))}
	for q := p; !slices.Equal(q, list[0]); q = doneThen(q, p) {
		list = append(list, q)
	}
	slices.SortFunc(list, slices.Compare[[]int64])
	return list
}

func TestSystemsOfNoGroups(t *testing.T) {
	type system struct {
		n    int64
		list [][]int64
	}
	bad := map[string]system{
		"fewer elements":       {3, [][]int64{{1, 0}}},
		"more elements":        {2, [][]int64{{1, 0, 2}}},
		"second one different": {2, [][]int64{{1, 0}, {1, 0, 2}}},
		"17 permutations":      {2, slices.Repeat([][]int64{{1, 0}}, impl.MaxGenerators+1)},
		"17 of many":           {12, slices.Repeat([][]int64{turn(12, 1), reversedTurn(12)}, 9)[:17]},
		"many and a bad one":   {12, [][]int64{turn(12, 1), reversedTurn(12), constantTable(12, 0)[0]}},
	}
	for name, s := range bad {
		if g, c := impl.GroupOfPermutations(s.n, s.list); !isNoGroup(g, c, impl.ErrInvalid) {
			t.Errorf("%s: GroupOfPermutations(%d, %v) = %v, %d", name, s.n, s.list, g, c)
		}
	}
	for _, n := range wrongSizes() {
		for _, list := range [][][]int64{nil, {}, {{}}, {{1, 0}}, {identity(13)}, {turn(12, 1), reversedTurn(12)}} {
			if g, c := impl.GroupOfPermutations(n, list); !isNoGroup(g, c, impl.ErrInvalid) {
				t.Errorf("GroupOfPermutations(%d, %v) = %v, %d", n, list, g, c)
			}
		}
	}
	for name, p := range badPermutations() {
		for _, list := range [][][]int64{{p}, {identity(len(p)), p}, {p, identity(len(p))}} {
			if g, c := impl.GroupOfPermutations(int64(len(p)), list); !isNoGroup(g, c, impl.ErrInvalid) {
				t.Errorf("GroupOfPermutations with %s = %v, %d", name, g, c)
			}
		}
	}
}
