package tests

import (
	"fmt"
	"math"
	"math/rand"
	"slices"
	"strings"
	"testing"

	"loop.example/g01119/impl"
)

// badPermutations are lists that are no permutations.
func badPermutations() map[string][]int64 {
	return map[string][]int64{
		"nil":            nil,
		"empty":          {},
		"twice":          {0, 0},
		"twice at end":   {0, 2, 1, 2},
		"negative":       {0, -1},
		"only negative":  {-1},
		"too great":      {0, 2},
		"one":            {1},
		"smallest":       {math.MinInt64, 0},
		"greatest":       {0, math.MaxInt64},
		"wrapped":        {0, 1 << 32},
		"13 elements":    identity(13),
		"10000 elements": identity(10000),
	}
}

// badTables are lists of rows that are no tables.
func badTables() map[string][][]int64 {
	t := constantTable(12, 0)
	t[11][11] = 12
	return map[string][][]int64{
		"nil":              nil,
		"empty":            {},
		"empty row":        {{}},
		"nil rows":         {nil, nil},
		"negative":         {{0, 1}, {-1, 0}},
		"too great":        {{0, 1}, {2, 0}},
		"one":              {{1}},
		"short row":        {{0, 1}, {0}},
		"long row":         {{0, 1}, {0, 1, 0}},
		"long first row":   {{0, 1, 0}, {0, 1}},
		"missing row":      {{0, 1}},
		"one row more":     {{0, 1}, {0, 1}, {0, 1}},
		"smallest":         {{math.MinInt64}},
		"greatest":         {{0, 0}, {0, math.MaxInt64}},
		"12 of 12":         t,
		"13 elements":      constantTable(13, 0),
		"200 rows":         constantTable(200, 0),
		"12 rows, 13 wide": constantTable(13, 0)[:12],
	}
}

func TestErrorCodesAndLimits(t *testing.T) {
	got := []int64{impl.ErrNone, impl.ErrInvalid, impl.ErrRange, impl.ErrLimit, impl.ErrNotFound, impl.ErrState, impl.ErrSyntax,
		impl.MaxSize, impl.MaxForm, impl.MaxGenerators, impl.MaxElements}
	if want := []int64{0, 1, 2, 3, 4, 5, 6, 12, 7, 16, 1000}; !slices.Equal(got, want) {
		t.Errorf("constants %v, want %v", got, want)
	}
}

func TestIsPermutation(t *testing.T) {
	for n := 1; n <= impl.MaxSize; n++ {
		if !impl.IsPermutation(identity(n)) {
			t.Errorf("the identity of %d elements is refused", n)
		}
	}
	for name, p := range badPermutations() {
		if impl.IsPermutation(p) {
			t.Errorf("%s is accepted", name)
		}
	}
	for n := 1; n <= 5; n++ {
		count := 0
		for _, p := range everyList(n, n) {
			if impl.IsPermutation(p) {
				count++
			}
		}
		if want := len(everyPermutation(n)); count != want {
			t.Errorf("%d permutations of %d elements, want %d", count, n, want)
		}
	}
}

func TestIsTable(t *testing.T) {
	for n := 1; n <= impl.MaxSize; n++ {
		if !impl.IsTable(constantTable(n, 0)) || !impl.IsTable(constantTable(n, int64(n-1))) {
			t.Errorf("a table of %d elements is refused", n)
		}
		if impl.IsTable(constantTable(n, int64(n))) || impl.IsTable(constantTable(n, -1)) {
			t.Errorf("a table of %d elements with others is accepted", n)
		}
	}
	for name, u := range badTables() {
		if impl.IsTable(u) {
			t.Errorf("%s is accepted", name)
		}
	}
}

func TestPermutationsRefuseWhatIsNone(t *testing.T) {
	for name, p := range badPermutations() {
		x, c := impl.InversePermutation(p)
		code(t, "InversePermutation of "+name, c, impl.ErrInvalid)
		n, c := impl.PermutationOrder(p)
		code(t, "PermutationOrder of "+name, c, impl.ErrInvalid)
		y, c := impl.CycleLengths(p)
		code(t, "CycleLengths of "+name, c, impl.ErrInvalid)
		s, c := impl.PermutationText(p)
		code(t, "PermutationText of "+name, c, impl.ErrInvalid)
		z, c := impl.ThenPermutation(p, identity(2))
		code(t, "ThenPermutation from "+name, c, impl.ErrInvalid)
		v, c := impl.ThenPermutation(identity(2), p)
		code(t, "ThenPermutation to "+name, c, impl.ErrInvalid)
		w, c := impl.ThenPermutation(p, p)
		code(t, "ThenPermutation twice "+name, c, impl.ErrInvalid)
		u, c := impl.RenameTable(constantTable(max(1, min(12, len(p))), 0), p)
		code(t, "RenameTable by "+name, c, impl.ErrInvalid)
		if len(x)+len(y)+len(z)+len(v)+len(w)+len(u) > 0 || n != 0 || s != "" {
			t.Errorf("%s: a result beside an error", name)
		}
	}
	for _, n := range []int{1, 3, 12} {
		x, c := impl.ThenPermutation(identity(2), identity(n))
		code(t, "ThenPermutation of different numbers of elements", c, impl.ErrInvalid)
		y, c := impl.ThenPermutation(identity(n), identity(2))
		code(t, "ThenPermutation of different numbers of elements", c, impl.ErrInvalid)
		z, c := impl.RenameTable(constantTable(2, 0), identity(n))
		code(t, "RenameTable of different numbers of elements", c, impl.ErrInvalid)
		if len(x)+len(y)+len(z) > 0 {
			t.Errorf("a result beside an error")
		}
	}
}

func TestTablesRefuseWhatIsNone(t *testing.T) {
	for name, u := range badTables() {
		a, c := impl.HasPermutationRows(u)
		code(t, "HasPermutationRows of "+name, c, impl.ErrInvalid)
		b, c := impl.IsLatin(u)
		code(t, "IsLatin of "+name, c, impl.ErrInvalid)
		x, c := impl.TransposeTable(u)
		code(t, "TransposeTable of "+name, c, impl.ErrInvalid)
		y, c := impl.RenameTable(u, identity(max(1, min(12, len(u)))))
		code(t, "RenameTable of "+name, c, impl.ErrInvalid)
		z, c := impl.LeastTable(u)
		code(t, "LeastTable of "+name, c, impl.ErrInvalid)
		s, c := impl.TableText(u)
		code(t, "TableText of "+name, c, impl.ErrInvalid)
		if a || b || len(x)+len(y)+len(z) > 0 || s != "" {
			t.Errorf("%s: a result beside an error", name)
		}
	}
}

func TestThenAndInverse(t *testing.T) {
	for n := 1; n <= 4; n++ {
		all := everyPermutation(n)
		for _, p := range all {
			for _, q := range all {
				checkThen(t, p, q)
			}
			checkInverse(t, p)
		}
	}
	r := rand.New(rand.NewSource(1))
	for range 100 {
		n := 5 + r.Intn(8)
		checkThen(t, randomPermutation(r, n), randomPermutation(r, n))
		checkInverse(t, randomPermutation(r, n))
	}
}

// checkThen checks that doing p then q is q after p at each element.
func checkThen(t *testing.T, p []int64, q []int64) {
	t.Helper()
	got, c := impl.ThenPermutation(p, q)
	code(t, "ThenPermutation", c, impl.ErrNone)
	if len(got) != len(p) {
		t.Fatalf("%v then %v = %v", p, q, got)
	}
	for x := range p {
		if got[x] != q[p[x]] {
			t.Errorf("%v then %v = %v", p, q, got)
		}
	}
}

// checkInverse checks that the inverse of p after and before p is the identity.
func checkInverse(t *testing.T, p []int64) {
	t.Helper()
	q, c := impl.InversePermutation(p)
	code(t, "InversePermutation", c, impl.ErrNone)
	if len(q) != len(p) {
		t.Fatalf("inverse of %v = %v", p, q)
	}
	for x := range p {
		if q[p[x]] != int64(x) || p[q[x]] != int64(x) {
			t.Errorf("inverse of %v = %v", p, q)
		}
	}
}

// Promise 1: the order is the least number of times.
func TestOrderIsLeastNumberOfTimes(t *testing.T) {
	list := [][]int64{
		{1, 0, 3, 4, 2},
		{1, 2, 0, 4, 5, 6, 3, 8, 9, 10, 11, 7},
		{1, 2, 3, 4, 5, 6, 7, 8, 9, 10, 11, 0},
		{1, 2, 3, 0, 5, 6, 7, 8, 9, 4, 11, 10},
		identity(12),
	}
	for n := 1; n <= 6; n++ {
		list = append(list, everyPermutation(n)...)
	}
	r := rand.New(rand.NewSource(2))
	for range 200 {
		list = append(list, randomPermutation(r, 7+r.Intn(6)))
	}
	for _, p := range list {
		got, c := impl.PermutationOrder(p)
		code(t, "PermutationOrder", c, impl.ErrNone)
		if want := timesToIdentity(p); got != want {
			t.Errorf("order of %v is %d, want %d", p, got, want)
		}
	}
	for want, p := range map[int64][]int64{1: {0}, 6: list[0], 60: list[1], 12: list[2]} {
		if got, _ := impl.PermutationOrder(p); got != want {
			t.Errorf("order of %v is %d, want %d", p, got, want)
		}
	}
}

// timesToIdentity does p until all elements are back, and counts.
func timesToIdentity(p []int64) int64 {
	now := slices.Clone(p)
	for times := int64(1); ; times++ {
		if slices.Equal(now, identity(len(p))) {
			return times
		}
		for x := range now {
			now[x] = p[now[x]]
		}
	}
}

func TestCycleLengths(t *testing.T) {
	cases := []struct{ p, want []int64 }{
		{[]int64{0}, []int64{1}},
		{[]int64{1, 0, 3, 4, 2, 5}, []int64{1, 2, 3}},
		{[]int64{1, 2, 0, 4, 3, 5}, []int64{1, 2, 3}},
		{[]int64{1, 0, 3, 2}, []int64{2, 2}},
		{[]int64{1, 2, 3, 4, 5, 6, 7, 8, 9, 10, 11, 0}, []int64{12}},
		{identity(12), []int64{1, 1, 1, 1, 1, 1, 1, 1, 1, 1, 1, 1}},
		{[]int64{11, 1, 2, 3, 4, 5, 6, 7, 8, 9, 10, 0}, []int64{1, 1, 1, 1, 1, 1, 1, 1, 1, 1, 2}},
	}
	for _, x := range cases {
		got, c := impl.CycleLengths(x.p)
		code(t, "CycleLengths", c, impl.ErrNone)
		if !slices.Equal(got, x.want) {
			t.Errorf("cycle lengths of %v are %v, want %v", x.p, got, x.want)
		}
	}
	for _, p := range everyPermutation(6) {
		got, _ := impl.CycleLengths(p)
		labels, _ := impl.OrbitLabels(6, [][]int64{p})
		counts := make([]int64, slices.Max(labels)+1)
		for _, label := range labels {
			counts[label]++
		}
		slices.Sort(counts)
		if !slices.Equal(got, counts) {
			t.Errorf("cycle lengths of %v are %v, but orbits have %v elements", p, got, counts)
		}
	}
}

func TestSystemsRefused(t *testing.T) {
	many := make([][]int64, impl.MaxGenerators+1)
	for i := range many {
		many[i] = []int64{0, 1}
	}
	type system struct {
		n    int64
		list [][]int64
	}
	bad := map[string]system{
		"no elements":          {0, nil},
		"no elements, a list":  {0, [][]int64{{}}},
		"negative":             {-1, nil},
		"smallest":             {math.MinInt64, nil},
		"greatest":             {math.MaxInt64, nil},
		"wrapped":              {1<<32 + 1, nil},
		"13 elements":          {impl.MaxSize + 1, nil},
		"13 elements, a list":  {13, [][]int64{identity(13)}},
		"17 permutations":      {2, many},
		"fewer elements":       {3, [][]int64{{1, 0}}},
		"more elements":        {2, [][]int64{{1, 0, 2}}},
		"second one different": {2, [][]int64{{1, 0}, {1, 0, 2}}},
	}
	for name, p := range badPermutations() {
		bad["with "+name] = system{int64(len(p)), [][]int64{p}}
		bad["of 2, then "+name] = system{2, [][]int64{{1, 0}, p}}
	}
	for name, s := range bad {
		x, c := impl.OrbitLabels(s.n, s.list)
		code(t, "OrbitLabels of "+name, c, impl.ErrInvalid)
		y, c := impl.GroupElements(s.n, s.list)
		code(t, "GroupElements of "+name, c, impl.ErrInvalid)
		if len(x)+len(y) > 0 {
			t.Errorf("%s: a result beside an error", name)
		}
	}
	x, c := impl.OrbitLabels(2, many[:impl.MaxGenerators])
	if !slices.Equal(x, []int64{0, 1}) || c != impl.ErrNone {
		t.Errorf("OrbitLabels of 16 permutations = %v, %d", x, c)
	}
	y, c := impl.GroupElements(2, many[:impl.MaxGenerators])
	if !equalTables(y, [][]int64{{0, 1}}) || c != impl.ErrNone {
		t.Errorf("GroupElements of 16 permutations = %v, %d", y, c)
	}
}

func TestSystemsWithoutPermutations(t *testing.T) {
	for n := 1; n <= impl.MaxSize; n++ {
		x, c := impl.OrbitLabels(int64(n), nil)
		if !slices.Equal(x, identity(n)) || c != impl.ErrNone {
			t.Errorf("OrbitLabels(%d, nil) = %v, %d", n, x, c)
		}
		y, c := impl.GroupElements(int64(n), [][]int64{})
		if !equalTables(y, [][]int64{identity(n)}) || c != impl.ErrNone {
			t.Errorf("GroupElements(%d, {}) = %v, %d", n, y, c)
		}
	}
}

// groupOf finds the group of a system by products of all that are found, until there are no more.
func groupOf(n int, list [][]int64) [][]int64 {
	found := map[string][]int64{fmt.Sprint(identity(n)): identity(n)}
	for _, p := range list {
		found[fmt.Sprint(p)] = p
	}
	for before := 0; before < len(found); {
		before = len(found)
		now := [][]int64{}
		for _, p := range found {
			now = append(now, p)
		}
		for _, p := range now {
			for _, q := range now {
				r := make([]int64, n)
				for x := range r {
					r[x] = q[p[x]]
				}
				found[fmt.Sprint(r)] = r
			}
		}
	}
	group := [][]int64{}
	for _, p := range found {
		group = append(group, p)
	}
	slices.SortFunc(group, slices.Compare[[]int64])
	return group
}

// labelsOf numbers the orbits of a group by their least elements.
func labelsOf(n int, group [][]int64) []int64 {
	labels := make([]int64, n)
	next := int64(0)
	for x := range n {
		least := int64(x)
		for _, p := range group {
			least = min(least, p[x])
		}
		if least == int64(x) {
			labels[x] = next
			next++
		} else {
			labels[x] = labels[least]
		}
	}
	return labels
}

// Promise 1: orbits are those of groups.
func TestOrbitsAreThoseOfGroups(t *testing.T) {
	r := rand.New(rand.NewSource(3))
	for range 300 {
		n := 1 + r.Intn(5)
		list := [][]int64{}
		for range r.Intn(3) {
			list = append(list, randomPermutation(r, n))
		}
		checkSystem(t, n, list)
	}
	checkSystem(t, 4, [][]int64{{1, 0, 2, 3}})
	checkSystem(t, 12, [][]int64{{0, 1, 11, 3, 4, 5, 6, 7, 8, 9, 10, 2}, {6, 1, 2, 3, 4, 5, 0, 7, 8, 9, 10, 11}})
	checkSystem(t, 12, [][]int64{{11, 10, 9, 8, 7, 6, 5, 4, 3, 2, 1, 0}})
	checkSystem(t, 12, [][]int64{{4, 5, 6, 7, 8, 9, 10, 11, 0, 1, 2, 3}, {1, 2, 3, 0, 5, 6, 7, 4, 9, 10, 11, 8}})
}

// checkSystem checks group and orbits of a small system.
func checkSystem(t *testing.T, n int, list [][]int64) {
	t.Helper()
	want := groupOf(n, list)
	group, c := impl.GroupElements(int64(n), list)
	code(t, "GroupElements", c, impl.ErrNone)
	if !equalTables(group, want) {
		t.Errorf("GroupElements(%d, %v) = %v, want %v", n, list, group, want)
	}
	labels, c := impl.OrbitLabels(int64(n), list)
	code(t, "OrbitLabels", c, impl.ErrNone)
	if !slices.Equal(labels, labelsOf(n, want)) {
		t.Errorf("OrbitLabels(%d, %v) = %v, want %v", n, list, labels, labelsOf(n, want))
	}
}

// No group of permutations of at most 12 elements has 973 to 1007 permutations: 972 is the last
// number up to MaxElements and 1008 the first one above it.
func TestGroupsAroundMaxElements(t *testing.T) {
	threesByFour := [][]int64{
		{1, 2, 0, 3, 4, 5, 6, 7, 8, 9, 10, 11},
		{3, 4, 5, 6, 7, 8, 0, 1, 2, 9, 10, 11},
		{3, 4, 5, 0, 1, 2, 9, 10, 11, 6, 7, 8},
	}
	group, c := impl.GroupElements(12, threesByFour)
	if len(group) != 972 || c != impl.ErrNone {
		t.Errorf("%d permutations, code %d, want 972", len(group), c)
	}
	if !slices.IsSortedFunc(group, slices.Compare[[]int64]) {
		t.Errorf("the group is not in lexicographic order")
	}
	planeByThree := [][]int64{
		{1, 2, 3, 4, 5, 6, 0, 7, 8, 9},
		{0, 1, 6, 3, 5, 4, 2, 7, 8, 9},
		{0, 1, 2, 3, 4, 5, 6, 8, 7, 9},
		{0, 1, 2, 3, 4, 5, 6, 8, 9, 7},
	}
	checkLimit := func(n int64, list [][]int64) {
		t.Helper()
		group, c := impl.GroupElements(n, list)
		if len(group) != 0 || c != impl.ErrLimit {
			t.Errorf("%d permutations, code %d, want ErrLimit", len(group), c)
		}
	}
	if group := groupOfPlane(); len(group) != 168 {
		t.Fatalf("the test's group has %d permutations, want 168", len(group))
	}
	checkLimit(10, planeByThree)
	checkLimit(7, [][]int64{{1, 2, 3, 4, 5, 6, 0}, {1, 0, 2, 3, 4, 5, 6}})
	checkLimit(12, [][]int64{{1, 2, 3, 4, 5, 6, 7, 8, 9, 10, 11, 0}, {1, 0, 2, 3, 4, 5, 6, 7, 8, 9, 10, 11}})
	labels, c := impl.OrbitLabels(10, planeByThree)
	if !slices.Equal(labels, []int64{0, 0, 0, 0, 0, 0, 0, 1, 1, 1}) || c != impl.ErrNone {
		t.Errorf("orbits of a great group: %v, %d", labels, c)
	}
	symmetric, c := impl.GroupElements(6, [][]int64{{1, 2, 3, 4, 5, 0}, {1, 0, 2, 3, 4, 5}})
	if !equalTables(symmetric, everyPermutation(6)) || c != impl.ErrNone {
		t.Errorf("the group of all permutations of 6 elements has %d, code %d", len(symmetric), c)
	}
}

// groupOfPlane returns the group whose product with the six permutations of three elements is
// refused as too great.
func groupOfPlane() [][]int64 {
	return groupOf(7, [][]int64{{1, 2, 3, 4, 5, 6, 0}, {0, 1, 6, 3, 5, 4, 2}})
}

func TestPermutationRowsAndLatin(t *testing.T) {
	cases := []struct {
		table       [][]int64
		rows, latin bool
	}{
		{[][]int64{{0}}, true, true},
		{[][]int64{{0, 1}, {0, 1}}, true, false},
		{[][]int64{{0, 0}, {1, 1}}, false, false},
		{[][]int64{{0, 1}, {1, 0}}, true, true},
		{[][]int64{{0, 1}, {1, 1}}, false, false},
		{[][]int64{{0, 1, 2}, {1, 2, 0}, {2, 0, 1}}, true, true},
		{[][]int64{{0, 1, 2}, {1, 2, 0}, {2, 1, 0}}, true, false},
		{[][]int64{{1, 2, 0}, {1, 0, 2}, {2, 2, 1}}, false, false},
		{constantTable(12, 0), false, false},
		{sumTable(12), true, true},
	}
	for _, x := range cases {
		rows, c := impl.HasPermutationRows(x.table)
		code(t, "HasPermutationRows", c, impl.ErrNone)
		latin, c := impl.IsLatin(x.table)
		code(t, "IsLatin", c, impl.ErrNone)
		if rows != x.rows || latin != x.latin {
			t.Errorf("%v: %v, %v", x.table, rows, latin)
		}
	}
	latin := 0
	for _, u := range everyTable(3) {
		if ok, _ := impl.IsLatin(u); ok {
			latin++
		}
	}
	if latin != 12 {
		t.Errorf("%d latin tables of 3 elements, want 12", latin)
	}
}

// sumTable returns the table of the sums modulo n.
func sumTable(n int) [][]int64 {
	t := constantTable(n, 0)
	for x := range t {
		for y := range t[x] {
			t[x][y] = int64((x + y) % n)
		}
	}
	return t
}

func TestTransposeTable(t *testing.T) {
	r := rand.New(rand.NewSource(4))
	for n := 1; n <= impl.MaxSize; n++ {
		u := randomTable(r, n)
		got, c := impl.TransposeTable(u)
		code(t, "TransposeTable", c, impl.ErrNone)
		if len(got) != n || !impl.IsTable(got) {
			t.Fatalf("transposed %v = %v", u, got)
		}
		for x := range n {
			for y := range n {
				if got[x][y] != u[y][x] {
					t.Errorf("transposed %v = %v", u, got)
				}
			}
		}
	}
}

// checkRenamed checks the value at the renamed elements of each place.
func checkRenamed(t *testing.T, u [][]int64, p []int64) {
	t.Helper()
	got := renamed(t, u, p)
	if len(got) != len(u) || !impl.IsTable(got) {
		t.Fatalf("renaming %v by %v makes %v", u, p, got)
	}
	for x := range u {
		for y := range u {
			if got[p[x]][p[y]] != p[u[x][y]] {
				t.Errorf("renaming %v by %v makes %v", u, p, got)
			}
		}
	}
}

// The guarantee of chapter 1, first part: renaming twice is renaming by what does both.
func TestRenameTable(t *testing.T) {
	got := renamed(t, [][]int64{{0, 0}, {1, 0}}, []int64{1, 0})
	if !equalTables(got, [][]int64{{1, 0}, {1, 1}}) {
		t.Errorf("the example makes %v", got)
	}
	r := rand.New(rand.NewSource(5))
	for i := range 300 {
		n := 1 + i%impl.MaxSize
		u, p, q := randomTable(r, n), randomPermutation(r, n), randomPermutation(r, n)
		checkRenamed(t, u, p)
		both, c := impl.ThenPermutation(p, q)
		code(t, "ThenPermutation", c, impl.ErrNone)
		if !equalTables(renamed(t, renamed(t, u, p), q), renamed(t, u, both)) {
			t.Errorf("renaming %v by %v and %v is not renaming by %v", u, p, q, both)
		}
		if !equalTables(renamed(t, u, identity(n)), u) {
			t.Errorf("renaming %v by the identity changes it", u)
		}
	}
}

// Promise 1 and the guarantee, second part: renamed tables, and no others, have one least form.
func TestLeastForms(t *testing.T) {
	for n := 1; n <= 3; n++ {
		tables := everyTable(n)
		slices.SortFunc(tables, func(u, v [][]int64) int { return slices.CompareFunc(u, v, slices.Compare[[]int64]) })
		// In ascending order the first table that is met of those that renaming makes is the least.
		leastOf := map[string][][]int64{}
		for _, u := range tables {
			if leastOf[fmt.Sprint(u)] == nil {
				for _, p := range everyPermutation(n) {
					leastOf[fmt.Sprint(renamed(t, u, p))] = u
				}
			}
			got, c := impl.LeastTable(u)
			if want := leastOf[fmt.Sprint(u)]; !equalTables(got, want) || c != impl.ErrNone {
				t.Fatalf("LeastTable(%v) = %v, %d, want %v", u, got, c, want)
			}
		}
	}
}

func TestLeastFormsOfGreaterTables(t *testing.T) {
	r := rand.New(rand.NewSource(6))
	for i := range 12 {
		n := 4 + i%4
		u := randomTable(r, n)
		got, c := impl.LeastTable(u)
		code(t, "LeastTable", c, impl.ErrNone)
		want := u
		for _, p := range everyPermutation(n) {
			v := renamed(t, u, p)
			if slices.CompareFunc(v, want, slices.Compare[[]int64]) < 0 {
				want = v
			}
		}
		if !equalTables(got, want) {
			t.Errorf("LeastTable(%v) = %v, want %v", u, got, want)
		}
		again, _ := impl.LeastTable(renamed(t, u, randomPermutation(r, n)))
		if !equalTables(again, want) {
			t.Errorf("LeastTable of %v renamed = %v, want %v", u, again, want)
		}
	}
	got, c := impl.LeastTable(constantTable(impl.MaxForm, 3))
	if !equalTables(got, constantTable(impl.MaxForm, 0)) || c != impl.ErrNone {
		t.Errorf("LeastTable of 7 elements = %v, %d", got, c)
	}
	for n := impl.MaxForm + 1; n <= impl.MaxSize; n++ {
		got, c := impl.LeastTable(constantTable(n, 0))
		if len(got) != 0 || c != impl.ErrLimit {
			t.Errorf("LeastTable of %d elements = %v, %d, want ErrLimit", n, got, c)
		}
	}
}

func TestAllPermutations(t *testing.T) {
	for n := 1; n <= impl.MaxForm; n++ {
		got, c := impl.AllPermutations(int64(n))
		if !equalTables(got, everyPermutation(n)) || c != impl.ErrNone {
			t.Errorf("AllPermutations(%d) has %d, code %d", n, len(got), c)
		}
	}
	for _, n := range []int64{0, -1, impl.MaxForm + 1, impl.MaxSize, impl.MaxSize + 1, math.MinInt64, math.MaxInt64, 1<<32 + 1} {
		got, c := impl.AllPermutations(n)
		if len(got) != 0 || c != impl.ErrRange {
			t.Errorf("AllPermutations(%d) has %d, code %d, want ErrRange", n, len(got), c)
		}
	}
}

func TestPermutationTexts(t *testing.T) {
	texts := []string{"0", "10", "201", "0123456789", "a0123456789", "0123456789a", "123456789ab0", "ba9876543210"}
	for _, text := range texts {
		p, c := impl.ParsePermutation(text)
		if len(p) != len(text) || c != impl.ErrNone {
			t.Errorf("ParsePermutation(%q) = %v, %d", text, p, c)
			continue
		}
		for x, y := range p {
			if want := strings.IndexByte("0123456789ab", text[x]); y != int64(want) {
				t.Errorf("ParsePermutation(%q) = %v", text, p)
			}
		}
		got, c := impl.PermutationText(p)
		if got != text || c != impl.ErrNone {
			t.Errorf("PermutationText(%v) = %q, %d", p, got, c)
		}
	}
	bad := []string{"", " ", "1", "a", "00", "02", "12", "0-1", "-1", "10 ", " 10", "10\n", "10/", "/10", "1,0", "10x", "10\x00",
		"0123456789A", "0123456789AB", "0123456789ac", "0123456789abc", "0123456789ab0", "0123456789abb", "01/10",
		"0123456789b", "\uff10", "\xff", "१०", strings.Repeat("0", 100000)}
	for _, text := range bad {
		p, c := impl.ParsePermutation(text)
		if len(p) != 0 || c != impl.ErrSyntax {
			t.Errorf("ParsePermutation(%q) = %v, %d, want ErrSyntax", text, p, c)
		}
	}
}

func TestTableTexts(t *testing.T) {
	text, c := impl.TableText([][]int64{{0, 1}, {1, 0}})
	if text != "01/10" || c != impl.ErrNone {
		t.Errorf("TableText of the example = %q, %d", text, c)
	}
	great, c := impl.TableText(constantTable(12, 11))
	if want := strings.Repeat("bbbbbbbbbbbb/", 12); great != want[:len(want)-1] || c != impl.ErrNone {
		t.Errorf("TableText of 12 elements = %q, %d", great, c)
	}
	r := rand.New(rand.NewSource(7))
	for i := range 60 {
		u := randomTable(r, 1+i%impl.MaxSize)
		text, c := impl.TableText(u)
		code(t, "TableText", c, impl.ErrNone)
		got, c := impl.ParseTable(text)
		if !equalTables(got, u) || c != impl.ErrNone {
			t.Errorf("ParseTable(%q) = %v, %d, want %v", text, got, c, u)
		}
	}
	bad := []string{"", "/", "//", "0/", "/0", "0/0", "1", "00", "01", "01/1", "0/10", "02/10", "01/10/", "/01/10", "01//10", "01/10\n",
		"01/10 ", " 01/10", "01/10|", "01|10", "01/10/01", "01/100", "010/10", "0 1/1 0", "01/1-", "c", "A", "0a/10", "01/10/\x00",
		great + "/", great + "b", great + "/bbbbbbbbbbbb", "c" + great[1:], "B" + great[1:], great[:len(great)-1],
		strings.Repeat("0", 13), strings.Repeat("0000000000000/", 12) + "0000000000000", strings.Repeat("/", 100000)}
	for _, text := range bad {
		u, c := impl.ParseTable(text)
		if len(u) != 0 || c != impl.ErrSyntax {
			t.Errorf("ParseTable(%q) = %v, %d, want ErrSyntax", text, u, c)
		}
	}
}

// listsAndCode puts results into a list as checkMemory takes them.
func listsAndCode[T any](x T, c int64) []any { return []any{x, c} }

func TestChapter1KeepsMemoryApart(t *testing.T) {
	p, q := []int64{1, 2, 0, 4, 3}, []int64{4, 3, 2, 1, 0}
	u := sumTable(5)
	system := [][]int64{p, q}
	same := [][]int64{identity(5), identity(5)}
	list := func(a any) []int64 { return a.([]int64) }
	table := func(a any) [][]int64 { return a.([][]int64) }
	checkMemory(t, "IsTable", func(a []any) []any { return []any{impl.IsTable(table(a[0]))} }, u)
	checkMemory(t, "IsPermutation", func(a []any) []any { return []any{impl.IsPermutation(list(a[0]))} }, p)
	for _, r := range [][]int64{q, identity(5)} {
		checkMemory(t, "ThenPermutation", func(a []any) []any { return listsAndCode(impl.ThenPermutation(list(a[0]), list(a[1]))) }, p, r)
		checkMemory(t, "ThenPermutation", func(a []any) []any { return listsAndCode(impl.ThenPermutation(list(a[0]), list(a[1]))) }, r, p)
		checkMemory(t, "InversePermutation", func(a []any) []any { return listsAndCode(impl.InversePermutation(list(a[0]))) }, r)
		checkMemory(t, "PermutationOrder", func(a []any) []any { return listsAndCode(impl.PermutationOrder(list(a[0]))) }, r)
		checkMemory(t, "CycleLengths", func(a []any) []any { return listsAndCode(impl.CycleLengths(list(a[0]))) }, r)
		checkMemory(t, "RenameTable", func(a []any) []any { return listsAndCode(impl.RenameTable(table(a[0]), list(a[1]))) }, u, r)
		checkMemory(t, "PermutationText", func(a []any) []any { return listsAndCode(impl.PermutationText(list(a[0]))) }, r)
	}
	for _, s := range [][][]int64{system, same, {}} {
		checkMemory(t, "OrbitLabels", func(a []any) []any { return listsAndCode(impl.OrbitLabels(5, table(a[0]))) }, s)
		checkMemory(t, "GroupElements", func(a []any) []any { return listsAndCode(impl.GroupElements(5, table(a[0]))) }, s)
	}
	for _, v := range [][][]int64{u, constantTable(5, 0), constantTable(5, 4), {{0}}} {
		checkMemory(t, "HasPermutationRows", func(a []any) []any { return listsAndCode(impl.HasPermutationRows(table(a[0]))) }, v)
		checkMemory(t, "IsLatin", func(a []any) []any { return listsAndCode(impl.IsLatin(table(a[0]))) }, v)
		checkMemory(t, "TransposeTable", func(a []any) []any { return listsAndCode(impl.TransposeTable(table(a[0]))) }, v)
		checkMemory(t, "LeastTable", func(a []any) []any { return listsAndCode(impl.LeastTable(table(a[0]))) }, v)
		checkMemory(t, "TableText", func(a []any) []any { return listsAndCode(impl.TableText(table(a[0]))) }, v)
	}
	checkMemory(t, "AllPermutations", func(a []any) []any { return listsAndCode(impl.AllPermutations(5)) })
	checkMemory(t, "ParsePermutation", func(a []any) []any { return listsAndCode(impl.ParsePermutation("20143")) })
	checkMemory(t, "ParseTable", func(a []any) []any { return listsAndCode(impl.ParseTable("012/120/201")) })
}

// A result that is overwritten must not change what a later call returns.
func TestChapter1KeepsNoState(t *testing.T) {
	for range 2 {
		all, _ := impl.AllPermutations(3)
		least, _ := impl.LeastTable([][]int64{{1, 0}, {1, 1}})
		group, _ := impl.GroupElements(3, nil)
		parsed, _ := impl.ParseTable("01/10")
		if !equalTables(all, everyPermutation(3)) || !equalTables(least, [][]int64{{0, 0}, {1, 0}}) ||
			!equalTables(group, [][]int64{{0, 1, 2}}) || !equalTables(parsed, [][]int64{{0, 1}, {1, 0}}) {
			t.Errorf("results %v, %v, %v, %v", all, least, group, parsed)
		}
		for _, rows := range [][][]int64{all, least, group, parsed} {
			for _, row := range rows {
				fill(row, -1)
			}
			clear(rows)
		}
	}
}
