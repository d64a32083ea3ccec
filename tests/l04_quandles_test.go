package tests

import (
	"math"
	"math/rand"
	"slices"
	"testing"

	"loop.example/g01119/impl"
)

// wrongSizes are numbers that are no number of elements.
func wrongSizes() []int64 {
	return []int64{0, -1, impl.MaxSize + 1, 100, 1<<32 + 1, 1 << 62, math.MinInt64, math.MinInt64 + 1, math.MaxInt64}
}

// checkMade checks a named rack, which is a quandle if the chapter says so.
func checkMade(t *testing.T, name string, want impl.Rack, quandle bool, got impl.Rack, c int64) {
	t.Helper()
	if !equalRacks(got, want) || c != impl.ErrNone {
		t.Errorf("%s = %v, %d, want %v", name, got, c, want)
	}
	if is, _ := impl.IsQuandle(got); !impl.IsRack(got) || is != quandle {
		t.Errorf("%s = %v: quandle %v", name, got, is)
	}
}

// checkNone checks that there is no rack beside the wanted error.
func checkNone(t *testing.T, name string, want int64, got impl.Rack, c int64) {
	t.Helper()
	if len(got.Table) != 0 || c != want {
		t.Errorf("%s = %v, %d, want code %d", name, got, c, want)
	}
}

func TestTrivialAndDihedralRacks(t *testing.T) {
	for n := int64(1); n <= impl.MaxSize; n++ {
		r, c := impl.TrivialRack(n)
		checkMade(t, "TrivialRack", rackMade(int(n), func(_, y int64) int64 { return y }), true, r, c)
		r, c = impl.DihedralQuandle(n)
		// 2 x - y is found by going from y to x, and on as far again.
		checkMade(t, "DihedralQuandle", rackMade(int(n), func(x, y int64) int64 {
			z := x
			for w := y; w != x; w = (w + 1) % n {
				z = (z + 1) % n
			}
			return z
		}), true, r, c)
	}
	for _, n := range wrongSizes() {
		r, c := impl.TrivialRack(n)
		checkNone(t, "TrivialRack", impl.ErrRange, r, c)
		r, c = impl.DihedralQuandle(n)
		checkNone(t, "DihedralQuandle", impl.ErrRange, r, c)
	}
	three, _ := impl.DihedralQuandle(3)
	five, _ := impl.DihedralQuandle(5)
	if !equalTables(three.Table, [][]int64{{0, 2, 1}, {2, 1, 0}, {1, 0, 2}}) || !slices.Equal(five.Table[1], []int64{2, 1, 0, 4, 3}) {
		t.Errorf("dihedral quandles %v and %v", three, five)
	}
}

func TestPermutationRack(t *testing.T) {
	check := func(p []int64) {
		t.Helper()
		r, c := impl.PermutationRack(p)
		checkMade(t, "PermutationRack", permutationRack(p), slices.Equal(p, identity(len(p))), r, c)
	}
	for n := 1; n <= 5; n++ {
		for _, p := range everyPermutation(n) {
			check(p)
		}
	}
	r := rand.New(rand.NewSource(70))
	for n := 6; n <= impl.MaxSize; n++ {
		check(identity(n))
		check(turn(n, 1))
		check(randomPermutation(r, n))
	}
	for _, p := range badPermutations() {
		got, c := impl.PermutationRack(p)
		checkNone(t, "PermutationRack", impl.ErrInvalid, got, c)
	}
}

// haveCommonDivisor reports whether a number greater than 1 divides both.
func haveCommonDivisor(n int64, a int64) bool {
	for d := int64(2); d <= n; d++ {
		if n%d == 0 && a%d == 0 {
			return true
		}
	}
	return false
}

func TestAlexanderQuandle(t *testing.T) {
	numbers := append(wrongSizes(), 1, 2, 3, 4, 5, 6, 7, 8, 9, 10, 11, 12, 13, 14, -2, -12)
	made := 0
	for _, n := range numbers {
		for _, a := range numbers {
			r, c := impl.AlexanderQuandle(n, a)
			switch {
			case n < 1 || n > impl.MaxSize || a < 0 || a >= n:
				checkNone(t, "AlexanderQuandle", impl.ErrRange, r, c)
			case haveCommonDivisor(n, a):
				checkNone(t, "AlexanderQuandle", impl.ErrState, r, c)
			default:
				checkMade(t, "AlexanderQuandle", affineRack(int(n), a), true, r, c)
				made++
			}
		}
	}
	// As many numbers are prime to n as Euler's function tells.
	if made != 1+1+2+2+4+2+6+4+6+4+10+4 {
		t.Errorf("%d Alexander quandles", made)
	}
	one, c := impl.AlexanderQuandle(1, 0)
	checkMade(t, "AlexanderQuandle of 1 and 0", trivialRack(1), true, one, c)
	five, _ := impl.AlexanderQuandle(5, 2)
	if !equalTables(five.Table, [][]int64{{0, 2, 4, 1, 3}, {4, 1, 3, 0, 2}, {3, 0, 2, 4, 1}, {2, 4, 1, 3, 0}, {1, 3, 0, 2, 4}}) {
		t.Errorf("AlexanderQuandle of 5 and 2 = %v", five)
	}
	for n := int64(2); n <= impl.MaxSize; n++ {
		same, _ := impl.AlexanderQuandle(n, 1)
		turned, _ := impl.AlexanderQuandle(n, n-1)
		if dihedral, _ := impl.DihedralQuandle(n); !equalRacks(same, trivialRack(int(n))) || !equalRacks(turned, dihedral) {
			t.Errorf("Alexander quandles of %d: %v, %v", n, same, turned)
		}
	}
}

// checkConjugation checks the quandle of a list of different permutations of equally many points.
func checkConjugation(t *testing.T, list [][]int64) (made bool) {
	t.Helper()
	r, c := impl.ConjugationQuandle(list)
	want := conjugationRack(list)
	switch lacks := slices.ContainsFunc(want.Table, func(row []int64) bool { return slices.Contains(row, -1) }); {
	case len(list) > impl.MaxSize:
		checkNone(t, "ConjugationQuandle", impl.ErrLimit, r, c)
	case lacks:
		checkNone(t, "ConjugationQuandle", impl.ErrState, r, c)
	default:
		checkMade(t, "ConjugationQuandle", want, true, r, c)
		return true
	}
	return false
}

func TestConjugationQuandle(t *testing.T) {
	// All lists of different permutations of up to 3 points, in each order.
	for n := 1; n <= 3; n++ {
		all := everyPermutation(n)
		for length := 1; length <= len(all); length++ {
			for _, choice := range everyList(len(all), length) {
				if sorted := slices.Sorted(slices.Values(choice)); len(slices.Compact(sorted)) < length {
					continue
				}
				list := [][]int64{}
				for _, i := range choice {
					list = append(list, all[i])
				}
				checkConjugation(t, list)
			}
		}
	}
	r := rand.New(rand.NewSource(71))
	all, made := everyPermutation(4), 0
	for i := range 3000 {
		r.Shuffle(len(all), func(i, j int) { all[i], all[j] = all[j], all[i] })
		if checkConjugation(t, all[:1+i%14]) {
			made++
		}
	}
	if made == 0 {
		t.Errorf("no list of permutations of 4 points has all conjugates")
	}
	for _, generators := range [][][]int64{{{1, 0, 2, 3}, {0, 1, 3, 2}}, {{1, 2, 3, 0}}, {{1, 2, 3, 0}, {3, 2, 1, 0}}, {{1, 2, 0, 3}, {0, 2, 3, 1}},
		{turn(12, 1)}, {turn(11, 3)}, {{1, 2, 0, 4, 3}}, {turn(12, 4), {11, 10, 9, 8, 7, 6, 5, 4, 3, 2, 1, 0}}} {
		group := groupOf(len(generators[0]), generators)
		r.Shuffle(len(group), func(i, j int) { group[i], group[j] = group[j], group[i] })
		if !checkConjugation(t, group) {
			t.Errorf("no conjugation quandle of %v", group)
		}
	}
	six, c := impl.ConjugationQuandle([][]int64{{1, 0, 2}, {1, 2, 0}, {2, 0, 1}, {0, 2, 1}, {0, 1, 2}, {2, 1, 0}})
	want := [][]int64{{0, 2, 1, 5, 4, 3}, {3, 1, 2, 5, 4, 0}, {5, 1, 2, 0, 4, 3}, {5, 2, 1, 3, 4, 0}, {0, 1, 2, 3, 4, 5}, {3, 2, 1, 0, 4, 5}}
	if !equalTables(six.Table, want) || c != impl.ErrNone {
		t.Errorf("the conjugation of all permutations of 3 points is %v, %d", six, c)
	}
}

func TestConjugationOfNumbersAroundMaxSize(t *testing.T) {
	// Turns commute, so that each of them is its own conjugate.
	group := groupOf(12, [][]int64{turn(12, 1)})
	if !checkConjugation(t, group) {
		t.Errorf("12 permutations are refused")
	}
	other := []int64{1, 0, 2, 3, 4, 5, 6, 7, 8, 9, 10, 11}
	great := append(slices.Clone(group), other)
	commuting := groupOf(8, [][]int64{{1, 0, 2, 3, 4, 5, 6, 7}, {0, 1, 3, 2, 4, 5, 6, 7}, {0, 1, 2, 3, 5, 4, 6, 7}, {0, 1, 2, 3, 4, 5, 7, 6}})
	for name, list := range map[string][][]int64{"13 without a conjugate": great, "16 that commute": commuting, "13 that commute": commuting[:13],
		"all of 5 points": everyPermutation(5), "all of 7 points": everyPermutation(7)} {
		r, c := impl.ConjugationQuandle(list)
		checkNone(t, name, impl.ErrLimit, r, c)
	}
	if !checkConjugation(t, commuting[:12]) || checkConjugation(t, append(slices.Clone(group[:11]), other)) {
		t.Errorf("12 permutations")
	}
	// Two equal permutations are refused before their number is.
	equal := append(everyPermutation(5), []int64{4, 3, 2, 1, 0})
	r, c := impl.ConjugationQuandle(equal)
	checkNone(t, "121 of which two are equal", impl.ErrInvalid, r, c)
	r, c = impl.ConjugationQuandle(append(everyPermutation(4), []int64{1, 0, 2}))
	checkNone(t, "25 of which one is shorter", impl.ErrInvalid, r, c)
	r, c = impl.ConjugationQuandle(append(everyPermutation(4), []int64{1, 0, 2, 2}))
	checkNone(t, "25 of which one is none", impl.ErrInvalid, r, c)
}

func TestConjugationQuandleRefuses(t *testing.T) {
	good := []int64{1, 0, 2}
	bad := map[string][][]int64{
		"nil": nil, "empty": {}, "equal": {good, good}, "equal identities": {{0}, {0}}, "first and last": {good, {0, 1, 2}, {2, 1, 0}, {1, 0, 2}},
		"shorter": {good, {1, 0}}, "longer": {{0, 1}, {0, 1, 2}}, "longer, last": {{0, 1}, {1, 0}, {0, 1, 2}},
		"many equal ones": slices.Repeat([][]int64{good}, 1000),
	}
	for name, p := range badPermutations() {
		bad["only "+name], bad["first "+name], bad["last "+name] = [][]int64{p}, [][]int64{p, good}, [][]int64{good, p}
	}
	for name, list := range bad {
		r, c := impl.ConjugationQuandle(list)
		checkNone(t, name, impl.ErrInvalid, r, c)
	}
	for name, list := range map[string][][]int64{"two exchanges": {{1, 0, 2}, {0, 2, 1}}, "a cycle and an exchange": {{1, 2, 0}, {1, 0, 2}},
		"the last one": {{0, 1, 2, 3}, {1, 2, 0, 3}, {0, 1, 3, 2}}} {
		r, c := impl.ConjugationQuandle(list)
		checkNone(t, name, impl.ErrState, r, c)
	}
	for n := 1; n <= impl.MaxSize; n++ {
		if !checkConjugation(t, [][]int64{turn(n, n/2)}) {
			t.Errorf("one permutation of %d points is refused", n)
		}
	}
}

// conjugatesOf returns all conjugates of a permutation in lexicographic order.
func conjugatesOf(p []int64) [][]int64 {
	list := [][]int64{}
	for _, x := range everyPermutation(len(p)) {
		conjugate := make([]int64, len(p))
		for i := range p {
			conjugate[x[i]] = x[p[i]]
		}
		list = append(list, conjugate)
	}
	slices.SortFunc(list, slices.Compare[[]int64])
	return slices.CompactFunc(list, slices.Equal[[]int64])
}

func TestClassQuandle(t *testing.T) {
	list := slices.Concat(everyPermutation(1), everyPermutation(2), everyPermutation(3), everyPermutation(4), everyPermutation(5),
		[][]int64{identity(6), {1, 0, 2, 3, 4, 5}, turn(6, 1), turn(6, 2), turn(6, 3), identity(7), {0, 1, 2, 3, 4, 6, 5}, turn(7, 1), {1, 2, 0, 3, 4, 5, 6}})
	sizes := map[int]bool{}
	for _, p := range list {
		conjugates := conjugatesOf(p)
		r, c := impl.ClassQuandle(p)
		if len(conjugates) > impl.MaxSize {
			checkNone(t, "ClassQuandle", impl.ErrLimit, r, c)
			continue
		}
		checkMade(t, "ClassQuandle", conjugationRack(conjugates), true, r, c)
		sizes[len(conjugates)] = true
	}
	// No class of permutations of at most 7 points has 11 to 14 elements.
	if !sizes[10] || sizes[12] {
		t.Errorf("sizes %v", sizes)
	}
	for n := impl.MaxForm + 1; n <= impl.MaxSize; n++ {
		r, c := impl.ClassQuandle(identity(n))
		checkNone(t, "ClassQuandle of more points", impl.ErrLimit, r, c)
		r, c = impl.ClassQuandle(turn(n, 1))
		checkNone(t, "ClassQuandle of more points", impl.ErrLimit, r, c)
	}
	for name, p := range badPermutations() {
		r, c := impl.ClassQuandle(p)
		checkNone(t, "ClassQuandle of "+name, impl.ErrInvalid, r, c)
	}
	three, _ := impl.ClassQuandle([]int64{1, 0, 2})
	four, _ := impl.ClassQuandle([]int64{1, 2, 3, 0})
	if !equalTables(three.Table, dihedralRack(3).Table) || !equalTables(four.Table, classRack(4, 4).Table) || len(four.Table) != 6 {
		t.Errorf("ClassQuandle: %v, %v", three, four)
	}
}

// tableOf returns the table of a group of permutations, which are in lexicographic order, so that
// the identity is the first one; p q is doing p then q.
func tableOf(group [][]int64) [][]int64 {
	return rackMade(len(group), func(x, y int64) int64 {
		product := doneThen(group[x], group[y])
		return int64(slices.IndexFunc(group, func(p []int64) bool { return slices.Equal(p, product) }))
	}).Table
}

// someGroups returns groups of 1 to 12 elements of all kinds, and renamed ones.
func someGroups() []impl.Group {
	list := []impl.Group{}
	for n := 1; n <= impl.MaxSize; n++ {
		list = append(list, impl.Group{Table: sumTable(n)})
	}
	for _, generators := range [][][]int64{
		{{1, 0, 2, 3}, {0, 1, 3, 2}}, {{1, 2, 0}, {1, 0, 2}}, {{1, 2, 3, 0}, {3, 2, 1, 0}}, {{1, 2, 3, 4, 0}, {4, 3, 2, 1, 0}},
		{{1, 2, 3, 4, 5, 0}, {5, 4, 3, 2, 1, 0}}, {{1, 2, 0, 3}, {0, 2, 3, 1}}, {{1, 0, 2, 3, 4, 5}, {0, 1, 3, 4, 5, 2}},
		{{1, 2, 3, 0, 5, 6, 7, 4}, {4, 7, 6, 5, 2, 1, 0, 3}}, {{1, 2, 0, 3, 4, 5, 6}, {1, 0, 2, 4, 5, 6, 3}},
		{{1, 0, 2, 3, 4, 5}, {0, 1, 3, 2, 4, 5}, {0, 1, 2, 3, 5, 4}}, {{1, 2, 0, 3, 4, 5}, {0, 1, 2, 4, 5, 3}},
	} {
		list = append(list, impl.Group{Table: tableOf(groupOf(len(generators[0]), generators))})
	}
	r := rand.New(rand.NewSource(72))
	for _, g := range slices.Clone(list) {
		p := append([]int64{0}, randomPermutation(r, len(g.Table)-1)...)
		for i := range p[1:] {
			p[1+i]++
		}
		list = append(list, impl.Group{Table: renamedRack(impl.Rack{Table: g.Table}, p).Table})
	}
	return list
}

// isGroup reports whether a table, or what is none, is a group.
func isGroup(u [][]int64) bool {
	if !impl.IsTable(u) || !hasRows(u) {
		return false
	}
	for x := range u {
		if u[0][x] != int64(x) || u[x][0] != int64(x) {
			return false
		}
		for y := range u {
			for z := range u {
				if u[u[x][y]][z] != u[x][u[y][z]] {
					return false
				}
			}
		}
	}
	return true
}

// checkOfGroup checks core and conjugation of what may be a group.
func checkOfGroup(t *testing.T, u [][]int64) {
	t.Helper()
	g := impl.Group{Table: u}
	core, c := impl.CoreQuandle(g)
	conjugation, d := impl.GroupConjugation(g)
	if !isGroup(u) {
		checkNone(t, "CoreQuandle", impl.ErrInvalid, core, c)
		checkNone(t, "GroupConjugation", impl.ErrInvalid, conjugation, d)
		return
	}
	inverse := func(x int64) int64 { return int64(slices.Index(u[x], 0)) }
	checkMade(t, "CoreQuandle", rackMade(len(u), func(x, y int64) int64 { return u[u[x][inverse(y)]][x] }), true, core, c)
	checkMade(t, "GroupConjugation", rackMade(len(u), func(x, y int64) int64 { return u[u[x][y]][inverse(x)] }), true, conjugation, d)
}

func TestRacksOfGroups(t *testing.T) {
	sizes := map[int]int{}
	for _, g := range someGroups() {
		if !isGroup(g.Table) {
			t.Fatalf("%v is no group", g)
		}
		checkOfGroup(t, g.Table)
		sizes[len(g.Table)]++
	}
	if sizes[1] == 0 || sizes[12] < 8 {
		t.Errorf("groups of %v elements", sizes)
	}
	// x, inverse of y, x of the group of all permutations of 3 points; 1 and 2 are exchanges.
	u := tableOf(everyPermutation(3))
	core, _ := impl.CoreQuandle(impl.Group{Table: u})
	conjugation, _ := impl.GroupConjugation(impl.Group{Table: u})
	if !equalTables(core.Table, [][]int64{{0, 1, 2, 4, 3, 5}, {0, 1, 5, 3, 4, 2}, {0, 5, 2, 3, 4, 1}, {4, 1, 2, 3, 0, 5}, {3, 1, 2, 0, 4, 5}, {0, 2, 1, 3, 4, 5}}) {
		t.Errorf("core %v", core)
	}
	if !equalTables(conjugation.Table, [][]int64{{0, 1, 2, 3, 4, 5}, {0, 1, 5, 4, 3, 2}, {0, 5, 2, 4, 3, 1}, {0, 2, 5, 3, 4, 1}, {0, 5, 1, 3, 4, 2}, {0, 2, 1, 4, 3, 5}}) {
		t.Errorf("conjugation %v", conjugation)
	}
	for n := 1; n <= impl.MaxSize; n++ {
		g := impl.Group{Table: sumTable(n)}
		core, _ := impl.CoreQuandle(g)
		if conjugation, _ := impl.GroupConjugation(g); !equalRacks(core, dihedralRack(n)) || !equalRacks(conjugation, trivialRack(n)) {
			t.Errorf("core %v and conjugation %v of a cyclic group", core, conjugation)
		}
	}
}

// loopsOf returns all tables of n elements whose rows and columns are permutations, with 0 as
// identity.
func loopsOf(n int) [][][]int64 {
	found := [][][]int64{}
	u := [][]int64{identity(n)}
	rows := everyPermutation(n)
	var search func()
	search = func() {
		if len(u) == n {
			found = append(found, slices.Clone(u))
			return
		}
		for _, row := range rows {
			clash := row[0] != int64(len(u))
			for _, other := range u {
				for y := range row {
					clash = clash || row[y] == other[y]
				}
			}
			if !clash {
				u = append(u, row)
				search()
				u = u[:len(u)-1]
			}
		}
	}
	search()
	return found
}

func TestRacksOfWhatMayBeAGroup(t *testing.T) {
	for n := 1; n <= 3; n++ {
		for _, u := range everyTable(n) {
			checkOfGroup(t, u)
		}
	}
	groups := 0
	loops := slices.Concat(loopsOf(4), loopsOf(5))
	for _, u := range loops {
		checkOfGroup(t, u)
		if isGroup(u) {
			groups++
		}
	}
	// Of the 4 loops of 4 elements all are groups, of the 56 ones of 5 elements the 6 cyclic groups.
	if len(loops) != 60 || groups != 10 {
		t.Errorf("%d loops, %d groups", len(loops), groups)
	}
	r := rand.New(rand.NewSource(73))
	for _, g := range someGroups() {
		n := len(g.Table)
		// The identity is not 0, or two products are exchanged.
		checkOfGroup(t, renamedRack(impl.Rack{Table: g.Table}, turn(n, 1)).Table)
		u := guardedTable(g.Table)
		x, y, z := r.Intn(n), r.Intn(n), r.Intn(n)
		u[x][y], u[x][z] = u[x][z], u[x][y]
		checkOfGroup(t, u)
		u[x][y] = u[z][z]
		checkOfGroup(t, u)
		checkOfGroup(t, g.Table[:n-1])
	}
	for name, u := range badTables() {
		if isGroup(u) {
			t.Errorf("%s is a group", name)
		}
		checkOfGroup(t, u)
	}
	for _, u := range [][][]int64{sumTable(13), {{0, 1}, {1, 1}}, {{0, 1}, {0, 1}}, {{0, 0}, {1, 1}}, {{1, 0}, {0, 1}}, trivialRack(12).Table, constantTable(12, 0)} {
		checkOfGroup(t, u)
	}
}
