package tests

import (
	"math"
	"math/rand"
	"slices"
	"strings"
	"testing"

	"loop.example/g01119/impl"
)

// cycleMade returns the dot table of n elements with x . y made by a function.
func cycleMade(n int, f func(x, y int64) int64) impl.CycleSet { return ofRack(rackMade(n, f)) }

// ofRack returns the dot table that has the table of a rack, and asRack the other way.
func ofRack(r impl.Rack) impl.CycleSet { return impl.CycleSet{Table: r.Table} }

func asRack(c impl.CycleSet) impl.Rack { return impl.Rack{Table: c.Table} }

// permutationCycle returns the cycle set with x . y = p(y), and trivialCycle that with x . y = y.
func permutationCycle(p []int64) impl.CycleSet { return ofRack(permutationRack(p)) }

func trivialCycle(n int) impl.CycleSet { return ofRack(trivialRack(n)) }

// affineTable returns the dot table with the remainder of a x + b y + c by n as x . y.
func affineTable(n int, a int64, b int64, c int64) impl.CycleSet {
	return cycleMade(n, func(x, y int64) int64 { return (a*x + b*y + c) % int64(n) })
}

// unionOfCycles returns the cycle set whose elements act on those of the same part as there, and on
// others not at all.
func unionOfCycles(list ...impl.CycleSet) impl.CycleSet {
	racks := []impl.Rack{}
	for _, c := range list {
		racks = append(racks, asRack(c))
	}
	return ofRack(unionOfRacks(racks...))
}

// productOfCycles returns the cycle set of pairs that act in both cycle sets at once.
func productOfCycles(c impl.CycleSet, d impl.CycleSet) impl.CycleSet {
	return ofRack(productOfRacks(asRack(c), asRack(d)))
}

// doubled returns the cycle set of 2 n elements in which x and x + n exchange y and y + n where a
// matrix of n rows has a 1 for x and y, and do nothing elsewhere.
func doubled(matrix [][]int64) impl.CycleSet {
	n := int64(len(matrix))
	return cycleMade(2*len(matrix), func(x, y int64) int64 { return (y + n*matrix[x%n][y%n]) % (2 * n) })
}

// renamedCycle returns the dot table that has as p(x) . p(y) what p makes of x . y.
func renamedCycle(c impl.CycleSet, p []int64) impl.CycleSet { return ofRack(renamedRack(asRack(c), p)) }

// equalCycles reports whether two dot tables have equal tables.
func equalCycles(c impl.CycleSet, d impl.CycleSet) bool { return equalTables(c.Table, d.Table) }

// faultOfDots returns the first list at which the condition of cycle sets is not met, or nil.
func faultOfDots(t [][]int64) []int64 {
	for x := range t {
		for y := range t {
			for z := range t {
				if t[t[x][y]][t[x][z]] != t[t[y][x]][t[y][z]] {
					return []int64{int64(x), int64(y), int64(z)}
				}
			}
		}
	}
	return nil
}

// squaresOf returns the list of all x . x.
func squaresOf(t [][]int64) []int64 {
	list := []int64{}
	for x, row := range t {
		list = append(list, row[x])
	}
	return list
}

// foundCycles returns all cycle sets with n elements, n at most 5, found without the program.
func foundCycles(n int) []impl.CycleSet {
	// The condition at x, y and all z tells of the rows of x, y, x . y and y . x alone.
	tables := foundTables(n, func(t [][]int64, x int, y int) bool {
		if x != y && t[x][x] == t[y][y] {
			return true
		}
		if int(max(t[x][y], t[y][x])) >= len(t) {
			return false
		}
		for z := range n {
			if t[t[x][y]][t[x][z]] != t[t[y][x]][t[y][z]] {
				return true
			}
		}
		return false
	})
	found := []impl.CycleSet{}
	for _, t := range tables {
		found = append(found, impl.CycleSet{Table: t})
	}
	return found
}

// crossCycle returns a cycle set of 4 elements whose rows are all different.
func crossCycle() impl.CycleSet {
	return impl.CycleSet{Table: [][]int64{{0, 1, 3, 2}, {2, 3, 1, 0}, {1, 0, 2, 3}, {3, 2, 0, 1}}}
}

// someCycles returns cycle sets of different kinds with 1 to 12 elements, square-free and others.
func someCycles() []impl.CycleSet {
	list := slices.Concat(foundCycles(1), foundCycles(2), foundCycles(3))
	for n := 1; n <= impl.MaxSize; n++ {
		list = append(list, trivialCycle(n), permutationCycle(turn(n, 1)), permutationCycle(turn(n, n/2)))
	}
	r := rand.New(rand.NewSource(80))
	for n := 1; n <= impl.MaxSize/2; n++ {
		for range 3 {
			matrix := randomTable(r, n)
			for _, row := range matrix {
				for y := range row {
					row[y] %= 2
				}
			}
			list = append(list, doubled(matrix))
		}
	}
	two, four := permutationCycle(turn(2, 1)), affineTable(4, 2, 1, 1)
	list = append(list, four, affineTable(8, 4, 5, 3), affineTable(9, 3, 1, 0), affineTable(9, 6, 4, 2), affineTable(12, 6, 1, 5),
		crossCycle(), unionOfCycles(crossCycle(), four, trivialCycle(3)), unionOfCycles(four, four, four), unionOfCycles(two, affineTable(9, 3, 1, 1)),
		productOfCycles(four, permutationCycle(turn(3, 1))), productOfCycles(crossCycle(), trivialCycle(3)), productOfCycles(two, crossCycle()),
		permutationCycle([]int64{1, 2, 0, 4, 5, 6, 3, 8, 9, 10, 11, 7}))
	for _, c := range slices.Clone(list) {
		// Renamed, elements of one kind do not lie side by side.
		list = append(list, renamedCycle(c, randomPermutation(r, len(c.Table))))
	}
	return list
}

// noCycles are dot tables that are no cycle sets.
func noCycles() map[string]impl.CycleSet {
	bad := map[string]impl.CycleSet{
		"constant rows":                    {Table: [][]int64{{0, 0}, {1, 1}}},
		"constant of 12":                   {Table: constantTable(12, 5)},
		"no fault, rows no permutations":   {Table: constantTable(2, 0)},
		"squares no permutation":           {Table: [][]int64{{0, 1}, {1, 0}}},
		"squares no permutation, other":    {Table: [][]int64{{1, 0}, {0, 1}}},
		"squares no permutation, 3":        {Table: [][]int64{{0, 1, 2}, {1, 0, 2}, {0, 1, 2}}},
		"rows and squares permutations":    {Table: [][]int64{{0, 1, 2}, {2, 1, 0}, {1, 0, 2}}},
		"dihedral rack of 3":               {Table: [][]int64{{0, 2, 1}, {2, 1, 0}, {1, 0, 2}}},
		"first row that is no permutation": {Table: [][]int64{{0, 0, 2}, {0, 1, 2}, {0, 1, 2}}},
		"last row that is no permutation":  {Table: [][]int64{{0, 1, 2}, {0, 1, 2}, {0, 0, 2}}},
		"sums of 12":                       {Table: sumTable(12)},
		"dihedral rack of 12":              ofRack(dihedralRack(12)),
	}
	late := trivialCycle(12)
	late.Table[11][9], late.Table[11][10] = 10, 9
	late.Table[10][9], late.Table[10][8] = 8, 9
	bad["two exchanges that meet, of 12"] = late
	return bad
}

// noDots are lists of rows that are no dot tables.
func noDots() map[string]impl.CycleSet {
	bad := map[string]impl.CycleSet{
		"trivial of 13":                  trivialCycle(13),
		"turn of 13":                     permutationCycle(turn(13, 1)),
		"trivial of 100":                 trivialCycle(100),
		"trivial without last row":       {Table: trivialCycle(12).Table[:11]},
		"trivial with an element more":   {Table: [][]int64{{0, 1}, {0, 1}, {0, 1}}},
		"rows of different lengths":      {Table: [][]int64{{0, 1, 2}, {0, 1}, {0, 1, 2}}},
		"a negative element":             {Table: [][]int64{{0, 1}, {0, -1}}},
		"an element that is too great":   {Table: [][]int64{{0, 1}, {2, 1}}},
		"12 rows, the last one too long": {Table: append(trivialCycle(12).Table[:11:11], identity(13))},
	}
	for name, u := range badTables() {
		bad["table: "+name] = impl.CycleSet{Table: u}
	}
	return bad
}

// checkDots checks what a dot table tells, and whether it is a cycle set, against the definitions.
// Promise 5: it is one exactly if its rows and squares are permutations and it has no fault.
func checkDots(t *testing.T, u [][]int64) (is bool) {
	t.Helper()
	c := impl.CycleSet{Table: u}
	squares := squaresOf(u)
	if got, e := impl.SquaresOf(c); !slices.Equal(got, squares) || e != impl.ErrNone {
		t.Errorf("SquaresOf(%v) = %v, %d", u, got, e)
	}
	fault, want := faultOfDots(u), int64(impl.ErrNone)
	if fault == nil {
		want = impl.ErrNotFound
	}
	if got, e := impl.CycleFault(c); !slices.Equal(got, fault) || e != want {
		t.Errorf("CycleFault(%v) = %v, %d, want %v, %d", u, got, e, fault, want)
	}
	is = hasRows(u) && impl.IsPermutation(squares) && fault == nil
	if impl.IsCycleSet(c) != is {
		t.Errorf("IsCycleSet(%v) = %v", u, !is)
	}
	text, _ := impl.TableText(u)
	if got, e := impl.CycleSetText(c); got != text || e != impl.ErrNone {
		t.Errorf("CycleSetText(%v) = %q, %d", u, got, e)
	}
	got, e := impl.ParseCycleSet(text)
	if is && (!equalTables(got.Table, u) || e != impl.ErrNone) || !is && (len(got.Table) != 0 || e != impl.ErrSyntax) {
		t.Errorf("ParseCycleSet(%q) = %v, %d", text, got, e)
	}
	return is
}

func TestCycleSetsAndFaults(t *testing.T) {
	for n := 1; n <= 3; n++ {
		count := 0
		for _, u := range everyTable(n) {
			if checkDots(t, u) {
				count++
			}
		}
		if want := len(foundCycles(n)); count != want || want == 0 {
			t.Errorf("%d cycle sets of %d elements, want %d", count, n, want)
		}
	}
	for _, c := range append(someCycles(), foundCycles(4)...) {
		if !checkDots(t, c.Table) {
			t.Errorf("%v is no cycle set", c)
		}
	}
	for name, c := range noCycles() {
		if checkDots(t, c.Table) {
			t.Errorf("%s: %v is a cycle set", name, c)
		}
	}
	r := rand.New(rand.NewSource(81))
	for i := range 300 {
		n := 4 + i%9
		checkDots(t, randomTable(r, n))
		u := constantTable(n, 0)
		for x := range u {
			u[x] = randomPermutation(r, n)
		}
		checkDots(t, u)
	}
}

// Dot tables that differ from a cycle set at one place are none: a row has an element twice.
func TestTablesThatDifferFromCycleSetsAtOnePlace(t *testing.T) {
	r := rand.New(rand.NewSource(82))
	for _, c := range append(someCycles(), foundCycles(4)...) {
		n := int64(len(c.Table))
		for x := range n {
			for y := range n {
				row := c.Table[x]
				was := row[y]
				for row[y] = range n {
					// All values in small tables, and some in great ones.
					if row[y] != was && (n < 5 || r.Int63n(n*n) < 5) && checkDots(t, c.Table) {
						t.Errorf("%v is a cycle set", c)
					}
				}
				row[y] = was
			}
		}
	}
}

// With two elements of a row exchanged the rows are still permutations, and all depends on squares
// and on the condition.
func TestCycleSetsWithTwoElementsExchanged(t *testing.T) {
	r := rand.New(rand.NewSource(83))
	still, squares := 0, 0
	for _, c := range append(someCycles(), foundCycles(4)...) {
		for range 5 {
			row := c.Table[r.Intn(len(c.Table))]
			x, y := r.Intn(len(row)), r.Intn(len(row))
			row[x], row[y] = row[y], row[x]
			if checkDots(t, c.Table) && x != y {
				still++
			} else if !impl.IsPermutation(squaresOf(c.Table)) {
				squares++
			}
			row[x], row[y] = row[y], row[x]
		}
	}
	if still == 0 || squares == 0 {
		t.Errorf("%d cycle sets, and %d with squares that are no permutation", still, squares)
	}
}

func TestCycleFaultsOfNamedTables(t *testing.T) {
	late := noCycles()["two exchanges that meet, of 12"]
	cases := []struct {
		c    impl.CycleSet
		want []int64
	}{
		{impl.CycleSet{Table: [][]int64{{0, 1}, {1, 0}}}, []int64{0, 1, 0}},
		{impl.CycleSet{Table: [][]int64{{0, 0}, {1, 1}}}, []int64{0, 1, 0}},
		{impl.CycleSet{Table: [][]int64{{0, 2, 1}, {2, 1, 0}, {1, 0, 2}}}, []int64{0, 1, 0}},
		{impl.CycleSet{Table: [][]int64{{0, 1, 2}, {2, 1, 0}, {1, 0, 2}}}, []int64{0, 1, 1}},
		{impl.CycleSet{Table: constantTable(2, 0)}, nil}, {impl.CycleSet{Table: constantTable(12, 5)}, nil},
		{trivialCycle(1), nil}, {trivialCycle(12), nil}, {crossCycle(), nil},
	}
	for _, x := range cases {
		want := int64(impl.ErrNone)
		if x.want == nil {
			want = impl.ErrNotFound
		}
		if got, e := impl.CycleFault(x.c); !slices.Equal(got, x.want) || e != want {
			t.Errorf("CycleFault(%v) = %v, %d, want %v", x.c, got, e, x.want)
		}
	}
	if got, e := impl.CycleFault(late); len(got) != 3 || got[0] < 8 || e != impl.ErrNone {
		t.Errorf("CycleFault(%v) = %v, %d", late, got, e)
	}
}

// callsOnDots calls each function that takes a dot table and callsOnCycles each that takes one cycle
// set, and they return the codes and whether all other results are zero.
func callsOnDots(c impl.CycleSet) (map[string]int64, bool) {
	codes := map[string]int64{}
	fault, e := impl.CycleFault(c)
	codes["CycleFault"] = e
	squares, e := impl.SquaresOf(c)
	codes["SquaresOf"] = e
	least, e := impl.LeastCycleSet(c)
	codes["LeastCycleSet"] = e
	text, e := impl.CycleSetText(c)
	codes["CycleSetText"] = e
	return codes, len(fault) == 0 && len(squares) == 0 && len(least.Table) == 0 && text == ""
}

func callsOnCycles(c impl.CycleSet, x int64, k int64) (map[string]int64, bool) {
	codes := map[string]int64{}
	y, e := impl.DotSolve(c, x, x)
	codes["DotSolve"] = e
	z, e := impl.DotPower(c, x, k)
	codes["DotPower"] = e
	s, e := impl.SolutionOfCycleSet(c)
	codes["SolutionOfCycleSet"] = e
	dual, e := impl.DualCycleSet(c)
	codes["DualCycleSet"] = e
	is, e := impl.IsSquareFreeCycleSet(c)
	codes["IsSquareFreeCycleSet"] = e
	orders, e := impl.RowOrders(c)
	codes["RowOrders"] = e
	return codes, y == 0 && z == 0 && isZero(s) && len(dual.Table) == 0 && !is && len(orders) == 0
}

// checkRefused checks that all functions that ask for a cycle set refuse c first of all.
func checkRefused(t *testing.T, name string, c impl.CycleSet) {
	t.Helper()
	if impl.IsCycleSet(c) {
		t.Errorf("%s is accepted", name)
	}
	for _, x := range []int64{0, 1, -1, 100, math.MinInt64, math.MaxInt64} {
		codes, zero := callsOnCycles(c, x, x)
		for f, e := range codes {
			code(t, f+" of "+name, e, impl.ErrInvalid)
		}
		if !zero {
			t.Errorf("%s: a result beside an error", name)
		}
	}
	for _, good := range []impl.CycleSet{trivialCycle(1), trivialCycle(2), trivialCycle(12)} {
		for _, both := range [][2]impl.CycleSet{{c, good}, {good, c}, {c, c}} {
			p, e := impl.CycleIsomorphism(both[0], both[1])
			if len(p) != 0 || e != impl.ErrInvalid {
				t.Errorf("CycleIsomorphism of %s = %v, %d", name, p, e)
			}
		}
	}
}

// ErrInvalid comes before all other errors.
func TestDotTablesRefused(t *testing.T) {
	for name, c := range noDots() {
		checkRefused(t, name, c)
		codes, zero := callsOnDots(c)
		for f, e := range codes {
			code(t, f+" of "+name, e, impl.ErrInvalid)
		}
		if !zero {
			t.Errorf("%s: a result beside an error", name)
		}
	}
}

// Dot tables that are no cycle sets are refused only where a cycle set is told.
func TestDotTablesThatAreNoCycleSets(t *testing.T) {
	for name, c := range noCycles() {
		checkRefused(t, name, c)
		codes, _ := callsOnDots(c)
		for f, e := range codes {
			want := int64(impl.ErrNone)
			switch {
			case f == "LeastCycleSet" && len(c.Table) > impl.MaxForm:
				want = impl.ErrLimit
			case f == "CycleFault" && faultOfDots(c.Table) == nil:
				want = impl.ErrNotFound
			}
			code(t, f+" of "+name, e, want)
		}
	}
}

// Cycle sets of 1 and of MaxSize elements have all that needs no least form.
func TestCycleSetsOfAllSizes(t *testing.T) {
	for n := 1; n <= impl.MaxSize; n++ {
		for _, c := range []impl.CycleSet{trivialCycle(n), permutationCycle(turn(n, 1)), permutationCycle(turn(n, n/2))} {
			if !impl.IsCycleSet(c) {
				t.Errorf("%v is refused", c)
			}
			codes, _ := callsOnCycles(c, int64(n-1), 1000)
			for f, e := range codes {
				code(t, f, e, impl.ErrNone)
			}
			codes, _ = callsOnDots(c)
			for f, e := range codes {
				want := int64(impl.ErrNone)
				switch {
				case f == "CycleFault":
					want = impl.ErrNotFound
				case f == "LeastCycleSet" && n > impl.MaxForm:
					want = impl.ErrLimit
				}
				code(t, f, e, want)
			}
		}
	}
}

// notElements are numbers that are no elements of a set of n.
func notElements(n int) []int64 {
	return []int64{-1, int64(n), int64(n) + 1, impl.MaxSize, 100, 1 << 32, math.MinInt64, math.MaxInt64}
}

func TestDotSolve(t *testing.T) {
	for _, c := range append(someCycles(), foundCycles(4)...) {
		n := len(c.Table)
		for x := range int64(n) {
			for y, z := range c.Table[x] {
				if got, e := impl.DotSolve(c, x, z); got != int64(y) || e != impl.ErrNone {
					t.Errorf("DotSolve(%v, %d, %d) = %d, %d", c, x, z, got, e)
				}
			}
			for _, bad := range notElements(n) {
				for _, both := range [][2]int64{{x, bad}, {bad, x}, {bad, bad}} {
					if got, e := impl.DotSolve(c, both[0], both[1]); got != 0 || e != impl.ErrRange {
						t.Errorf("DotSolve(%v, %v) = %d, %d", c, both, got, e)
					}
				}
			}
		}
	}
}

func TestDotPower(t *testing.T) {
	if got, _ := impl.DotPower(permutationCycle(turn(12, 1)), 5, 1000); got != 9 {
		t.Errorf("1000 times the turn of 12 lead 5 to %d", got)
	}
	for _, c := range append(someCycles(), foundCycles(4)...) {
		n := len(c.Table)
		for x := range int64(n) {
			y := x
			for k := range int64(1001) {
				// All numbers of times up to some, and those near the limit.
				if k < 15 || k > 985 {
					if got, e := impl.DotPower(c, x, k); got != y || e != impl.ErrNone {
						t.Errorf("DotPower(%v, %d, %d) = %d, %d, want %d", c, x, k, got, e, y)
					}
				}
				y = c.Table[y][y]
			}
			for _, k := range []int64{-1, 1001, 1002, 1 << 32, math.MinInt64, math.MaxInt64} {
				if got, e := impl.DotPower(c, x, k); got != 0 || e != impl.ErrRange {
					t.Errorf("DotPower(%v, %d, %d) = %d, %d", c, x, k, got, e)
				}
			}
		}
		for _, x := range notElements(n) {
			for _, k := range []int64{0, 1, 1000, 1001, -1} {
				if got, e := impl.DotPower(c, x, k); got != 0 || e != impl.ErrRange {
					t.Errorf("DotPower(%v, %d, %d) = %d, %d", c, x, k, got, e)
				}
			}
		}
	}
}

func TestRowOrdersAndSquareFreeCycleSets(t *testing.T) {
	for _, c := range append(someCycles(), foundCycles(4)...) {
		want := []int64{}
		for _, row := range c.Table {
			want = append(want, timesToIdentity(row))
		}
		if got, e := impl.RowOrders(c); !slices.Equal(got, want) || e != impl.ErrNone {
			t.Errorf("RowOrders(%v) = %v, %d, want %v", c, got, e, want)
		}
		is := slices.Equal(squaresOf(c.Table), identity(len(c.Table)))
		if got, e := impl.IsSquareFreeCycleSet(c); got != is || e != impl.ErrNone {
			t.Errorf("IsSquareFreeCycleSet(%v) = %v, %d", c, got, e)
		}
	}
	great := permutationCycle([]int64{1, 2, 0, 4, 5, 6, 3, 8, 9, 10, 11, 7})
	if got, _ := impl.RowOrders(great); !slices.Equal(got, slices.Repeat([]int64{60}, 12)) {
		t.Errorf("RowOrders(%v) = %v", great, got)
	}
	// The last square alone is another element.
	almost := unionOfCycles(trivialCycle(10), permutationCycle(turn(2, 1)))
	for c, want := range map[*impl.CycleSet]bool{&almost: false, {Table: [][]int64{{0}}}: true, {Table: trivialCycle(12).Table}: true,
		{Table: [][]int64{{0, 1, 2}, {0, 1, 2}, {1, 0, 2}}}: true, {Table: [][]int64{{1, 0, 2}, {1, 0, 2}, {1, 0, 2}}}: false} {
		if got, e := impl.IsSquareFreeCycleSet(*c); got != want || e != impl.ErrNone {
			t.Errorf("IsSquareFreeCycleSet(%v) = %v, %d", *c, got, e)
		}
	}
}

func TestAffineCycleSet(t *testing.T) {
	made := map[int64]int{}
	for n := int64(1); n <= impl.MaxSize; n++ {
		for a := range n {
			for b := range n {
				for c := range n {
					want := affineTable(int(n), a, b, c)
					is := hasRows(want.Table) && impl.IsPermutation(squaresOf(want.Table)) && faultOfDots(want.Table) == nil
					got, e := impl.AffineCycleSet(n, a, b, c)
					if is && (!equalCycles(got, want) || e != impl.ErrNone) || !is && (len(got.Table) != 0 || e != impl.ErrState) {
						t.Errorf("AffineCycleSet(%d, %d, %d, %d) = %v, %d", n, a, b, c, got, e)
					}
					if is {
						made[n]++
					}
				}
			}
		}
	}
	// It is a cycle set exactly if b has no common divisor with n, nor a + b, and a a is 0 by n.
	for n, want := range map[int64]int{1: 1, 2: 2, 3: 6, 4: 16, 5: 20, 8: 64, 9: 162, 11: 110, 12: 96} {
		if made[n] != want {
			t.Errorf("%d affine cycle sets of %d elements, want %d", made[n], n, want)
		}
	}
}

func TestAffineCycleSetRefused(t *testing.T) {
	refused := func(n int64, a int64, b int64, c int64) {
		t.Helper()
		if got, e := impl.AffineCycleSet(n, a, b, c); len(got.Table) != 0 || e != impl.ErrRange {
			t.Errorf("AffineCycleSet(%d, %d, %d, %d) = %v, %d", n, a, b, c, got, e)
		}
	}
	for _, n := range wrongSizes() {
		refused(n, 0, 1, 0)
		refused(n, 0, 0, 0)
		refused(n, n, n, n)
		refused(n, n-1, n-1, n-1)
	}
	for n := int64(1); n <= impl.MaxSize; n++ {
		for _, bad := range append(notElements(int(n)), -n, 1-n, 2*n, 1<<32+n) {
			if bad >= 0 && bad < n {
				continue
			}
			// Beside good numbers, and beside such as make no cycle set.
			for _, good := range []int64{0, n - 1} {
				refused(n, bad, good, good)
				refused(n, good, bad, good)
				refused(n, good, good, bad)
				refused(n, bad, bad, bad)
			}
		}
	}
}

func TestCycleSetTexts(t *testing.T) {
	texts := map[string]impl.CycleSet{
		"0": trivialCycle(1), "01/01": trivialCycle(2), "10/10": permutationCycle(turn(2, 1)), "1230/3012/1230/3012": affineTable(4, 2, 1, 1),
		strings.Repeat("ba0123456789/", 11) + "ba0123456789": permutationCycle([]int64{11, 10, 0, 1, 2, 3, 4, 5, 6, 7, 8, 9}),
		strings.Repeat("0123456789a/", 10) + "0123456789a":   trivialCycle(11),
	}
	for want, c := range texts {
		text, e := impl.CycleSetText(c)
		if text != want || e != impl.ErrNone {
			t.Errorf("CycleSetText(%v) = %q, %d", c, text, e)
		}
		back, e := impl.ParseCycleSet(want)
		if !equalCycles(back, c) || e != impl.ErrNone {
			t.Errorf("ParseCycleSet(%q) = %v, %d", want, back, e)
		}
	}
	great, _ := impl.CycleSetText(trivialCycle(12))
	bad := []string{"", "/", "1", "00", "01", "0/", "/0", "0/0", "0\n", " 0", "0 ", "0|0", "0x", "00/00", "00/11", "01/10", "10/01", "01/11", "01/01/",
		"021/210/102", "012/012/021/", "012/210/102", "012/012/012\n", "012/012/0120", "012/012/013", "012/012/01-1", "012 012 012", "012/01/012",
		"02/10", "A", "b", great + "0", great + "/", great + "\n", great + "/" + great, great[1:], great[:len(great)-1], strings.ToUpper(great),
		strings.Replace(great, "b", "c", 1), strings.Replace(great, "b", "a", 1), strings.Repeat("0123456789abc/", 12) + "0123456789abc",
		strings.Repeat("0", 100000), strings.Repeat("0/", 100000), "10/10|11/00"}
	for _, text := range bad {
		if c, e := impl.ParseCycleSet(text); len(c.Table) != 0 || e != impl.ErrSyntax {
			t.Errorf("ParseCycleSet(%q) = %v, %d, want ErrSyntax", text, c, e)
		}
	}
}
