package tests

import (
	"math"
	"math/rand"
	"slices"
	"strings"
	"testing"

	"loop.example/g01119/impl"
)

// rackMade returns the rack of n elements with x > y made by a function.
func rackMade(n int, f func(x, y int64) int64) impl.Rack {
	r := impl.Rack{Table: constantTable(n, 0)}
	for x := range int64(n) {
		for y := range int64(n) {
			r.Table[x][y] = f(x, y)
		}
	}
	return r
}

// trivialRack returns the rack of n elements with x > y = y.
func trivialRack(n int) impl.Rack { return permutationRack(identity(n)) }

// permutationRack returns the rack with x > y = p(y).
func permutationRack(p []int64) impl.Rack {
	return rackMade(len(p), func(_, y int64) int64 { return p[y] })
}

// affineRack returns the rack of n elements with (1 - a) x + a y modulo n as x > y; a is prime to n.
func affineRack(n int, a int64) impl.Rack {
	m := int64(n)
	return rackMade(n, func(x, y int64) int64 { return ((1-a)*x%m + a*y + m*m) % m })
}

// dihedralRack returns the rack of n elements with 2 x - y modulo n as x > y.
func dihedralRack(n int) impl.Rack { return affineRack(n, int64(n-1)) }

// conjugationRack returns the rack of permutations, each led to the one that is done by the inverse
// of another one, then by it, then by the other one.
func conjugationRack(list [][]int64) impl.Rack {
	return rackMade(len(list), func(x, y int64) int64 {
		conjugate := make([]int64, len(list[y]))
		for i := range conjugate {
			conjugate[list[x][i]] = list[x][list[y][i]]
		}
		return int64(slices.IndexFunc(list, func(p []int64) bool { return slices.Equal(p, conjugate) }))
	})
}

// classRack returns the conjugation rack of all permutations of n points with given lengths of
// cycles in ascending order.
func classRack(n int, lengths ...int64) impl.Rack {
	list := [][]int64{}
	for _, p := range everyPermutation(n) {
		if got, _ := impl.CycleLengths(p); slices.Equal(got, lengths) {
			list = append(list, p)
		}
	}
	return conjugationRack(list)
}

// tetrahedralRack returns the rack of the four turns of a tetrahedron around its corners.
func tetrahedralRack() impl.Rack {
	return conjugationRack([][]int64{{0, 2, 3, 1}, {3, 1, 0, 2}, {1, 3, 2, 0}, {2, 0, 1, 3}})
}

// unionOfRacks returns the rack whose elements act on those of the same part as there, and on others
// not at all.
func unionOfRacks(list ...impl.Rack) impl.Rack {
	all := impl.Rack{}
	for _, s := range list {
		r := all
		n := int64(len(r.Table))
		all = rackMade(len(r.Table)+len(s.Table), func(x, y int64) int64 {
			switch {
			case max(x, y) < n:
				return r.Table[x][y]
			case min(x, y) >= n:
				return n + s.Table[x-n][y-n]
			}
			return y
		})
	}
	return all
}

// productOfRacks returns the rack of pairs that act in both racks at once.
func productOfRacks(r impl.Rack, s impl.Rack) impl.Rack {
	m := int64(len(s.Table))
	return rackMade(len(r.Table)*len(s.Table), func(x, y int64) int64 {
		return r.Table[x/m][y/m]*m + s.Table[x%m][y%m]
	})
}

// faultOfRack returns the first list at which the condition of racks is not met, or nil.
func faultOfRack(t [][]int64) []int64 {
	for x := range t {
		for y := range t {
			for z := range t {
				if t[x][t[y][z]] != t[t[x][y]][t[x][z]] {
					return []int64{int64(x), int64(y), int64(z)}
				}
			}
		}
	}
	return nil
}

// hasRows reports whether all rows of a table are permutations.
func hasRows(t [][]int64) bool {
	return !slices.ContainsFunc(t, func(row []int64) bool {
		sorted := slices.Clone(row)
		slices.Sort(sorted)
		return !slices.Equal(sorted, identity(len(t)))
	})
}

// foundTables returns all tables of n elements with permutations as rows that are nowhere wrong: row
// after row, each of them dropped as soon as the rows so far are wrong at some x and y of them.
func foundTables(n int, isWrong func(t [][]int64, x int, y int) bool) [][][]int64 {
	found := [][][]int64{}
	rows := everyPermutation(n)
	t := [][]int64{}
	var search func()
	search = func() {
		for x := range t {
			for y := range t {
				if isWrong(t, x, y) {
					return
				}
			}
		}
		if len(t) == n {
			found = append(found, guardedTable(t))
			return
		}
		for _, row := range rows {
			t = append(t, row)
			search()
			t = t[:len(t)-1]
		}
	}
	search()
	return found
}

// foundRacks returns all racks with n elements, n at most 5, found without the program.
func foundRacks(n int) []impl.Rack {
	// The condition at x, y and all z tells of the rows of x, y and x > y alone.
	tables := foundTables(n, func(t [][]int64, x int, y int) bool {
		if int(t[x][y]) >= len(t) {
			return false
		}
		for z := range n {
			if t[x][t[y][z]] != t[t[x][y]][t[x][z]] {
				return true
			}
		}
		return false
	})
	found := []impl.Rack{}
	for _, t := range tables {
		found = append(found, impl.Rack{Table: t})
	}
	return found
}

// someRacks returns racks of different kinds with 1 to 12 elements, quandles and others.
func someRacks() []impl.Rack {
	list := slices.Concat(foundRacks(1), foundRacks(2), foundRacks(3))
	for n := 1; n <= impl.MaxSize; n++ {
		list = append(list, trivialRack(n), dihedralRack(n), permutationRack(turn(n, 1)), permutationRack(turn(n, n/2)))
	}
	three, four, swap := dihedralRack(3), tetrahedralRack(), permutationRack(turn(2, 1))
	list = append(list, affineRack(5, 2), affineRack(7, 3), affineRack(8, 5), affineRack(9, 2), affineRack(11, 2), affineRack(12, 5),
		four, classRack(4, 1, 1, 2), classRack(4, 4), classRack(5, 1, 1, 1, 2), classRack(4, 2, 2), classRack(3, 1, 2), classRack(4, 1, 3),
		unionOfRacks(three, four, permutationRack(turn(5, 1))), unionOfRacks(four, four), unionOfRacks(swap, three, trivialRack(2)),
		productOfRacks(three, permutationRack(turn(4, 1))), productOfRacks(swap, four), productOfRacks(four, dihedralRack(3)),
		productOfRacks(swap, classRack(4, 4)), permutationRack([]int64{1, 2, 0, 4, 5, 6, 3, 8, 9, 10, 11, 7}))
	r := rand.New(rand.NewSource(60))
	for _, s := range slices.Clone(list) {
		// Renamed, elements of one kind do not lie side by side.
		list = append(list, renamedRack(s, randomPermutation(r, len(s.Table))))
	}
	return list
}

// renamedRack returns the rack that has as p(x) > p(y) what p makes of x > y.
func renamedRack(r impl.Rack, p []int64) impl.Rack {
	s := impl.Rack{Table: constantTable(len(p), 0)}
	for x := range p {
		for y := range p {
			s.Table[p[x]][p[y]] = p[r.Table[x][y]]
		}
	}
	return s
}

// equalRacks reports whether two racks have equal tables.
func equalRacks(r impl.Rack, s impl.Rack) bool { return equalTables(r.Table, s.Table) }

// badRacks are tables, and lists of rows that are none, that are no racks.
func badRacks() map[string]impl.Rack {
	bad := map[string]impl.Rack{
		"rows that are no permutations":    {Table: [][]int64{{0, 0}, {1, 1}}},
		"last row that is no permutation":  {Table: [][]int64{{0, 1, 2}, {0, 1, 2}, {0, 1, 1}}},
		"first row that is no permutation": {Table: [][]int64{{1, 1, 2}, {0, 1, 2}, {0, 1, 2}}},
		"columns that are permutations":    {Table: [][]int64{{0, 0, 0}, {1, 1, 1}, {2, 2, 2}}},
		"fault of 2":                       {Table: [][]int64{{0, 1}, {1, 0}}},
		"fault of 3":                       {Table: [][]int64{{0, 1, 2}, {1, 2, 0}, {2, 0, 1}}},
		"sums of 12":                       {Table: sumTable(12)},
		"constant of 12":                   {Table: constantTable(12, 5)},
		"trivial of 13":                    trivialRack(13),
		"dihedral of 13":                   dihedralRack(13),
		"trivial of 100":                   trivialRack(100),
		"trivial without last row":         {Table: trivialRack(12).Table[:11]},
		"trivial with an element more":     {Table: [][]int64{{0, 1}, {0, 1}, {0, 1}}},
		"a negative element":               {Table: [][]int64{{0, 1}, {0, -1}}},
		"an element that is too great":     {Table: [][]int64{{0, 1}, {2, 1}}},
		"rows of different lengths":        {Table: [][]int64{{0, 1, 2}, {0, 1}, {0, 1, 2}}},
	}
	late := dihedralRack(12)
	late.Table[11][1], late.Table[11][3] = late.Table[11][3], late.Table[11][1]
	bad["dihedral with two elements exchanged"] = late
	for name, u := range badTables() {
		bad["table: "+name] = impl.Rack{Table: u}
	}
	return bad
}

// checkFault checks RackFault and IsRack against the definitions.
func checkFault(t *testing.T, u [][]int64) {
	t.Helper()
	r := impl.Rack{Table: u}
	want, wantCode := []int64(nil), int64(impl.ErrState)
	if hasRows(u) {
		want, wantCode = faultOfRack(u), impl.ErrNone
		if want == nil {
			wantCode = impl.ErrNotFound
		}
	}
	got, c := impl.RackFault(r)
	if !slices.Equal(got, want) || c != wantCode {
		t.Errorf("RackFault(%v) = %v, %d, want %v, %d", u, got, c, want, wantCode)
	}
	if is := wantCode == impl.ErrNotFound; impl.IsRack(r) != is {
		t.Errorf("IsRack(%v) = %v", u, !is)
	}
}

func TestRacksAndFaults(t *testing.T) {
	for n := 1; n <= 3; n++ {
		for _, u := range everyTable(n) {
			checkFault(t, u)
		}
	}
	for _, r := range someRacks() {
		checkFault(t, r.Table)
	}
	r := rand.New(rand.NewSource(61))
	for i := range 200 {
		n := 4 + i%9
		u := constantTable(n, 0)
		for x := range u {
			u[x] = randomPermutation(r, n)
		}
		checkFault(t, u)
		// Racks with two elements of a row exchanged, or with an element that is there twice.
		for _, s := range []impl.Rack{trivialRack(n), dihedralRack(n), permutationRack(turn(n, 1)), affineRack(11, 2)} {
			row := s.Table[r.Intn(len(s.Table))]
			x, y := r.Intn(len(row)), r.Intn(len(row))
			row[x], row[y] = row[y], row[x]
			checkFault(t, s.Table)
			row[x] = row[r.Intn(len(row))]
			checkFault(t, s.Table)
		}
	}
	late := trivialRack(12)
	late.Table[11][9], late.Table[11][10] = 10, 9
	if got, c := impl.RackFault(late); len(got) != 0 || c != impl.ErrNotFound {
		t.Errorf("one element that exchanges two others: %v, %d", got, c)
	}
	late.Table[11][10], late.Table[11][11] = 11, 9
	if got, c := impl.RackFault(late); !slices.Equal(got, []int64{11, 10, 9}) || c != impl.ErrNone {
		t.Errorf("one element that turns itself and two others: %v, %d", got, c)
	}
}

func TestRackFaultErrors(t *testing.T) {
	for name, u := range badTables() {
		got, c := impl.RackFault(impl.Rack{Table: u})
		if len(got) != 0 || c != impl.ErrInvalid {
			t.Errorf("RackFault of %s = %v, %d", name, got, c)
		}
	}
	// A row that is no permutation hides faults, and faults do not count without it.
	for _, u := range [][][]int64{{{0, 0}, {0, 0}}, {{0, 1}, {1, 1}}, {{1, 0}, {0, 0}}, constantTable(12, 0)} {
		got, c := impl.RackFault(impl.Rack{Table: u})
		if len(got) != 0 || c != impl.ErrState {
			t.Errorf("RackFault(%v) = %v, %d", u, got, c)
		}
	}
	// {{0, 0}, {0, 0}} meets the condition, and has no permutations as rows.
	if impl.IsRack(impl.Rack{Table: constantTable(2, 0)}) || impl.IsRack(impl.Rack{Table: constantTable(12, 3)}) {
		t.Errorf("a constant table is a rack")
	}
}

// callsOnRacks calls each function that takes one rack, and returns the codes and whether all other
// results are zero.
func callsOnRacks(r impl.Rack) (map[string]int64, bool) {
	codes, zero := map[string]int64{}, true
	keep := func(name string, c int64, isZero bool) {
		codes[name] = c
		zero = zero && isZero
	}
	for name, f := range properties() {
		ok, c := f(r)
		keep(name, c, !ok)
	}
	for name, f := range map[string]func(impl.Rack) (impl.Rack, int64){
		"DualRack": impl.DualRack, "QuandleOf": impl.QuandleOf, "LeastRack": impl.LeastRack,
	} {
		s, c := f(r)
		keep(name, c, len(s.Table) == 0)
	}
	for name, f := range map[string]func(impl.Rack) (int64, int64){
		"InnerOrder": impl.InnerOrder, "CountRackAutomorphisms": impl.CountRackAutomorphisms,
	} {
		n, c := f(r)
		keep(name, c, n == 0)
	}
	for name, f := range map[string]func(impl.Rack) ([]int64, int64){"RackOrbits": impl.RackOrbits, "KinkOf": impl.KinkOf} {
		list, c := f(r)
		keep(name, c, len(list) == 0)
	}
	s, c := impl.RackSolution(r)
	keep("RackSolution", c, isZero(s))
	text, c := impl.RackText(r)
	keep("RackText", c, text == "")
	return codes, zero
}

// properties returns the functions that report a property of a rack.
func properties() map[string]func(impl.Rack) (bool, int64) {
	return map[string]func(impl.Rack) (bool, int64){
		"IsQuandle": impl.IsQuandle, "IsConnectedRack": impl.IsConnectedRack, "IsLatinRack": impl.IsLatinRack,
		"IsFaithfulRack": impl.IsFaithfulRack, "IsInvolutoryRack": impl.IsInvolutoryRack, "IsMedialRack": impl.IsMedialRack,
	}
}

// ErrInvalid comes before all other errors.
func TestRacksRefused(t *testing.T) {
	for name, r := range badRacks() {
		if impl.IsRack(r) {
			t.Errorf("%s is accepted", name)
		}
		codes, zero := callsOnRacks(r)
		for f, c := range codes {
			code(t, f+" of "+name, c, impl.ErrInvalid)
		}
		if !zero {
			t.Errorf("%s: a result beside an error", name)
		}
		for _, good := range []impl.Rack{trivialRack(1), trivialRack(2), dihedralRack(12)} {
			for _, both := range [][2]impl.Rack{{r, good}, {good, r}, {r, r}} {
				n, c := impl.CountRackMaps(both[0], both[1])
				code(t, "CountRackMaps of "+name, c, impl.ErrInvalid)
				p, c := impl.RackIsomorphism(both[0], both[1])
				code(t, "RackIsomorphism of "+name, c, impl.ErrInvalid)
				if n != 0 || len(p) != 0 {
					t.Errorf("%s: a result beside an error", name)
				}
			}
		}
	}
}

// Racks of 1 and of MaxSize elements are racks, and have all that needs no least form.
func TestRacksOfAllSizes(t *testing.T) {
	for n := 1; n <= impl.MaxSize; n++ {
		for _, r := range []impl.Rack{trivialRack(n), dihedralRack(n), permutationRack(turn(n, 1))} {
			if !impl.IsRack(r) {
				t.Errorf("%v is refused", r)
			}
			codes, _ := callsOnRacks(r)
			for f, c := range codes {
				want := int64(impl.ErrNone)
				if n > impl.MaxForm && (f == "LeastRack" || f == "CountRackAutomorphisms") {
					want = impl.ErrLimit
				}
				code(t, f, c, want)
			}
		}
	}
}

// orbitNumbers numbers the orbits of the rows by their least elements: each element takes the least
// one that it reaches or that reaches it, until that makes no more difference.
func orbitNumbers(rows [][]int64) []int64 {
	least := identity(len(rows))
	for before := []int64{}; !slices.Equal(before, least); {
		before = slices.Clone(least)
		for _, row := range rows {
			for y, z := range row {
				both := min(least[y], least[z])
				least[y], least[z] = both, both
			}
		}
	}
	numbers, next := make([]int64, len(rows)), int64(0)
	for x, y := range least {
		if int64(x) == y {
			numbers[x] = next
			next++
		} else {
			numbers[x] = numbers[y]
		}
	}
	return numbers
}

// propertiesOf returns what the functions of properties should report.
func propertiesOf(u [][]int64) map[string]bool {
	quandle, latin, faithful, involutory := true, true, true, true
	for x := range u {
		quandle = quandle && u[x][x] == int64(x)
		column := []int64{}
		for y := range u {
			column = append(column, u[y][x])
			involutory = involutory && u[x][u[x][y]] == int64(y)
			faithful = faithful && (x == y || !slices.Equal(u[x], u[y]))
		}
		slices.Sort(column)
		latin = latin && slices.Equal(column, identity(len(u)))
	}
	return map[string]bool{
		"IsQuandle": quandle, "IsConnectedRack": slices.Max(orbitNumbers(u)) == 0, "IsLatinRack": latin,
		"IsFaithfulRack": faithful, "IsInvolutoryRack": involutory, "IsMedialRack": isMedial(u),
	}
}

// isMedial reports whether (x > y) > (z > w) is (x > z) > (y > w) for all elements.
func isMedial(u [][]int64) bool {
	for x := range u {
		for y := range u {
			for z := range u {
				for w := range u {
					if u[u[x][y]][u[z][w]] != u[u[x][z]][u[y][w]] {
						return false
					}
				}
			}
		}
	}
	return true
}

func TestPropertiesOfRacks(t *testing.T) {
	for _, r := range append(someRacks(), foundRacks(4)...) {
		wants := propertiesOf(r.Table)
		for name, f := range properties() {
			if got, c := f(r); got != wants[name] || c != impl.ErrNone {
				t.Errorf("%s(%v) = %v, %d", name, r, got, c)
			}
		}
		labels, c := impl.RackOrbits(r)
		if !slices.Equal(labels, orbitNumbers(r.Table)) || c != impl.ErrNone {
			t.Errorf("RackOrbits(%v) = %v, %d", r, labels, c)
		}
	}
}

// Each property is told of a rack that has it and of one that has not, known from elsewhere.
func TestPropertiesOfNamedRacks(t *testing.T) {
	cases := []struct {
		r    impl.Rack
		want string // of quandle, connected, latin, faithful, involutory and medial, those that hold
	}{
		{trivialRack(1), "qclfim"}, {trivialRack(2), "q---im"}, {trivialRack(12), "q---im"}, {dihedralRack(3), "qclfim"},
		{dihedralRack(4), "q---im"}, {dihedralRack(6), "q---im"}, {dihedralRack(11), "qclfim"}, {dihedralRack(12), "q---im"},
		{affineRack(5, 2), "qclf-m"}, {affineRack(8, 5), "q---im"}, {affineRack(11, 2), "qclf-m"}, {tetrahedralRack(), "qclf-m"},
		{classRack(4, 1, 1, 2), "qc-fi-"}, {classRack(4, 4), "qc-f--"}, {classRack(5, 1, 1, 1, 2), "qc-fi-"},
		{classRack(4, 1, 3), "q--f--"}, {permutationRack(turn(2, 1)), "-c--im"}, {permutationRack(turn(12, 1)), "-c---m"},
		{permutationRack(turn(12, 6)), "----im"}, {permutationRack(turn(12, 4)), "-----m"},
		{productOfRacks(dihedralRack(3), permutationRack(turn(4, 1))), "-c---m"},
		{unionOfRacks(dihedralRack(3), trivialRack(1)), "q--fi-"},
	}
	names := []string{"IsQuandle", "IsConnectedRack", "IsLatinRack", "IsFaithfulRack", "IsInvolutoryRack", "IsMedialRack"}
	for _, x := range cases {
		for i, name := range names {
			got, c := properties()[name](x.r)
			if got != (x.want[i] != '-') || c != impl.ErrNone {
				t.Errorf("%s(%v) = %v, %d", name, x.r, got, c)
			}
		}
	}
}

// The solution of a rack is a nondegenerate solution (guarantee of chapter 3).
func TestRackSolution(t *testing.T) {
	for _, r := range append(someRacks(), foundRacks(4)...) {
		s, c := impl.RackSolution(r)
		want := madeOf(len(r.Table), func(x, y int64) (int64, int64) { return r.Table[x][y], x })
		if !equalSolutions(s, want) || c != impl.ErrNone {
			t.Errorf("RackSolution(%v) = %v, %d", r, s, c)
		}
		if ok, _ := impl.IsNondegenerate(s); !ok || !impl.IsSolution(s) {
			t.Errorf("RackSolution(%v) = %v is no nondegenerate solution", r, s)
		}
	}
	// What is no rack, but has permutations as rows, would make none.
	for _, u := range [][][]int64{{{0, 1}, {1, 0}}, sumTable(5)} {
		if s := madeOf(len(u), func(x, y int64) (int64, int64) { return u[x][y], x }); impl.IsSolution(s) {
			t.Errorf("%v is a solution", s)
		}
	}
}

func TestInnerOrder(t *testing.T) {
	for _, r := range slices.Concat(someRacks(), foundRacks(4)) {
		got, c := impl.InnerOrder(r)
		if want := int64(len(groupOf(len(r.Table), r.Table))); got != want || c != impl.ErrNone {
			t.Errorf("InnerOrder(%v) = %d, %d, want %d", r, got, c, want)
		}
	}
	three, four, five := dihedralRack(3), tetrahedralRack(), affineRack(5, 2)
	wants := map[int64]impl.Rack{
		1: trivialRack(12), 6: three, 12: four, 20: five, 60: permutationRack([]int64{1, 2, 0, 4, 5, 6, 3, 8, 9, 10, 11, 7}),
		24: classRack(4, 4), 120: classRack(5, 1, 1, 1, 2), 110: affineRack(11, 2), 216: unionOfRacks(three, three, three),
		400: unionOfRacks(five, trivialRack(2), five), 840: unionOfRacks(affineRack(7, 3), five),
		864: unionOfRacks(three, four, four, trivialRack(1)), 1296: unionOfRacks(three, three, three, three),
	}
	for want, r := range wants {
		if got, c := impl.InnerOrder(r); got != want || c != impl.ErrNone {
			t.Errorf("InnerOrder(%v) = %d, %d, want %d", r, got, c, want)
		}
	}
}

// The inner group of a rack of at most 12 elements never has more than MaxInner permutations: its
// rows make up classes that are no greater than the orbits, and the transitive groups that such
// classes generate are small. Greater groups than MaxElements of chapter 1 are met.
func TestInnerOrderOfGreatGroups(t *testing.T) {
	if impl.MaxInner != 5000 {
		t.Errorf("MaxInner is %d", impl.MaxInner)
	}
	four := tetrahedralRack()
	r := unionOfRacks(four, four, four)
	if got, c := impl.InnerOrder(r); got != 1728 || c != impl.ErrNone {
		t.Errorf("InnerOrder(%v) = %d, %d", r, got, c)
	}
	if _, c := impl.GroupElements(12, r.Table); c != impl.ErrLimit {
		t.Errorf("GroupElements of the rows: code %d", c)
	}
	dual, _ := impl.DualRack(r)
	if got, c := impl.InnerOrder(dual); got != 1728 || c != impl.ErrNone {
		t.Errorf("InnerOrder(%v) = %d, %d", dual, got, c)
	}
}

// isAutomorphism reports whether renaming a rack by a list makes the same rack.
func isAutomorphism(r impl.Rack, p []int64) bool {
	u, c := impl.RenameTable(r.Table, p)
	return c == impl.ErrNone && equalTables(u, r.Table)
}

// Promise 3 and the guarantee: rows and kink are automorphisms, the kink commutes with the rows, the
// quandle of a rack is a quandle, and the dual of the dual is the rack.
func TestRowsKinksAndDuals(t *testing.T) {
	for _, r := range append(someRacks(), foundRacks(4)...) {
		kink, c := impl.KinkOf(r)
		code(t, "KinkOf", c, impl.ErrNone)
		if len(kink) != len(r.Table) || !isAutomorphism(r, kink) {
			t.Fatalf("KinkOf(%v) = %v", r, kink)
		}
		quandle, c := impl.QuandleOf(r)
		if ok, _ := impl.IsQuandle(quandle); !ok || c != impl.ErrNone {
			t.Fatalf("QuandleOf(%v) = %v, %d", r, quandle, c)
		}
		dual, c := impl.DualRack(r)
		if !impl.IsRack(dual) || c != impl.ErrNone || len(dual.Table) != len(r.Table) {
			t.Fatalf("DualRack(%v) = %v, %d", r, dual, c)
		}
		for x, row := range r.Table {
			if kink[x] != row[x] || !isAutomorphism(r, row) || !slices.Equal(doneThen(row, kink), doneThen(kink, row)) {
				t.Errorf("%v: kink %v, row %v", r, kink, row)
			}
			if !slices.Equal(doneThen(quandle.Table[x], kink), row) {
				t.Errorf("QuandleOf(%v) = %v", r, quandle)
			}
			if !slices.Equal(doneThen(dual.Table[x], row), identity(len(row))) {
				t.Errorf("DualRack(%v) = %v", r, dual)
			}
		}
		back, c := impl.DualRack(dual)
		if !equalRacks(back, r) || c != impl.ErrNone {
			t.Errorf("the dual of the dual of %v is %v, %d", r, back, c)
		}
	}
}

func TestRacksThatAreNoQuandles(t *testing.T) {
	swap := impl.Rack{Table: [][]int64{{1, 0}, {1, 0}}}
	kink, c := impl.KinkOf(swap)
	if !slices.Equal(kink, []int64{1, 0}) || c != impl.ErrNone {
		t.Errorf("KinkOf(%v) = %v, %d", swap, kink, c)
	}
	quandle, c := impl.QuandleOf(swap)
	if !equalRacks(quandle, trivialRack(2)) || c != impl.ErrNone {
		t.Errorf("QuandleOf(%v) = %v, %d", swap, quandle, c)
	}
	three, turned := dihedralRack(3), permutationRack(turn(4, 1))
	r := productOfRacks(three, turned)
	kink, _ = impl.KinkOf(r)
	quandle, _ = impl.QuandleOf(r)
	if !slices.Equal(kink, []int64{1, 2, 3, 0, 5, 6, 7, 4, 9, 10, 11, 8}) || !equalRacks(quandle, productOfRacks(three, trivialRack(4))) {
		t.Errorf("%v: kink %v, quandle %v", r, kink, quandle)
	}
	dual, _ := impl.DualRack(permutationRack(turn(12, 5)))
	if !equalRacks(dual, permutationRack(turn(12, 7))) {
		t.Errorf("the dual of a turn of 5 is %v", dual)
	}
	for _, q := range []impl.Rack{three, tetrahedralRack(), trivialRack(12), classRack(4, 4)} {
		same, _ := impl.QuandleOf(q)
		if kink, _ := impl.KinkOf(q); !equalRacks(same, q) || !slices.Equal(kink, identity(len(q.Table))) {
			t.Errorf("the quandle of the quandle %v is %v, its kink %v", q, same, kink)
		}
	}
}

func TestRackTexts(t *testing.T) {
	for _, r := range someRacks() {
		want, _ := impl.TableText(r.Table)
		text, c := impl.RackText(r)
		if text != want || c != impl.ErrNone {
			t.Errorf("RackText(%v) = %q, %d", r, text, c)
		}
		back, c := impl.ParseRack(text)
		if !equalRacks(back, r) || c != impl.ErrNone {
			t.Errorf("ParseRack(%q) = %v, %d", text, back, c)
		}
	}
	texts := map[string]impl.Rack{
		"0": trivialRack(1), "01/01": trivialRack(2), "10/10": permutationRack(turn(2, 1)), "021/210/102": dihedralRack(3),
		strings.Repeat("ba0123456789/", 11) + "ba0123456789": permutationRack([]int64{11, 10, 0, 1, 2, 3, 4, 5, 6, 7, 8, 9}),
		strings.Repeat("0123456789a/", 10) + "0123456789a":   trivialRack(11),
	}
	for want, r := range texts {
		text, c := impl.RackText(r)
		if text != want || c != impl.ErrNone {
			t.Errorf("RackText(%v) = %q, %d", r, text, c)
		}
		back, c := impl.ParseRack(want)
		if !equalRacks(back, r) || c != impl.ErrNone {
			t.Errorf("ParseRack(%q) = %v, %d", want, back, c)
		}
	}
}

func TestRackTextsRefused(t *testing.T) {
	great, _ := impl.RackText(trivialRack(12))
	bad := []string{"", "/", "1", "00", "01", "0/", "/0", "0/0", "0\n", "0 ", " 0", "0|", "0|0", "0x", "00/00", "00/11", "01/10", "10/01",
		"01/11", "012/120/201", "012/012/021/", "012/012/102 ", "021/210/102/", "021/210/102\n", "021/210/1020", "021/210/102x",
		"021/210/102|", "021/210/102\x00", "021/210/102/021", "021/210/103", "021/210/10-1", "021/210/120", "021 210 102", "021/21/102",
		"02/10", "0a/10", "A", "b", great + "0", great + "/", great + "b", great + "\n", great + "/" + great, great[1:], great[:len(great)-1],
		strings.ToUpper(great), strings.Replace(great, "b", "c", 1), strings.Replace(great, "b", "a", 1),
		strings.Repeat("0123456789abc/", 12) + "0123456789abc", strings.Repeat("0", 100000), strings.Repeat("0/", 100000)}
	for _, text := range bad {
		r, c := impl.ParseRack(text)
		if len(r.Table) != 0 || c != impl.ErrSyntax {
			t.Errorf("ParseRack(%q) = %v, %d, want ErrSyntax", text, r, c)
		}
	}
	// A text of a rack is that of a table, and most texts of tables are not texts of racks.
	count := 0
	for _, u := range everyTable(3) {
		text, _ := impl.TableText(u)
		r, c := impl.ParseRack(text)
		if impl.IsRack(impl.Rack{Table: u}) {
			count++
			code(t, "ParseRack of "+text, c, impl.ErrNone)
		} else if len(r.Table) != 0 || c != impl.ErrSyntax {
			t.Errorf("ParseRack(%q) = %v, %d", text, r, c)
		}
	}
	if count != len(foundRacks(3)) || count == 0 {
		t.Errorf("%d texts of racks of 3 elements", count)
	}
	for name, r := range badRacks() {
		if text, c := impl.RackText(r); text != "" || c != impl.ErrInvalid {
			t.Errorf("RackText of %s = %q, %d", name, text, c)
		}
	}
	for _, n := range []int64{math.MinInt64, math.MaxInt64} {
		if impl.IsRack(impl.Rack{Table: [][]int64{{n}}}) {
			t.Errorf("the element %d is accepted", n)
		}
	}
}
