package tests

import (
	"math/rand"
	"slices"
	"testing"

	"loop.example/g01119/impl"
)

// brc returns what is given as the two tables of a brace.
func brc(add [][]int64, circle [][]int64) impl.Brace { return impl.Brace{Add: add, Circle: circle} }

// equalBraces reports whether two braces have equal tables.
func equalBraces(b impl.Brace, c impl.Brace) bool {
	return equalTables(b.Add, c.Add) && equalTables(b.Circle, c.Circle)
}

// isNoBrace reports whether nothing is returned beside a code.
func isNoBrace(b impl.Brace, c int64, want int64) bool {
	return len(b.Add) == 0 && len(b.Circle) == 0 && c == want
}

// renamedBrace returns the brace that renaming both tables by a permutation makes.
func renamedBrace(b impl.Brace, p []int64) impl.Brace {
	return brc(renamedGroup(b.Add, p), renamedGroup(b.Circle, p))
}

// groupIsomorphisms returns all permutations by which two groups are isomorphic, in lexicographic order,
// each of them made element by element.
func groupIsomorphisms(u [][]int64, v [][]int64) [][]int64 {
	if len(u) != len(v) {
		return nil
	}
	lists := [][]int64{{0}}
	for range len(u) - 1 {
		longer := [][]int64{}
		for _, front := range lists {
			for y := range int64(len(v)) {
				if f := append(slices.Clone(front), y); !slices.Contains(front, y) && leadsProducts(u, v, f) {
					longer = append(longer, f)
				}
			}
		}
		lists = longer
	}
	return lists
}

// leadsProducts reports whether a list leads products of elements to products, as far as it leads them.
func leadsProducts(u [][]int64, v [][]int64, f []int64) bool {
	for x := range f {
		for y := range f {
			if z := u[x][y]; int(z) < len(f) && f[z] != v[f[x]][f[y]] {
				return false
			}
		}
	}
	return true
}

// circlesOn returns all tables that make a brace with a group: they lead x and y to x + f(y) for
// automorphisms f that belong to the elements x. The one of x + f(y) does that of y, then f.
func circlesOn(u [][]int64) [][][]int64 {
	automorphisms := groupIsomorphisms(u, u)
	found := [][][]int64{}
	var extend func(maps [][]int64)
	extend = func(maps [][]int64) {
		next := slices.IndexFunc(maps, func(f []int64) bool { return f == nil })
		if next < 0 {
			found = append(found, rackMade(len(u), func(x, y int64) int64 { return u[x][maps[x][y]] }).Table)
			return
		}
		for _, f := range automorphisms {
			longer := slices.Clone(maps)
			longer[next] = f
			if completeMaps(u, longer) {
				extend(longer)
			}
		}
	}
	maps := make([][]int64, len(u))
	maps[0] = identity(len(u))
	extend(maps)
	return found
}

// completeMaps adds all automorphisms to a list that those in it tell, and reports whether none of them
// are told to be different.
func completeMaps(u [][]int64, maps [][]int64) bool {
	for isNew := true; isNew; {
		isNew = false
		for x, f := range maps {
			for y, g := range maps {
				if f == nil || g == nil {
					continue
				}
				z, both := u[x][f[y]], doneThen(g, f)
				if maps[z] == nil {
					maps[z], isNew = both, true
				}
				if !slices.Equal(maps[z], both) {
					return false
				}
			}
		}
	}
	return true
}

// braceClass is a list of braces on one group that its automorphisms lead to each other, and the number
// of these.
type braceClass struct {
	list          []impl.Brace
	automorphisms int
}

// braceClasses returns the classes of all braces on the named groups of an order.
func braceClasses(n int) []braceClass {
	classes := []braceClass{}
	for _, u := range namedTables(n) {
		automorphisms := groupIsomorphisms(u, u)
		circles := circlesOn(u)
		for len(circles) > 0 {
			class := braceClass{automorphisms: len(automorphisms)}
			for _, f := range automorphisms {
				same := renamedGroup(circles[0], f)
				if !slices.ContainsFunc(class.list, func(b impl.Brace) bool { return equalTables(b.Circle, same) }) {
					class.list = append(class.list, brc(u, same))
				}
			}
			circles = slices.DeleteFunc(circles, func(c [][]int64) bool {
				return slices.ContainsFunc(class.list, func(b impl.Brace) bool { return equalTables(b.Circle, c) })
			})
			classes = append(classes, class)
		}
	}
	return classes
}

// bracesOf returns all braces on the named groups of an order, and one that renaming makes of each.
func bracesOf(n int) []impl.Brace {
	r := rand.New(rand.NewSource(int64(110 + n)))
	list := []impl.Brace{}
	for _, class := range braceClasses(n) {
		for _, b := range class.list {
			list = append(list, b, renamedBrace(b, keepingZero(r, n)))
		}
	}
	return list
}

// someBraces returns braces of all sizes.
func someBraces() []impl.Brace {
	list := []impl.Brace{}
	for n := 1; n <= impl.MaxSize; n++ {
		list = append(list, bracesOf(n)...)
	}
	return list
}

// classCounts returns how many braces with n elements there are, and how many of them are classical, if
// isomorphic ones are counted as one. (The index is n.)
func classCounts() (all []int, classical []int) {
	return []int{0, 1, 1, 1, 4, 1, 6, 1, 47, 4, 6, 1, 38}, []int{0, 1, 1, 1, 4, 1, 2, 1, 27, 4, 2, 1, 10}
}

// The braces of these tests are all that there are.
func TestBracesOfTheTests(t *testing.T) {
	all, classical := classCounts()
	for n := 1; n <= impl.MaxSize; n++ {
		classes := braceClasses(n)
		commuting := 0
		for _, class := range classes {
			if equalTables(class.list[0].Add, transposedTable(class.list[0].Add)) {
				commuting++
			}
		}
		if len(classes) != all[n] || commuting != classical[n] {
			t.Errorf("%d classes of braces with %d elements, %d of them classical", len(classes), n, commuting)
		}
	}
}

// faultOfBrace returns the first list {x, y, z} for which x o (y + z) and ((x o y) - x) + (x o z)
// differ, or nil.
func faultOfBrace(b impl.Brace) []int64 {
	for x := range int64(len(b.Add)) {
		for y := range int64(len(b.Add)) {
			for z := range int64(len(b.Add)) {
				left := b.Circle[x][b.Add[y][z]]
				right := b.Add[difference(b.Add, b.Circle[x][y], x)][b.Circle[x][z]]
				if left != right {
					return []int64{x, y, z}
				}
			}
		}
	}
	return nil
}

// difference returns x - y: the element to which y is added to make x.
func difference(u [][]int64, x int64, y int64) int64 {
	for d := range int64(len(u)) {
		if u[d][y] == x {
			return d
		}
	}
	return -1
}

// checkIsBrace checks whether two tables of groups with equally many elements are a brace.
func checkIsBrace(t *testing.T, b impl.Brace) bool {
	t.Helper()
	want := faultOfBrace(b)
	list, c := impl.BraceFault(b)
	if !slices.Equal(list, want) || (c == impl.ErrNone) != (want != nil) || (c == impl.ErrNotFound) != (want == nil) {
		t.Errorf("BraceFault(%v) = %v, %d, want %v", b, list, c, want)
	}
	if is := impl.IsBrace(b); is != (want == nil) {
		t.Errorf("IsBrace(%v) = %v", b, is)
	}
	return want == nil
}

// groupsOf returns the tables of all groups with n elements.
func groupsOf(n int) [][][]int64 {
	list, met := [][][]int64{}, map[string]bool{}
	for _, u := range namedTables(n) {
		for _, p := range everyPermutation(n - 1) {
			q := []int64{0}
			for _, x := range p {
				q = append(q, x+1)
			}
			v := renamedGroup(u, q)
			if key := textOf(slices.Concat(v...)); !met[key] {
				met[key] = true
				list = append(list, v)
			}
		}
	}
	return list
}

// All pairs of groups with few elements. There are as many braces as groups times circles.
func TestIsBraceOfAllGroups(t *testing.T) {
	groups := []int{0, 1, 1, 1, 4, 6, 80, 120}
	braces := []int{0, 1, 1, 1, 3*2 + 1*4, 6, 60*2 + 20*8, 120}
	for n := 1; n <= 7; n++ {
		list, count := groupsOf(n), 0
		for _, u := range list {
			for _, v := range list {
				if checkIsBrace(t, brc(u, v)) {
					count++
				}
			}
		}
		if len(list) != groups[n] || count != braces[n] {
			t.Errorf("%d groups and %d braces with %d elements", len(list), count, n)
		}
	}
}

func TestIsBraceOfManyElements(t *testing.T) {
	r := rand.New(rand.NewSource(111))
	not := 0
	for _, b := range someBraces() {
		if !checkIsBrace(t, b) {
			t.Errorf("%v is no brace", b)
		}
		if n := len(b.Add); n > 7 && !checkIsBrace(t, brc(b.Add, renamedGroup(b.Circle, keepingZero(r, n)))) {
			not++
		}
	}
	for n := 8; n <= impl.MaxSize; n++ {
		for _, u := range namedTables(n) {
			for _, v := range namedTables(n) {
				checkIsBrace(t, brc(u, v))
			}
		}
	}
	if not < 200 {
		t.Errorf("only %d pairs of groups that are no braces", not)
	}
}

func TestNamedFaults(t *testing.T) {
	cases := []struct {
		b    impl.Brace
		want []int64
	}{
		{brc([][]int64{{0}}, [][]int64{{0}}), nil},
		{brc(sumTable(3), sumTable(3)), nil},
		{brc(sumTable(4), flippedTable(2, 0)), nil},
		// 1 o (1 + 1) is 1 o 2 = 3, but ((1 o 1) - 1) + (1 o 1) is (4 - 1) + 4 = 2.
		{brc(sumTable(5), renamedGroup(sumTable(5), []int64{0, 2, 1, 3, 4})), []int64{1, 1, 1}},
		// 1 o (1 + 1) is 1 o 2 = 0, and ((1 o 1) - 1) + (1 o 1) is (3 - 1) + 3 = 0, too; 1 o (1 + 2) is
		// 1 o 3 = 4, but ((1 o 1) - 1) + (1 o 2) is (3 - 1) + 0 = 2.
		{brc(sumTable(5), renamedGroup(sumTable(5), []int64{0, 1, 3, 4, 2})), []int64{1, 1, 2}},
		// What lambda for 1 would be is an automorphism; but 2 o (1 + 1) is 2 o 2 = 1, and
		// ((2 o 1) - 2) + (2 o 1) is (3 - 2) + 3 = 0.
		{brc(sumTable(4), renamedGroup(sumTable(4), []int64{0, 2, 1, 3})), []int64{2, 1, 1}},
	}
	for _, x := range cases {
		got, c := impl.BraceFault(x.b)
		if !slices.Equal(got, x.want) || (c == impl.ErrNone) != (x.want != nil) || (c == impl.ErrNotFound) != (x.want == nil) {
			t.Errorf("BraceFault(%v) = %v, %d, want %v", x.b, got, c, x.want)
		}
	}
}

// lambdaTable returns the elements z with x + z = x o y.
func lambdaTable(b impl.Brace) [][]int64 {
	return rackMade(len(b.Add), func(x, y int64) int64 { return int64(slices.Index(b.Add[x], b.Circle[x][y])) }).Table
}

// solutionOfBrace returns the solution that leads (x, y) to what lambda for x makes of y, and to the
// element that makes x o y behind it.
func solutionOfBrace(b impl.Brace) impl.Solution {
	lambda := lambdaTable(b)
	return madeOf(len(b.Add), func(x, y int64) (int64, int64) {
		z := lambda[x][y]
		return z, int64(slices.Index(b.Circle[z], b.Circle[x][y]))
	})
}

// checkLambda checks the maps lambda. Promise 11: they are automorphisms of Add, done one after the
// other as elements are multiplied by Circle.
func checkLambda(t *testing.T, b impl.Brace) {
	t.Helper()
	lambda, c := impl.LambdaOf(b)
	if !equalTables(lambda, lambdaTable(b)) || c != impl.ErrNone {
		t.Fatalf("LambdaOf(%v) = %v, %d", b, lambda, c)
	}
	for x, f := range lambda {
		if !hasIsomorphism(b.Add, b.Add, f) {
			t.Errorf("lambda of %v for %d is %v", b, x, f)
		}
		for y, g := range lambda {
			if !slices.Equal(lambda[b.Circle[x][y]], doneThen(g, f)) {
				t.Errorf("lambda of %v for %d o %d is %v", b, x, y, lambda[b.Circle[x][y]])
			}
		}
	}
}

// checkBraceSolution checks the solution. Promise 24: it is a nondegenerate solution, involutive exactly
// if the brace is classical, its derived rack is the dual of the conjugation of Add, and its inverse is
// the solution of the opposite.
func checkBraceSolution(t *testing.T, b impl.Brace) {
	t.Helper()
	s, c := impl.BraceSolution(b)
	if !equalSolutions(s, solutionOfBrace(b)) || c != impl.ErrNone {
		t.Fatalf("BraceSolution(%v) = %v, %d", b, s, c)
	}
	isNondegenerate, c := impl.IsNondegenerate(s)
	if !impl.IsSolution(s) || !isNondegenerate || c != impl.ErrNone {
		t.Errorf("BraceSolution(%v) = %v", b, s)
	}
	isInvolutive, c := impl.IsInvolutive(s)
	isClassical, d := impl.IsClassicalBrace(b)
	if isInvolutive != isClassical || c != impl.ErrNone || d != impl.ErrNone {
		t.Errorf("%v is classical: %v, and its solution is involutive: %v", b, isClassical, isInvolutive)
	}
	derived, c := impl.DerivedRack(s)
	conjugation, d := impl.GroupConjugation(grp(b.Add))
	dual, e := impl.DualRack(conjugation)
	if !equalRacks(derived, dual) || c != impl.ErrNone || d != impl.ErrNone || e != impl.ErrNone {
		t.Errorf("the derived rack of %v is %v", b, derived)
	}
	opposite, c := impl.OppositeBrace(b)
	other, d := impl.BraceSolution(opposite)
	inverse, e := impl.InverseSolution(s)
	if !equalSolutions(other, inverse) || c != impl.ErrNone || d != impl.ErrNone || e != impl.ErrNone {
		t.Errorf("the solution of the opposite of %v is %v", b, other)
	}
}

// checkStars checks the stars of all elements, and numbers that are none.
func checkStars(t *testing.T, b impl.Brace) {
	t.Helper()
	n, lambda := len(b.Add), lambdaTable(b)
	for x := range int64(n) {
		for y := range int64(n) {
			want := difference(b.Add, lambda[x][y], y)
			if star, c := impl.StarOf(b, x, y); star != want || c != impl.ErrNone {
				t.Errorf("StarOf(%v, %d, %d) = %d, %d, want %d", b, x, y, star, c, want)
			}
		}
	}
	for _, x := range notElements(n) {
		for _, y := range []int64{0, int64(n) - 1, x, -1} {
			for _, p := range [][2]int64{{x, y}, {y, x}} {
				if star, c := impl.StarOf(b, p[0], p[1]); star != 0 || c != impl.ErrRange {
					t.Errorf("StarOf(%v, %d, %d) = %d, %d", b, p[0], p[1], star, c)
				}
			}
		}
	}
}

func TestMapsOfBraces(t *testing.T) {
	for _, b := range someBraces() {
		checkLambda(t, b)
		checkBraceSolution(t, b)
		checkStars(t, b)
	}
}

func TestNamedMaps(t *testing.T) {
	cases := []struct {
		b                      impl.Brace
		lambda, solution, star string
	}{
		{brc([][]int64{{0}}, [][]int64{{0}}), "0", "0|0", "0"},
		// The lambda of odd elements leads each element to its inverse. 1 o 1 is 0, which is 3 o 3.
		{brc(sumTable(4), flippedTable(2, 0)), "0123/0321/0123/0321", "0123/0321/0123/0321|0000/1313/2222/3131", "0000/0202/0000/0202"},
		// The turned brace of the turns 0, 1 and 2 and the flips 3, 4 and 5. Lambda for x leads y to
		// -x + y + x: that for 1 leads 3 to 2 + 3 + 1 = 5 + 1 = 4, and w is x. The star of 1 and 3 is 4 - 3,
		// which is 1 because 1 + 3 is 4.
		{brc(flippedTable(3, 0), transposedTable(flippedTable(3, 0))), "012345/012453/012534/021354/021543/021435", "012345/012453/012534/021354/021543/021435|000000/111111/222222/333333/444444/555555", "000000/000111/000222/012012/012201/012120"},
	}
	for _, x := range cases {
		lambda, c := impl.LambdaOf(x.b)
		s, d := impl.BraceSolution(x.b)
		code(t, "LambdaOf", c, impl.ErrNone)
		code(t, "BraceSolution", d, impl.ErrNone)
		stars := rackMade(len(lambda), func(y, z int64) int64 {
			star, c := impl.StarOf(x.b, y, z)
			code(t, "StarOf", c, impl.ErrNone)
			return star
		})
		maps, _ := impl.TableText(lambda)
		pairs, _ := impl.SolutionText(s)
		star, _ := impl.TableText(stars.Table)
		if maps != x.lambda || pairs != x.solution || star != x.star {
			t.Errorf("lambda %s, solution %s and stars %s of %v", maps, pairs, star, x.b)
		}
	}
}
