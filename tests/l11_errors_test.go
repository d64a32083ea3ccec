package tests

import (
	"fmt"
	"math"
	"slices"
	"testing"

	"loop.example/g01119/impl"
)

// callsOnBrace calls each function that takes one brace, but BraceFault, and returns the codes and
// whether all other results are zero.
func callsOnBrace(b impl.Brace, x int64, y int64) (map[string]int64, bool) {
	codes, zero := map[string]int64{}, true
	for name, property := range braceProperties() {
		is, c := property(b)
		codes[name], zero = c, zero && !is
	}
	lambda, c := impl.LambdaOf(b)
	codes["LambdaOf"] = c
	s, c := impl.BraceSolution(b)
	codes["BraceSolution"] = c
	star, c := impl.StarOf(b, x, y)
	codes["StarOf"] = c
	opposite, c := impl.OppositeBrace(b)
	codes["OppositeBrace"] = c
	count, c := impl.CountBraceAutomorphisms(b)
	codes["CountBraceAutomorphisms"] = c
	least, c := impl.LeastBrace(b)
	codes["LeastBrace"] = c
	text, c := impl.BraceText(b)
	codes["BraceText"] = c
	p, c := impl.BraceIsomorphism(b, b)
	codes["BraceIsomorphism"] = c
	zero = zero && len(lambda) == 0 && isZero(s) && star == 0 && isNoBrace(opposite, 0, 0) && count == 0 && isNoBrace(least, 0, 0) && text == "" && len(p) == 0
	return codes, zero
}

// noPairsOfGroups returns what is given as braces, but has tables of which one is no group, or groups with
// different numbers of elements.
func noPairsOfGroups() map[string]impl.Brace {
	bad := map[string]impl.Brace{
		"no tables":         {},
		"empty tables":      brc([][]int64{}, [][]int64{}),
		"no table of Add":   brc(nil, sumTable(3)),
		"none of Circle":    brc(sumTable(3), nil),
		"1 and 2 elements":  brc(sumTable(1), sumTable(2)),
		"2 and 1 elements":  brc(sumTable(2), sumTable(1)),
		"12 and 11":         brc(sumTable(12), sumTable(11)),
		"11 and 12":         brc(sumTable(11), sumTable(12)),
		"4 and 6":           brc(flippedTable(2, 0), flippedTable(3, 0)),
		"13 elements":       brc(sumTable(13), sumTable(13)),
		"two loops":         brc(nonassociative(3), nonassociative(3)),
		"sums as one row":   brc([][]int64{{0, 1, 1, 0}}, sumTable(2)),
		"the second as one": brc(sumTable(2), [][]int64{{0, 1, 1, 0}}),
	}
	for name, g := range noGroups() {
		good := sumTable(min(max(len(g.Table), 1), impl.MaxSize))
		bad["Add: "+name] = brc(g.Table, good)
		bad["Circle: "+name] = brc(good, g.Table)
		bad["both: "+name] = brc(g.Table, g.Table)
	}
	return bad
}

// noBraces returns pairs of groups with equally many elements that are no braces.
func noBraces() map[string]impl.Brace {
	bad := map[string]impl.Brace{
		"sums of 5 renamed":  brc(sumTable(5), renamedGroup(sumTable(5), []int64{0, 2, 1, 3, 4})),
		"sums of 4 renamed":  brc(sumTable(4), renamedGroup(sumTable(4), []int64{0, 2, 1, 3})),
		"sums of 7 renamed":  brc(sumTable(7), renamedGroup(sumTable(7), []int64{0, 2, 1, 3, 4, 5, 6})),
		"sums of 12 renamed": brc(sumTable(12), renamedGroup(sumTable(12), []int64{0, 2, 1, 3, 4, 5, 6, 7, 8, 9, 10, 11})),
	}
	for n := 1; n <= impl.MaxSize; n++ {
		for i, u := range namedTables(n) {
			for k, v := range namedTables(n) {
				if b := brc(u, v); faultOfBrace(b) != nil {
					bad[fmt.Sprintf("the groups %d and %d of order %d", i, k, n)] = b
				}
			}
		}
	}
	return bad
}

// checkNoBrace checks what all functions but BraceFault make of what is no brace. ErrInvalid comes before
// ErrRange, ErrLimit and ErrNotFound.
func checkNoBrace(t *testing.T, name string, b impl.Brace) {
	t.Helper()
	if impl.IsBrace(b) {
		t.Errorf("%s is a brace", name)
	}
	for _, x := range []int64{0, 1, -1, 12, math.MinInt64, math.MaxInt64} {
		codes, zero := callsOnBrace(b, x, 0)
		checkCodes(t, name, impl.ErrInvalid, codes, zero)
		codes, zero = callsOnBrace(b, 0, x)
		checkCodes(t, name, impl.ErrInvalid, codes, zero)
	}
	for n := 1; n <= impl.MaxSize; n++ {
		good := brc(sumTable(n), sumTable(n))
		for _, pair := range [][2]impl.Brace{{b, good}, {good, b}} {
			if p, c := impl.BraceIsomorphism(pair[0], pair[1]); len(p) != 0 || c != impl.ErrInvalid {
				t.Errorf("BraceIsomorphism with %s = %v, %d", name, p, c)
			}
		}
	}
}

func TestWhatIsNoBrace(t *testing.T) {
	for name, b := range noPairsOfGroups() {
		checkNoBrace(t, name, b)
		if list, c := impl.BraceFault(b); len(list) != 0 || c != impl.ErrInvalid {
			t.Errorf("BraceFault of %s = %v, %d", name, list, c)
		}
	}
	bad := noBraces()
	for name, b := range bad {
		checkNoBrace(t, name, b)
		if list, c := impl.BraceFault(b); list == nil || !slices.Equal(list, faultOfBrace(b)) || c != impl.ErrNone {
			t.Errorf("BraceFault of %s = %v, %d", name, list, c)
		}
	}
	if len(bad) < 20 {
		t.Errorf("only %d pairs of groups that are no braces", len(bad))
	}
}

// The brace of one element is where each range is smallest.
func TestBraceOfOneElement(t *testing.T) {
	one := brc([][]int64{{0}}, [][]int64{{0}})
	for name, property := range braceProperties() {
		if is, c := property(one); !is || c != impl.ErrNone {
			t.Errorf("%s = %v, %d", name, is, c)
		}
	}
	for x, want := range map[int64]int64{-1: impl.ErrRange, 0: impl.ErrNone, 1: impl.ErrRange} {
		star, c := impl.StarOf(one, x, 0)
		other, d := impl.StarOf(one, 0, x)
		if star != 0 || other != 0 || c != want || d != want {
			t.Errorf("StarOf with %d: %d, %d, codes %d, %d", x, star, other, c, d)
		}
	}
	if list, c := impl.BraceFault(one); len(list) != 0 || c != impl.ErrNotFound || !impl.IsBrace(one) {
		t.Errorf("BraceFault = %v, %d", list, c)
	}
	trivial, c := impl.TrivialBrace(grp(one.Add))
	checkBraceMade(t, "TrivialBrace", one, trivial, c)
	turned, c := impl.TurnedBrace(grp(one.Add))
	checkBraceMade(t, "TurnedBrace", one, turned, c)
	ring, c := impl.RingBrace(1, 0)
	checkBraceMade(t, "RingBrace", one, ring, c)
	least, c := impl.LeastBrace(one)
	checkBraceMade(t, "LeastBrace", one, least, c)
}

// braceAndCode puts a brace into a list as checkMemory takes it.
func braceAndCode(b impl.Brace, c int64) []any { return []any{b.Add, b.Circle, c} }

// checkBraceMemory checks the functions that take a brace. The call makes it of its arguments.
func checkBraceMemory(t *testing.T, made func(a []any) impl.Brace, arguments ...any) {
	t.Helper()
	check := func(name string, call func(b impl.Brace) []any) {
		t.Helper()
		checkMemory(t, name, func(a []any) []any { return call(made(a)) }, arguments...)
	}
	check("IsBrace", func(b impl.Brace) []any { return []any{impl.IsBrace(b)} })
	check("BraceFault", func(b impl.Brace) []any { return listsAndCode(impl.BraceFault(b)) })
	check("LambdaOf", func(b impl.Brace) []any { return listsAndCode(impl.LambdaOf(b)) })
	check("BraceSolution", func(b impl.Brace) []any { return parts(impl.BraceSolution(b)) })
	check("StarOf", func(b impl.Brace) []any { return listsAndCode(impl.StarOf(b, 0, 0)) })
	check("OppositeBrace", func(b impl.Brace) []any { return braceAndCode(impl.OppositeBrace(b)) })
	for name, property := range braceProperties() {
		check(name, func(b impl.Brace) []any { return listsAndCode(property(b)) })
	}
	check("BraceIsomorphism", func(b impl.Brace) []any { return listsAndCode(impl.BraceIsomorphism(b, b)) })
	check("CountBraceAutomorphisms", func(b impl.Brace) []any { return listsAndCode(impl.CountBraceAutomorphisms(b)) })
	check("LeastBrace", func(b impl.Brace) []any { return braceAndCode(impl.LeastBrace(b)) })
	check("BraceText", func(b impl.Brace) []any { return listsAndCode(impl.BraceText(b)) })
	check("TrivialBrace", func(b impl.Brace) []any { return braceAndCode(impl.TrivialBrace(grp(b.Add))) })
	check("TurnedBrace", func(b impl.Brace) []any { return braceAndCode(impl.TurnedBrace(grp(b.Circle))) })
}

func TestChapter11KeepsMemoryApart(t *testing.T) {
	list := []impl.Brace{
		brc([][]int64{{0}}, [][]int64{{0}}), brc(sumTable(4), flippedTable(2, 0)), brc(flippedTable(2, 0), sumTable(4)), brc(flippedTable(3, 0), sumTable(6)), brc(sumTable(12), sumTable(12)),
		brc(sumTable(5), renamedGroup(sumTable(5), []int64{0, 2, 1, 3, 4})), brc(nonassociative(3), sumTable(6)), brc(sumTable(13), sumTable(13)), {}, brc([][]int64{{0, 1}, {1}}, sumTable(2)),
	}
	both := func(a []any) impl.Brace { return brc(a[0].([][]int64), a[1].([][]int64)) }
	same := func(a []any) impl.Brace { return brc(a[0].([][]int64), a[0].([][]int64)) }
	for _, b := range list {
		checkBraceMemory(t, both, b.Add, b.Circle)
		// One table as both tables.
		checkBraceMemory(t, same, b.Add)
		for _, c := range list {
			checkMemory(t, "BraceIsomorphism", func(a []any) []any { return listsAndCode(impl.BraceIsomorphism(both(a[:2]), both(a[2:]))) }, b.Add, b.Circle, c.Add, c.Circle)
		}
	}
	for n := range int64(impl.MaxSize + 2) {
		for _, k := range []int64{0, 2, 6} {
			checkMemory(t, "RingBrace", func(a []any) []any { return braceAndCode(impl.RingBrace(n, k)) })
		}
	}
	for _, text := range []string{"0|0", "01/10|01/10", "0123/1230/2301/3012|0123/1032/2301/3210", "01/10", ""} {
		checkMemory(t, "ParseBrace", func(a []any) []any { return braceAndCode(impl.ParseBrace(a[0].(string))) }, text)
	}
}

// The rows of both tables may lie in each other in one list. Nothing of it is changed, and no result has
// a part of it.
func TestBraceOfOverlappingRows(t *testing.T) {
	whole := slices.Concat(identity(6), identity(6))
	rows := func() [][]int64 {
		u := [][]int64{}
		for x := range 6 {
			u = append(u, whole[x:x+6])
		}
		return u
	}
	b := brc(rows(), rows())
	results := [][][]int64{}
	keep := func(name string, c impl.Brace, e int64) {
		checkBraceMade(t, name, brc(sumTable(6), sumTable(6)), c, e)
		results = append(results, c.Add, c.Circle)
	}
	trivial, e := impl.TrivialBrace(grp(b.Add))
	keep("TrivialBrace", trivial, e)
	turned, e := impl.TurnedBrace(grp(b.Add))
	keep("TurnedBrace", turned, e)
	opposite, e := impl.OppositeBrace(b)
	keep("OppositeBrace", opposite, e)
	least, e := impl.LeastBrace(b)
	code(t, "LeastBrace", e, impl.ErrNone)
	lambda, e := impl.LambdaOf(b)
	code(t, "LambdaOf", e, impl.ErrNone)
	s, e := impl.BraceSolution(b)
	code(t, "BraceSolution", e, impl.ErrNone)
	for _, row := range slices.Concat(slices.Concat(results...), least.Add, least.Circle, lambda, s.First, s.Second) {
		if slices.Contains(row, -1) {
			t.Errorf("two rows of the results are one")
		}
		fill(row, -1)
	}
	if !slices.Equal(whole, slices.Concat(identity(6), identity(6))) || !equalTables(b.Add, rows()) || !equalTables(b.Circle, rows()) {
		t.Errorf("the list is changed: %v", whole)
	}
}

// A result that is overwritten must not change what a later call returns.
func TestChapter11KeepsNoState(t *testing.T) {
	three, four := grp(flippedTable(3, 0)), brc(sumTable(4), flippedTable(2, 0))
	least := leastBraceOf(four)
	for range 3 {
		made := []impl.Brace{}
		keep := func(b impl.Brace, _ int64) { made = append(made, b) }
		keep(impl.TrivialBrace(three))
		keep(impl.TurnedBrace(three))
		keep(impl.RingBrace(4, 2))
		keep(impl.OppositeBrace(four))
		keep(impl.LeastBrace(four))
		keep(impl.ParseBrace("01/10|01/10"))
		wants := []impl.Brace{brc(three.Table, three.Table), brc(three.Table, transposedTable(three.Table)), four, four, least, brc(sumTable(2), sumTable(2))}
		lambda, _ := impl.LambdaOf(four)
		s, _ := impl.BraceSolution(four)
		p, _ := impl.BraceIsomorphism(four, four)
		list, _ := impl.BraceFault(brc(sumTable(4), renamedGroup(sumTable(4), []int64{0, 2, 1, 3})))
		if !equalTables(lambda, lambdaTable(four)) || !equalSolutions(s, solutionOfBrace(four)) || !slices.Equal(p, identity(4)) || !slices.Equal(list, []int64{2, 1, 1}) {
			t.Errorf("results %v, %v, %v, %v", lambda, s, p, list)
		}
		for i, b := range made {
			if !equalBraces(b, wants[i]) {
				t.Errorf("result %d: %v", i, b)
			}
		}
		for _, b := range append(made, brc(lambda, s.First), brc(s.Second, [][]int64{p, list})) {
			for _, row := range slices.Concat(b.Add, b.Circle) {
				fill(row, -1)
			}
			clear(b.Add)
			clear(b.Circle)
		}
	}
}
