package tests

import (
	"math"
	"slices"
	"testing"

	"loop.example/g01119/impl"
)

// checkBraceMade checks a brace that is to have two tables.
func checkBraceMade(t *testing.T, name string, want impl.Brace, got impl.Brace, c int64) {
	t.Helper()
	if !equalBraces(got, want) || c != impl.ErrNone {
		t.Errorf("%s = %v, %d, want %v", name, got, c, want)
	}
	if !impl.IsBrace(got) || faultOfBrace(got) != nil {
		t.Errorf("%s = %v is no brace", name, got)
	}
}

// Promise 11: trivial and turned braces are bi-skew. Turned ones are trivial exactly if the group is
// abelian.
func TestTrivialAndTurnedBraces(t *testing.T) {
	abelian := 0
	for _, u := range groupTables() {
		trivial, c := impl.TrivialBrace(grp(u))
		checkBraceMade(t, "TrivialBrace", brc(u, u), trivial, c)
		turned, c := impl.TurnedBrace(grp(u))
		checkBraceMade(t, "TurnedBrace", brc(u, transposedTable(u)), turned, c)
		isAbelian := equalTables(u, transposedTable(u))
		if isAbelian {
			abelian++
		}
		for _, b := range []impl.Brace{trivial, turned} {
			isTrivial := equalBraces(b, trivial)
			for name, want := range map[string]bool{"IsBiSkewBrace": true, "IsTwoSidedBrace": true, "IsTrivialBrace": isTrivial, "IsClassicalBrace": isAbelian} {
				if is, c := braceProperties()[name](b); is != want || c != impl.ErrNone {
					t.Errorf("%s(%v) = %v, %d", name, b, is, c)
				}
			}
			if !isTrivial && isAbelian {
				t.Errorf("TurnedBrace(%v) = %v is not trivial", u, b)
			}
		}
	}
	if other := len(groupTables()) - abelian; abelian < 30 || other < 20 {
		t.Errorf("%d abelian groups and %d others", abelian, other)
	}
	for name, g := range noGroups() {
		if b, c := impl.TrivialBrace(g); !isNoBrace(b, c, impl.ErrInvalid) {
			t.Errorf("TrivialBrace of %s = %v, %d", name, b, c)
		}
		if b, c := impl.TurnedBrace(g); !isNoBrace(b, c, impl.ErrInvalid) {
			t.Errorf("TurnedBrace of %s = %v, %d", name, b, c)
		}
	}
}

// hasPrimesOf reports whether all primes among the divisors of n are divisors of k.
func hasPrimesOf(n int64, k int64) bool {
	for _, p := range []int64{2, 3, 5, 7, 11} {
		if n%p == 0 && k%p != 0 {
			return false
		}
	}
	return true
}

// The numbers k of ring braces are multiples of the product of the primes of n.
func TestRingBraces(t *testing.T) {
	steps := []int64{0, 1, 2, 3, 2, 5, 6, 7, 2, 3, 10, 11, 6}
	made, refused := 0, 0
	for n := int64(1); n <= impl.MaxSize; n++ {
		for k := range n {
			b, c := impl.RingBrace(n, k)
			if hasPrimesOf(n, k) != (k%steps[n] == 0) {
				t.Fatalf("the primes of %d and %d", n, k)
			}
			if k%steps[n] != 0 {
				refused++
				if !isNoBrace(b, c, impl.ErrState) {
					t.Errorf("RingBrace(%d, %d) = %v, %d", n, k, b, c)
				}
				continue
			}
			made++
			circle := rackMade(int(n), func(x, y int64) int64 { return (x + y + k*x*y) % n }).Table
			checkBraceMade(t, "RingBrace", brc(sumTable(int(n)), circle), b, c)
			isTrivial, c := impl.IsTrivialBrace(b)
			if isTrivial != (k == 0) || c != impl.ErrNone {
				t.Errorf("RingBrace(%d, %d) is trivial: %v, %d", n, k, isTrivial, c)
			}
		}
	}
	if made != 12+1+3+2+1 || refused != 78-made {
		t.Errorf("%d ring braces, %d refused", made, refused)
	}
}

func TestRingBracesOutOfRange(t *testing.T) {
	for _, n := range wrongSizes() {
		for _, k := range []int64{0, 1, 2, 6, -1, 12, n, n - 1, math.MinInt64, math.MaxInt64} {
			if b, c := impl.RingBrace(n, k); !isNoBrace(b, c, impl.ErrRange) {
				t.Errorf("RingBrace(%d, %d) = %v, %d", n, k, b, c)
			}
		}
	}
	for n := int64(1); n <= impl.MaxSize; n++ {
		for _, k := range []int64{-1, -2, -6, -n, n, n + 1, 2 * n, 1 << 32, 1<<32 + 2, 1 << 62, math.MinInt64, math.MinInt64 + 2, math.MaxInt64, math.MaxInt64 - 1} {
			if b, c := impl.RingBrace(n, k); !isNoBrace(b, c, impl.ErrRange) {
				t.Errorf("RingBrace(%d, %d) = %v, %d", n, k, b, c)
			}
		}
	}
}

func TestNamedRingBraces(t *testing.T) {
	cases := []struct {
		n, k int64
		text string
	}{
		{1, 0, "0|0"},
		{2, 0, "01/10|01/10"},
		{3, 0, "012/120/201|012/120/201"},
		// 1 o 1 is 1 + 1 + 2, and 3 o 3 is 3 + 3 + 18.
		{4, 2, "0123/1230/2301/3012|0123/1032/2301/3210"},
		// 1 o 1 is 1 + 1 + 3, 2 o 4 is 2 + 4 + 24 = 3, and 8 o 8 is 8 + 8 + 192 = 1.
		{9, 3, "012345678/123456780/234567801/345678012/456780123/567801234/678012345/780123456/801234567|" +
			"012345678/150483726/207531864/345678012/483726150/531864207/678012345/726150483/864207531"},
	}
	for _, x := range cases {
		b, c := impl.RingBrace(x.n, x.k)
		text, d := impl.BraceText(b)
		if text != x.text || c != impl.ErrNone || d != impl.ErrNone {
			t.Errorf("RingBrace(%d, %d) has the text %q, codes %d and %d", x.n, x.k, text, c, d)
		}
	}
}

// The opposite of the opposite is the brace, the one of a trivial brace is a turned one, and both are
// equal exactly if the brace is classical.
func TestOppositeBraces(t *testing.T) {
	classical := 0
	for _, b := range someBraces() {
		opposite, c := impl.OppositeBrace(b)
		checkBraceMade(t, "OppositeBrace", brc(transposedTable(b.Add), b.Circle), opposite, c)
		again, c := impl.OppositeBrace(opposite)
		checkBraceMade(t, "OppositeBrace twice", b, again, c)
		isClassical, c := impl.IsClassicalBrace(b)
		if isClassical != equalBraces(b, opposite) || c != impl.ErrNone {
			t.Errorf("%v is classical: %v, %d", b, isClassical, c)
		}
		if isClassical {
			classical++
		}
	}
	for _, u := range groupTables() {
		trivial, _ := impl.TrivialBrace(grp(u))
		opposite, c := impl.OppositeBrace(trivial)
		checkBraceMade(t, "the opposite of a trivial brace", brc(transposedTable(u), u), opposite, c)
	}
	if other := len(someBraces()) - classical; classical < 300 || other < 300 {
		t.Errorf("%d classical braces and %d others", classical, other)
	}
}

// braceProperties returns the functions that report a property of a brace.
func braceProperties() map[string]func(impl.Brace) (bool, int64) {
	return map[string]func(impl.Brace) (bool, int64){
		"IsClassicalBrace": impl.IsClassicalBrace, "IsTrivialBrace": impl.IsTrivialBrace,
		"IsTwoSidedBrace": impl.IsTwoSidedBrace, "IsBiSkewBrace": impl.IsBiSkewBrace,
	}
}

// braceHas tells which properties a brace has.
func braceHas(b impl.Brace) map[string]bool {
	return map[string]bool{
		"IsClassicalBrace": equalTables(b.Add, transposedTable(b.Add)),
		"IsTrivialBrace":   equalTables(b.Add, b.Circle),
		"IsTwoSidedBrace":  isTwoSided(b),
		"IsBiSkewBrace":    faultOfBrace(brc(b.Circle, b.Add)) == nil,
	}
}

// isTwoSided reports whether (x + y) o z is ((x o z) - z) + (y o z) for all elements.
func isTwoSided(b impl.Brace) bool {
	for _, list := range everyList(len(b.Add), 3) {
		x, y, z := list[0], list[1], list[2]
		if b.Circle[b.Add[x][y]][z] != b.Add[difference(b.Add, b.Circle[x][z], z)][b.Circle[y][z]] {
			return false
		}
	}
	return true
}

// Each property is had and lacked by braces that have, and lack, any other one, as far as this may be:
// trivial braces are two-sided and bi-skew.
func TestPropertiesOfBraces(t *testing.T) {
	met := map[[4]bool]int{}
	for _, b := range someBraces() {
		has := braceHas(b)
		for name, property := range braceProperties() {
			if got, c := property(b); got != has[name] || c != impl.ErrNone {
				t.Errorf("%s(%v) = %v, %d", name, b, got, c)
			}
		}
		met[[4]bool{has["IsClassicalBrace"], has["IsTrivialBrace"], has["IsTwoSidedBrace"], has["IsBiSkewBrace"]}]++
	}
	for _, list := range everyList(2, 4) {
		key := [4]bool{list[0] == 1, list[1] == 1, list[2] == 1, list[3] == 1}
		possible := !key[1] || key[2] && key[3]
		if (met[key] > 0) != possible {
			t.Errorf("%d braces with the properties %v", met[key], key)
		}
	}
}

func TestNamedProperties(t *testing.T) {
	six := func(sign int64) [][]int64 {
		return rackMade(6, func(x, y int64) int64 {
			if x%2 == 1 {
				return (x + sign*y + 6) % 6
			}
			return (x + y) % 6
		}).Table
	}
	names := []string{"IsClassicalBrace", "IsTrivialBrace", "IsTwoSidedBrace", "IsBiSkewBrace"}
	cases := []struct {
		b    impl.Brace
		want []bool
	}{
		{brc([][]int64{{0}}, [][]int64{{0}}), []bool{true, true, true, true}},
		{brc(sumTable(12), sumTable(12)), []bool{true, true, true, true}},
		{brc(sumTable(4), flippedTable(2, 0)), []bool{true, false, true, true}},
		{brc(flippedTable(3, 0), flippedTable(3, 0)), []bool{false, true, true, true}},
		{brc(flippedTable(3, 0), transposedTable(flippedTable(3, 0))), []bool{false, false, true, true}},
		// x o y is x - y for odd x: (1 + 1) o 1 is 2 + 1 = 3, but ((1 o 1) - 1) + (1 o 1) is 0 - 1 + 0 = 5.
		{brc(sumTable(6), six(-1)), []bool{true, false, false, true}},
		// Where x o y is y o x, the brace is two-sided.
		{brc(six(-1), sumTable(6)), []bool{false, false, true, true}},
	}
	for _, x := range cases {
		for i, name := range names {
			if got, c := braceProperties()[name](x.b); got != x.want[i] || c != impl.ErrNone {
				t.Errorf("%s(%v) = %v, %d", name, x.b, got, c)
			}
		}
	}
	if !slices.Equal(six(1)[5], []int64{5, 0, 1, 2, 3, 4}) || !slices.Equal(six(-1)[1], []int64{1, 0, 5, 4, 3, 2}) {
		t.Errorf("sums of 6: %v, %v", six(1), six(-1))
	}
}
