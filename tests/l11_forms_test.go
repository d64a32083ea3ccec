package tests

import (
	"slices"
	"strings"
	"testing"

	"loop.example/g01119/impl"
)

// hasBraceIsomorphism reports whether two braces are isomorphic by a list.
func hasBraceIsomorphism(b impl.Brace, c impl.Brace, p []int64) bool {
	return hasIsomorphism(b.Add, c.Add, p) && hasIsomorphism(b.Circle, c.Circle, p)
}

// braceIsomorphisms returns all permutations by which two braces are isomorphic, in lexicographic order.
func braceIsomorphisms(b impl.Brace, c impl.Brace) [][]int64 {
	return slices.DeleteFunc(groupIsomorphisms(b.Add, c.Add), func(p []int64) bool { return !hasBraceIsomorphism(b, c, p) })
}

// checkBraceMatch checks the isomorphism of two braces, and reports whether there is one.
func checkBraceMatch(t *testing.T, b impl.Brace, c impl.Brace) bool {
	t.Helper()
	all := braceIsomorphisms(b, c)
	p, e := impl.BraceIsomorphism(b, c)
	if len(all) > 0 && (!slices.Equal(p, all[0]) || e != impl.ErrNone) || len(all) == 0 && (len(p) != 0 || e != impl.ErrNotFound) {
		t.Errorf("BraceIsomorphism(%v, %v) = %v, %d, want the first of %v", b, c, p, e, all)
	}
	return len(all) > 0
}

// Braces of a class are isomorphic, and have as many automorphisms as the group has for each of them;
// those of different classes, also of different sizes, are not isomorphic.
func TestBraceIsomorphisms(t *testing.T) {
	firsts := []impl.Brace{}
	for n := 1; n <= impl.MaxSize; n++ {
		for _, class := range braceClasses(n) {
			firsts = append(firsts, class.list[0])
			want := int64(class.automorphisms / len(class.list))
			for _, b := range class.list {
				if !checkBraceMatch(t, class.list[0], b) {
					t.Errorf("%v and %v are not isomorphic", class.list[0], b)
				}
				if count, c := impl.CountBraceAutomorphisms(b); count != want || c != impl.ErrNone || len(braceIsomorphisms(b, b)) != int(want) {
					t.Errorf("CountBraceAutomorphisms(%v) = %d, %d, want %d", b, count, c, want)
				}
			}
		}
	}
	sameAdd, sameCircle := 0, 0
	for i, b := range firsts {
		for k, c := range firsts {
			p, e := impl.BraceIsomorphism(b, c)
			if (i == k) != (e == impl.ErrNone) || i != k && (len(p) != 0 || e != impl.ErrNotFound) {
				t.Errorf("BraceIsomorphism(%v, %v) = %v, %d", b, c, p, e)
			}
			if i != k && equalTables(b.Add, c.Add) {
				sameAdd++
			}
			if i != k && equalTables(b.Circle, c.Circle) {
				sameCircle++
			}
		}
	}
	if sameAdd < 100 || sameCircle < 10 {
		t.Errorf("%d pairs with equal tables of Add, %d with equal tables of Circle", sameAdd, sameCircle)
	}
}

// Renamed braces are isomorphic, both ways, and renaming by the isomorphism makes the other one.
func TestRenamedBraces(t *testing.T) {
	for n := 1; n <= impl.MaxSize; n++ {
		list := bracesOf(n)
		for i := 0; i < len(list); i += 2 {
			for _, pair := range [][2]impl.Brace{{list[i], list[i+1]}, {list[i+1], list[i]}} {
				if !checkBraceMatch(t, pair[0], pair[1]) {
					t.Errorf("%v and %v are not isomorphic", pair[0], pair[1])
				}
			}
			count, c := impl.CountBraceAutomorphisms(list[i])
			again, d := impl.CountBraceAutomorphisms(list[i+1])
			if count != again || c != impl.ErrNone || d != impl.ErrNone {
				t.Errorf("CountBraceAutomorphisms: %d of %v, %d of %v", count, list[i], again, list[i+1])
			}
		}
	}
}

// Isomorphisms of braces with few elements, among all permutations.
func TestBraceIsomorphismsAmongAllPermutations(t *testing.T) {
	for n := 1; n <= 6; n++ {
		list := bracesOf(n)
		for _, b := range list {
			for _, c := range list {
				all := slices.DeleteFunc(everyPermutation(n), func(p []int64) bool { return !hasBraceIsomorphism(b, c, p) })
				if !equalTables(all, braceIsomorphisms(b, c)) {
					t.Fatalf("%v and %v are isomorphic by %v", b, c, all)
				}
				checkBraceMatch(t, b, c)
			}
		}
	}
}

func TestNamedBraceIsomorphisms(t *testing.T) {
	four := brc(sumTable(4), flippedTable(2, 0))
	plane := productTable(sumTable(2), sumTable(2))
	cases := []struct {
		b, c  impl.Brace
		want  []int64
		count int64
	}{
		{brc([][]int64{{0}}, [][]int64{{0}}), brc([][]int64{{0}}, [][]int64{{0}}), []int64{0}, 1},
		{four, four, []int64{0, 1, 2, 3}, 2},
		{four, renamedBrace(four, []int64{0, 3, 1, 2}), []int64{0, 2, 1, 3}, 2},
		// The same table of Circle, but other groups of Add; and the same group of Add alone.
		{four, brc(plane, plane), nil, 2},
		{brc(plane, plane), four, nil, 6},
		{four, brc(sumTable(4), sumTable(4)), nil, 2},
		// Both groups are isomorphic, but the isomorphisms that there are differ.
		{brc(plane, sumTable(4)), brc(plane, renamedGroup(sumTable(4), []int64{0, 2, 1, 3})), []int64{0, 2, 1, 3}, 2},
		{brc(flippedTable(3, 0), flippedTable(3, 0)), brc(flippedTable(3, 0), transposedTable(flippedTable(3, 0))), nil, 6},
		{brc(sumTable(12), sumTable(12)), brc(sumTable(11), sumTable(11)), nil, 4},
		{brc(sumTable(11), sumTable(11)), brc(sumTable(12), sumTable(12)), nil, 10},
		{brc([][]int64{{0}}, [][]int64{{0}}), brc(sumTable(2), sumTable(2)), nil, 1},
	}
	for _, x := range cases {
		p, c := impl.BraceIsomorphism(x.b, x.c)
		if !slices.Equal(p, x.want) || (c == impl.ErrNone) != (x.want != nil) || (c == impl.ErrNotFound) != (x.want == nil) {
			t.Errorf("BraceIsomorphism(%v, %v) = %v, %d, want %v", x.b, x.c, p, c, x.want)
		}
		if count, c := impl.CountBraceAutomorphisms(x.b); count != x.count || c != impl.ErrNone {
			t.Errorf("CountBraceAutomorphisms(%v) = %d, %d", x.b, count, c)
		}
	}
}

// compareBraces compares the rows of Add, and then of Circle.
func compareBraces(b impl.Brace, c impl.Brace) int {
	return slices.CompareFunc(slices.Concat(b.Add, b.Circle), slices.Concat(c.Add, c.Circle), slices.Compare[[]int64])
}

// leastBraceOf returns the least one of all that renaming by permutations that keep 0 makes of a brace.
func leastBraceOf(b impl.Brace) impl.Brace {
	least := b
	for _, p := range everyPermutation(len(b.Add)) {
		if c := renamedBrace(b, p); p[0] == 0 && compareBraces(c, least) < 0 {
			least = c
		}
	}
	return least
}

// Braces are isomorphic exactly if they have the same least form.
func TestLeastBraces(t *testing.T) {
	for n := 1; n <= impl.MaxForm; n++ {
		forms := []impl.Brace{}
		for _, class := range braceClasses(n) {
			want := leastBraceOf(class.list[0])
			if slices.ContainsFunc(forms, func(b impl.Brace) bool { return equalBraces(b, want) }) {
				t.Errorf("two classes have the least form %v", want)
			}
			forms = append(forms, want)
			for _, b := range class.list {
				least, c := impl.LeastBrace(b)
				checkBraceMade(t, "LeastBrace", want, least, c)
			}
		}
		for _, b := range bracesOf(n) {
			least, c := impl.LeastBrace(b)
			if c != impl.ErrNone || !slices.ContainsFunc(forms, func(f impl.Brace) bool { return equalBraces(f, least) }) || !checkBraceMatch(t, b, least) {
				t.Errorf("LeastBrace(%v) = %v, %d", b, least, c)
			}
			again, c := impl.LeastBrace(least)
			checkBraceMade(t, "LeastBrace twice", least, again, c)
		}
	}
}

func TestLeastBracesOfManyElements(t *testing.T) {
	for n := impl.MaxForm + 1; n <= impl.MaxSize; n++ {
		for _, b := range bracesOf(n) {
			if least, c := impl.LeastBrace(b); !isNoBrace(least, c, impl.ErrLimit) {
				t.Errorf("LeastBrace(%v) = %v, %d", b, least, c)
			}
		}
	}
}

func TestNamedLeastBraces(t *testing.T) {
	cases := []struct{ text, want string }{
		{"0|0", "0|0"},
		{"01/10|01/10", "01/10|01/10"},
		{"012/120/201|012/120/201", "012/120/201|012/120/201"},
		// With 1 as the element of the order 2, the second row of Add is smallest.
		{"0123/1230/2301/3012|0123/1032/2301/3210", "0123/1032/2310/3201|0123/1032/2301/3210"},
		// All tables of Add are equal here, and those of Circle decide.
		{"0123/1032/2301/3210|0123/1230/2301/3012", "0123/1032/2301/3210|0123/1032/2310/3201"},
		// The rows of Add are smallest with 1 as the element of the order 2; 1 o 2 is 1 - 2 = 1 + 4 = 5 then.
		{"012345/123450/234501/345012/450123/501234|012345/105432/234501/321054/450123/543210",
			"012345/103254/234501/325410/450123/541032|012345/105432/234501/321054/450123/543210"},
	}
	for _, x := range cases {
		b, c := impl.ParseBrace(x.text)
		least, d := impl.LeastBrace(b)
		text, e := impl.BraceText(least)
		if text != x.want || c != impl.ErrNone || d != impl.ErrNone || e != impl.ErrNone {
			t.Errorf("the least form of %q is %q, codes %d, %d and %d", x.text, text, c, d, e)
		}
	}
}

// textOfTable returns the digits of a table, with its rows separated.
func textOfTable(u [][]int64) string {
	rows := []string{}
	for _, row := range u {
		text := ""
		for _, x := range row {
			text += "0123456789ab"[x : x+1]
		}
		rows = append(rows, text)
	}
	return strings.Join(rows, "/")
}

func TestTextsOfBraces(t *testing.T) {
	texts := map[string]bool{}
	for _, b := range someBraces() {
		want := textOfTable(b.Add) + "|" + textOfTable(b.Circle)
		text, c := impl.BraceText(b)
		if text != want || c != impl.ErrNone {
			t.Errorf("BraceText(%v) = %q, %d", b, text, c)
		}
		got, c := impl.ParseBrace(want)
		checkBraceMade(t, "ParseBrace", b, got, c)
		texts[text] = true
	}
	if len(texts) < 400 {
		t.Errorf("only %d texts", len(texts))
	}
}

func TestTextsOfNoBraces(t *testing.T) {
	two, twelve := "01/10", textOfTable(sumTable(12))
	bad := []string{
		"", "|", "||", "0", "0|", "|0", "0||0", "0|0|", "|0|0", "0|0|0", "1|0", "0|1", "0|0\n", " 0|0", "0 |0", "0| 0", "0/|0", "0|0/", "/0|0", "0|/0", "0/0", "0&0", "0|0|0|0",
		two, two + "|", "|" + two, two + two, two + "/" + two, two + "|" + two + "|", two + "|" + two + "|" + two, two + "|0", "0|" + two, two + "|01/1", two + "|01/1c", two + "|01/12", two + "|01/11", "01/11|" + two, two + "|10/01", "10/01|" + two, "01|10/" + two,
		two + "|01|10", "01|10|" + two, two + "|01,10", two + ";" + two, two + "\x00|" + two, two + "|" + two + " ",
		"01/10|012/120/201", "012/120/201|01/10", "012/120/201|012/102/210", "A|A",
		"0123/1230/2301/3012|0123/1032/2310/3201", twelve, twelve + "|" + twelve[:len(twelve)-1], twelve + "|" + twelve + "/" + twelve, strings.ToUpper(twelve) + "|" + twelve,
		textOfTable(sumTable(6)) + "|" + textOfTable(flippedTable(3, 0)), textOfTable(flippedTable(3, 0)) + "|" + textOfTable(sumTable(6)),
		strings.Repeat("0", 1<<20), strings.Repeat("|", 1<<20), strings.Repeat("0|", 1<<20), strings.Repeat("0/", 1<<20) + "|0", "0|" + strings.Repeat("/", 1<<20),
	}
	for _, text := range bad {
		if b, c := impl.ParseBrace(text); !isNoBrace(b, c, impl.ErrSyntax) {
			t.Errorf("ParseBrace(%.40q) = %v, %d", text, b, c)
		}
	}
	notBraces := []impl.Brace{
		brc(sumTable(5), renamedGroup(sumTable(5), []int64{0, 2, 1, 3, 4})), brc(sumTable(12), flippedTable(4, 2)),
		brc(nonassociative(3), nonassociative(3)), brc(sumTable(6), nonassociative(3)), brc(nonassociative(6), sumTable(12)),
	}
	for _, b := range notBraces {
		text := textOfTable(b.Add) + "|" + textOfTable(b.Circle)
		if b, c := impl.ParseBrace(text); !isNoBrace(b, c, impl.ErrSyntax) {
			t.Errorf("ParseBrace(%q) = %v, %d", text, b, c)
		}
	}
}
