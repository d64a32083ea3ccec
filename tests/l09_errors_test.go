package tests

import (
	"math"
	"slices"
	"testing"

	"loop.example/g01119/impl"
)

// callsOnWords calls each function that takes words, and returns the codes and whether all other
// results are zero.
func callsOnWords(s impl.Solution, u []int64, w []int64, x int64) (map[string]int64, bool) {
	codes, zero := map[string]int64{}, true
	for name, f := range map[string]func(impl.Solution, []int64, []int64) (bool, int64){"AreEqualWords": impl.AreEqualWords, "DividesWord": impl.DividesWord} {
		is, c := f(s, u, w)
		codes[name], zero = c, zero && !is
	}
	quotient, c := impl.QuotientWord(s, u, w)
	codes["QuotientWord"] = c
	act, c := impl.ActWord(s, u, x)
	codes["ActWord"] = c
	return codes, zero && len(quotient) == 0 && act == 0
}

// callsOnOneWord calls each function that takes one word alone.
func callsOnOneWord(s impl.Solution, w []int64) (map[string]int64, bool) {
	codes := map[string]int64{}
	class, c := impl.ClassOfWord(s, w)
	codes["ClassOfWord"] = c
	normal, c := impl.NormalWord(s, w)
	codes["NormalWord"] = c
	divisors, c := impl.DivisorsOfWord(s, w)
	codes["DivisorsOfWord"] = c
	return codes, len(class) == 0 && len(normal) == 0 && len(divisors) == 0
}

// callsWithoutWords calls each function that takes no word.
func callsWithoutWords(s impl.Solution, k int64, x int64, y int64) (map[string]int64, bool) {
	codes := map[string]int64{}
	count, c := impl.CountClasses(s, k)
	codes["CountClasses"] = c
	normal, c := impl.NormalWords(s, k)
	codes["NormalWords"] = c
	fixed, c := impl.FixedPairs(s)
	codes["FixedPairs"] = c
	multiple, c := impl.CommonMultiple(s, x, y)
	codes["CommonMultiple"] = c
	garside, c := impl.GarsideWord(s)
	codes["GarsideWord"] = c
	return codes, count == 0 && len(normal) == 0 && len(fixed) == 0 && len(multiple) == 0 && len(garside) == 0
}

// checkCodes checks that calls return one code and nothing else.
func checkCodes(t *testing.T, name string, want int64, codes map[string]int64, zero bool) {
	t.Helper()
	for f, c := range codes {
		code(t, f+" of "+name, c, want)
	}
	if !zero {
		t.Errorf("%s: a result beside an error", name)
	}
}

// ErrInvalid comes before all other errors.
func TestWordsOfNoSolutions(t *testing.T) {
	words := [][]int64{nil, {0}, {0, 0}, {0, 1, 0}, make([]int64, 8), make([]int64, 9), {-1, 0}, {0, 12}, {math.MaxInt64}}
	for name, s := range noSolutions() {
		for _, w := range words {
			codes, zero := callsOnOneWord(s, w)
			checkCodes(t, name, impl.ErrInvalid, codes, zero)
			for _, u := range words {
				for _, x := range []int64{0, -1, 12} {
					codes, zero := callsOnWords(s, u, w, x)
					checkCodes(t, name, impl.ErrInvalid, codes, zero)
				}
			}
		}
		for _, k := range []int64{0, 1, 2, 8, 9, -1, math.MinInt64, math.MaxInt64} {
			for _, y := range []int64{0, 1, -1, 12} {
				codes, zero := callsWithoutWords(s, k, 0, y)
				checkCodes(t, name, impl.ErrInvalid, codes, zero)
			}
		}
	}
}

// ErrRange comes before ErrLimit and before ErrNotFound, whichever list is no word.
func TestListsThatAreNoWords(t *testing.T) {
	for n := 1; n <= impl.MaxSize; n++ {
		// With many elements the class of the second word is too great.
		words := [][]int64{nil, identity(min(n, 8)), slices.Repeat([]int64{int64(n) - 1}, 8)}
		for _, s := range []impl.Solution{flipOf(n), sameOf(n), twistOf(turn(n, 1), identity(n))} {
			for i, bad := range noWords(n) {
				codes, zero := callsOnOneWord(s, bad)
				checkCodes(t, "no word", impl.ErrRange, codes, zero)
				w := append(words, bad)[i%4]
				codes, zero = callsOnWords(s, bad, w, 0)
				checkCodes(t, "no first word", impl.ErrRange, codes, zero)
				codes, zero = callsOnWords(s, w, bad, -1)
				checkCodes(t, "no second word", impl.ErrRange, codes, zero)
			}
			for _, x := range notElements(n) {
				for _, w := range words {
					if got, c := impl.ActWord(s, w, x); got != 0 || c != impl.ErrRange {
						t.Errorf("ActWord(%v, %v, %d) = %d, %d", s, w, x, got, c)
					}
				}
			}
		}
	}
}

// Words of MaxLetters letters, and words without letters, are words of all numbers of elements.
func TestWordsOfAllSizes(t *testing.T) {
	for n := 1; n <= impl.MaxSize; n++ {
		for _, s := range []impl.Solution{flipOf(n), sameOf(n), dihedralOf(n)} {
			last := int64(n) - 1
			for length := range impl.MaxLetters + 1 {
				// All three lead a pair of equal elements to itself.
				w := slices.Repeat([]int64{last}, length)
				checkOneWord(t, s, w, [][]int64{w})
				if divisors, c := impl.DivisorsOfWord(s, w); len(divisors) != length+1 || c != impl.ErrNone {
					t.Errorf("DivisorsOfWord(%v, %v) = %v, %d", s, w, divisors, c)
				}
				for other := range impl.MaxLetters + 1 {
					u := slices.Repeat([]int64{last}, other)
					if is, c := impl.AreEqualWords(s, u, w); is != (other == length) || c != impl.ErrNone {
						t.Errorf("AreEqualWords(%v, %v, %v) = %v, %d", s, u, w, is, c)
					}
					if is, c := impl.DividesWord(s, u, w); is != (other <= length) || c != impl.ErrNone {
						t.Errorf("DividesWord(%v, %v, %v) = %v, %d", s, u, w, is, c)
					}
				}
			}
		}
	}
}

func TestChapter9KeepsMemoryApart(t *testing.T) {
	words := [][]int64{nil, {0}, {1, 0}, {0, 0, 1}, {3, 1, 2}, {0, 1, 2, 3, 2}, make([]int64, 8), make([]int64, 9), {0, -1}}
	for _, s := range []impl.Solution{flipOf(1), flipOf(5), flipOf(6), sameOf(4), dihedralOf(4), factorSolutions()[0], solutionOf(crossCycle()), twistOf(turn(5, 1), turn(5, 4)),
		flipOf(13), sol(sumTable(4), sumTable(4))} {
		check := func(name string, call func(s impl.Solution, u []int64, w []int64) []any, u []int64, w []int64) {
			t.Helper()
			checkMemory(t, name, func(a []any) []any {
				return call(sol(a[0].([][]int64), a[1].([][]int64)), a[2].([]int64), a[3].([]int64))
			}, s.First, s.Second, u, w)
		}
		check("CountClasses", func(s impl.Solution, _, _ []int64) []any { return listsAndCode(impl.CountClasses(s, 3)) }, nil, nil)
		for k := range int64(4) {
			check("NormalWords", func(s impl.Solution, _, _ []int64) []any { return listsAndCode(impl.NormalWords(s, k)) }, nil, nil)
		}
		check("FixedPairs", func(s impl.Solution, _, _ []int64) []any { return listsAndCode(impl.FixedPairs(s)) }, nil, nil)
		check("CommonMultiple", func(s impl.Solution, _, _ []int64) []any { return listsAndCode(impl.CommonMultiple(s, 1, 0)) }, nil, nil)
		check("GarsideWord", func(s impl.Solution, _, _ []int64) []any { return listsAndCode(impl.GarsideWord(s)) }, nil, nil)
		for _, w := range words {
			check("ClassOfWord", func(s impl.Solution, _, w []int64) []any { return listsAndCode(impl.ClassOfWord(s, w)) }, nil, w)
			check("NormalWord", func(s impl.Solution, _, w []int64) []any { return listsAndCode(impl.NormalWord(s, w)) }, nil, w)
			check("DivisorsOfWord", func(s impl.Solution, _, w []int64) []any { return listsAndCode(impl.DivisorsOfWord(s, w)) }, nil, w)
			check("ActWord", func(s impl.Solution, _, w []int64) []any { return listsAndCode(impl.ActWord(s, w, 0)) }, nil, w)
			for _, u := range words {
				check("AreEqualWords", func(s impl.Solution, u, w []int64) []any { return listsAndCode(impl.AreEqualWords(s, u, w)) }, u, w)
				check("DividesWord", func(s impl.Solution, u, w []int64) []any { return listsAndCode(impl.DividesWord(s, u, w)) }, u, w)
				check("QuotientWord", func(s impl.Solution, u, w []int64) []any { return listsAndCode(impl.QuotientWord(s, u, w)) }, u, w)
			}
		}
	}
}

// One list as two words and as all rows of a table stays as it is, and no result has it.
func TestWordsOfSharedRows(t *testing.T) {
	row := []int64{1, 2, 0}
	s := sol([][]int64{row, row, row}, transposedTable([][]int64{row, row, row}))
	class, _ := impl.ClassOfWord(s, row)
	normal, _ := impl.NormalWord(s, row)
	quotient, c := impl.QuotientWord(s, row[:1], row)
	code(t, "QuotientWord", c, impl.ErrNone)
	same, c := impl.QuotientWord(s, row[:0], row)
	code(t, "QuotientWord", c, impl.ErrNone)
	none, c := impl.QuotientWord(s, row, row)
	code(t, "QuotientWord", c, impl.ErrNone)
	divisors, _ := impl.DivisorsOfWord(s, row)
	for _, list := range slices.Concat(class, divisors, [][]int64{normal, quotient, same, none}) {
		if slices.Contains(list, -1) {
			t.Errorf("a list of the results is one of the others")
		}
		fill(list, -1)
	}
	if !slices.Equal(row, []int64{1, 2, 0}) {
		t.Errorf("the list is changed: %v", row)
	}
}

// A result that is overwritten must not change what a later call returns.
func TestChapter9KeepsNoState(t *testing.T) {
	s, three := twistOf(turn(2, 1), turn(2, 1)), dihedralOf(3)
	for range 3 {
		class, _ := impl.ClassOfWord(three, []int64{2, 1})
		normal, _ := impl.NormalWord(three, []int64{2, 1})
		words, _ := impl.NormalWords(s, 2)
		quotient, _ := impl.QuotientWord(three, []int64{1}, []int64{0, 0, 1})
		divisors, _ := impl.DivisorsOfWord(s, []int64{1, 1})
		fixed, _ := impl.FixedPairs(s)
		multiple, _ := impl.CommonMultiple(s, 1, 0)
		garside, _ := impl.GarsideWord(s)
		if !equalTables(class, [][]int64{{0, 2}, {1, 0}, {2, 1}}) || !slices.Equal(normal, []int64{0, 2}) || !equalTables(words, [][]int64{{0, 0}, {0, 1}, {1, 0}}) ||
			!slices.Equal(quotient, []int64{0, 0}) || !equalTables(divisors, [][]int64{{}, {0}, {1}, {0, 0}}) || !equalTables(fixed, [][]int64{{0, 1}, {1, 0}}) ||
			!slices.Equal(multiple, []int64{0, 0}) || !slices.Equal(garside, []int64{0, 0}) {
			t.Errorf("results %v, %v, %v, %v, %v, %v, %v, %v", class, normal, words, quotient, divisors, fixed, multiple, garside)
		}
		for _, list := range slices.Concat(class, words, divisors, fixed, [][]int64{normal, quotient, multiple, garside}) {
			fill(list, -1)
		}
		clear(class)
		clear(divisors)
	}
}
