package tests

import (
	"math/rand"
	"slices"
	"testing"

	"loop.example/g01119/impl"
)

// division is what is known of one class of words: the words that divide it, as texts, with all words
// by which they are to be followed, in lexicographic order.
type division map[string][][]int64

// divisionOf returns the division of a class in lexicographic order.
func divisionOf(class [][]int64) division {
	rests := division{}
	for _, w := range class {
		for k := range len(w) + 1 {
			rests[textOf(w[:k])] = append(rests[textOf(w[:k])], w[k:])
		}
	}
	return rests
}

// checkQuotientWord checks whether u divides w, whose class has this division. Promise 9: u followed by
// the quotient is equal to w. It reports whether u divides w.
func checkQuotientWord(t *testing.T, s impl.Solution, u []int64, w []int64, rests division) bool {
	t.Helper()
	if hasManyEqual(s, u) {
		checkTooMany(t, s, u)
		return false
	}
	found := rests[textOf(u)]
	divides, c := impl.DividesWord(s, u, w)
	if divides != (found != nil) || c != impl.ErrNone {
		t.Errorf("DividesWord(%v, %v, %v) = %v, %d", s, u, w, divides, c)
	}
	got, c := impl.QuotientWord(s, u, w)
	if found == nil {
		if len(got) != 0 || c != impl.ErrNotFound {
			t.Errorf("QuotientWord(%v, %v, %v) = %v, %d", s, u, w, got, c)
		}
		return false
	}
	if !slices.Equal(got, found[0]) || c != impl.ErrNone {
		t.Errorf("QuotientWord(%v, %v, %v) = %v, %d, want %v", s, u, w, got, c, found[0])
	}
	if is, c := impl.AreEqualWords(s, slices.Concat(u, got), w); !is || c != impl.ErrNone {
		t.Errorf("%v: %v followed by %v is not %v: %v, %d", s, u, got, w, is, c)
	}
	if normal, c := impl.NormalWord(s, got); !slices.Equal(normal, got) || c != impl.ErrNone {
		t.Errorf("QuotientWord(%v, %v, %v) = %v, but its normal word is %v", s, u, w, got, normal)
	}
	return true
}

// checkDivisors checks the divisors of a word with some class and its division.
func checkDivisors(t *testing.T, s impl.Solution, w []int64, class [][]int64, rests division) {
	t.Helper()
	want := [][]int64{}
	for k := range len(w) + 1 {
		front := [][]int64{}
		for _, word := range class {
			normal := equalWords(s, word[:k])[0]
			if !slices.ContainsFunc(front, func(u []int64) bool { return slices.Equal(u, normal) }) {
				front = append(front, normal)
			}
		}
		slices.SortFunc(front, slices.Compare[[]int64])
		want = append(want, front...)
	}
	got, c := impl.DivisorsOfWord(s, w)
	if !equalTables(got, want) || c != impl.ErrNone {
		t.Errorf("DivisorsOfWord(%v, %v) = %v, %d, want %v", s, w, got, c, want)
	}
	for _, u := range got {
		if !checkQuotientWord(t, s, u, w, rests) {
			t.Errorf("%v: %v does not divide %v", s, u, w)
		}
	}
}

// haveSeveralClasses reports whether not all words are equal.
func haveSeveralClasses(s impl.Solution, words [][]int64) bool {
	return len(words) > 1 && len(equalWords(s, words[0])) < len(words)
}

// someWords returns all words with k letters if there are few, and else some of them.
func someWords(r *rand.Rand, n int, k int) [][]int64 {
	if power(n, k) <= 10 {
		return everyList(n, k)
	}
	return [][]int64{repeatingWord(r, n, k), randomTuple(r, n, k)}
}

func TestDivision(t *testing.T) {
	random := rand.New(rand.NewSource(123))
	divides, not, several := 0, 0, 0
	for _, s := range wordSolutions(t) {
		for k := range 4 {
			for _, w := range someWords(random, size(s), k) {
				class := equalWords(s, w)
				if len(class) > 200 {
					continue
				}
				rests := divisionOf(class)
				checkDivisors(t, s, w, class, rests)
				for length := range k + 2 {
					for _, u := range append(someWords(random, size(s), length), w) {
						if !checkQuotientWord(t, s, u, w, rests) {
							not++
							continue
						}
						divides++
						if haveSeveralClasses(s, rests[textOf(u)]) {
							several++
						}
					}
				}
			}
		}
	}
	if divides < 1000 || not < 1000 || several < 20 {
		t.Errorf("%d words divide, %d do not, and %d have quotients that are not equal", divides, not, several)
	}
}

// Words of up to MaxLetters letters, each with a begin of an equal word and one that differs from it in
// its last letter.
func TestDivisionOfLongWords(t *testing.T) {
	random := rand.New(rand.NewSource(124))
	lengths := map[int]int{}
	for i, s := range wordSolutions(t) {
		length := 4 + i%5
		w := repeatingWord(random, size(s), length)
		if orbit, c := impl.TupleOrbit(s, w); len(orbit) > 120 || c != impl.ErrNone {
			continue
		}
		class := equalWords(s, w)
		rests := divisionOf(class)
		lengths[length]++
		checkDivisors(t, s, w, class, rests)
		for k := range length + 1 {
			u := slices.Clone(class[random.Intn(len(class))][:k])
			if !checkQuotientWord(t, s, u, w, rests) {
				t.Errorf("%v: %v does not divide %v", s, u, w)
			}
			if k > 0 {
				u[k-1] = int64(random.Intn(size(s)))
				checkQuotientWord(t, s, u, w, rests)
			}
		}
		if length < impl.MaxLetters {
			checkQuotientWord(t, s, append(slices.Clone(w), 0), w, rests)
		}
	}
	for length := 4; length <= impl.MaxLetters; length++ {
		if lengths[length] < 10 {
			t.Errorf("%d words with %d letters", lengths[length], length)
		}
	}
}

func TestNamedQuotients(t *testing.T) {
	three, swap, none := dihedralOf(3), twistOf(turn(2, 1), turn(2, 1)), []int64{-1}
	for _, x := range []struct {
		s          impl.Solution
		u, w, want []int64
	}{
		{three, []int64{2}, []int64{0, 1}, []int64{0}}, {flipOf(2), []int64{0}, []int64{1, 1}, none}, {flipOf(2), []int64{0}, []int64{1, 0}, []int64{1}}, {flipOf(12), nil, nil, nil},
		{flipOf(12), nil, []int64{5, 3, 4}, []int64{3, 4, 5}}, {flipOf(12), []int64{4}, []int64{5, 3, 4}, []int64{3, 5}}, {flipOf(12), []int64{5, 4, 3}, []int64{5, 3, 4}, nil}, {flipOf(12), []int64{5, 3, 4}, []int64{5, 3, 4}, nil},
		{flipOf(12), []int64{5, 3, 4, 0}, []int64{5, 3, 4}, none}, {flipOf(12), []int64{0}, nil, none}, {flipOf(1), make([]int64, 8), make([]int64, 8), nil}, {flipOf(1), make([]int64, 3), make([]int64, 8), make([]int64, 5)},
		{flipOf(1), make([]int64, 8), make([]int64, 7), none}, {flipOf(1), []int64{0}, nil, none}, {flipOf(2), []int64{1, 1}, []int64{1, 0, 1, 0, 0, 0, 1, 0}, []int64{0, 0, 0, 0, 0, 1}},
		{swap, []int64{1}, []int64{0, 0}, []int64{1}}, {swap, []int64{0}, []int64{1, 0}, none}, {swap, []int64{1}, []int64{0, 0, 0}, []int64{1, 0}},
		// {0, 0} and {2, 2} are not equal, and behind 1 they are.
		{three, []int64{1}, []int64{0, 0, 1}, []int64{0, 0}}, {three, []int64{2}, []int64{0, 0, 1}, []int64{0, 2}}, {three, []int64{1, 2}, []int64{0, 0, 1}, []int64{2}}, {three, []int64{0, 1}, []int64{2, 2, 2}, none},
		{sameOf(12), []int64{3, 1}, []int64{3, 1, 4, 1}, []int64{4, 1}}, {sameOf(12), []int64{1, 3}, []int64{3, 1, 4, 1}, none},
	} {
		want, isNone := int64(impl.ErrNone), slices.Equal(x.want, none)
		if isNone {
			x.want, want = nil, impl.ErrNotFound
		}
		if got, c := impl.QuotientWord(x.s, x.u, x.w); !slices.Equal(got, x.want) || c != want {
			t.Errorf("QuotientWord(%v, %v, %v) = %v, %d, want %v", x.s, x.u, x.w, got, c, x.want)
		}
		if got, c := impl.DividesWord(x.s, x.u, x.w); got == isNone || c != impl.ErrNone {
			t.Errorf("DividesWord(%v, %v, %v) = %v, %d", x.s, x.u, x.w, got, c)
		}
	}
}

func TestNamedDivisors(t *testing.T) {
	for _, x := range []struct {
		s    impl.Solution
		w    []int64
		want [][]int64
	}{
		{flipOf(2), []int64{1, 0}, [][]int64{{}, {0}, {1}, {0, 1}}}, {flipOf(12), nil, [][]int64{{}}}, {dihedralOf(12), []int64{7}, [][]int64{{}, {7}}}, {flipOf(1), []int64{0, 0, 0}, [][]int64{{}, {0}, {0, 0}, {0, 0, 0}}},
		{flipOf(12), []int64{9, 0, 9}, [][]int64{{}, {0}, {9}, {0, 9}, {9, 9}, {0, 9, 9}}}, {twistOf(turn(2, 1), turn(2, 1)), []int64{1, 1}, [][]int64{{}, {0}, {1}, {0, 0}}},
		{dihedralOf(3), []int64{1, 2}, [][]int64{{}, {0}, {1}, {2}, {0, 1}}}, {dihedralOf(3), []int64{2, 2}, [][]int64{{}, {2}, {2, 2}}},
		{dihedralOf(3), []int64{2, 1, 0}, [][]int64{{}, {0}, {1}, {2}, {0, 0}, {0, 1}, {0, 2}, {2, 2}, {0, 0, 1}}}, {sameOf(5), []int64{4, 2, 4}, [][]int64{{}, {4}, {4, 2}, {4, 2, 4}}},
	} {
		if got, c := impl.DivisorsOfWord(x.s, x.w); !equalTables(got, x.want) || c != impl.ErrNone {
			t.Errorf("DivisorsOfWord(%v, %v) = %v, %d, want %v", x.s, x.w, got, c, x.want)
		}
	}
}

// fixedBySolution returns the pairs that a solution leads to themselves.
func fixedBySolution(s impl.Solution) [][]int64 {
	return slices.DeleteFunc(everyList(size(s), 2), func(p []int64) bool { return led(s, p[0], p[1]) != [2]int64{p[0], p[1]} })
}

func TestFixedPairs(t *testing.T) {
	for _, s := range slices.Concat(wordSolutions(t), nondegenerateSolutions()) {
		if got, c := impl.FixedPairs(s); !equalTables(got, fixedBySolution(s)) || c != impl.ErrNone {
			t.Errorf("FixedPairs(%v) = %v, %d", s, got, c)
		}
	}
	for name, x := range map[string]struct {
		s    impl.Solution
		want [][]int64
	}{
		"example": {flipOf(2), [][]int64{{0, 0}, {1, 1}}}, "swap": {twistOf(turn(2, 1), turn(2, 1)), [][]int64{{0, 1}, {1, 0}}}, "one": {flipOf(1), [][]int64{{0, 0}}}, "same": {sameOf(2), everyList(2, 2)},
		"none": {twistOf(turn(12, 1), identity(12)), nil}, "mirrored": {twistOf(turn(3, 1), turn(3, 2)), [][]int64{{0, 2}, {1, 0}, {2, 1}}},
	} {
		if got, c := impl.FixedPairs(x.s); !equalTables(got, x.want) || c != impl.ErrNone {
			t.Errorf("%s: FixedPairs = %v, %d, want %v", name, got, c, x.want)
		}
	}
}

// involutiveSolutions returns nondegenerate involutive solutions with 1 to 12 elements, all those with
// up to 4 elements among them.
func involutiveSolutions() []impl.Solution {
	list := []impl.Solution{}
	for _, c := range append(foundCycles(4), fallingCycle(), steepCycle(), doubleCross()) {
		list = append(list, solutionOf(c), mirrorOf(solutionOf(c)))
	}
	for _, s := range nondegenerateSolutions() {
		if isInvolutive(s) {
			list = append(list, s)
		}
	}
	return list
}

// classesDividedBy returns the normal words of all classes of words with k letters that some elements
// divide, made from all words.
func classesDividedBy(s impl.Solution, k int, letters ...int64) [][]int64 {
	lists, labels := orbitsOf(s, k)
	begins := map[int]map[int64]bool{}
	for i, w := range lists {
		if labels[i] == i {
			begins[i] = map[int64]bool{}
		}
		begins[labels[i]][w[0]] = true
	}
	divided := [][]int64{}
	for i, w := range lists {
		if labels[i] == i && !slices.ContainsFunc(letters, func(x int64) bool { return !begins[i][x] }) {
			divided = append(divided, w)
		}
	}
	return divided
}

// checkMultiples checks the common multiples of all pairs of different elements.
func checkMultiples(t *testing.T, s impl.Solution) {
	t.Helper()
	for x := range int64(size(s)) {
		for y := range int64(size(s)) {
			if x == y {
				continue
			}
			word := []int64{min(x, y), int64(slices.Index(s.First[min(x, y)], max(x, y)))}
			if got, c := impl.CommonMultiple(s, x, y); !slices.Equal(got, word) || c != impl.ErrNone {
				t.Errorf("CommonMultiple(%v, %d, %d) = %v, %d, want %v", s, x, y, got, c, word)
			}
			// Exactly one class has both as divisors.
			if want := classesDividedBy(s, 2, x, y); len(want) != 1 || !slices.Equal(word, want[0]) {
				t.Errorf("%v: %v, but words that %d and %d divide are %v", s, word, x, y, want)
			}
			for _, z := range []int64{x, y} {
				if is, c := impl.DividesWord(s, []int64{z}, word); !is || c != impl.ErrNone {
					t.Errorf("%v: %d does not divide %v: %v, %d", s, z, word, is, c)
				}
			}
		}
	}
}

// checkGarside checks the Garside word. Promise 29: it has 2^n divisors.
func checkGarside(t *testing.T, s impl.Solution) {
	t.Helper()
	got, c := impl.GarsideWord(s)
	if size(s) > 5 {
		if len(got) != 0 || c != impl.ErrLimit {
			t.Errorf("GarsideWord(%v) = %v, %d", s, got, c)
		}
		return
	}
	want := classesDividedBy(s, size(s), identity(size(s))...)
	if len(want) != 1 || !slices.Equal(got, want[0]) || c != impl.ErrNone {
		t.Errorf("GarsideWord(%v) = %v, %d, want %v", s, got, c, want)
	}
	divisors, c := impl.DivisorsOfWord(s, got)
	if len(divisors) != 1<<size(s) || c != impl.ErrNone {
		t.Errorf("%v: %v has the divisors %v, %d", s, got, divisors, c)
	}
	counts := make([]int64, size(s)+1)
	for _, u := range divisors {
		counts[len(u)]++
	}
	for k := range counts {
		// As many divisors have k letters as sets of elements have k elements.
		if counts[k] != chosen(int64(size(s)), int64(k)) {
			t.Errorf("%v: %v has the divisors %v", s, got, divisors)
		}
	}
}

// Promise 29 and the guarantee of the chapter.
func TestInvolutiveSolutions(t *testing.T) {
	sizes := map[int]int{}
	for _, s := range involutiveSolutions() {
		n := int64(size(s))
		sizes[size(s)]++
		for k := range greatestLengths()[n-1] + 1 {
			if sizes[size(s)] > 20 && power(size(s), int(k)) > 300 {
				break
			}
			if got, c := impl.CountClasses(s, k); got != chosen(n+k-1, k) || c != impl.ErrNone {
				t.Errorf("CountClasses(%v, %d) = %d, %d, want %d", s, k, got, c, chosen(n+k-1, k))
			}
		}
		if got, c := impl.FixedPairs(s); len(got) != size(s) || c != impl.ErrNone {
			t.Errorf("FixedPairs(%v) = %v, %d", s, got, c)
		}
		checkGarside(t, s)
		if size(s) <= 4 || sizes[size(s)] <= 20 {
			checkMultiples(t, s)
		}
	}
	for n := 1; n <= impl.MaxSize; n++ {
		if sizes[n] < 5 && n > 1 {
			t.Errorf("%d solutions with %d elements", sizes[n], n)
		}
	}
}

func TestNamedGarsideWords(t *testing.T) {
	for name, x := range map[string]struct {
		s    impl.Solution
		want []int64
	}{
		"one": {flipOf(1), []int64{0}}, "example": {flipOf(2), []int64{0, 1}}, "flip of 5": {flipOf(5), identity(5)}, "swap": {twistOf(turn(2, 1), turn(2, 1)), []int64{0, 0}},
		"turn of 5": {twistOf(turn(5, 1), turn(5, 4)), make([]int64, 5)}, "turn of 5 back": {twistOf(turn(5, 4), turn(5, 1)), make([]int64, 5)}, "turn by 2": {twistOf(turn(5, 2), turn(5, 3)), make([]int64, 5)},
		"turn and one": {twistOf([]int64{1, 2, 3, 0, 4}, []int64{3, 0, 1, 2, 4}), []int64{0, 0, 0, 0, 4}}, "two swaps": {twistOf([]int64{1, 0, 3, 2}, []int64{1, 0, 3, 2}), []int64{0, 0, 2, 2}},
		// 0 and 1 are exchanged by 2 alone.
		"text": {read(t, "012/012/102|001/110/222"), []int64{0, 1, 2}},
	} {
		if got, c := impl.GarsideWord(x.s); !slices.Equal(got, x.want) || c != impl.ErrNone {
			t.Errorf("%s: GarsideWord = %v, %d, want %v", name, got, c, x.want)
		}
		checkGarside(t, x.s)
	}
	for _, x := range []struct {
		s          impl.Solution
		x, y       int64
		want, back []int64
	}{
		{flipOf(12), 11, 0, []int64{0, 11}, []int64{0, 11}}, {flipOf(12), 3, 7, []int64{3, 7}, []int64{3, 7}}, {twistOf(turn(2, 1), turn(2, 1)), 0, 1, []int64{0, 0}, []int64{0, 0}},
		{twistOf(turn(12, 1), turn(12, 11)), 4, 2, []int64{2, 3}, []int64{2, 3}}, {twistOf(turn(12, 11), turn(12, 1)), 0, 11, []int64{0, 0}, []int64{0, 0}},
	} {
		got, c := impl.CommonMultiple(x.s, x.x, x.y)
		back, d := impl.CommonMultiple(x.s, x.y, x.x)
		if !slices.Equal(got, x.want) || !slices.Equal(back, x.back) || c != impl.ErrNone || d != impl.ErrNone {
			t.Errorf("CommonMultiple(%v, %d, %d) = %v, %d, and %v, %d", x.s, x.x, x.y, got, c, back, d)
		}
	}
}

// Solutions that are degenerate or not involutive have neither. ErrRange comes before ErrState, and
// ErrState before ErrLimit.
func TestGarsideWordsRefused(t *testing.T) {
	list := append(degenerateSolutions(t), dihedralOf(3), dihedralOf(6), dihedralOf(12), twistOf(turn(6, 1), identity(6)), sameOf(2), sameOf(5), sameOf(6))
	for _, s := range nondegenerateSolutions() {
		if !isInvolutive(s) {
			list = append(list, s)
		}
	}
	involutive := 0
	for _, s := range list {
		if isInvolutive(s) {
			involutive++
		}
		if got, c := impl.GarsideWord(s); len(got) != 0 || c != impl.ErrState {
			t.Errorf("GarsideWord(%v) = %v, %d", s, got, c)
		}
		for _, both := range [][2]int64{{0, 1}, {int64(size(s)) - 1, 0}} {
			if got, c := impl.CommonMultiple(s, both[0], both[1]); len(got) != 0 || c != impl.ErrState {
				t.Errorf("CommonMultiple(%v, %v) = %v, %d", s, both, got, c)
			}
		}
		checkNoMultiples(t, s)
	}
	if involutive < 5 {
		t.Errorf("%d involutive solutions", involutive)
	}
	for n := 1; n <= impl.MaxSize; n++ {
		checkNoMultiples(t, flipOf(n))
		got, c := impl.GarsideWord(flipOf(n))
		if n > 5 && (len(got) != 0 || c != impl.ErrLimit) || n <= 5 && (!slices.Equal(got, identity(n)) || c != impl.ErrNone) {
			t.Errorf("GarsideWord of the flip of %d = %v, %d", n, got, c)
		}
	}
}

// checkNoMultiples checks numbers of which one is no element, or both are the same one.
func checkNoMultiples(t *testing.T, s impl.Solution) {
	t.Helper()
	bad := [][2]int64{}
	for _, x := range notElements(size(s)) {
		bad = append(bad, [2]int64{x, 0}, [2]int64{0, x}, [2]int64{x, x}, [2]int64{x, int64(size(s)) - 1})
	}
	for x := range int64(size(s)) {
		bad = append(bad, [2]int64{x, x})
	}
	for _, both := range bad {
		if got, c := impl.CommonMultiple(s, both[0], both[1]); len(got) != 0 || c != impl.ErrRange {
			t.Errorf("CommonMultiple(%v, %v) = %v, %d", s, both, got, c)
		}
	}
}
