package tests

import (
	"math"
	"math/rand"
	"slices"
	"testing"

	"loop.example/g01119/impl"
)

// actedOn returns what the action of a word makes of x: the first letter acts on what the others make
// of it.
func actedOn(s impl.Solution, w []int64, x int64) int64 {
	if len(w) == 0 {
		return x
	}
	return s.First[w[0]][actedOn(s, w[1:], x)]
}

// backOf returns the pair map that leads each pair to the one that a solution leads to it.
func backOf(s impl.Solution) impl.Solution {
	back := sameOf(size(s))
	for _, p := range everyList(size(s), 2) {
		q := led(s, p[0], p[1])
		back.First[q[0]][q[1]], back.Second[q[0]][q[1]] = p[0], p[1]
	}
	return back
}

// equalWords returns all words that moves, forward and back, lead a word to, in lexicographic order.
func equalWords(s impl.Solution, w []int64) [][]int64 {
	back := backOf(s)
	class, met := [][]int64{w}, map[string]bool{textOf(w): true}
	for i := 0; i < len(class); i++ {
		for place := range len(w) - 1 {
			for _, next := range [][]int64{done(s, class[i], place), done(back, class[i], place)} {
				if !met[textOf(next)] {
					met[textOf(next)] = true
					class = append(class, next)
				}
			}
		}
	}
	slices.SortFunc(class, slices.Compare[[]int64])
	return class
}

// greatestLengths has for each number of elements, from 1 on, the greatest number of letters, at most
// MaxLetters, with which there are at most MaxWords words. There are at most 4096 of them then, and
// with one letter more at least 6561 where MaxLetters allows it: no number of words lies nearer to
// MaxWords.
func greatestLengths() []int64 { return []int64{8, 8, 7, 6, 5, 4, 4, 4, 3, 3, 3, 3} }

// noWords are lists that are no words of elements of a set of n.
func noWords(n int) [][]int64 {
	return append(listsOutside(n, impl.MaxLetters), make([]int64, impl.MaxTuple))
}

// wordSolutions returns solutions with 1 to 12 elements of all kinds: nondegenerate or not, and
// involutive or not.
func wordSolutions(t *testing.T) []impl.Solution {
	t.Helper()
	list := slices.Concat(foundSolutions(1), foundSolutions(2), foundSolutions(3), factorSolutions(), greatSolutions(), degenerateSolutions(t))
	for i, s := range nondegenerateSolutions() {
		if i%8 == 0 {
			list = append(list, s)
		}
	}
	return append(list, solutionOf(crossCycle()), solutionOf(fallingCycle()), solutionOf(steepCycle()), mirrorOf(solutionOf(crossCycle())))
}

// checkOneWord checks what is told of a word alone, which has this class. Promise 9: it acts as its
// normal word does.
func checkOneWord(t *testing.T, s impl.Solution, w []int64, class [][]int64) {
	t.Helper()
	if got, c := impl.ClassOfWord(s, w); !equalTables(got, class) || c != impl.ErrNone {
		t.Errorf("ClassOfWord(%v, %v) = %v, %d, want %v", s, w, got, c, class)
	}
	normal, c := impl.NormalWord(s, w)
	if !slices.Equal(normal, class[0]) || c != impl.ErrNone {
		t.Errorf("NormalWord(%v, %v) = %v, %d, want %v", s, w, normal, c, class[0])
	}
	for x := range int64(size(s)) {
		got, c := impl.ActWord(s, w, x)
		if got != actedOn(s, w, x) || c != impl.ErrNone {
			t.Errorf("ActWord(%v, %v, %d) = %d, %d, want %d", s, w, x, got, c, actedOn(s, w, x))
		}
		if other, c := impl.ActWord(s, normal, x); other != got || c != impl.ErrNone {
			t.Errorf("ActWord(%v, %v, %d) = %d, %d, but %v leads to %d", s, normal, x, other, c, w, got)
		}
	}
}

// checkWords checks all words with k letters, and returns the number of their classes.
func checkWords(t *testing.T, r *rand.Rand, s impl.Solution, k int) int {
	t.Helper()
	lists, labels := orbitsOf(s, k)
	classes, normal := map[int][][]int64{}, [][]int64{}
	for i, w := range lists {
		classes[labels[i]] = append(classes[labels[i]], w)
		if labels[i] == i {
			normal = append(normal, w)
		}
	}
	for i, w := range lists {
		checkOneWord(t, s, w, classes[labels[i]])
		for j := range lists {
			if len(lists) > 30 {
				j = r.Intn(len(lists))
			}
			if got, c := impl.AreEqualWords(s, w, lists[j]); got != (labels[i] == labels[j]) || c != impl.ErrNone {
				t.Errorf("AreEqualWords(%v, %v, %v) = %v, %d", s, w, lists[j], got, c)
			}
			if j >= 30 {
				break
			}
		}
	}
	if got, c := impl.CountClasses(s, int64(k)); got != int64(len(normal)) || c != impl.ErrNone {
		t.Errorf("CountClasses(%v, %d) = %d, %d, want %d", s, k, got, c, len(normal))
	}
	if got, c := impl.NormalWords(s, int64(k)); !equalTables(got, normal) || c != impl.ErrNone {
		t.Errorf("NormalWords(%v, %d) = %v, %d, want %v", s, k, got, c, normal)
	}
	return len(normal)
}

func TestWords(t *testing.T) {
	random := rand.New(rand.NewSource(120))
	lengths := map[int]int{}
	for _, s := range wordSolutions(t) {
		for k, words := 0, 1; words <= 30 || k <= 2 && words <= 64; k, words = k+1, words*size(s) {
			checkWords(t, random, s, k)
			lengths[k]++
			if k == impl.MaxLetters {
				break
			}
		}
	}
	for _, s := range []impl.Solution{flipOf(3), dihedralOf(3), dihedralOf(4), sameOf(3), solutionOf(crossCycle())} {
		checkWords(t, random, s, 4)
	}
	for _, s := range foundSolutions(2) {
		checkWords(t, random, s, impl.MaxLetters)
	}
	for k := range 5 {
		if lengths[k] < 5 {
			t.Errorf("%d solutions with words of %d letters", lengths[k], k)
		}
	}
}

// repeatingWord returns a word with few different letters, which often has a small class.
func repeatingWord(r *rand.Rand, n int, length int) []int64 {
	w := randomTuple(r, n, length)
	for i := range w {
		w[i] = w[r.Intn(i/4+1)]
	}
	return w
}

// Words of up to MaxLetters letters of up to MaxSize elements.
func TestLongWords(t *testing.T) {
	random := rand.New(rand.NewSource(121))
	refused, great := 0, 0
	for _, s := range wordSolutions(t) {
		for length := 3; length <= impl.MaxLetters; length += 1 + random.Intn(4) {
			w := repeatingWord(random, size(s), length)
			if hasManyEqual(s, w) {
				refused++
				if refused <= 30 {
					checkTooMany(t, s, w)
				}
				continue
			}
			if orbit, _ := impl.TupleOrbit(s, w); len(orbit) > 200 {
				great++
				if great > 10 {
					continue
				}
			}
			class := equalWords(s, w)
			checkOneWord(t, s, w, class)
			checkNeighbours(t, random, s, w, class)
		}
	}
	if refused < 20 || great < 10 {
		t.Errorf("%d words with too many equal ones, and %d with many", refused, great)
	}
}

// checkNeighbours checks which words are equal to one with some class: others of it, words that differ
// from these in one letter, and shorter and longer words.
func checkNeighbours(t *testing.T, r *rand.Rand, s impl.Solution, w []int64, class [][]int64) {
	t.Helper()
	for range 5 {
		other := slices.Clone(class[r.Intn(len(class))])
		if is, c := impl.AreEqualWords(s, w, other); !is || c != impl.ErrNone {
			t.Errorf("AreEqualWords(%v, %v, %v) = %v, %d", s, w, other, is, c)
		}
		other[r.Intn(len(w))] = int64(r.Intn(size(s)))
		if is, c := impl.AreEqualWords(s, w, other); is != hasList(class, other) || c != impl.ErrNone {
			t.Errorf("AreEqualWords(%v, %v, %v) = %v, %d", s, w, other, is, c)
		}
	}
	for _, other := range [][]int64{w[:len(w)-1], nil, append(slices.Clone(w), 0)} {
		if len(other) > impl.MaxLetters {
			continue
		}
		if is, c := impl.AreEqualWords(s, w, other); is || c != impl.ErrNone {
			t.Errorf("AreEqualWords(%v, %v, %v) = %v, %d", s, w, other, is, c)
		}
	}
}

// hasManyEqual reports whether a word has too many equal ones, by the orbits of chapter 6.
func hasManyEqual(s impl.Solution, w []int64) bool {
	orbit, c := impl.TupleOrbit(s, w)
	return c != impl.ErrNone || len(orbit) > impl.MaxElements
}

// checkTooMany checks a word whose class is too great. Only AreEqualWords asks for one class of two.
func checkTooMany(t *testing.T, s impl.Solution, w []int64) {
	t.Helper()
	class, a := impl.ClassOfWord(s, w)
	normal, b := impl.NormalWord(s, w)
	divisors, c := impl.DivisorsOfWord(s, w)
	if len(class) != 0 || len(normal) != 0 || len(divisors) != 0 || a != impl.ErrLimit || b != impl.ErrLimit || c != impl.ErrLimit {
		t.Errorf("%v, %v: class %v, %d, normal word %v, %d, divisors %v, %d", s, w, class, a, normal, b, divisors, c)
	}
	for _, other := range [][]int64{nil, {0}, w, make([]int64, len(w)), make([]int64, 8)} {
		if is, c := impl.AreEqualWords(s, w, other); is || c != impl.ErrLimit {
			t.Errorf("AreEqualWords(%v, %v, %v) = %v, %d", s, w, other, is, c)
		}
		for _, both := range [][2][]int64{{w, other}, {other, w}} {
			if is, c := impl.DividesWord(s, both[0], both[1]); is || c != impl.ErrLimit {
				t.Errorf("DividesWord(%v, %v) = %v, %d", s, both, is, c)
			}
			if got, c := impl.QuotientWord(s, both[0], both[1]); len(got) != 0 || c != impl.ErrLimit {
				t.Errorf("QuotientWord(%v, %v) = %v, %d", s, both, got, c)
			}
		}
		small, _ := impl.ClassOfWord(s, other)
		if is, c := impl.AreEqualWords(s, other, w); len(small) > 0 && (is || c != impl.ErrNone) {
			t.Errorf("AreEqualWords(%v, %v, %v) = %v, %d", s, other, w, is, c)
		}
	}
	if x, c := impl.ActWord(s, w, 0); x != actedOn(s, w, 0) || c != impl.ErrNone {
		t.Errorf("ActWord(%v, %v, 0) = %d, %d", s, w, x, c)
	}
}

// Classes of 1000 words, of the fewest words above that I know of, which are 1008, and of many more.
func TestClassesAroundMaxElements(t *testing.T) {
	ten, six, five := turn(10, 1), append(turn(6, 1), 6), append(turn(5, 1), 6, 5)
	for _, x := range []struct {
		p    []int64
		w    []int64
		want int
	}{
		{ten, []int64{0, 0, 0}, 1000}, {ten, []int64{9, 3, 4}, 1000}, {five, []int64{0, 0, 0, 5}, 1000}, {five, []int64{4, 2, 6, 2}, 1000}, {append(slices.Clone(ten), 10, 11), []int64{5, 5, 5}, 1000},
		{six, []int64{6, 6, 6, 6, 6, 6, 0, 0}, 1008}, {six, []int64{0, 6, 6, 6, 5, 6, 6, 6}, 1008}, {six, []int64{0, 6, 6, 6, 5, 6, 6}, 756},
		{identity(4), []int64{0, 1, 0, 1, 2, 3, 0, 0}, 840}, {identity(4), []int64{3, 3, 3, 0, 0, 1, 1, 2}, 1680}, {identity(12), []int64{11, 10, 9, 8, 7, 6}, 720},
		{identity(12), []int64{11, 10, 9, 8, 7, 6, 5}, 5040}, {identity(12), []int64{11, 10, 9, 8, 7, 6, 5, 4}, 40320}, {turn(12, 1), make([]int64, 8), 429981696}, {turn(11, 1), make([]int64, 3), 1331},
	} {
		n := len(x.p)
		for _, s := range []impl.Solution{twistOf(x.p, identity(n)), twistOf(identity(n), x.p), mirrorOf(twistOf(x.p, identity(n)))} {
			if x.want > impl.MaxElements {
				checkTooMany(t, s, x.w)
				continue
			}
			class, c := impl.ClassOfWord(s, x.w)
			if len(class) != x.want || c != impl.ErrNone || !hasList(class, x.w) {
				t.Fatalf("ClassOfWord(%v, %v) has %d words, code %d", s, x.w, len(class), c)
			}
			for i, w := range class {
				if i > 0 && slices.Compare(class[i-1], w) >= 0 || len(w) != len(x.w) || !hasList(class, done(s, w, i%(len(w)-1))) {
					t.Fatalf("ClassOfWord(%v, %v) has %v", s, x.w, w)
				}
			}
			normal, c := impl.NormalWord(s, x.w)
			if !slices.Equal(normal, class[0]) || c != impl.ErrNone {
				t.Errorf("NormalWord(%v, %v) = %v, %d", s, x.w, normal, c)
			}
			for _, w := range [][]int64{class[0], class[x.want/2], class[x.want-1]} {
				if is, c := impl.AreEqualWords(s, x.w, w); !is || c != impl.ErrNone {
					t.Errorf("AreEqualWords(%v, %v, %v) = %v, %d", s, x.w, w, is, c)
				}
				if is, c := impl.DividesWord(s, w, x.w); !is || c != impl.ErrNone {
					t.Errorf("DividesWord(%v, %v, %v) = %v, %d", s, w, x.w, is, c)
				}
			}
		}
	}
}

// The number of words is limited, and that of the words of a class is not: a turn of all elements
// leaves one class of words with more than two letters.
func TestCountClassesOfAllSizes(t *testing.T) {
	for n := int64(1); n <= impl.MaxSize; n++ {
		words := int64(1)
		for k := range int64(impl.MaxLetters + 1) {
			for kind, s := range map[string]impl.Solution{"flip": flipOf(int(n)), "same": sameOf(int(n)), "turn": twistOf(turn(int(n), 1), identity(int(n)))} {
				want := map[string]int64{"flip": chosen(n+k-1, k), "same": words, "turn": 1}[kind]
				switch {
				case kind == "turn" && k == 1:
					want = n
				case kind == "turn" && k == 2:
					// It leads a pair of the difference d to one of the difference -1 - d.
					want = (n + 1) / 2
				}
				count, c := impl.CountClasses(s, k)
				normal, d := impl.NormalWords(s, k)
				if k > greatestLengths()[n-1] {
					if count != 0 || len(normal) != 0 || c != impl.ErrLimit || d != impl.ErrLimit || words <= impl.MaxWords {
						t.Errorf("the %s of %d and %d: %d, %d and %v, %d", kind, n, k, count, c, normal, d)
					}
				} else if count != want || len(normal) != int(want) || c != impl.ErrNone || d != impl.ErrNone || words > impl.MaxWords {
					t.Errorf("the %s of %d and %d: %d, %d and %d words, %d, want %d", kind, n, k, count, c, len(normal), d, want)
				}
			}
			words = min(words*n, 10000)
		}
	}
}

// ErrRange comes before ErrLimit.
func TestCountClassesRefused(t *testing.T) {
	for n := 1; n <= impl.MaxSize; n++ {
		for _, s := range []impl.Solution{flipOf(n), sameOf(n), dihedralOf(n)} {
			for _, k := range []int64{-1, -2, impl.MaxLetters + 1, 10, 12, 13, 1 << 32, 1<<32 + 1, math.MinInt64, math.MinInt64 + 1, math.MaxInt64} {
				if got, c := impl.CountClasses(s, k); got != 0 || c != impl.ErrRange {
					t.Errorf("CountClasses of %d and %d = %d, %d", n, k, got, c)
				}
				if got, c := impl.NormalWords(s, k); len(got) != 0 || c != impl.ErrRange {
					t.Errorf("NormalWords of %d and %d = %v, %d", n, k, got, c)
				}
			}
		}
	}
}

func TestNamedClasses(t *testing.T) {
	swap, three := twistOf(turn(2, 1), turn(2, 1)), dihedralOf(3)
	for name, x := range map[string]struct {
		s    impl.Solution
		w    []int64
		want [][]int64
	}{
		"example": {flipOf(2), []int64{1, 0}, [][]int64{{0, 1}, {1, 0}}}, "no letters": {flipOf(12), nil, [][]int64{{}}}, "no letters of one": {flipOf(1), []int64{}, [][]int64{{}}},
		"one letter": {dihedralOf(12), []int64{11}, [][]int64{{11}}}, "one element": {flipOf(1), make([]int64, 8), [][]int64{make([]int64, 8)}},
		"swap": {swap, []int64{0, 0}, [][]int64{{0, 0}, {1, 1}}}, "swap, fixed": {swap, []int64{1, 0}, [][]int64{{1, 0}}}, "dihedral": {three, []int64{2, 1}, [][]int64{{0, 2}, {1, 0}, {2, 1}}},
		"dihedral, three": {three, []int64{1, 0, 0}, [][]int64{{0, 0, 1}, {0, 1, 2}, {0, 2, 0}, {1, 0, 0}, {1, 2, 2}, {2, 0, 2}, {2, 1, 0}, {2, 2, 1}}},
		"dihedral, equal": {three, []int64{2, 2, 2}, [][]int64{{2, 2, 2}}}, "same": {sameOf(12), []int64{3, 1, 4, 1, 5, 9, 2, 6}, [][]int64{{3, 1, 4, 1, 5, 9, 2, 6}}},
		"eight letters": {flipOf(12), []int64{11, 11, 11, 0, 11, 11, 11, 11}, [][]int64{{0, 11, 11, 11, 11, 11, 11, 11}, {11, 0, 11, 11, 11, 11, 11, 11}, {11, 11, 0, 11, 11, 11, 11, 11}, {11, 11, 11, 0, 11, 11, 11, 11},
			{11, 11, 11, 11, 0, 11, 11, 11}, {11, 11, 11, 11, 11, 0, 11, 11}, {11, 11, 11, 11, 11, 11, 0, 11}, {11, 11, 11, 11, 11, 11, 11, 0}}},
		// Zeros are letters, too: words of other lengths that are zeros are compared with it below.
		"zeros": {flipOf(3), []int64{0, 0, 0, 0}, [][]int64{{0, 0, 0, 0}}},
		"cross": {solutionOf(crossCycle()), []int64{1, 2, 2}, [][]int64{{0, 0, 1}, {0, 1, 2}, {1, 2, 2}}},
	} {
		checkOneWord(t, x.s, x.w, x.want)
		for length := range impl.MaxLetters + 1 {
			other := make([]int64, length)
			if is, c := impl.AreEqualWords(x.s, x.w, other); is != hasList(x.want, other) || c != impl.ErrNone {
				t.Errorf("%s: AreEqualWords with %v = %v, %d", name, other, is, c)
			}
		}
	}
	// The examples of the chapter.
	if got, c := impl.CountClasses(flipOf(2), 3); got != 4 || c != impl.ErrNone {
		t.Errorf("CountClasses of the flip of 2 elements and 3 = %d, %d", got, c)
	}
	if got, c := impl.NormalWords(three, 3); !equalTables(got, [][]int64{{0, 0, 0}, {0, 0, 1}, {0, 0, 2}, {0, 1, 1}, {1, 1, 1}, {2, 2, 2}}) || c != impl.ErrNone {
		t.Errorf("NormalWords of the dihedral solution of 3 elements = %v, %d", got, c)
	}
}

func TestNamedActions(t *testing.T) {
	cross := solutionOf(crossCycle())
	for _, x := range []struct {
		s       impl.Solution
		w       []int64
		x, want int64
	}{
		{flipOf(12), []int64{0, 1, 2, 3, 4, 5, 6, 7}, 11, 11}, {dihedralOf(12), nil, 7, 7}, {dihedralOf(3), []int64{0, 1}, 0, 1}, {dihedralOf(3), []int64{1, 0}, 0, 2}, {flipOf(1), make([]int64, 8), 0, 0},
		{twistOf(turn(12, 5), turn(12, 1)), make([]int64, 8), 0, 4}, {twistOf(turn(12, 5), turn(12, 1)), []int64{3, 1, 4}, 11, 2}, {sameOf(12), []int64{3, 1, 4}, 11, 3}, {sameOf(12), nil, 11, 11},
		// Lambda of 0 and of 1 are {0, 1, 3, 2} and {3, 2, 0, 1}: 1 leads 0 to 3, and 0 leads 3 to 2.
		{cross, []int64{0, 1}, 0, 2}, {cross, []int64{1, 0}, 0, 3}, {cross, []int64{1}, 0, 3}, {mirrorOf(dihedralOf(7)), []int64{6, 5, 4, 3, 2, 1, 0, 1}, 3, 3},
	} {
		if got, c := impl.ActWord(x.s, x.w, x.x); got != x.want || c != impl.ErrNone {
			t.Errorf("ActWord(%v, %v, %d) = %d, %d, want %d", x.s, x.w, x.x, got, c, x.want)
		}
	}
}

// Promise 9 for words that are chosen without the program: equal words act alike, by all solutions.
func TestEqualWordsActAlike(t *testing.T) {
	random := rand.New(rand.NewSource(122))
	degenerate := 0
	for _, s := range append(wordSolutions(t), groupSolutions()...) {
		w := randomTuple(random, size(s), 2+random.Intn(7))
		other := w
		for range 30 {
			other = done(s, other, random.Intn(len(w)-1))
		}
		if !isNondegenerate(s) {
			degenerate++
		}
		for x := range int64(size(s)) {
			a, c := impl.ActWord(s, w, x)
			b, d := impl.ActWord(s, other, x)
			if a != b || a != actedOn(s, w, x) || c != impl.ErrNone || d != impl.ErrNone {
				t.Errorf("%v: %v leads %d to %d, %d, and the equal word %v to %d, %d", s, w, x, a, c, other, b, d)
			}
		}
	}
	if degenerate < 10 {
		t.Errorf("%d degenerate solutions", degenerate)
	}
}
