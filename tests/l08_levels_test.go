package tests

import (
	"math/rand"
	"slices"
	"testing"

	"loop.example/g01119/impl"
)

// retractCase is what is known of a solution; its level is -1 if it has none.
type retractCase struct {
	s              impl.Solution
	classes, sizes []int64
	level          int64
	last           impl.Solution
}

// namedRetractCases returns named solutions.
func namedRetractCases(t *testing.T) map[string]retractCase {
	one, two, three, all := flipOf(1), flipOf(2), dihedralOf(3), identity(12)
	zeros := func(n int) []int64 { return make([]int64, n) }
	halves := []int64{0, 1, 2, 3, 4, 5, 0, 1, 2, 3, 4, 5}
	text := read(t, "012/012/102|001/110/222")
	return map[string]retractCase{
		"one element":        {one, zeros(1), []int64{1}, 0, one},
		"flip of 2":          {two, zeros(2), []int64{2, 1}, 1, one},
		"flip of 12":         {flipOf(12), zeros(12), []int64{12, 1}, 1, one},
		"twist of 12":        {twistOf(turn(12, 1), turn(12, 7)), zeros(12), []int64{12, 1}, 1, one},
		"lambda swap":        {twistOf(turn(2, 1), identity(2)), zeros(2), []int64{2, 1}, 1, one},
		"rho swap":           {twistOf(identity(2), turn(2, 1)), zeros(2), []int64{2, 1}, 1, one},
		"text":               {text, []int64{0, 0, 1}, []int64{3, 2, 1}, 2, one},
		"text, 0 last":       {renamedMap(text, []int64{2, 1, 0}), []int64{0, 1, 1}, []int64{3, 2, 1}, 2, one},
		"text, classes mix":  {renamedMap(text, []int64{0, 2, 1}), []int64{0, 1, 0}, []int64{3, 2, 1}, 2, one},
		"dihedral 3":         {three, identity(3), []int64{3}, -1, three},
		"mirrored dihedral":  {mirrorOf(three), identity(3), []int64{3}, -1, mirrorOf(three)},
		"dihedral 4":         {dihedralOf(4), []int64{0, 1, 0, 1}, []int64{4, 2, 1}, 2, one},
		"dihedral 6":         {dihedralOf(6), []int64{0, 1, 2, 0, 1, 2}, []int64{6, 3}, -1, three},
		"dihedral 8":         {dihedralOf(8), []int64{0, 1, 2, 3, 0, 1, 2, 3}, []int64{8, 4, 2, 1}, 3, one},
		"mirrored 8":         {mirrorOf(dihedralOf(8)), []int64{0, 1, 2, 3, 0, 1, 2, 3}, []int64{8, 4, 2, 1}, 3, one},
		"dihedral 11":        {dihedralOf(11), identity(11), []int64{11}, -1, dihedralOf(11)},
		"dihedral 12":        {dihedralOf(12), halves, []int64{12, 6, 3}, -1, three},
		"mirrored 12":        {mirrorOf(dihedralOf(12)), halves, []int64{12, 6, 3}, -1, mirrorOf(three)},
		"irretractable 12":   {productOf(three, solutionOfRack(tetrahedralRack())), all, []int64{12}, -1, productOf(three, solutionOfRack(tetrahedralRack()))},
		"cross":              {solutionOf(crossCycle()), identity(4), []int64{4}, -1, solutionOf(crossCycle())},
		"and two fixed":      {union(t, three, two), []int64{0, 1, 2, 3, 3}, []int64{5, 4}, -1, union(t, three, one)},
		"two fixed before":   {union(t, two, three), []int64{0, 0, 1, 2, 3}, []int64{5, 4}, -1, union(t, one, three)},
		"falling":            {solutionOf(fallingCycle()), []int64{0, 1, 1, 2}, []int64{4, 3, 2, 1}, 3, one},
		"steep":              {solutionOf(steepCycle()), []int64{0, 1, 2, 1, 3}, []int64{5, 4, 2, 1}, 3, one},
		"exchanged pairs":    {solutionOf(exchangeCycle(permutationCycle(turn(2, 1)))), []int64{0, 0, 1, 1, 2}, []int64{5, 3, 2, 1}, 3, one},
		"exchanged exchange": {solutionOf(exchangeCycle(exchangeCycle(trivialCycle(1)))), []int64{0, 0, 1, 0, 0, 2, 3}, []int64{7, 4, 2, 1}, 3, one},
		"exchanged falling":  {solutionOf(exchangeCycle(fallingCycle())), []int64{0, 1, 1, 2, 3, 4, 4, 5, 6}, []int64{9, 7, 4, 2, 1}, 4, one},
	}
}

func TestNamedRetracts(t *testing.T) {
	for name, x := range namedRetractCases(t) {
		classes, a := impl.AlikeClasses(x.s)
		sizes, b := impl.RetractSizes(x.s)
		if !slices.Equal(classes, x.classes) || !slices.Equal(sizes, x.sizes) || a != impl.ErrNone || b != impl.ErrNone {
			t.Errorf("%s: classes %v, %d, sizes %v, %d", name, classes, a, sizes, b)
		}
		want := int64(impl.ErrNone)
		if x.level < 0 {
			want = impl.ErrNotFound
		}
		if level, c := impl.LevelOf(x.s); level != max(x.level, 0) || c != want {
			t.Errorf("%s: level %d, %d", name, level, c)
		}
		if last, c := impl.LastRetract(x.s); !equalSolutions(last, x.last) || c != impl.ErrNone {
			t.Errorf("%s: last retract %v, %d", name, last, c)
		}
		if is, c := impl.IsIrretractable(x.s); is != (len(sizes) == 1 && size(x.s) > 1) || c != impl.ErrNone {
			t.Errorf("%s: irretractable %v, %d", name, is, c)
		}
		if is, c := impl.IsTwist(x.s); is != (slices.Max(x.classes) == 0) || c != impl.ErrNone {
			t.Errorf("%s: twist %v, %d", name, is, c)
		}
		labels, c := impl.SeriesLabels(x.s, 1)
		if len(x.sizes) > 1 && (!slices.Equal(labels, x.classes) || c != impl.ErrNone) || len(x.sizes) == 1 && (len(labels) != 0 || c != impl.ErrNotFound) {
			t.Errorf("%s: labels %v, %d", name, labels, c)
		}
	}
}

func TestNamedSeriesLabels(t *testing.T) {
	for name, x := range map[string]struct {
		s    impl.Solution
		want [][]int64
	}{
		"one element":       {flipOf(1), [][]int64{{0}}},
		"cross":             {solutionOf(crossCycle()), [][]int64{{0, 1, 2, 3}}},
		"text":              {read(t, "012/012/102|001/110/222"), [][]int64{{0, 1, 2}, {0, 0, 1}, {0, 0, 0}}},
		"dihedral 8":        {dihedralOf(8), [][]int64{{0, 1, 2, 3, 4, 5, 6, 7}, {0, 1, 2, 3, 0, 1, 2, 3}, {0, 1, 0, 1, 0, 1, 0, 1}, {0, 0, 0, 0, 0, 0, 0, 0}}},
		"dihedral 12":       {dihedralOf(12), [][]int64{identity(12), {0, 1, 2, 3, 4, 5, 0, 1, 2, 3, 4, 5}, {0, 1, 2, 0, 1, 2, 0, 1, 2, 0, 1, 2}}},
		"falling":           {solutionOf(fallingCycle()), [][]int64{{0, 1, 2, 3}, {0, 1, 1, 2}, {0, 1, 1, 0}, {0, 0, 0, 0}}},
		"exchanged falling": {solutionOf(exchangeCycle(fallingCycle())), [][]int64{identity(9), {0, 1, 1, 2, 3, 4, 4, 5, 6}, {0, 1, 1, 0, 2, 1, 1, 2, 3}, {0, 0, 0, 0, 0, 0, 0, 0, 1}, make([]int64, 9)}},
	} {
		for k, want := range x.want {
			if got, c := impl.SeriesLabels(x.s, int64(k)); !slices.Equal(got, want) || c != impl.ErrNone {
				t.Errorf("%s: SeriesLabels(%d) = %v, %d, want %v", name, k, got, c, want)
			}
		}
		for _, k := range notElements(len(x.want)) {
			if got, c := impl.SeriesLabels(x.s, k); len(got) != 0 || c != impl.ErrNotFound {
				t.Errorf("%s: SeriesLabels(%d) = %v, %d", name, k, got, c)
			}
		}
	}
}

func TestNamedClassSolutions(t *testing.T) {
	one, two := flipOf(1), flipOf(2)
	twist, falling := twistOf(turn(12, 5), turn(12, 1)), solutionOf(fallingCycle())
	// 0 and 1 act alike, and so do 2 and 3; pairs of elements of one class are led to those of the other.
	turned := read(t, "3210/3210/2301/2301|2233/3322/0011/1100")
	for name, x := range map[string]struct {
		s     impl.Solution
		class int64
		want  impl.Solution
	}{
		"one element": {one, 0, one}, "twist": {twist, 0, twist}, "flip of 12": {flipOf(12), 0, flipOf(12)}, "dihedral 3": {dihedralOf(3), 2, one},
		"dihedral 4, 0 and 2": {dihedralOf(4), 0, two}, "dihedral 4, 1 and 3": {dihedralOf(4), 1, two}, "dihedral 12": {dihedralOf(12), 5, two},
		"falling": {falling, 1, twistOf(turn(2, 1), turn(2, 1))},
		"text":    {read(t, "012/012/102|001/110/222"), 1, one}, "two fixed": {union(t, dihedralOf(3), two), 3, two},
	} {
		if got, c := impl.ClassSolution(x.s, x.class); !equalSolutions(got, x.want) || c != impl.ErrNone {
			t.Errorf("%s: ClassSolution(%d) = %v, %d, want %v", name, x.class, got, c, x.want)
		}
	}
	for name, x := range map[string]struct {
		s       impl.Solution
		classes []int64
	}{
		"one element": {one, []int64{1, 2, -1}}, "twist": {twist, []int64{1, 11, 12}}, "dihedral 4": {dihedralOf(4), []int64{2, 3, 4}}, "dihedral 12": {dihedralOf(12), []int64{6, 11, 12, 13}},
		"turned": {turned, []int64{0, 1, 2, 3}}, "falling": {falling, []int64{0, 2, 3}},
	} {
		for _, class := range x.classes {
			if got, c := impl.ClassSolution(x.s, class); !isZero(got) || c != impl.ErrNotFound {
				t.Errorf("%s: ClassSolution(%d) = %v, %d", name, class, got, c)
			}
		}
	}
}

// One half of acting alike is not enough, for neither half.
func TestActingAlikeIsOfBothSides(t *testing.T) {
	for n := 3; n <= impl.MaxSize; n++ {
		for acting := range n {
			// One element exchanges two others; its lambda, or its rho, alone tells it from the others.
			r := trivialRack(n)
			x, y := (acting+1)%n, (acting+2)%n
			r.Table[acting][x], r.Table[acting][y] = int64(y), int64(x)
			want := make([]int64, n)
			want[acting] = 1
			want = together([][]int64{want})
			for _, s := range []impl.Solution{solutionOfRack(r), mirrorOf(solutionOfRack(r))} {
				if got, c := impl.AlikeClasses(s); !slices.Equal(got, want) || c != impl.ErrNone {
					t.Errorf("AlikeClasses(%v) = %v, %d, want %v", s, got, c, want)
				}
				if is, c := impl.IsTwist(s); is || c != impl.ErrNone {
					t.Errorf("IsTwist(%v) = %v, %d", s, is, c)
				}
				if level, c := impl.LevelOf(s); level != 2 || c != impl.ErrNone {
					t.Errorf("LevelOf(%v) = %d, %d", s, level, c)
				}
			}
		}
	}
}

// factorCases returns solutions with few elements, of levels 0 to 3 and without one, and their
// levels.
func factorCases(t *testing.T) []retractCase {
	swap, text := twistOf(turn(2, 1), turn(2, 0)), read(t, "012/012/102|001/110/222")
	list := []retractCase{{s: flipOf(1)}, {s: flipOf(12), level: 1}, {s: dihedralOf(8), level: 3}, {s: solutionOf(steepCycle()), level: 3}, {s: dihedralOf(12), level: -1},
		{s: solutionOf(exchangeCycle(fallingCycle())), level: 4}}
	for level, some := range map[int64][]impl.Solution{
		1: {flipOf(2), swap, flipOf(3), twistOf(turn(3, 1), turn(3, 2)), flipOf(4), twistOf(turn(6, 1), turn(6, 3))},
		2: {text, dihedralOf(4), read(t, "3210/3210/2301/2301|2233/3322/0011/1100")}, 3: {solutionOf(fallingCycle())},
		-1: {dihedralOf(3), solutionOf(crossCycle()), solutionOfRack(tetrahedralRack()), dihedralOf(6), union(t, dihedralOf(3), flipOf(2)), factorSolutions()[0]},
	} {
		for _, s := range some {
			list = append(list, retractCase{s: s, level: level}, retractCase{s: mirrorOf(s), level: level}, retractCase{s: renamedMap(s, reversedTurn(size(s))), level: level})
		}
	}
	return list
}

// checkProduct checks the product of two solutions. Promise 8: its level is the greater one of their
// levels. Elements of it act alike exactly if both parts do, so that retracts of products are products.
func checkProduct(t *testing.T, a retractCase, b retractCase) {
	t.Helper()
	s, c := impl.ProductSolution(a.s, b.s)
	code(t, "ProductSolution", c, impl.ErrNone)
	level, want := max(a.level, b.level), int64(impl.ErrNone)
	if min(a.level, b.level) < 0 {
		level, want = 0, impl.ErrNotFound
	}
	if got, c := impl.LevelOf(s); got != level || c != want {
		t.Errorf("LevelOf(%v) = %d, %d; the factors have the levels %d and %d", s, got, c, a.level, b.level)
	}
	left, _ := impl.RetractOf(a.s)
	right, _ := impl.RetractOf(b.s)
	if got, c := impl.RetractOf(s); !equalSolutions(got, productOf(left, right)) || c != impl.ErrNone {
		t.Errorf("RetractOf(%v) = %v, %d, but those of the factors are %v and %v", s, got, c, left, right)
	}
	left, _ = impl.LastRetract(a.s)
	right, _ = impl.LastRetract(b.s)
	if got, c := impl.LastRetract(s); !equalSolutions(got, productOf(left, right)) || c != impl.ErrNone {
		t.Errorf("LastRetract(%v) = %v, %d, but those of the factors are %v and %v", s, got, c, left, right)
	}
}

func TestLevelsOfProducts(t *testing.T) {
	cases, met := factorCases(t), map[[2]int64]int{}
	for _, a := range cases {
		want := int64(impl.ErrNone)
		if a.level < 0 {
			want = impl.ErrNotFound
		}
		if got, c := impl.LevelOf(a.s); got != max(a.level, 0) || c != want {
			t.Fatalf("LevelOf(%v) = %d, %d, want %d", a.s, got, c, a.level)
		}
		for _, b := range cases {
			if size(a.s)*size(b.s) <= impl.MaxSize {
				checkProduct(t, a, b)
				met[[2]int64{a.level, b.level}]++
			}
		}
	}
	for a := int64(-1); a <= 3; a++ {
		for b := int64(-1); b <= 3; b++ {
			// A solution of level 3 has at least 4 elements, so that two of them make too many.
			if met[[2]int64{a, b}] == 0 && min(a, b) < 3 {
				t.Errorf("no product of the levels %d and %d", a, b)
			}
		}
	}
}

// Renaming a solution renames its retract: by the numbers that the classes then have.
func TestRetractsOfRenamedSolutions(t *testing.T) {
	random := rand.New(rand.NewSource(110))
	for _, x := range namedRetractCases(t) {
		r, _ := impl.RetractOf(x.s)
		for range 5 {
			p := randomPermutation(random, size(x.s))
			s := renamedMap(x.s, p)
			classes, _ := impl.AlikeClasses(s)
			q := make([]int64, size(r))
			for y, class := range x.classes {
				q[class] = classes[p[y]]
			}
			if got, c := impl.RetractOf(s); !equalSolutions(got, renamedMap(r, q)) || c != impl.ErrNone {
				t.Errorf("RetractOf(%v) = %v, %d, want %v", s, got, c, renamedMap(r, q))
			}
			if sizes, c := impl.RetractSizes(s); !slices.Equal(sizes, x.sizes) || c != impl.ErrNone {
				t.Errorf("RetractSizes(%v) = %v, %d, want %v", s, sizes, c, x.sizes)
			}
		}
	}
}
