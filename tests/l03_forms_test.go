package tests

import (
	"math/rand"
	"slices"
	"testing"

	"loop.example/g01119/impl"
)

// isHomomorphism reports whether a list leads x > y to what its elements at x and y make.
func isHomomorphism(r impl.Rack, s impl.Rack, f []int64) bool {
	for x, row := range r.Table {
		for y, z := range row {
			if f[z] != s.Table[f[x]][f[y]] {
				return false
			}
		}
	}
	return true
}

// rackMaps returns all homomorphisms of racks in lexicographic order.
func rackMaps(r impl.Rack, s impl.Rack) [][]int64 {
	return slices.DeleteFunc(everyList(len(s.Table), len(r.Table)), func(f []int64) bool { return !isHomomorphism(r, s, f) })
}

// rackIsomorphisms returns all isomorphisms of racks of equally many elements in lexicographic
// order.
func rackIsomorphisms(r impl.Rack, s impl.Rack) [][]int64 {
	return slices.DeleteFunc(everyPermutation(len(r.Table)), func(f []int64) bool { return !isHomomorphism(r, s, f) })
}

// leastRackOf returns the least of all images of a rack.
func leastRackOf(r impl.Rack) impl.Rack {
	least := r
	for _, p := range everyPermutation(len(r.Table)) {
		s := renamedRack(r, p)
		if slices.Compare(slices.Concat(s.Table...), slices.Concat(least.Table...)) < 0 {
			least = s
		}
	}
	return least
}

// smallRacks returns the racks of someRacks that have at most n elements.
func smallRacks(n int) []impl.Rack {
	return slices.DeleteFunc(someRacks(), func(r impl.Rack) bool { return len(r.Table) > n })
}

func TestCountRackMaps(t *testing.T) {
	few := slices.Concat(foundRacks(1), foundRacks(2), foundRacks(3), smallRacks(4))
	for _, r := range few {
		for _, s := range few {
			got, c := impl.CountRackMaps(r, s)
			if want := int64(len(rackMaps(r, s))); got != want || c != impl.ErrNone {
				t.Errorf("CountRackMaps(%v, %v) = %d, %d, want %d", r, s, got, c, want)
			}
		}
	}
	r := rand.New(rand.NewSource(70))
	all := someRacks()
	for checked := 0; checked < 150; {
		a, b := all[r.Intn(len(all))], all[r.Intn(len(all))]
		if count := power(len(b.Table), len(a.Table)); count > 50000 || len(a.Table) < 2 || len(b.Table) < 2 {
			continue
		}
		checked++
		got, c := impl.CountRackMaps(a, b)
		if want := int64(len(rackMaps(a, b))); got != want || c != impl.ErrNone {
			t.Errorf("CountRackMaps(%v, %v) = %d, %d, want %d", a, b, got, c, want)
		}
	}
}

// power returns n raised to the power of k.
func power(n int, k int) int64 {
	p := int64(1)
	for range k {
		p *= int64(n)
	}
	return p
}

// All maps of trivial racks are homomorphisms. Their numbers meet the limit from both sides: at 1
// element of the one or the other, and at 10 to the power of 6, which is the limit.
func TestCountRackMapsAroundTheLimit(t *testing.T) {
	accepted := 0
	for n := 1; n <= impl.MaxSize; n++ {
		for m := 1; m <= impl.MaxSize; m++ {
			want, wantCode := power(m, n), int64(impl.ErrNone)
			if want > 1000000 {
				want, wantCode = 0, impl.ErrLimit
			} else if want == 1000000 {
				accepted++
			}
			got, c := impl.CountRackMaps(trivialRack(n), trivialRack(m))
			if got != want || c != wantCode {
				t.Errorf("CountRackMaps of trivial racks of %d and %d elements = %d, %d, want %d, %d", n, m, got, c, want, wantCode)
			}
			// The limit tells of all maps, not of the homomorphisms alone.
			got, c = impl.CountRackMaps(permutationRack(turn(n, 1)), dihedralRack(m))
			if c != wantCode || c != impl.ErrNone && got != 0 {
				t.Errorf("CountRackMaps of racks of %d and %d elements: %d, %d, want code %d", n, m, got, c, wantCode)
			}
		}
	}
	if accepted != 1 {
		t.Errorf("%d pairs of sizes at the limit", accepted)
	}
}

func TestCountRackMapsOfNamedRacks(t *testing.T) {
	three, four, five := dihedralRack(3), tetrahedralRack(), affineRack(5, 2)
	swap := permutationRack(turn(2, 1))
	cases := []struct {
		r, s impl.Rack
		want int64
	}{
		{three, three, 9}, {dihedralRack(5), dihedralRack(5), 25}, {dihedralRack(6), three, 9}, {three, dihedralRack(9), 27},
		{dihedralRack(4), three, 3}, {three, dihedralRack(5), 5}, {dihedralRack(9), three, 9}, {four, four, 16}, {five, five, 25},
		{five, dihedralRack(5), 5}, {trivialRack(12), trivialRack(1), 1}, {trivialRack(1), dihedralRack(12), 12},
		// An element that is led to another one by itself has no image in a quandle that lacks fixed pairs, and
		// the only element of a rack none in a rack without such pairs.
		{trivialRack(1), permutationRack(turn(12, 1)), 0}, {trivialRack(1), swap, 0}, {swap, trivialRack(3), 3},
		{swap, swap, 2}, {three, swap, 0}, {permutationRack(turn(4, 1)), swap, 2}, {swap, permutationRack(turn(4, 1)), 0},
		{trivialRack(1), unionOfRacks(swap, trivialRack(2)), 2}, {three, four, 4}, {four, three, 3},
		{classRack(4, 1, 1, 2), three, 9}, {permutationRack(turn(12, 1)), permutationRack(turn(3, 1)), 3},
	}
	for _, x := range cases {
		if got, c := impl.CountRackMaps(x.r, x.s); got != x.want || c != impl.ErrNone {
			t.Errorf("CountRackMaps(%v, %v) = %d, %d, want %d", x.r, x.s, got, c, x.want)
		}
	}
}

// checkRackMatch checks the isomorphism of racks with few elements.
func checkRackMatch(t *testing.T, r impl.Rack, s impl.Rack) {
	t.Helper()
	got, c := impl.RackIsomorphism(r, s)
	wants := rackIsomorphisms(r, s)
	if len(wants) == 0 {
		if len(got) != 0 || c != impl.ErrNotFound {
			t.Errorf("RackIsomorphism(%v, %v) = %v, %d, want none", r, s, got, c)
		}
	} else if !slices.Equal(got, wants[0]) || c != impl.ErrNone {
		t.Errorf("RackIsomorphism(%v, %v) = %v, %d, want %v", r, s, got, c, wants[0])
	}
}

// Promise 3: racks are isomorphic exactly if they have the same least form.
func TestIsomorphismsAndLeastForms(t *testing.T) {
	four := foundRacks(4)
	lists := [][]impl.Rack{foundRacks(1), foundRacks(2), foundRacks(3), four}
	for _, list := range lists {
		leasts := []impl.Rack{}
		for _, r := range list {
			least, c := impl.LeastRack(r)
			if !equalRacks(least, leastRackOf(r)) || c != impl.ErrNone {
				t.Fatalf("LeastRack(%v) = %v, %d", r, least, c)
			}
			leasts = append(leasts, least)
		}
		for i, r := range list {
			for j, s := range list {
				checkRackMatch(t, r, s)
				_, c := impl.RackIsomorphism(r, s)
				if (c == impl.ErrNone) != equalRacks(leasts[i], leasts[j]) {
					t.Errorf("%v and %v: code %d, least forms %v and %v", r, s, c, leasts[i], leasts[j])
				}
			}
		}
	}
}

func TestIsomorphismsAndLeastFormsOfGreaterRacks(t *testing.T) {
	r := rand.New(rand.NewSource(71))
	list := slices.DeleteFunc(smallRacks(impl.MaxForm), func(r impl.Rack) bool { return len(r.Table) < 5 })
	for _, s := range list {
		want := leastRackOf(s)
		u := renamedRack(s, randomPermutation(r, len(s.Table)))
		for _, v := range []impl.Rack{s, u} {
			if got, c := impl.LeastRack(v); !equalRacks(got, want) || c != impl.ErrNone {
				t.Errorf("LeastRack(%v) = %v, %d, want %v", v, got, c, want)
			}
		}
		checkRackMatch(t, s, u)
		if other := list[r.Intn(len(list))]; len(other.Table) == len(s.Table) {
			checkRackMatch(t, s, other)
		}
	}
}

// The numbers of racks and quandles up to isomorphism are known, and of those with some properties.
func TestNumbersOfRacks(t *testing.T) {
	racks, quandles := []int{1, 2, 6, 19, 74}, []int{1, 1, 3, 7, 22}
	wants := map[string][]int{
		"IsConnectedRack": {1, 0, 1, 1, 3}, "IsLatinRack": {1, 0, 1, 1, 3}, "IsInvolutoryRack": {1, 1, 3, 5, 13},
		"IsMedialRack": {1, 1, 3, 6, 18}, "IsQuandle": {1, 1, 3, 7, 22},
	}
	for n := 1; n <= 5; n++ {
		forms := map[string]impl.Rack{}
		labelled := int64(0)
		for _, r := range foundRacks(n) {
			least, _ := impl.LeastRack(r)
			text, _ := impl.RackText(least)
			forms[text] = least
			labelled++
		}
		counts, tables := map[string]int{}, int64(0)
		for _, r := range forms {
			automorphisms, _ := impl.CountRackAutomorphisms(r)
			tables += int64(len(everyPermutation(n))) / automorphisms
			if ok, _ := impl.IsQuandle(r); !ok {
				continue
			}
			for name, f := range properties() {
				if ok, _ := f(r); ok {
					counts[name]++
				}
			}
		}
		if len(forms) != racks[n-1] || counts["IsQuandle"] != quandles[n-1] {
			t.Errorf("%d racks and %d quandles of %d elements", len(forms), counts["IsQuandle"], n)
		}
		for name, want := range wants {
			if counts[name] != want[n-1] {
				t.Errorf("%s holds for %d quandles of %d elements, want %d", name, counts[name], n, want[n-1])
			}
		}
		if tables != labelled {
			t.Errorf("%d tables of racks of %d elements, but %d by automorphisms", labelled, n, tables)
		}
	}
}

// A rack of fewer elements is not isomorphic to one of more, even if its table is the beginning.
func TestIsomorphismsOfRacksOfDifferentSizes(t *testing.T) {
	for n := 1; n <= impl.MaxSize; n++ {
		for m := 1; m <= impl.MaxSize; m++ {
			got, c := impl.RackIsomorphism(trivialRack(n), trivialRack(m))
			if n == m && (!slices.Equal(got, identity(n)) || c != impl.ErrNone) {
				t.Errorf("trivial racks of %d elements: %v, %d", n, got, c)
			}
			if n != m && (len(got) != 0 || c != impl.ErrNotFound) {
				t.Errorf("trivial racks of %d and %d elements: %v, %d", n, m, got, c)
			}
		}
	}
	three := dihedralRack(3)
	for _, s := range []impl.Rack{unionOfRacks(three, trivialRack(1)), unionOfRacks(trivialRack(1), three), dihedralRack(6), trivialRack(2)} {
		for _, both := range [][2]impl.Rack{{three, s}, {s, three}} {
			got, c := impl.RackIsomorphism(both[0], both[1])
			if len(got) != 0 || c != impl.ErrNotFound {
				t.Errorf("RackIsomorphism(%v, %v) = %v, %d", both[0], both[1], got, c)
			}
		}
	}
}

// smallestIsomorphism returns the lexicographically smallest isomorphism of racks of equally many
// elements, or nil: images are given in ascending order, and dropped as soon as they do not fit.
func smallestIsomorphism(r impl.Rack, s impl.Rack, f []int64) []int64 {
	for x, a := range f {
		for y, b := range f {
			if z := r.Table[x][y]; int(z) < len(f) && f[z] != s.Table[a][b] {
				return nil
			}
		}
	}
	if len(f) == len(r.Table) {
		return f
	}
	for y := range int64(len(r.Table)) {
		if slices.Contains(f, y) {
			continue
		}
		if found := smallestIsomorphism(r, s, append(slices.Clone(f), y)); found != nil {
			return found
		}
	}
	return nil
}

func TestIsomorphismsOfGreatRacks(t *testing.T) {
	r := rand.New(rand.NewSource(72))
	for _, s := range someRacks() {
		u := renamedRack(s, randomPermutation(r, len(s.Table)))
		got, c := impl.RackIsomorphism(s, u)
		if want := smallestIsomorphism(s, u, nil); !slices.Equal(got, want) || c != impl.ErrNone {
			t.Errorf("RackIsomorphism(%v, %v) = %v, %d, want %v", s, u, got, c, want)
		}
		if same, _ := impl.RackIsomorphism(s, s); !slices.Equal(same, identity(len(s.Table))) {
			t.Errorf("RackIsomorphism(%v, itself) = %v", s, same)
		}
	}
	// Latin racks that are the duals of each other, and one that is its own dual, renamed.
	a, b := affineRack(5, 2), affineRack(5, 3)
	dual, _ := impl.DualRack(a)
	if p, c := impl.RackIsomorphism(dual, b); !slices.Equal(p, identity(5)) || c != impl.ErrNone {
		t.Errorf("the dual of %v and %v: %v, %d", a, b, p, c)
	}
	four := tetrahedralRack()
	dual, _ = impl.DualRack(four)
	p, c := impl.RackIsomorphism(four, dual)
	if c != impl.ErrNone || !equalRacks(renamedRack(four, p), dual) || slices.Equal(p, identity(4)) {
		t.Errorf("%v and its dual: %v, %d", four, p, c)
	}
}

// Racks that are not isomorphic, though they look alike in much.
func TestRacksThatAreNotIsomorphic(t *testing.T) {
	three, four := dihedralRack(3), tetrahedralRack()
	twice := func(r impl.Rack) impl.Rack { return unionOfRacks(r, r) }
	pairs := [][2]impl.Rack{
		{affineRack(5, 2), affineRack(5, 3)}, {affineRack(5, 2), dihedralRack(5)}, {affineRack(7, 3), affineRack(7, 5)},
		{affineRack(11, 2), affineRack(11, 6)}, {twice(dihedralRack(4)), dihedralRack(8)}, {classRack(4, 1, 1, 2), classRack(4, 4)},
		{classRack(4, 1, 3), twice(four)}, {productOfRacks(three, four), productOfRacks(trivialRack(3), four)},
		{permutationRack(turn(12, 1)), permutationRack(turn(12, 3))}, {permutationRack(turn(12, 2)), permutationRack(turn(12, 3))},
		{permutationRack(turn(2, 1)), trivialRack(2)}, {permutationRack([]int64{1, 2, 0, 4, 5, 6, 7, 3, 8, 9, 10, 11}),
			permutationRack([]int64{1, 2, 0, 4, 5, 6, 3, 7, 8, 9, 10, 11})},
		{unionOfRacks(three, three, permutationRack(turn(6, 1))), unionOfRacks(three, three, permutationRack(turn(6, 2)))},
		{unionOfRacks(affineRack(5, 2), affineRack(5, 3)), twice(affineRack(5, 2))},
		{productOfRacks(affineRack(5, 2), trivialRack(2)), productOfRacks(affineRack(5, 3), trivialRack(2))},
		{trivialRack(12), dihedralRack(12)}, {productOfRacks(three, permutationRack(turn(4, 1))), productOfRacks(three, permutationRack(turn(4, 2)))},
	}
	for _, pair := range pairs {
		for _, both := range [][2]impl.Rack{pair, {pair[1], pair[0]}} {
			got, c := impl.RackIsomorphism(both[0], both[1])
			if len(got) != 0 || c != impl.ErrNotFound {
				t.Errorf("RackIsomorphism(%v, %v) = %v, %d", both[0], both[1], got, c)
			}
		}
	}
}

func TestCountRackAutomorphisms(t *testing.T) {
	for _, r := range append(smallRacks(impl.MaxForm), foundRacks(4)...) {
		got, c := impl.CountRackAutomorphisms(r)
		if want := int64(len(rackIsomorphisms(r, r))); got != want || c != impl.ErrNone {
			t.Errorf("CountRackAutomorphisms(%v) = %d, %d, want %d", r, got, c, want)
		}
	}
	wants := map[int64]impl.Rack{
		1: trivialRack(1), 5040: trivialRack(7), 42: dihedralRack(7), 6: dihedralRack(3), 20: dihedralRack(5), 12: tetrahedralRack(),
		7: permutationRack(turn(7, 1)), 24: classRack(4, 1, 1, 2), 2: trivialRack(2), 36: unionOfRacks(dihedralRack(3), trivialRack(3)),
		72: unionOfRacks(dihedralRack(3), dihedralRack(3)), 3: unionOfRacks(permutationRack(turn(3, 1)), trivialRack(1)),
	}
	for want, r := range wants {
		if got, c := impl.CountRackAutomorphisms(r); got != want || c != impl.ErrNone {
			t.Errorf("CountRackAutomorphisms(%v) = %d, %d, want %d", r, got, c, want)
		}
	}
}

// Least forms and automorphisms need at most MaxForm elements.
func TestRacksWithoutLeastForms(t *testing.T) {
	for n := 1; n <= impl.MaxSize; n++ {
		for _, r := range []impl.Rack{trivialRack(n), dihedralRack(n), permutationRack(turn(n, 1))} {
			least, c := impl.LeastRack(r)
			count, d := impl.CountRackAutomorphisms(r)
			switch {
			case n > impl.MaxForm && (len(least.Table) != 0 || count != 0 || c != impl.ErrLimit || d != impl.ErrLimit):
				t.Errorf("%v: %v, %d, %d, %d", r, least, c, count, d)
			case n <= impl.MaxForm && (len(least.Table) != n || count == 0 || c != impl.ErrNone || d != impl.ErrNone):
				t.Errorf("%v: %v, %d, %d, %d", r, least, c, count, d)
			}
		}
	}
}

// rackAndCode puts a rack and a code into a list as checkMemory takes them.
func rackAndCode(r impl.Rack, c int64) []any { return []any{r.Table, c} }

func TestChapter3KeepsMemoryApart(t *testing.T) {
	one := func(a []any) impl.Rack { return impl.Rack{Table: a[0].([][]int64)} }
	two := func(a []any) impl.Rack { return impl.Rack{Table: a[1].([][]int64)} }
	racks := []impl.Rack{trivialRack(1), trivialRack(5), dihedralRack(5), permutationRack(turn(5, 2)), tetrahedralRack(),
		unionOfRacks(permutationRack(turn(2, 1)), dihedralRack(3)), {Table: sumTable(5)}, {Table: constantTable(5, 1)}}
	for _, r := range racks {
		check := func(name string, call func(a []any) []any) {
			t.Helper()
			checkMemory(t, name, call, r.Table)
		}
		for name, f := range properties() {
			check(name, func(a []any) []any { return listsAndCode(f(one(a))) })
		}
		check("IsRack", func(a []any) []any { return []any{impl.IsRack(one(a))} })
		check("RackFault", func(a []any) []any { return listsAndCode(impl.RackFault(one(a))) })
		check("RackSolution", func(a []any) []any { return parts(impl.RackSolution(one(a))) })
		check("InnerOrder", func(a []any) []any { return listsAndCode(impl.InnerOrder(one(a))) })
		check("RackOrbits", func(a []any) []any { return listsAndCode(impl.RackOrbits(one(a))) })
		check("DualRack", func(a []any) []any { return rackAndCode(impl.DualRack(one(a))) })
		check("KinkOf", func(a []any) []any { return listsAndCode(impl.KinkOf(one(a))) })
		check("QuandleOf", func(a []any) []any { return rackAndCode(impl.QuandleOf(one(a))) })
		check("CountRackAutomorphisms", func(a []any) []any { return listsAndCode(impl.CountRackAutomorphisms(one(a))) })
		check("LeastRack", func(a []any) []any { return rackAndCode(impl.LeastRack(one(a))) })
		check("RackText", func(a []any) []any { return listsAndCode(impl.RackText(one(a))) })
		for _, s := range append(racks, renamedRack(r, turn(len(r.Table), 1))) {
			checkMemory(t, "CountRackMaps", func(a []any) []any { return listsAndCode(impl.CountRackMaps(one(a), two(a))) }, r.Table, s.Table)
			checkMemory(t, "RackIsomorphism", func(a []any) []any { return listsAndCode(impl.RackIsomorphism(one(a), two(a))) }, r.Table, s.Table)
		}
		text, _ := impl.RackText(r)
		checkMemory(t, "ParseRack", func(a []any) []any { return rackAndCode(impl.ParseRack(text)) })
	}
	least := leastRackOf(dihedralRack(4))
	checkMemory(t, "LeastRack of a least form", func(a []any) []any { return rackAndCode(impl.LeastRack(one(a))) }, least.Table)
	// Rows that are one list, as an argument, are several ones in a result.
	row := []int64{1, 0, 2}
	shared := impl.Rack{Table: [][]int64{row, row, row}}
	for _, f := range []func(impl.Rack) (impl.Rack, int64){impl.DualRack, impl.QuandleOf, impl.LeastRack} {
		checkMemory(t, "rows that are one list", func(a []any) []any { return rackAndCode(f(shared)) })
	}
	checkMemory(t, "rows that are one list", func(a []any) []any { return parts(impl.RackSolution(shared)) })
	if !slices.Equal(row, []int64{1, 0, 2}) {
		t.Errorf("the row is changed: %v", row)
	}
}

// A result that is overwritten must not change what a later call returns.
func TestChapter3KeepsNoState(t *testing.T) {
	swap := permutationRack(turn(2, 1))
	for range 2 {
		dual, _ := impl.DualRack(swap)
		quandle, _ := impl.QuandleOf(swap)
		least, _ := impl.LeastRack(dihedralRack(3))
		parsed, _ := impl.ParseRack("10/10")
		s, _ := impl.RackSolution(trivialRack(2))
		kink, _ := impl.KinkOf(swap)
		labels, _ := impl.RackOrbits(swap)
		p, _ := impl.RackIsomorphism(swap, swap)
		if !equalRacks(dual, swap) || !equalRacks(quandle, trivialRack(2)) || !equalRacks(least, dihedralRack(3)) || !equalRacks(parsed, swap) ||
			!equalSolutions(s, flipOf(2)) || !slices.Equal(kink, []int64{1, 0}) || !slices.Equal(labels, []int64{0, 0}) || !slices.Equal(p, []int64{0, 1}) {
			t.Errorf("results %v, %v, %v, %v, %v, %v, %v, %v", dual, quandle, least, parsed, s, kink, labels, p)
		}
		for _, rows := range [][][]int64{dual.Table, quandle.Table, least.Table, parsed.Table, s.First, s.Second, {kink, labels, p}} {
			for _, row := range rows {
				fill(row, -1)
			}
			clear(rows)
		}
	}
}
