package tests

import (
	"math/rand"
	"reflect"
	"slices"
	"testing"

	"loop.example/g01119/impl"
)

// spare is the content of the memory behind the arguments that guarded makes.
const spare = int64(-777)

// guardedList returns a copy of a list with spare capacity behind it.
func guardedList(list []int64) []int64 {
	full := make([]int64, len(list)+3)
	copy(full, list)
	for i := len(list); i < len(full); i++ {
		full[i] = spare
	}
	return full[:len(list)]
}

// guardedTable returns a copy of a table with spare capacity behind it and behind its rows.
func guardedTable(t [][]int64) [][]int64 {
	full := make([][]int64, len(t)+1)
	for x, row := range t {
		full[x] = guardedList(row)
	}
	full[len(t)] = []int64{spare}
	return full[:len(t)]
}

// wholeOf returns a copy of all that an argument made by guardedList or guardedTable keeps, the
// spare capacity too.
func wholeOf(argument any) any {
	switch x := argument.(type) {
	case []int64:
		return slices.Clone(x[:cap(x)])
	case [][]int64:
		rows := [][]int64{}
		for _, row := range x[:cap(x)] {
			rows = append(rows, slices.Clone(row[:cap(row)]))
		}
		return rows
	}
	return argument
}

// listsOf returns the lists of numbers that a value consists of.
func listsOf(value any) [][]int64 {
	switch x := value.(type) {
	case []int64:
		return [][]int64{x}
	case [][]int64:
		return slices.Clone(x)
	}
	return nil
}

// checkMemory fails if a call changes an argument, or if what it returns shares memory with an
// argument or has two lists that share memory. The arguments are lists, tables and texts; the call
// returns its results.
func checkMemory(t *testing.T, name string, call func(arguments []any) []any, arguments ...any) {
	t.Helper()
	guarded, before := []any{}, []any{}
	for _, a := range arguments {
		switch x := a.(type) {
		case []int64:
			a = guardedList(x)
		case [][]int64:
			a = guardedTable(x)
		}
		guarded = append(guarded, a)
		before = append(before, wholeOf(a))
	}
	same := func(when string) {
		t.Helper()
		for i, a := range guarded {
			if !reflect.DeepEqual(wholeOf(a), before[i]) {
				t.Errorf("%s: argument %d is changed %s: %v", name, i, when, wholeOf(a))
			}
		}
	}
	results := call(guarded)
	same("by the call")
	lists := [][]int64{}
	for _, r := range results {
		if rows, ok := r.([][]int64); ok {
			// A row list may keep spare places, but none of them may be a row of an argument.
			for i := len(rows); i < cap(rows); i++ {
				rows[:cap(rows)][i] = nil
			}
		}
		lists = append(lists, listsOf(r)...)
	}
	for i, list := range lists {
		fill(list, int64(-1000-i))
	}
	same("through a result")
	for i, list := range lists {
		for _, x := range list[:cap(list)] {
			if x != int64(-1000-i) {
				t.Errorf("%s: list %d of the result shares memory with another one", name, i)
				break
			}
		}
	}
	for _, r := range results {
		if rows, ok := r.([][]int64); ok {
			clear(rows)
		}
	}
	same("through the rows of a result")
}

// fill writes x to all places of a list and to the spare ones behind it.
func fill(list []int64, x int64) {
	for i := range list[:cap(list)] {
		list[:cap(list)][i] = x
	}
}

// equalTables reports whether two tables have equal rows.
func equalTables(t [][]int64, u [][]int64) bool {
	return slices.EqualFunc(t, u, slices.Equal[[]int64])
}

// identity returns the identity of n elements.
func identity(n int) []int64 {
	p := make([]int64, n)
	for x := range p {
		p[x] = int64(x)
	}
	return p
}

// constantTable returns the table of n elements with all values x.
func constantTable(n int, x int64) [][]int64 {
	t := make([][]int64, n)
	for i := range t {
		t[i] = make([]int64, n)
		fill(t[i], x)
	}
	return t
}

// randomTable returns a table of n elements.
func randomTable(r *rand.Rand, n int) [][]int64 {
	t := constantTable(n, 0)
	for _, row := range t {
		for y := range row {
			row[y] = int64(r.Intn(n))
		}
	}
	return t
}

// randomPermutation returns a permutation of n elements.
func randomPermutation(r *rand.Rand, n int) []int64 {
	p := identity(n)
	r.Shuffle(n, func(i, j int) { p[i], p[j] = p[j], p[i] })
	return p
}

// everyList returns all lists of the given length with elements of a set of n, in lexicographic
// order.
func everyList(n int, length int) [][]int64 {
	if length == 0 {
		return [][]int64{{}}
	}
	lists := [][]int64{}
	for _, front := range everyList(n, length-1) {
		for x := range n {
			lists = append(lists, append(slices.Clone(front), int64(x)))
		}
	}
	return lists
}

// everyPermutation returns all permutations of n elements in lexicographic order, each found as a
// list without repetition.
func everyPermutation(n int) [][]int64 {
	found := [][]int64{{}}
	for range n {
		longer := [][]int64{}
		for _, front := range found {
			for x := range n {
				if !slices.Contains(front, int64(x)) {
					longer = append(longer, append(slices.Clone(front), int64(x)))
				}
			}
		}
		found = longer
	}
	return found
}

// everyTable returns all tables of n elements.
func everyTable(n int) [][][]int64 {
	tables := [][][]int64{}
	for _, values := range everyList(n, n*n) {
		t := [][]int64{}
		for row := range slices.Chunk(values, n) {
			t = append(t, slices.Clone(row))
		}
		tables = append(tables, t)
	}
	return tables
}

// code fails if a code is not the wanted one.
func code(t *testing.T, name string, got int64, want int64) {
	t.Helper()
	if got != want {
		t.Errorf("%s: code %d, want %d", name, got, want)
	}
}

// renamed returns what renaming a table makes, with a failing test beside an error.
func renamed(t *testing.T, u [][]int64, p []int64) [][]int64 {
	t.Helper()
	v, c := impl.RenameTable(u, p)
	code(t, "RenameTable", c, impl.ErrNone)
	return v
}
