package impl

import (
	"slices"
	"strings"
)

// The error codes of all chapters.
const (
	ErrNone = iota
	ErrInvalid
	ErrRange
	ErrLimit
	ErrNotFound
	ErrState
	ErrSyntax
)

// The limits of chapter 1.
const (
	MaxSize       = 12
	MaxForm       = 7
	MaxGenerators = 16
	MaxElements   = 1000
)

// digits holds the digit of each element at the index of the element.
const digits = "0123456789ab"

// permutation is a list that leads the element x to the one with the index x in it. Its methods
// other than isValid count on it to be valid.
type permutation []int64

// identityOf returns the identity of n elements.
func identityOf(n int64) permutation {
	p := make(permutation, n)
	for x := range p {
		p[x] = int64(x)
	}
	return p
}

// isValid reports whether p is a permutation of 1 to MaxSize elements.
func (p permutation) isValid() bool {
	n := int64(len(p))
	if n < 1 || n > MaxSize {
		return false
	}
	var seen [MaxSize]bool
	for _, x := range p {
		if x < 0 || x >= n || seen[x] {
			return false
		}
		seen[x] = true
	}
	return true
}

// then returns what doing p, then q makes.
func (p permutation) then(q permutation) permutation {
	r := make(permutation, len(p))
	for x, y := range p {
		r[x] = q[y]
	}
	return r
}

// inverse returns the inverse of p.
func (p permutation) inverse() permutation {
	r := make(permutation, len(p))
	for x, y := range p {
		r[y] = int64(x)
	}
	return r
}

// inversesOf returns the inverses of permutations.
func inversesOf(list [][]int64) [][]int64 {
	inverses := make([][]int64, len(list))
	for i, p := range list {
		inverses[i] = permutation(p).inverse()
	}
	return inverses
}

// cycleLengths returns the lengths of all cycles of p in ascending order.
func (p permutation) cycleLengths() []int64 {
	var seen [MaxSize]bool
	lengths := []int64{}
	for start := range p {
		length := int64(0)
		for x := int64(start); !seen[x]; x = p[x] {
			seen[x] = true
			length++
		}
		if length > 0 {
			lengths = append(lengths, length)
		}
	}
	slices.Sort(lengths)
	return lengths
}

// order returns the order of p: a power of p is the identity exactly if its exponent is a
// multiple of all lengths of cycles.
func (p permutation) order() int64 {
	order := int64(1)
	for _, length := range p.cycleLengths() {
		order = leastCommonMultiple(order, length)
	}
	return order
}

// advance turns p into the next permutation in lexicographic order, in place, and reports whether
// there is one.
func (p permutation) advance() bool {
	i := len(p) - 2
	for i >= 0 && p[i] > p[i+1] {
		i--
	}
	if i < 0 {
		return false
	}
	j := len(p) - 1
	for p[j] < p[i] {
		j--
	}
	p[i], p[j] = p[j], p[i]
	slices.Reverse(p[i+1:])
	return true
}

// text returns the text of p.
func (p permutation) text() string {
	return digitsOf(p)
}

// leastCommonMultiple returns the least common multiple of two positive numbers.
func leastCommonMultiple(a int64, b int64) int64 {
	return a / greatestCommonDivisor(a, b) * b
}

// greatestCommonDivisor returns the greatest common divisor of two numbers that are not negative
// and not both 0.
func greatestCommonDivisor(a int64, b int64) int64 {
	for b != 0 {
		a, b = b, a%b
	}
	return a
}

// IsTable reports whether t is a table.
func IsTable(t [][]int64) bool {
	n := int64(len(t))
	if n < 1 || n > MaxSize {
		return false
	}
	for _, row := range t {
		if int64(len(row)) != n || !areElements(n, row) {
			return false
		}
	}
	return true
}

// areElements reports whether all numbers of a list are elements of a set of n.
func areElements(n int64, list []int64) bool {
	for _, x := range list {
		if x < 0 || x >= n {
			return false
		}
	}
	return true
}

// IsPermutation reports whether p is a permutation.
func IsPermutation(p []int64) bool {
	return permutation(p).isValid()
}

// isSystem reports whether list is a system on n elements.
func isSystem(n int64, list [][]int64) bool {
	if n < 1 || n > MaxSize || len(list) > MaxGenerators {
		return false
	}
	for _, p := range list {
		if int64(len(p)) != n {
			return false
		}
	}
	return arePermutations(list)
}

// ThenPermutation returns the permutation that does p then q, and ErrNone.
func ThenPermutation(p []int64, q []int64) ([]int64, int64) {
	if !IsPermutation(p) || !IsPermutation(q) || len(p) != len(q) {
		return nil, ErrInvalid
	}
	return permutation(p).then(q), ErrNone
}

// InversePermutation returns the inverse of p, and ErrNone.
func InversePermutation(p []int64) ([]int64, int64) {
	if !IsPermutation(p) {
		return nil, ErrInvalid
	}
	return permutation(p).inverse(), ErrNone
}

// PermutationOrder returns the order of p, and ErrNone.
func PermutationOrder(p []int64) (int64, int64) {
	if !IsPermutation(p) {
		return 0, ErrInvalid
	}
	return permutation(p).order(), ErrNone
}

// CycleLengths returns the numbers of elements of all orbits of p alone, in ascending order, and
// ErrNone.
func CycleLengths(p []int64) ([]int64, int64) {
	if !IsPermutation(p) {
		return nil, ErrInvalid
	}
	return permutation(p).cycleLengths(), ErrNone
}

// OrbitLabels returns for each element the number of its orbit, and ErrNone.
func OrbitLabels(n int64, list [][]int64) ([]int64, int64) {
	if !isSystem(n, list) {
		return nil, ErrInvalid
	}
	return orbitLabels(n, list), ErrNone
}

// orbitLabels returns for each one of n elements the number of its orbit by any number of
// permutations.
func orbitLabels(n int64, list [][]int64) []int64 {
	labels := make([]int64, n)
	for x := range labels {
		labels[x] = -1
	}
	next := int64(0)
	for x := range n {
		if labels[x] < 0 {
			labelOrbit(labels, list, x, next)
			next++
		}
	}
	return labels
}

// labelOrbit gives the label to all elements of the orbit of an element. Inverses are not needed:
// in a finite group they are powers.
func labelOrbit(labels []int64, list [][]int64, element int64, label int64) {
	labels[element] = label
	work := []int64{element}
	for len(work) > 0 {
		x := work[len(work)-1]
		work = work[:len(work)-1]
		for _, p := range list {
			if labels[p[x]] < 0 {
				labels[p[x]] = label
				work = append(work, p[x])
			}
		}
	}
}

// GroupElements returns all permutations of the group of a system in lexicographic order, and
// ErrNone. Errors: ErrLimit if there are more than MaxElements.
func GroupElements(n int64, list [][]int64) ([][]int64, int64) {
	if !isSystem(n, list) {
		return nil, ErrInvalid
	}
	group, ok := groupUpTo(n, list, MaxElements)
	if !ok {
		return nil, ErrLimit
	}
	slices.SortFunc(group, slices.Compare[[]int64])
	return group, ErrNone
}

// groupOrder returns the number of permutations of the group of any number of permutations, and
// ErrNone, or ErrLimit if it is greater than the limit.
func groupOrder(n int64, list [][]int64, limit int) (int64, int64) {
	group, ok := groupUpTo(n, list, limit)
	if !ok {
		return 0, ErrLimit
	}
	return int64(len(group)), ErrNone
}

// groupUpTo returns the permutations of the group of any number of permutations in no special
// order, and whether there are at most as many as the limit.
func groupUpTo(n int64, list [][]int64, limit int) ([][]int64, bool) {
	first := identityOf(n)
	group := [][]int64{first}
	seen := map[string]bool{first.text(): true}
	for i := 0; i < len(group); i++ {
		for _, p := range list {
			q := permutation(group[i]).then(p)
			key := q.text()
			if seen[key] {
				continue
			}
			if len(group) == limit {
				return nil, false
			}
			seen[key] = true
			group = append(group, q)
		}
	}
	return group, true
}

// HasPermutationRows reports whether all rows of a table are permutations, and returns ErrNone.
func HasPermutationRows(t [][]int64) (bool, int64) {
	if !IsTable(t) {
		return false, ErrInvalid
	}
	return arePermutations(t), ErrNone
}

// arePermutations reports whether all lists are permutations.
func arePermutations(lists [][]int64) bool {
	for _, p := range lists {
		if !IsPermutation(p) {
			return false
		}
	}
	return true
}

// IsLatin reports whether all rows and all columns of a table are permutations, and returns
// ErrNone.
func IsLatin(t [][]int64) (bool, int64) {
	if !IsTable(t) {
		return false, ErrInvalid
	}
	return arePermutations(t) && arePermutations(transposed(t)), ErrNone
}

// TransposeTable returns the table whose value at x and y is that of t at y and x, and ErrNone.
func TransposeTable(t [][]int64) ([][]int64, int64) {
	if !IsTable(t) {
		return nil, ErrInvalid
	}
	return transposed(t), ErrNone
}

// newTable returns a table of n elements with all values 0.
func newTable(n int) [][]int64 {
	t := make([][]int64, n)
	for x := range t {
		t[x] = make([]int64, n)
	}
	return t
}

// transposed returns a table with rows and columns exchanged.
func transposed(t [][]int64) [][]int64 {
	u := newTable(len(t))
	for x, row := range t {
		for y, z := range row {
			u[y][x] = z
		}
	}
	return u
}

// RenameTable returns what renaming t by p makes, and ErrNone.
func RenameTable(t [][]int64, p []int64) ([][]int64, int64) {
	if !IsTable(t) || !IsPermutation(p) || len(t) != len(p) {
		return nil, ErrInvalid
	}
	return allRenamed([][][]int64{t}, p)[0], ErrNone
}

// allRenamed returns what renaming tables by p makes.
func allRenamed(tables [][][]int64, p permutation) [][][]int64 {
	list := make([][][]int64, len(tables))
	for i, t := range tables {
		list[i] = newTable(len(t))
		renameInto(list[i], t, p)
	}
	return list
}

// renameInto writes what renaming t by p makes to u, which has as many elements.
func renameInto(u [][]int64, t [][]int64, p permutation) {
	for x, row := range t {
		for y, z := range row {
			u[p[x]][p[y]] = p[z]
		}
	}
}

// renames reports whether renaming t by p makes u, which has as many elements.
func renames(t [][]int64, u [][]int64, p permutation) bool {
	for x, row := range t {
		for y, z := range row {
			if u[p[x]][p[y]] != p[z] {
				return false
			}
		}
	}
	return true
}

// LeastTable returns the least form of t, and ErrNone. Errors: ErrLimit if it has more than
// MaxForm elements.
func LeastTable(t [][]int64) ([][]int64, int64) {
	if !IsTable(t) {
		return nil, ErrInvalid
	}
	if len(t) > MaxForm {
		return nil, ErrLimit
	}
	return leastRenamed(t)[0], ErrNone
}

// leastRenamed returns the lexicographically smallest one of what renaming tables of equally many
// elements, all of them by the same permutation, makes. An earlier table counts more.
func leastRenamed(tables ...[][]int64) [][][]int64 {
	p := identityOf(int64(len(tables[0])))
	least, other := allRenamed(tables, p), allRenamed(tables, p)
	for p.advance() {
		for i, t := range tables {
			renameInto(other[i], t, p)
		}
		if slices.CompareFunc(other, least, compareTables) < 0 {
			least, other = other, least
		}
	}
	return least
}

// compareTables compares two tables row by row, as slices.Compare compares lists.
func compareTables(t [][]int64, u [][]int64) int {
	return slices.CompareFunc(t, u, slices.Compare[[]int64])
}

// AllPermutations returns all permutations of n elements in lexicographic order, n in 1..MaxForm,
// and ErrNone. (ErrInvalid is not returned.)
func AllPermutations(n int64) ([][]int64, int64) {
	if n < 1 || n > MaxForm {
		return nil, ErrRange
	}
	p := identityOf(n)
	list := [][]int64{slices.Clone(p)}
	for p.advance() {
		list = append(list, slices.Clone(p))
	}
	return list, ErrNone
}

// PermutationText returns the text of p, and ErrNone.
func PermutationText(p []int64) (string, int64) {
	if !IsPermutation(p) {
		return "", ErrInvalid
	}
	return permutation(p).text(), ErrNone
}

// digitsOf returns the digits of a list of elements, one after the other.
func digitsOf(list []int64) string {
	text := make([]byte, len(list))
	for i, x := range list {
		text[i] = digits[x]
	}
	return string(text)
}

// elementsOf returns the elements whose digits a text is, and whether it is digits.
func elementsOf(text string) ([]int64, bool) {
	list := make([]int64, len(text))
	for i := range len(text) {
		x := strings.IndexByte(digits, text[i])
		if x < 0 {
			return nil, false
		}
		list[i] = int64(x)
	}
	return list, true
}

// ParsePermutation returns the permutation with a text, and ErrNone. Errors: ErrSyntax if there is
// none. (ErrInvalid is not returned.)
func ParsePermutation(text string) ([]int64, int64) {
	if len(text) > MaxSize {
		return nil, ErrSyntax
	}
	p, ok := elementsOf(text)
	if !ok || !IsPermutation(p) {
		return nil, ErrSyntax
	}
	return p, ErrNone
}

// TableText returns the text of t, and ErrNone.
func TableText(t [][]int64) (string, int64) {
	if !IsTable(t) {
		return "", ErrInvalid
	}
	rows := make([]string, len(t))
	for x, row := range t {
		rows[x] = digitsOf(row)
	}
	return strings.Join(rows, "/"), ErrNone
}

// ParseTable returns the table with a text, and ErrNone. Errors: ErrSyntax if there is none.
// (ErrInvalid is not returned.)
func ParseTable(text string) ([][]int64, int64) {
	// A longer text has no table; refusing it first keeps the work small.
	if len(text) > MaxSize*(MaxSize+1)-1 {
		return nil, ErrSyntax
	}
	t := [][]int64{}
	for _, part := range strings.Split(text, "/") {
		row, ok := elementsOf(part)
		if !ok {
			return nil, ErrSyntax
		}
		t = append(t, row)
	}
	if !IsTable(t) {
		return nil, ErrSyntax
	}
	return t, ErrNone
}
