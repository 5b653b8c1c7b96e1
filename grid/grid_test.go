package grid_test

import (
	"bytes"
	"math"
	"slices"
	"testing"

	"spareparts/api"
	"spareparts/field"
	"spareparts/grid"
)

// rowsOf is a matrix of rows of the lengths, of bytes other than 0.
func rowsOf(lengths ...int) api.Matrix {
	m := api.Matrix{}
	for row, length := range lengths {
		m = append(m, bytes.Repeat([]byte{byte(row + 1)}, length))
	}
	return m
}

func sized(rows, columns int) api.Matrix {
	return rowsOf(slices.Repeat([]int{columns}, rows)...)
}

// mixed is bytes without a plain rule, the same ones for the same seed.
func mixed(rows, columns int, seed uint32) api.Matrix {
	m := sized(rows, columns)
	for _, row := range m {
		for k := range row {
			seed = seed*1664525 + 1013904223
			row[k] = byte(seed >> 24)
		}
	}
	return m
}

func copied(m api.Matrix) api.Matrix {
	c := api.Matrix{}
	for _, row := range m {
		c = append(c, bytes.Clone(row))
	}
	return c
}

func same(a, b api.Matrix) bool {
	return slices.EqualFunc(a, b, bytes.Equal)
}

// slowOne is B1's words for One.
func slowOne(n int) api.Matrix {
	m := api.Matrix{}
	for row := range n {
		m = append(m, make([]byte, n))
		m[row][row] = 1
	}
	return m
}

// slowMul adds to each cell one product after the other, going through the middle first.
func slowMul(a, b api.Matrix) api.Matrix {
	product := api.Matrix{}
	for range a {
		product = append(product, make([]byte, len(b[0])))
	}
	for k := range b {
		for row := range a {
			for column := range b[k] {
				product[row][column] ^= field.Mul(a[row][k], b[k][column])
			}
		}
	}
	return product
}

// determinant goes along the first row; signs don't matter where a sum is its own opposite.
func determinant(m api.Matrix) byte {
	if len(m) == 0 {
		return 1
	}
	var sum byte
	for column, factor := range m[0] {
		minor := api.Matrix{}
		for _, row := range m[1:] {
			minor = append(minor, slices.Concat(row[:column], row[column+1:]))
		}
		sum ^= field.Mul(factor, determinant(minor))
	}
	return sum
}

// expect holds an answer against what must come: beside an error no matrix may be told.
func expect(t *testing.T, name string, got api.Matrix, err api.Errno, want api.Matrix, wantErr api.Errno) {
	t.Helper()
	if err != wantErr {
		t.Errorf("%s tells error %d, not %d", name, err, wantErr)
	}
	if !same(got, want) {
		t.Errorf("%s is %v, not %v", name, got, want)
	}
}

// wrongOnes are matrices of which Wrong tells something, or just not.
var wrongOnes = []struct {
	name string
	m    api.Matrix
	want api.Errno
}{
	{"nil", nil, api.ErrMany},
	{"no rows", api.Matrix{}, api.ErrMany},
	{"no rows, but room for some", make(api.Matrix, 0, 5), api.ErrMany},
	{"one row", sized(1, 1), api.OK},
	{"two rows", sized(2, 3), api.OK},
	{"most rows", sized(api.MaxMatrix, 2), api.OK},
	{"most rows and bytes", sized(api.MaxMatrix, api.MaxShard), api.OK},
	{"one row too many", sized(api.MaxMatrix+1, 2), api.ErrMany},
	{"far too many rows", sized(1000, 1), api.ErrMany},
	{"too many nil rows", make(api.Matrix, api.MaxMatrix+1), api.ErrMany},
	{"a nil row", api.Matrix{nil}, api.ErrMany},
	{"a row of no bytes", api.Matrix{{}}, api.ErrMany},
	{"a row of no bytes, but room for some", api.Matrix{make([]byte, 0, 5)}, api.ErrMany},
	{"rows of no bytes", api.Matrix{{}, nil, {}}, api.ErrMany},
	{"a row of most bytes", sized(1, api.MaxShard), api.OK},
	{"a row of a byte too many", sized(1, api.MaxShard+1), api.ErrMany},
	{"rows of a byte too many", sized(3, api.MaxShard+1), api.ErrMany},
	{"second row shorter", rowsOf(3, 2), api.ErrForm},
	{"second row longer", rowsOf(3, 4), api.ErrForm},
	{"last row shorter", rowsOf(3, 3, 2), api.ErrForm},
	{"last row longer", rowsOf(3, 3, 4), api.ErrForm},
	{"middle row longer", rowsOf(3, 4, 3), api.ErrForm},
	{"last of most rows shorter", append(sized(api.MaxMatrix-1, 2), []byte{9}), api.ErrForm},
	{"second row nil", api.Matrix{{1}, nil}, api.ErrForm},
	{"second row empty", api.Matrix{{1}, {}}, api.ErrForm},
	{"second row too long", rowsOf(api.MaxShard, api.MaxShard+1), api.ErrForm},
	// Where both fit, how many is told first.
	{"first row empty, second not", rowsOf(0, 1), api.ErrMany},
	{"first row too long, second not", rowsOf(api.MaxShard+1, 1), api.ErrMany},
	{"too many rows of several lengths", append(sized(api.MaxMatrix, 2), []byte{9}), api.ErrMany},
}

func TestB1Wrong(t *testing.T) {
	for _, c := range wrongOnes {
		if got := grid.Wrong(c.m); got != c.want {
			t.Errorf("Wrong of %s is %d, not %d", c.name, got, c.want)
		}
	}
}

func TestB1WrongOfAllSizes(t *testing.T) {
	for rows := range api.MaxMatrix + 3 {
		for columns := range api.MaxShard + 3 {
			want := api.OK
			if rows < 1 || rows > api.MaxMatrix || columns < 1 || columns > api.MaxShard {
				want = api.ErrMany
			}
			if got := grid.Wrong(sized(rows, columns)); got != want {
				t.Fatalf("Wrong of %d rows of %d bytes is %d, not %d", rows, columns, got, want)
			}
		}
	}
}

func TestB1One(t *testing.T) {
	for n := 1; n <= api.MaxMatrix; n++ {
		got, err := grid.One(n)
		expect(t, "One", got, err, slowOne(n), api.OK)
	}
	for _, n := range []int{0, -1, -2, -api.MaxMatrix, math.MinInt, api.MaxMatrix + 1, 400, math.MaxInt} {
		got, err := grid.One(n)
		expect(t, "One of too few or too many", got, err, nil, api.ErrMany)
	}
}

func TestB1MulOfChosenMatrices(t *testing.T) {
	for _, c := range []struct{ a, b, want api.Matrix }{
		{api.Matrix{{2}}, api.Matrix{{128}}, api.Matrix{{29}}},
		{api.Matrix{{0}}, api.Matrix{{7}}, api.Matrix{{0}}},
		{api.Matrix{{3, 3}}, api.Matrix{{3}, {3}}, api.Matrix{{0}}},  // a sum by XOR: a byte twice is none
		{api.Matrix{{1, 2}}, api.Matrix{{3}, {4}}, api.Matrix{{11}}}, // 3 and 8
		{api.Matrix{{3}, {4}}, api.Matrix{{1, 2}}, api.Matrix{{3, 6}, {4, 8}}},
		{api.Matrix{{0, 1}, {1, 0}}, api.Matrix{{1, 2}, {3, 4}}, api.Matrix{{3, 4}, {1, 2}}}, // rows exchanged
		{api.Matrix{{1, 2}, {3, 4}}, api.Matrix{{0, 1}, {1, 0}}, api.Matrix{{2, 1}, {4, 3}}}, // columns exchanged
		{api.Matrix{{1, 2}, {3, 4}}, api.Matrix{{128, 1}, {128, 0}}, api.Matrix{{157, 1}, {167, 3}}},
	} {
		got, err := grid.Mul(c.a, c.b)
		expect(t, "Mul", got, err, c.want, api.OK)
	}
}

func TestB1MulOfAllFittingSizes(t *testing.T) {
	for rows := 1; rows <= api.MaxMatrix; rows++ {
		for middle := 1; middle <= api.MaxMatrix; middle++ {
			for _, columns := range []int{1, 2, 3, api.MaxMatrix, api.MaxMatrix + 1} {
				a := mixed(rows, middle, uint32(rows*31+columns))
				b := mixed(middle, columns, uint32(middle))
				got, err := grid.Mul(a, b)
				expect(t, "Mul", got, err, slowMul(a, b), api.OK)
			}
		}
	}
}

func TestB1MulOfTheGreatestMatrices(t *testing.T) {
	a := mixed(api.MaxMatrix, api.MaxMatrix, 1)
	b := mixed(api.MaxMatrix, api.MaxShard, 2)
	got, err := grid.Mul(a, b)
	expect(t, "Mul", got, err, slowMul(a, b), api.OK)
}

func TestB1MulByOneChangesNothing(t *testing.T) {
	for n := 1; n <= api.MaxMatrix; n++ {
		one, _ := grid.One(n)
		wide, high := mixed(n, 17, 3), mixed(5, n, 4)
		got, err := grid.Mul(one, wide)
		expect(t, "One times a matrix", got, err, wide, api.OK)
		got, err = grid.Mul(high, one)
		expect(t, "a matrix times One", got, err, high, api.OK)
	}
}

func TestB1MulOfWhatDoesNotFit(t *testing.T) {
	for columns := 1; columns <= api.MaxMatrix+2; columns++ {
		for rows := 1; rows <= api.MaxMatrix; rows++ {
			if columns == rows {
				continue
			}
			// As many rows as columns stand outside, so that only the middle can be found wanting.
			got, err := grid.Mul(sized(rows, columns), sized(rows, columns))
			expect(t, "Mul of what does not fit", got, err, nil, api.ErrFit)
		}
	}
	got, err := grid.Mul(sized(1, api.MaxShard), sized(1, 1))
	expect(t, "Mul of a wide matrix", got, err, nil, api.ErrFit)
}

func TestB1MulTellsWhatIsWrong(t *testing.T) {
	for _, a := range wrongOnes {
		for _, b := range wrongOnes {
			want := a.want
			if want == api.OK {
				want = b.want
			}
			if want == api.OK {
				continue
			}
			got, err := grid.Mul(a.m, b.m)
			expect(t, "Mul of "+a.name+", "+b.name, got, err, nil, want)
		}
	}
}

func TestB1InvertOfChosenMatrices(t *testing.T) {
	for _, c := range []struct{ m, want api.Matrix }{
		{api.Matrix{{1}}, api.Matrix{{1}}},
		{api.Matrix{{2}}, api.Matrix{{142}}},
		{api.Matrix{{0, 1}, {1, 0}}, api.Matrix{{0, 1}, {1, 0}}}, // the document's second example
		{api.Matrix{{1, 5}, {0, 1}}, api.Matrix{{1, 5}, {0, 1}}},
		{api.Matrix{{1, 5}, {0, 2}}, api.Matrix{{1, field.Mul(5, 142)}, {0, 142}}},
		{api.Matrix{{0, 1, 0}, {0, 0, 1}, {1, 0, 0}}, api.Matrix{{0, 0, 1}, {1, 0, 0}, {0, 1, 0}}},
		{api.Matrix{{0, 2}, {1, 0}}, api.Matrix{{0, 1}, {142, 0}}},
	} {
		got, err := grid.Invert(c.m)
		expect(t, "Invert", got, err, c.want, api.OK)
	}
}

func TestB1InvertOfAllMatricesOfOneByte(t *testing.T) {
	for a := range 256 {
		got, err := grid.Invert(api.Matrix{{byte(a)}})
		if a == 0 {
			expect(t, "Invert of 0", got, err, nil, api.ErrNone)
		} else {
			expect(t, "Invert of a byte", got, err, api.Matrix{{field.Inv(byte(a))}}, api.OK)
		}
	}
}

// undone holds Invert(m) against m's determinant, and what it answers against m, from both sides.
func undone(t *testing.T, m api.Matrix, determinant byte) {
	t.Helper()
	got, err := grid.Invert(m)
	if determinant == 0 {
		expect(t, "Invert of what nothing undoes", got, err, nil, api.ErrNone)
		return
	}
	if err != api.OK || grid.Wrong(got) != api.OK || len(got) != len(m) || len(got[0]) != len(m) {
		t.Fatalf("Invert of %v is %v, and tells error %d", m, got, err)
	}
	expect(t, "what undoes, times the matrix", slowMul(got, m), api.OK, slowOne(len(m)), api.OK)
	expect(t, "the matrix, times what undoes", slowMul(m, got), api.OK, slowOne(len(m)), api.OK)
}

func TestB1InvertOfSmallMatrices(t *testing.T) {
	few := []byte{0, 1, 2, 3, 29, 142, 255}
	for _, a := range few {
		for _, b := range few {
			for _, c := range few {
				for _, d := range few {
					undone(t, api.Matrix{{a, b}, {c, d}}, field.Mul(a, d)^field.Mul(b, c))
				}
			}
		}
	}
	// Of noughts and ones alone, most matrices have a nought where a row begins, and many are not undone.
	for bits := range 1 << 9 {
		m := sized(3, 3)
		for k := range 9 {
			m[k/3][k%3] = byte(bits >> k & 1)
		}
		undone(t, m, determinant(m))
	}
}

func TestB1InvertOfMixedMatrices(t *testing.T) {
	for size := 1; size <= 5; size++ {
		for seed := range uint32(60) {
			m := mixed(size, size, seed)
			undone(t, m, determinant(m))
			for _, row := range m {
				for k := range row {
					row[k] &= 1
				}
			}
			undone(t, m, determinant(m))
		}
	}
}

// triangles is a product of two matrices with noughts on one side of the diagonal: something undoes it, at every size.
func triangles(size int, seed uint32) api.Matrix {
	low, high := mixed(size, size, seed), mixed(size, size, seed+1)
	for row := range size {
		low[row][row] |= 1
		high[row][row] |= 1
		for column := range row {
			low[column][row] = 0
			high[row][column] = 0
		}
	}
	return slowMul(low, high)
}

func TestB1InvertOfAllSizes(t *testing.T) {
	for size := 1; size <= api.MaxMatrix; size++ {
		for seed := range uint32(20) {
			m := triangles(size, seed)
			undone(t, m, 1)
			slices.Reverse(m)
			undone(t, m, 1)
		}
		undone(t, slowOne(size), 1)
		backward := slowOne(size)
		slices.Reverse(backward)
		undone(t, backward, 1)
	}
}

func TestB1InvertOfWhatNothingUndoes(t *testing.T) {
	for size := 2; size <= api.MaxMatrix; size++ {
		// A product through a thinner middle has rows that are sums of others.
		for middle := 1; middle < size; middle++ {
			undone(t, slowMul(mixed(size, middle, 5), mixed(middle, size, 6)), 0)
		}
		noughts := slowMul(sized(size, 1), api.Matrix{make([]byte, size)})
		undone(t, noughts, 0)
		for at := range size {
			noRow, noColumn, twice, times := slowOne(size), slowOne(size), triangles(size, 7), triangles(size, 8)
			noRow[at] = make([]byte, size)
			for row := range size {
				noColumn[row] = bytes.Repeat([]byte{1}, size)
				noColumn[row][at] = 0
			}
			other := (at + 1) % size
			twice[at] = twice[other]
			times[at] = slowMul(api.Matrix{{77}}, api.Matrix{times[other]})[0]
			undone(t, noRow, 0)
			undone(t, noColumn, 0)
			undone(t, twice, 0)
			undone(t, times, 0)
		}
	}
}

func TestB1InvertOfWhatIsNotSquare(t *testing.T) {
	for rows := 1; rows <= api.MaxMatrix; rows++ {
		for _, columns := range []int{1, 2, 3, api.MaxMatrix - 1, api.MaxMatrix, api.MaxMatrix + 1, api.MaxShard} {
			if rows == columns {
				continue
			}
			got, err := grid.Invert(mixed(rows, columns, 9))
			expect(t, "Invert of what is not square", got, err, nil, api.ErrFit)
			// Of noughts it could not be undone either, but that is told later.
			noughts := slowMul(sized(rows, 1), api.Matrix{make([]byte, columns)})
			got, err = grid.Invert(noughts)
			expect(t, "Invert of noughts that are not square", got, err, nil, api.ErrFit)
		}
	}
}

func TestB1InvertTellsWhatIsWrong(t *testing.T) {
	for _, c := range wrongOnes {
		if c.want != api.OK {
			got, err := grid.Invert(c.m)
			expect(t, "Invert of "+c.name, got, err, nil, c.want)
		}
	}
	// It is square by its first row, and another one keeps it from being a matrix.
	got, err := grid.Invert(api.Matrix{{0, 0}, {0}})
	expect(t, "Invert of uneven rows", got, err, nil, api.ErrForm)
	got, err = grid.Invert(api.Matrix{{1, 0}, {0, 1, 5}})
	expect(t, "Invert of uneven rows", got, err, nil, api.ErrForm)
}

// roomy is m with other rows and bytes in the spare room behind its lists, and a way to see all of them.
func roomy(m api.Matrix, behind byte) (api.Matrix, func() api.Matrix) {
	spare := []byte{behind, behind, behind}
	whole := api.Matrix{}
	for _, row := range m {
		whole = append(whole, slices.Concat(row, spare))
	}
	lists := append(slices.Clone(whole), spare, spare)
	for k, row := range m {
		lists[k] = whole[k][:len(row)]
	}
	// The lists too, since rows that were exchanged have the bytes that they had.
	look := func() api.Matrix { return append(copied(whole), copied(lists)...) }
	return lists[:len(m)], look
}

func TestB1WhatIsHandedInIsOnlyRead(t *testing.T) {
	plainA, plainB := triangles(4, 10), mixed(4, 6, 11)
	wantProduct := slowMul(plainA, plainB)
	wantUndoing, _ := grid.Invert(plainA)
	for _, behind := range []byte{0, 1, 200} {
		a, allOfA := roomy(plainA, behind)
		b, allOfB := roomy(plainB, behind)
		none, allOfNone := roomy(sized(4, 4), behind)
		exchange, allOfExchange := roomy(api.Matrix{{0, 1}, {1, 0}}, behind)
		was := []api.Matrix{allOfA(), allOfB(), allOfNone(), allOfExchange()}

		product, err := grid.Mul(a, b)
		expect(t, "Mul", product, err, wantProduct, api.OK)
		undoing, err := grid.Invert(a)
		expect(t, "Invert", undoing, err, wantUndoing, api.OK)
		got, err := grid.Invert(none)
		expect(t, "Invert", got, err, nil, api.ErrNone)
		got, err = grid.Invert(exchange)
		expect(t, "Invert", got, err, api.Matrix{{0, 1}, {1, 0}}, api.OK)
		if grid.Wrong(a) != api.OK {
			t.Error("a is told to be wrong by what stands behind it")
		}

		for k, is := range []api.Matrix{allOfA(), allOfB(), allOfNone(), allOfExchange()} {
			if !same(is, was[k]) {
				t.Errorf("matrix %d was %v, and is %v", k, was[k], is)
			}
		}
	}
}

func TestB1OneListAsSeveralRows(t *testing.T) {
	row := []byte{3, 5}
	twice := api.Matrix{row, row}
	got, err := grid.Mul(twice, twice)
	expect(t, "Mul of one list as all rows", got, err, slowMul(api.Matrix{{3, 5}, {3, 5}}, api.Matrix{{3, 5}, {3, 5}}), api.OK)
	got, err = grid.Invert(twice)
	expect(t, "Invert of one list as all rows", got, err, nil, api.ErrNone)
	if !bytes.Equal(row, []byte{3, 5}) {
		t.Errorf("the row is %v after it", row)
	}
}

// spoil writes over everything that the caller of an answer may write over, list by list,
// and tells whether a list is changed by what is written into another one.
func spoil(t *testing.T, name string, m api.Matrix) {
	t.Helper()
	for k, row := range m {
		before := copied(m)
		whole := row[:cap(row)]
		for at := range whole {
			whole[at] ^= 255
		}
		for other := range m {
			if other != k && !bytes.Equal(m[other], before[other]) {
				t.Errorf("%s: what is written into row %d is seen in row %d", name, k, other)
			}
		}
	}
	rows := m[:cap(m)]
	for k := range rows {
		rows[k] = []byte{9}
	}
}

func TestB1WhatIsAnsweredIsNewMemory(t *testing.T) {
	a, b := triangles(3, 12), mixed(3, 5, 13)
	wasA, wasB := copied(a), copied(b)
	answers := map[string]func() api.Matrix{
		"One":                         func() api.Matrix { m, _ := grid.One(3); return m },
		"One of 12":                   func() api.Matrix { m, _ := grid.One(api.MaxMatrix); return m },
		"Mul":                         func() api.Matrix { m, _ := grid.Mul(a, b); return m },
		"Mul by One":                  func() api.Matrix { m, _ := grid.Mul(slowOne(3), b); return m },
		"Mul of a matrix with itself": func() api.Matrix { m, _ := grid.Mul(a, a); return m },
		"Invert":                      func() api.Matrix { m, _ := grid.Invert(a); return m },
		"Invert of One":               func() api.Matrix { m, _ := grid.Invert(slowOne(3)); return m },
	}
	for name, answer := range answers {
		first, second := answer(), answer()
		want := copied(first)
		spoil(t, name, first)
		if !same(second, want) {
			t.Errorf("%s: what is written into one answer is seen in another", name)
		}
		if !same(a, wasA) || !same(b, wasB) {
			t.Errorf("%s: what is written into an answer is seen in an argument", name)
		}
		if third := answer(); !same(third, want) {
			t.Errorf("%s: what is written into an answer is seen in a later one", name)
		}
	}
}

func TestB1NothingOfAnArgumentIsKept(t *testing.T) {
	a, b := triangles(3, 14), mixed(3, 5, 15)
	product, _ := grid.Mul(a, b)
	undoing, _ := grid.Invert(a)
	wantProduct, wantUndoing := copied(product), copied(undoing)
	for _, m := range []api.Matrix{a, b} {
		for _, row := range m {
			for k := range row {
				row[k] ^= 255
			}
		}
	}
	if !same(product, wantProduct) || !same(undoing, wantUndoing) {
		t.Error("an answer changes with what was handed in")
	}
}

func TestB1NilAndNoEntriesAreTheSame(t *testing.T) {
	for _, pair := range [][2]api.Matrix{
		{nil, {}},
		{{nil}, {{}}},
		{{nil, {1}}, {{}, {1}}},
		{{{1}, nil}, {{1}, {}}},
	} {
		a, b := pair[0], pair[1]
		if grid.Wrong(a) != grid.Wrong(b) {
			t.Errorf("Wrong tells %v from %v", a, b)
		}
		_, errOfA := grid.Invert(a)
		_, errOfB := grid.Invert(b)
		_, errFirstA := grid.Mul(a, sized(1, 1))
		_, errFirstB := grid.Mul(b, sized(1, 1))
		_, errLastA := grid.Mul(sized(1, 1), a)
		_, errLastB := grid.Mul(sized(1, 1), b)
		if errOfA != errOfB || errFirstA != errFirstB || errLastA != errLastB {
			t.Errorf("Invert or Mul tells %v from %v", a, b)
		}
	}
}
