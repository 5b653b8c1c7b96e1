package code_test

import (
	"bytes"
	"math"
	"slices"
	"testing"

	"spareparts/api"
	"spareparts/code"
	"spareparts/field"
)

// shardsOf is shards of the lengths, of bytes other than 0.
func shardsOf(lengths ...int) [][]byte {
	l := [][]byte{}
	for number, length := range lengths {
		l = append(l, bytes.Repeat([]byte{byte(number + 1)}, length))
	}
	return l
}

func sized(shards, length int) [][]byte {
	return shardsOf(slices.Repeat([]int{length}, shards)...)
}

// mixed is shards of bytes without a plain rule, the same ones for the same seed.
func mixed(shards, length int, seed uint32) [][]byte {
	l := sized(shards, length)
	for _, shard := range l {
		for k := range shard {
			seed = seed*1664525 + 1013904223
			shard[k] = byte(seed >> 24)
		}
	}
	return l
}

func copied(l [][]byte) [][]byte {
	c := [][]byte{}
	for _, shard := range l {
		c = append(c, bytes.Clone(shard))
	}
	return c
}

func same(a, b [][]byte) bool {
	return slices.EqualFunc(a, b, bytes.Equal)
}

// slowInv looks for the byte that times a is 1.
func slowInv(a int) byte {
	for b := range 256 {
		if field.Mul(byte(a), byte(b)) == 1 {
			return byte(b)
		}
	}
	return 0
}

// slowRows is C1's words for Rows, byte by byte.
func slowRows(data, spare int) [][]byte {
	rows := [][]byte{}
	for i := range data + spare {
		row := make([]byte, data)
		for j := range row {
			if i >= data {
				row[j] = slowInv(i ^ j)
			} else if i == j {
				row[j] = 1
			}
		}
		rows = append(rows, row)
	}
	return rows
}

// slowAll is the shards of data, and their spare ones, added up one product after the other.
func slowAll(l [][]byte, spare int) [][]byte {
	all := [][]byte{}
	for _, row := range slowRows(len(l), spare) {
		shard := make([]byte, len(l[0]))
		for j, factor := range row {
			for at, b := range l[j] {
				shard[at] ^= field.Mul(factor, b)
			}
		}
		all = append(all, shard)
	}
	return all
}

// without is l with those shards gone whose bits the mask has.
func without(l [][]byte, mask int) [][]byte {
	left := slices.Clone(l)
	for number := range left {
		if mask>>number&1 == 1 {
			left[number] = nil
		}
	}
	return left
}

// goneOf is how many of so many shards the mask takes away.
func goneOf(mask, shards int) int {
	gone := 0
	for number := range shards {
		gone += mask >> number & 1
	}
	return gone
}

// codes goes through all numbers of data and of spare shards with which nothing is wrong.
func codes(each func(data, spare int)) {
	for data := 1; data <= api.MaxData; data++ {
		for spare := range api.MaxSpare + 1 {
			each(data, spare)
		}
	}
}

// expect holds an answer against what must come: beside an error no shards may be told.
func expect(t *testing.T, name string, got [][]byte, err api.Errno, want [][]byte, wantErr api.Errno) {
	t.Helper()
	if err != wantErr {
		t.Errorf("%s tells error %d, not %d", name, err, wantErr)
	}
	if !same(got, want) {
		t.Errorf("%s is %v, not %v", name, got, want)
	}
}

func expectSpare(t *testing.T, name string, l [][]byte, spare int, want [][]byte, wantErr api.Errno) {
	t.Helper()
	got, err := code.Spare(l, spare)
	expect(t, "Spare of "+name, got, err, want, wantErr)
}

func expectMend(t *testing.T, name string, l [][]byte, data int, want [][]byte, wantErr api.Errno) {
	t.Helper()
	got, err := code.Mend(l, data)
	expect(t, "Mend of "+name, got, err, want, wantErr)
}

// numbers are those around what data and spare may be, and the ends of int.
var numbers = []int{
	math.MinInt, math.MinInt + 1, -api.MaxData, -api.MaxSpare, -2, -1, 0, 1, 2, 3, 4, 5, 6, 7, 8, 9, 10, 11, 12, 13,
	255, 256, 257, 1 << 32, math.MaxInt - 1, math.MaxInt,
}

// wrongOf is C1's words for Wrong.
func wrongOf(data, spare int) api.Errno {
	if data >= 1 && data <= 8 && spare >= 0 && spare <= 4 {
		return api.OK
	}
	return api.ErrMany
}

func TestC1WrongOfTheEdges(t *testing.T) {
	for _, c := range []struct {
		data, spare int
		want        api.Errno
	}{
		{0, 0, api.ErrMany},
		{0, 1, api.ErrMany},
		{-1, 1, api.ErrMany},
		{1, 0, api.OK},
		{1, 1, api.OK},
		{1, api.MaxSpare, api.OK},
		{1, api.MaxSpare + 1, api.ErrMany},
		{1, -1, api.ErrMany},
		{api.MaxData, 0, api.OK},
		{api.MaxData, api.MaxSpare, api.OK},
		{api.MaxData, api.MaxSpare + 1, api.ErrMany},
		{api.MaxData, -1, api.ErrMany},
		{api.MaxData + 1, 0, api.ErrMany},
		{api.MaxData + 1, api.MaxSpare, api.ErrMany},
		{api.MaxData + 1, -1, api.ErrMany},
		{api.MaxSpare, api.MaxData, api.ErrMany},
	} {
		if got := code.Wrong(c.data, c.spare); got != c.want {
			t.Errorf("Wrong(%d, %d) is %d, not %d", c.data, c.spare, got, c.want)
		}
	}
}

func TestC1WrongOfAllNumbers(t *testing.T) {
	for _, data := range numbers {
		for _, spare := range numbers {
			if got, want := code.Wrong(data, spare), wrongOf(data, spare); got != want {
				t.Errorf("Wrong(%d, %d) is %d, not %d", data, spare, got, want)
			}
		}
	}
}

func TestC1RowsOfChosenNumbers(t *testing.T) {
	for _, c := range []struct {
		data, spare int
		want        api.Matrix
	}{
		{1, 0, api.Matrix{{1}}},
		{1, 1, api.Matrix{{1}, {1}}},
		{1, 4, api.Matrix{{1}, {1}, {142}, {244}, {71}}},
		{2, 1, api.Matrix{{1, 0}, {0, 1}, {142, 244}}},
		{3, 2, api.Matrix{{1, 0, 0}, {0, 1, 0}, {0, 0, 1}, {244, 142, 1}, {71, 167, 122}}},
	} {
		got, err := code.Rows(c.data, c.spare)
		expect(t, "Rows", got, err, c.want, api.OK)
	}
}

func TestC1RowsOfAllNumbers(t *testing.T) {
	codes(func(data, spare int) {
		got, err := code.Rows(data, spare)
		expect(t, "Rows", got, err, slowRows(data, spare), api.OK)
	})
	for _, data := range numbers {
		for _, spare := range numbers {
			if wrongOf(data, spare) != api.OK {
				got, err := code.Rows(data, spare)
				expect(t, "Rows of too few or too many", got, err, nil, api.ErrMany)
			}
		}
	}
}

func TestC1SpareOfChosenShards(t *testing.T) {
	three := [][]byte{{1, 2, 3}, {40, 50, 60}, {200, 0, 255}}
	expectSpare(t, "three shards", three, 2, [][]byte{{40, 236, 224}, {152, 38, 97}}, api.OK)
	expectSpare(t, "one shard", three[:1], 3, [][]byte{{1, 2, 3}, {142, 1, 143}, {244, 245, 1}}, api.OK)
	expectSpare(t, "noughts", [][]byte{{0, 0}, {0, 0}}, 2, [][]byte{{0, 0}, {0, 0}}, api.OK)
	expectSpare(t, "three shards, none of them spare", three, 0, nil, api.OK)
}

func TestC1SpareOfAllNumbers(t *testing.T) {
	codes(func(data, spare int) {
		for _, length := range []int{1, 2, 17} {
			l := mixed(data, length, uint32(data*31+spare))
			expectSpare(t, "shards", l, spare, slowAll(l, spare)[data:], api.OK)
		}
	})
	for _, data := range []int{1, 2, api.MaxData} {
		l := mixed(data, api.MaxShard, 1)
		expectSpare(t, "the longest shards", l, api.MaxSpare, slowAll(l, api.MaxSpare)[data:], api.OK)
		expectSpare(t, "the longest shards", l, 0, nil, api.OK)
	}
}

func TestC1SpareOfTooFewOrTooMany(t *testing.T) {
	for shards := range api.MaxMatrix + 3 {
		for _, spare := range numbers {
			if wrongOf(shards, spare) != api.OK {
				expectSpare(t, "too few or too many", sized(shards, 2), spare, nil, api.ErrMany)
			}
		}
	}
	expectSpare(t, "nil", nil, 1, nil, api.ErrMany)
	expectSpare(t, "far too many", sized(5000, 1), 1, nil, api.ErrMany)
}

// noMatrices are lists that are no matrices, of numbers of shards that data may have.
var noMatrices = []struct {
	name string
	l    [][]byte
	want api.Errno
}{
	{"a nil shard", [][]byte{nil}, api.ErrMany},
	{"a shard of no bytes", [][]byte{{}}, api.ErrMany},
	{"a shard of no bytes, but room for some", [][]byte{make([]byte, 0, 5)}, api.ErrMany},
	{"shards of no bytes", [][]byte{{}, nil, {}}, api.ErrMany},
	{"a shard of a byte too many", sized(1, api.MaxShard+1), api.ErrMany},
	{"shards of a byte too many", sized(api.MaxData, api.MaxShard+1), api.ErrMany},
	{"first shard gone", [][]byte{nil, {1}}, api.ErrMany},
	{"first shard too long", shardsOf(api.MaxShard+1, 1), api.ErrMany},
	{"second shard gone", [][]byte{{1}, nil}, api.ErrForm},
	{"second shard shorter", shardsOf(3, 2), api.ErrForm},
	{"second shard longer", shardsOf(3, 4), api.ErrForm},
	{"second shard too long", shardsOf(api.MaxShard, api.MaxShard+1), api.ErrForm},
	{"last of most shards shorter", shardsOf(2, 2, 2, 2, 2, 2, 2, 1), api.ErrForm},
	{"last of most shards longer", shardsOf(2, 2, 2, 2, 2, 2, 2, 3), api.ErrForm},
}

func TestC1SpareOfWhatIsNoMatrix(t *testing.T) {
	for _, c := range noMatrices {
		for spare := range api.MaxSpare + 1 {
			expectSpare(t, c.name, c.l, spare, nil, c.want)
		}
		// How many there are is told ahead of it.
		expectSpare(t, c.name, c.l, -1, nil, api.ErrMany)
		expectSpare(t, c.name, c.l, api.MaxSpare+1, nil, api.ErrMany)
	}
	expectSpare(t, "too many shards of several lengths", shardsOf(2, 2, 2, 2, 2, 2, 2, 2, 1), 1, nil, api.ErrMany)
}

// Whichever shards are gone, of all numbers of them: as many as are spare come back, one more and they are lost.
func TestC2MendOfWhicheverAreGone(t *testing.T) {
	codes(func(data, spare int) {
		all := slowAll(mixed(data, 2, uint32(data*7+spare)), spare)
		for mask := range 1 << len(all) {
			l := without(all, mask)
			if goneOf(mask, len(all)) <= spare {
				expectMend(t, "what is enough", l, data, all, api.OK)
			} else {
				expectMend(t, "what is too little", l, data, nil, api.ErrLost)
			}
		}
	})
}

// The document's third example.
func TestC2OfTwoShardsAndASpareOneEachOneMayGo(t *testing.T) {
	all := [][]byte{{5, 6}, {7, 8}}
	spares, err := code.Spare(all, 1)
	expect(t, "Spare", spares, err, slowAll(all, 1)[2:], api.OK)
	all = append(all, spares...)
	for gone := range all {
		expectMend(t, "what is left", without(all, 1<<gone), 2, all, api.OK)
	}
}

func TestC2MendOfShortestAndLongestShards(t *testing.T) {
	for _, length := range []int{1, api.MaxShard - 1, api.MaxShard} {
		for _, data := range []int{1, 2, api.MaxData} {
			for _, spare := range []int{0, 1, api.MaxSpare} {
				all := slowAll(mixed(data, length, 3), spare)
				expectMend(t, "none gone", all, data, all, api.OK)
				// The first ones gone, and the last ones.
				expectMend(t, "first ones gone", without(all, 1<<spare-1), data, all, api.OK)
				expectMend(t, "last ones gone", without(all, (1<<spare-1)<<data), data, all, api.OK)
			}
		}
	}
}

func TestC2MendOfChosenShards(t *testing.T) {
	for _, c := range []struct {
		l    [][]byte
		data int
		want [][]byte
	}{
		{[][]byte{{1}}, 1, [][]byte{{1}}},
		{[][]byte{nil, {2}, {3}}, 1, [][]byte{{2}, {2}, {1}}},
		{[][]byte{nil, {2}, {3}}, 2, [][]byte{{241}, {2}, {3}}},
		{[][]byte{nil, nil, {142}}, 1, [][]byte{{1}, {1}, {142}}},
		// Those behind the first ones that are enough are made anew, whatever they were.
		{[][]byte{{9}, {9}, {9}, {9}}, 1, [][]byte{{9}, {9}, {138}, {7}}},
		{[][]byte{{9}, {9}, {9}, {9}}, 2, [][]byte{{9}, {9}, {141}, {141}}},
		{[][]byte{{9}, {9}, {9}, {9}}, 3, [][]byte{{9}, {9}, {9}, {132}}},
		{[][]byte{{9}, {9}, {9}, {9}}, 4, [][]byte{{9}, {9}, {9}, {9}}},
	} {
		expectMend(t, "chosen shards", c.l, c.data, c.want, api.OK)
	}
}

// Of shards that don't belong together the first ones that are enough come again as they are, and tell all others.
func TestC2MendBelievesTheFirstOnesThatAreThere(t *testing.T) {
	codes(func(data, spare int) {
		strange := mixed(data+spare, 3, uint32(data+spare*19))
		for mask := range 1 << len(strange) {
			if goneOf(mask, len(strange)) > spare {
				continue
			}
			l := without(strange, mask)
			got, err := code.Mend(l, data)
			if err != api.OK || len(got) != len(l) {
				t.Fatalf("Mend of %v is %v, and tells error %d", l, got, err)
			}
			expect(t, "shards of one data", got, api.OK, slowAll(got[:data], spare), api.OK)
			believed := 0
			for number, shard := range l {
				if len(shard) > 0 && believed < data {
					believed++
					if !bytes.Equal(got[number], shard) {
						t.Errorf("Mend of %v changes shard %d into %v", l, number, got[number])
					}
				}
			}
		}
	})
}

func TestC2MendOfTooFewOrTooMany(t *testing.T) {
	for shards := range api.MaxMatrix + 3 {
		for _, data := range numbers {
			if data < 1 || data > 8 || shards < data || shards > data+4 {
				expectMend(t, "too few or too many", sized(shards, 2), data, nil, api.ErrMany)
				// That it is lost, or no matrix, is told later.
				expectMend(t, "too few or too many, all gone", make([][]byte, shards), data, nil, api.ErrMany)
			}
		}
	}
	expectMend(t, "nil", nil, 0, nil, api.ErrMany)
	expectMend(t, "nil", nil, 1, nil, api.ErrMany)
	expectMend(t, "far too many", sized(5000, 1), 8, nil, api.ErrMany)
	expectMend(t, "fewer than data, of several lengths", shardsOf(1, 2), 3, nil, api.ErrMany)
	expectMend(t, "too many, of several lengths", shardsOf(1, 2, 3, 4, 5, 6), 1, nil, api.ErrMany)
}

func TestC2MendOfWhatHasNotTheForm(t *testing.T) {
	long := api.MaxShard + 1
	for _, c := range []struct {
		name string
		l    [][]byte
		data int
	}{
		{"a shard that is too long", shardsOf(long), 1},
		{"one that is too long, the other gone", shardsOf(long, 0), 1},
		{"one that is too long, the one ahead gone", shardsOf(0, long), 1},
		{"far too long ones", shardsOf(100000, 100000), 1},
		{"all too long", sized(api.MaxMatrix, long), api.MaxData},
		{"the first too long", shardsOf(long, 2, 2), 2},
		{"the last too long", shardsOf(2, 2, long), 2},
		{"the last too long, and none needed of it", shardsOf(api.MaxShard, api.MaxShard, long), 1},
		{"the second longer", shardsOf(1, 2), 2},
		{"the second shorter", shardsOf(2, 1), 2},
		{"the second longer, and none needed of it", shardsOf(1, 2), 1},
		{"the first longer", shardsOf(2, 1, 1, 1), 1},
		{"the last of all shorter", shardsOf(2, 2, 2, 2, 2, 2, 2, 2, 2, 2, 2, 1), 8},
		{"the last longer, behind one that is gone", shardsOf(0, 2, 0, 2, 3), 2},
		{"the last shorter, behind one that is gone", shardsOf(0, 2, 0, 2, 1), 2},
	} {
		expectMend(t, c.name, c.l, c.data, nil, api.ErrForm)
	}
	// A length that is another one than that of a shard that is gone is none to tell.
	all := slowAll(mixed(2, 3, 4), 2)
	expectMend(t, "first one gone", without(all, 1), 2, all, api.OK)
}

func TestC2MendTellsThatItIsLostAheadOfTheForm(t *testing.T) {
	long := api.MaxShard + 1
	for _, c := range []struct {
		name string
		l    [][]byte
		data int
	}{
		{"all gone", [][]byte{nil, {}, make([]byte, 0, 4)}, 1},
		{"the only one gone", [][]byte{nil}, 1},
		{"one there, too long", shardsOf(long, 0), 2},
		{"two there, of two lengths", shardsOf(0, 1, 2, 0), 3},
		{"most there, one too long", shardsOf(1, 1, 1, 0, 1, 1, 1, long), 8},
	} {
		expectMend(t, c.name, c.l, c.data, nil, api.ErrLost)
	}
}

func TestC2GoodOfShardsAndTheirSpareOnes(t *testing.T) {
	codes(func(data, spare int) {
		for _, length := range []int{1, 3} {
			all := slowAll(mixed(data, length, uint32(data*5+spare)), spare)
			if !code.Good(all, data) {
				t.Errorf("%v, %d of them data, are not told to be good", all, data)
			}
			for number := range all {
				if code.Good(without(all, 1<<number), data) {
					t.Errorf("%v, %d of them data, are told to be good without number %d", all, data, number)
				}
			}
		}
	})
	longest := slowAll(mixed(api.MaxData, api.MaxShard, 6), api.MaxSpare)
	if !code.Good(longest, api.MaxData) {
		t.Error("the longest shards are not told to be good")
	}
	longest[api.MaxMatrix-1][api.MaxShard-1] ^= 1
	if code.Good(longest, api.MaxData) {
		t.Error("the longest shards are told to be good with another last byte")
	}
}

func TestC2GoodFindsAByteThatIsAnotherOne(t *testing.T) {
	codes(func(data, spare int) {
		all := slowAll(mixed(data, 2, uint32(data*3+spare)), spare)
		for number := range all {
			for at := range all[number] {
				for _, turn := range []byte{1, 2, 29, 128, 255} {
					all[number][at] ^= turn
					// Without spare shards there is nothing to tell it by.
					if got := code.Good(all, data); got != (spare == 0) {
						t.Errorf("Good of %d and %d shards, byte %d of number %d turned by %d, is %v", data, spare, at, number, turn, got)
					}
					all[number][at] ^= turn
				}
			}
		}
	})
}

func TestC2GoodOfWhatIsWrong(t *testing.T) {
	for shards := range api.MaxMatrix + 3 {
		// Noughts are their own spare ones, so that only how many they are can be found wanting.
		noughts := [][]byte{}
		for range shards {
			noughts = append(noughts, make([]byte, 2))
		}
		for _, data := range numbers {
			want := data >= 1 && data <= 8 && shards >= data && shards <= data+4
			if got := code.Good(noughts, data); got != want {
				t.Errorf("Good of %d shards, %d of them data, is %v", shards, data, got)
			}
		}
	}
	for _, c := range noMatrices {
		for data := range len(c.l) + 1 {
			if code.Good(c.l, data) {
				t.Errorf("%s, %d of them data: told to be good", c.name, data)
			}
		}
	}
	if code.Good(sized(5000, 1), 8) {
		t.Error("far too many are told to be good")
	}
}

func TestC2GoodOfSpareShardsThatAreNone(t *testing.T) {
	all := slowAll([][]byte{{1, 2, 3}, {40, 50, 60}, {200, 0, 255}}, 3)
	exchanged := slices.Clone(all)
	exchanged[3], exchanged[4] = all[4], all[3]
	for _, c := range []struct {
		name string
		l    [][]byte
		data int
		want bool
	}{
		{"all", all, 3, true},
		{"data alone", all[:3], 3, true},
		{"some of the spare ones", all[:5], 3, true},
		{"one more of data", all, 4, false},
		{"one fewer of data", all, 2, false},
		{"spare ones exchanged", exchanged, 3, false},
		{"the first spare one left out", slices.Concat(all[:3], all[4:]), 3, false},
		{"a spare one of a byte more", slices.Concat(all[:5], [][]byte{append(bytes.Clone(all[5]), 0)}), 3, false},
		{"a spare one of a byte fewer", slices.Concat(all[:5], [][]byte{all[5][:2]}), 3, false},
		{"one byte thrice", [][]byte{{9}, {9}, {9}}, 1, false},
		{"one byte twice", [][]byte{{9}, {9}}, 1, true},
	} {
		if got := code.Good(c.l, c.data); got != c.want {
			t.Errorf("Good of %s is %v", c.name, got)
		}
	}
}

// roomy is l with other shards and bytes in the spare room behind its lists, and a way to see all of them.
func roomy(l [][]byte, behind byte) ([][]byte, func() [][]byte) {
	spare := []byte{behind, behind, behind}
	whole := [][]byte{}
	for _, shard := range l {
		whole = append(whole, slices.Concat(shard, spare))
	}
	lists := append(slices.Clone(whole), spare, spare)
	for k, shard := range l {
		lists[k] = whole[k][:len(shard)]
	}
	// The lists too, since shards that were exchanged have the bytes that they had.
	look := func() [][]byte { return append(copied(whole), copied(lists)...) }
	return lists[:len(l)], look
}

func TestC1C2WhatIsHandedInIsOnlyRead(t *testing.T) {
	data := mixed(3, 4, 7)
	all := slowAll(data, 2)
	for _, behind := range []byte{0, 1, 200} {
		shards, allOfShards := roomy(data, behind)
		whole, allOfWhole := roomy(all, behind)
		holed, allOfHoled := roomy(without(all, 1<<0|1<<4), behind)
		lost, allOfLost := roomy(without(all, 1<<0|1<<1|1<<4), behind)
		uneven, allOfUneven := roomy(shardsOf(2, 2, 3), behind)
		look := func() [][][]byte {
			return [][][]byte{allOfShards(), allOfWhole(), allOfHoled(), allOfLost(), allOfUneven()}
		}
		was := look()

		expectSpare(t, "shards with room", shards, 2, all[3:], api.OK)
		expectSpare(t, "shards with room, none of them spare", shards, 0, nil, api.OK)
		expectSpare(t, "uneven shards with room", uneven, 2, nil, api.ErrForm)
		expectMend(t, "all shards with room", whole, 3, all, api.OK)
		expectMend(t, "shards with room", holed, 3, all, api.OK)
		expectMend(t, "too few shards with room", lost, 3, nil, api.ErrLost)
		expectMend(t, "uneven shards with room", uneven, 2, nil, api.ErrForm)
		if !code.Good(whole, 3) || code.Good(holed, 3) || code.Good(uneven, 2) {
			t.Error("Good hangs on what stands behind the lists")
		}

		for k, is := range look() {
			if !same(is, was[k]) {
				t.Errorf("list %d was %v, and is %v", k, was[k], is)
			}
		}
	}
}

func TestC1C2OneListAsSeveralShards(t *testing.T) {
	shard := []byte{3, 5}
	twice := [][]byte{shard, shard}
	want := slowAll([][]byte{{3, 5}, {3, 5}}, 1)
	expectSpare(t, "one list twice", twice, 1, want[2:], api.OK)
	expectMend(t, "one list twice", append(twice, nil), 2, want, api.OK)
	if !code.Good(twice, 1) || !code.Good(twice, 2) {
		t.Error("one list twice is not told to be good")
	}
	if !bytes.Equal(shard, []byte{3, 5}) {
		t.Errorf("the shard is %v after it", shard)
	}
}

// spoil writes over everything that the caller of an answer may write over, list by list,
// and tells whether a list is changed by what is written into another one.
func spoil(t *testing.T, name string, l [][]byte) {
	t.Helper()
	for k, shard := range l {
		before := copied(l)
		whole := shard[:cap(shard)]
		for at := range whole {
			whole[at] ^= 255
		}
		for other := range l {
			if other != k && !bytes.Equal(l[other], before[other]) {
				t.Errorf("%s: what is written into list %d is seen in list %d", name, k, other)
			}
		}
	}
	lists := l[:cap(l)]
	for k := range lists {
		lists[k] = []byte{9}
	}
}

func TestC1C2WhatIsAnsweredIsNewMemory(t *testing.T) {
	data := mixed(3, 4, 8)
	all := slowAll(data, 2)
	holed := without(all, 1<<1|1<<3)
	arguments := func() [][]byte { return slices.Concat(copied(data), copied(all), copied(holed)) }
	was := arguments()
	answers := map[string]func() [][]byte{
		"Rows":               func() [][]byte { m, _ := code.Rows(3, 2); return m },
		"Rows, none spare":   func() [][]byte { m, _ := code.Rows(3, 0); return m },
		"Spare":              func() [][]byte { l, _ := code.Spare(data, 2); return l },
		"Spare of one shard": func() [][]byte { l, _ := code.Spare(data[:1], 4); return l },
		"Spare of none":      func() [][]byte { l, _ := code.Spare(data, 0); return l },
		"Mend":               func() [][]byte { l, _ := code.Mend(holed, 3); return l },
		"Mend, none gone":    func() [][]byte { l, _ := code.Mend(all, 3); return l },
		"Mend, none spare":   func() [][]byte { l, _ := code.Mend(data, 3); return l },
		"Mend of one":        func() [][]byte { l, _ := code.Mend(data[:1], 1); return l },
	}
	for name, answer := range answers {
		first, second := answer(), answer()
		want := copied(first)
		spoil(t, name, first)
		if !same(second, want) {
			t.Errorf("%s: what is written into one answer is seen in another", name)
		}
		if !same(arguments(), was) {
			t.Errorf("%s: what is written into an answer is seen in an argument", name)
		}
		if third := answer(); !same(third, want) {
			t.Errorf("%s: what is written into an answer is seen in a later one", name)
		}
	}
}

func TestC1C2NothingOfAnArgumentIsKept(t *testing.T) {
	data := mixed(3, 4, 9)
	all := slowAll(data, 2)
	spares, _ := code.Spare(data, 2)
	whole, _ := code.Mend(all, 3)
	mended, _ := code.Mend(without(all, 1<<0|1<<3), 3)
	want := copied(slices.Concat(spares, whole, mended))
	for _, shard := range slices.Concat(data, all) {
		for k := range shard {
			shard[k] ^= 255
		}
	}
	if !same(slices.Concat(spares, whole, mended), want) {
		t.Error("an answer changes with what was handed in")
	}
}

func TestC1C2NilAndNoEntriesAreTheSame(t *testing.T) {
	all := slowAll(mixed(2, 3, 10), 2)
	for _, pair := range [][2][][]byte{
		{nil, {}},
		{{nil}, {{}}},
		{{nil, {1}}, {{}, {1}}},
		{{{1}, nil}, {{1}, {}}},
		{{nil, all[1], nil, all[3]}, {{}, all[1], {}, all[3]}},
		{{nil, all[1], nil, all[3]}, {all[0][:0], all[1], all[2][:0], all[3]}},
		{{nil, nil, nil, all[3]}, {all[0][:0], {}, nil, all[3]}},
	} {
		a, b := pair[0], pair[1]
		for number := -1; number <= 5; number++ {
			spareA, errSpareA := code.Spare(a, number)
			spareB, errSpareB := code.Spare(b, number)
			mendA, errMendA := code.Mend(a, number)
			mendB, errMendB := code.Mend(b, number)
			if errSpareA != errSpareB || !same(spareA, spareB) {
				t.Errorf("Spare tells %v from %v", a, b)
			}
			if errMendA != errMendB || !same(mendA, mendB) {
				t.Errorf("Mend tells %v from %v", a, b)
			}
			if code.Good(a, number) != code.Good(b, number) {
				t.Errorf("Good tells %v from %v", a, b)
			}
		}
	}
	holed := [][]byte{all[0][:0], all[1], {}, all[3]}
	expectMend(t, "shards gone as lists without entries", holed, 2, all, api.OK)
}

// Z1: whatever a call is given, it ends, does not panic, and answers what the chapter's order of errors asks.
func TestC1C2OfAllSmallLists(t *testing.T) {
	lengths := []int{0, 1, 2, api.MaxShard, api.MaxShard + 1}
	for shards := range 5 {
		total := 1
		for range shards {
			total *= len(lengths)
		}
		for choice := range total {
			chosen := []int{}
			for left := choice; len(chosen) < shards; left /= len(lengths) {
				chosen = append(chosen, lengths[left%len(lengths)])
			}
			l := shardsOf(chosen...)
			for number := -1; number <= 6; number++ {
				got, err := code.Spare(l, number)
				if want := spareErr(chosen, number); err != want || err != api.OK && len(got) != 0 {
					t.Errorf("Spare of lengths %v, %d of them spare: error %d, not %d", chosen, number, err, want)
				}
				got, err = code.Mend(l, number)
				if want := mendErr(chosen, number); err != want || err != api.OK && len(got) != 0 {
					t.Errorf("Mend of lengths %v, %d of them data: error %d, not %d", chosen, number, err, want)
				}
				if code.Good(l, number) && (wrongOf(number, shards-number) != api.OK || matrixErr(chosen) != api.OK) {
					t.Errorf("lengths %v, %d of them data: told to be good", chosen, number)
				}
			}
		}
	}
}

// matrixErr is what chapter 2 says of a matrix of rows of the lengths.
func matrixErr(lengths []int) api.Errno {
	if len(lengths) == 0 || lengths[0] == 0 || lengths[0] > api.MaxShard {
		return api.ErrMany
	}
	for _, length := range lengths {
		if length != lengths[0] {
			return api.ErrForm
		}
	}
	return api.OK
}

// spareErr is the error of Spare of shards of the lengths.
func spareErr(lengths []int, spare int) api.Errno {
	if wrongOf(len(lengths), spare) != api.OK {
		return api.ErrMany
	}
	return matrixErr(lengths)
}

// mendErr is the error of Mend of shards of the lengths.
func mendErr(lengths []int, data int) api.Errno {
	if wrongOf(data, len(lengths)-data) != api.OK {
		return api.ErrMany
	}
	there := []int{}
	for _, length := range lengths {
		if length > 0 {
			there = append(there, length)
		}
	}
	if len(there) < data {
		return api.ErrLost
	}
	for _, length := range there {
		if length > api.MaxShard || length != there[0] {
			return api.ErrForm
		}
	}
	return api.OK
}
