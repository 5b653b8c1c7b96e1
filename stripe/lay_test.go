package stripe_test

import (
	"bytes"
	"math"
	"slices"
	"testing"

	"spareparts/api"
	"spareparts/block"
	"spareparts/code"
	"spareparts/stripe"
)

// mixed is bytes without a plain rule, the same ones for the same seed; the last one is never a nought.
func mixed(length int, seed uint32) []byte {
	b := make([]byte, length)
	for k := range b {
		seed = seed*1664525 + 1013904223
		b[k] = byte(seed >> 24)
	}
	if length > 0 {
		b[length-1] |= 1
	}
	return b
}

// bytesOf is chapter 4's words for the bytes of a block, whatever is wrong with it.
func bytesOf(segment, shard, size int, data ...byte) []byte {
	told := []byte{'S', byte(segment), byte(shard), byte(size / 256), byte(size % 256), byte(len(data) / 256), byte(len(data) % 256)}
	return withSum(append(told, data...))
}

// withSum is b with its right sum behind it.
func withSum(b []byte) []byte {
	sum := block.Sum(b)
	return append(bytes.Clone(b), byte(sum), byte(sum>>8), byte(sum>>16), byte(sum>>24))
}

// wrongOf is chapter 3's words for Wrong.
func wrongOf(data, spare int) api.Errno {
	if data >= 1 && data <= 8 && spare >= 0 && spare <= 4 {
		return api.OK
	}
	return api.ErrMany
}

// shardsOf is b over so many shards of the least length with which there is room, found by trying one after the other.
func shardsOf(b []byte, data int) [][]byte {
	length := 1
	for data*length < len(b) {
		length++
	}
	shards := [][]byte{}
	for range data {
		shards = append(shards, make([]byte, length))
	}
	for at, one := range b {
		shards[at/length][at%length] = one
	}
	return shards
}

// layOf is F1's words for Lay.
func layOf(b []byte, segment, data, spare int) ([][]byte, api.Errno) {
	if err := wrongOf(data, spare); err != api.OK {
		return nil, err
	}
	if segment < 0 || segment > 39 {
		return nil, api.ErrRange
	}
	if len(b) > data*400 {
		return nil, api.ErrMuch
	}
	shards := shardsOf(b, data)
	spares, err := code.Spare(shards, spare)
	if err != api.OK {
		return nil, err
	}
	l := [][]byte{}
	for number, shard := range slices.Concat(shards, spares) {
		l = append(l, bytesOf(segment, number, len(b), shard...))
	}
	return l, api.OK
}

// laid is what the words of F1 make of b, where nothing is wrong.
func laid(b []byte, segment, data, spare int) [][]byte {
	l, err := layOf(b, segment, data, spare)
	if err != api.OK {
		panic("a test lays what can't be laid")
	}
	return l
}

// isRight is F1's words for a right one.
func isRight(told []byte, segment, number int) bool {
	b, err := block.Parse(told)
	return err == api.OK && b.Segment == segment && b.Shard == number
}

// badOf is F1's words for Bad.
func badOf(l [][]byte, segment int) []int {
	bad := []int{}
	for number, told := range l {
		if !isRight(told, segment, number) {
			bad = append(bad, number)
		}
	}
	return bad
}

func same(a, b [][]byte) bool {
	return slices.EqualFunc(a, b, bytes.Equal)
}

func copied(l [][]byte) [][]byte {
	c := [][]byte{}
	for _, told := range l {
		c = append(c, bytes.Clone(told))
	}
	return c
}

// with is l with another one in that place.
func with(l [][]byte, number int, told []byte) [][]byte {
	l = slices.Clone(l)
	l[number] = told
	return l
}

// turned is b with a byte turned.
func turned(b []byte, at int, by byte) []byte {
	b = bytes.Clone(b)
	b[at] ^= by
	return b
}

// codes goes through all numbers of data and of spare shards with which nothing is wrong.
func codes(each func(data, spare int)) {
	for data := 1; data <= api.MaxData; data++ {
		for spare := range api.MaxSpare + 1 {
			each(data, spare)
		}
	}
}

// numbers are those around what data, spare and how many there are may be, and the ends of int.
var numbers = []int{
	math.MinInt, math.MinInt + 1, math.MinInt + 12, -256, -8, -4, -2, -1, 0, 1, 2, 3, 4, 5, 6, 7, 8, 9, 10, 11, 12, 13,
	255, 256, 257, 264, 1 << 32, 1<<32 + 2, math.MaxInt - 1, math.MaxInt,
}

// goodSegments are segments that there are, and noSegments are none, some of them such that a byte would tell one that there is.
var (
	goodSegments = []int{0, 1, 5, api.MaxSegment - 1}
	noSegments   = []int{
		math.MinInt, math.MinInt + 1, -256, -255, -40, -1, api.MaxSegment, api.MaxSegment + 1,
		127, 128, 255, 256, 257, 261, 1 << 16, 1 << 32, 1<<32 + 5, math.MaxInt - 1, math.MaxInt,
	}
)

// expectLay holds an answer of Lay against what must come: beside an error no blocks may be told.
func expectLay(t *testing.T, b []byte, segment, data, spare int, want [][]byte, wantErr api.Errno) {
	t.Helper()
	got, err := stripe.Lay(b, segment, data, spare)
	if err != wantErr {
		t.Errorf("Lay of %d bytes, segment %d, %d and %d shards tells error %d, not %d", len(b), segment, data, spare, err, wantErr)
	}
	if !same(got, want) {
		t.Errorf("Lay of %d bytes, segment %d, %d and %d shards is %v, not %v", len(b), segment, data, spare, got, want)
	}
}

func expectBad(t *testing.T, name string, l [][]byte, segment int, want ...int) {
	t.Helper()
	if got := stripe.Bad(l, segment); !slices.Equal(got, want) {
		t.Errorf("Bad of %s, segment %d, is %v, not %v", name, segment, got, want)
	}
}

func TestF1LayOfChosenBytes(t *testing.T) {
	for _, c := range []struct {
		b                    []byte
		segment, data, spare int
		want                 [][]byte
	}{
		{nil, 0, 1, 0, [][]byte{bytesOf(0, 0, 0, 0)}},
		{nil, 39, 2, 1, [][]byte{bytesOf(39, 0, 0, 0), bytesOf(39, 1, 0, 0), bytesOf(39, 2, 0, 0)}},
		{[]byte{7}, 5, 1, 0, [][]byte{bytesOf(5, 0, 1, 7)}},
		{[]byte{7}, 5, 1, 1, [][]byte{bytesOf(5, 0, 1, 7), bytesOf(5, 1, 1, 7)}},
		{[]byte{7}, 5, 3, 0, [][]byte{bytesOf(5, 0, 1, 7), bytesOf(5, 1, 1, 0), bytesOf(5, 2, 1, 0)}},
		{[]byte{1, 2}, 0, 2, 0, [][]byte{bytesOf(0, 0, 2, 1), bytesOf(0, 1, 2, 2)}},
		{[]byte{1, 2, 3}, 3, 2, 1, [][]byte{bytesOf(3, 0, 3, 1, 2), bytesOf(3, 1, 3, 3, 0), bytesOf(3, 2, 3, 143, 1)}},
		{[]byte{1, 2, 3, 4}, 3, 2, 1, [][]byte{bytesOf(3, 0, 4, 1, 2), bytesOf(3, 1, 4, 3, 4), bytesOf(3, 2, 4, 143, 246)}},
		// Noughts fill the rest of one shard, and whole ones behind it.
		{[]byte{1, 2, 3, 4, 5}, 1, 4, 0, [][]byte{bytesOf(1, 0, 5, 1, 2), bytesOf(1, 1, 5, 3, 4), bytesOf(1, 2, 5, 5, 0), bytesOf(1, 3, 5, 0, 0)}},
	} {
		expectLay(t, c.b, c.segment, c.data, c.spare, c.want, api.OK)
	}
}

// The document's sixth example, and its blocks byte by byte.
func TestF1ThreeBytesOverTwoShards(t *testing.T) {
	expectLay(t, []byte{9, 8, 7}, 3, 2, 0, [][]byte{
		withSum([]byte{'S', 3, 0, 0, 3, 0, 2, 9, 8}),
		withSum([]byte{'S', 3, 1, 0, 3, 0, 2, 7, 0}),
	}, api.OK)
}

// lengths are those that so many shards have room for: the least and the most, and such that fill them just so, or not.
func lengths(data int) []int {
	most := data * api.MaxShard
	l := []int{0, 1, 2, data - 1, data, data + 1, 2*data - 1, 2 * data, 2*data + 1, 5*data - 1, 5 * data, 5*data + 1, most / 2, most - data - 1, most - data, most - data + 1, most - 1, most}
	slices.Sort(l)
	return slices.Compact(l)
}

func TestF1LayOfAllNumbers(t *testing.T) {
	codes(func(data, spare int) {
		for _, length := range lengths(data) {
			b := mixed(length, uint32(data*31+spare))
			segment := goodSegments[(data+spare+length)%len(goodSegments)]
			expectLay(t, b, segment, data, spare, laid(b, segment, data, spare), api.OK)
		}
	})
}

func TestF1LayOfEachSegment(t *testing.T) {
	b := mixed(10, 1)
	for segment := range api.MaxSegment {
		expectLay(t, b, segment, 3, 2, laid(b, segment, 3, 2), api.OK)
	}
}

func TestF1TheLeastLengthWithRoom(t *testing.T) {
	for _, data := range []int{1, 2, 3, 7, api.MaxData} {
		for length := range data*api.MaxShard + 1 {
			if length > 300 && length%37 > 1 && length < data*api.MaxShard-10 {
				continue
			}
			l, err := stripe.Lay(make([]byte, length), 0, data, 0)
			if err != api.OK || len(l) != data {
				t.Fatalf("Lay of %d bytes over %d shards is %v, and tells error %d", length, data, l, err)
			}
			for _, told := range l {
				has := len(told) - 11
				if has < 1 || has*data < length || has > 1 && (has-1)*data >= length {
					t.Errorf("%d bytes over %d shards: one has %d", length, data, has)
				}
			}
		}
	}
}

func TestF1WhatTheBlocksHave(t *testing.T) {
	codes(func(data, spare int) {
		// One byte more than shards of sixteen have room for: the last ones end in noughts.
		b := mixed(data*16+1, uint32(data+spare))
		l, err := stripe.Lay(b, 12, data, spare)
		if err != api.OK || len(l) != data+spare {
			t.Fatalf("Lay tells %d blocks, and error %d", len(l), err)
		}
		shards := [][]byte{}
		for number, told := range l {
			got, err := block.Parse(told)
			if err != api.OK || got.Segment != 12 || got.Shard != number || got.Size != len(b) || len(got.Data) != 17 {
				t.Errorf("of %d and %d shards number %d is %v, and tells error %d", data, spare, number, got, err)
			}
			shards = append(shards, got.Data)
		}
		whole := slices.Concat(shards[:data]...)
		if !bytes.Equal(whole, slices.Concat(b, make([]byte, data-1))) {
			t.Errorf("%v is laid over %d shards as %v", b, data, shards)
		}
		if !code.Good(shards, data) {
			t.Errorf("the spare ones of %v are not spare ones of the first %d", shards, data)
		}
	})
}

func TestF1LayOfTooFewOrTooMany(t *testing.T) {
	for _, data := range numbers {
		for _, spare := range numbers {
			if wrongOf(data, spare) == api.OK {
				continue
			}
			// That the segment is none, or that it is too much, is told later.
			for _, length := range []int{0, 3, 3200, 3201, 10000} {
				for _, segment := range []int{-1, 0, api.MaxSegment} {
					expectLay(t, make([]byte, length), segment, data, spare, nil, api.ErrMany)
				}
			}
		}
	}
}

func TestF1LayOfNoSegment(t *testing.T) {
	for _, segment := range noSegments {
		codes(func(data, spare int) {
			expectLay(t, []byte{1, 2, 3}, segment, data, spare, nil, api.ErrRange)
			// That it is too much is told later.
			expectLay(t, make([]byte, data*api.MaxShard+1), segment, data, spare, nil, api.ErrRange)
		})
		expectLay(t, nil, segment, 1, 0, nil, api.ErrRange)
	}
}

func TestF1LayOfTooMuch(t *testing.T) {
	codes(func(data, spare int) {
		for _, more := range []int{1, 2, data, api.MaxShard, 100000} {
			for _, segment := range goodSegments {
				expectLay(t, make([]byte, data*api.MaxShard+more), segment, data, spare, nil, api.ErrMuch)
			}
		}
	})
}

func TestF1LayTellsTheFirstErrorThatFits(t *testing.T) {
	for _, c := range []struct {
		length, segment, data, spare int
		want                         api.Errno
	}{
		{800, 0, 2, 1, api.OK},
		{801, 0, 2, 1, api.ErrMuch},
		{801, -1, 2, 1, api.ErrRange},
		{801, 40, 2, 1, api.ErrRange},
		{800, 40, 2, 1, api.ErrRange},
		{800, 40, 0, 1, api.ErrMany},
		{801, -1, 2, 5, api.ErrMany},
		{801, 0, 2, -1, api.ErrMany},
		{3601, 0, 9, 1, api.ErrMany},
		{3600, 39, 9, 0, api.ErrMany},
	} {
		if _, err := stripe.Lay(make([]byte, c.length), c.segment, c.data, c.spare); err != c.want {
			t.Errorf("Lay of %v tells error %d", c, err)
		}
	}
}

func TestF1BadOfNoBlocks(t *testing.T) {
	for _, segment := range slices.Concat(goodSegments, noSegments) {
		expectBad(t, "nil", nil, segment)
		expectBad(t, "no blocks", [][]byte{}, segment)
	}
}

func TestF1BadOfWhatWasLaid(t *testing.T) {
	codes(func(data, spare int) {
		all := []int{}
		for number := range data + spare {
			all = append(all, number)
		}
		for _, segment := range goodSegments {
			l := laid(mixed(2*data+1, 3), segment, data, spare)
			expectBad(t, "what was laid", l, segment)
			for _, other := range slices.Concat(goodSegments, noSegments, []int{segment - 1, segment + 1, segment + 256}) {
				if other != segment {
					expectBad(t, "another segment", l, other, all...)
				}
			}
		}
	})
}

// spoilt is all ways in which a test makes a block a wrong one.
func spoilt(told []byte) [][]byte {
	l := [][]byte{nil, {}, told[:0], {'S'}, append(bytes.Clone(told), 0), append(bytes.Clone(told), told...), append([]byte{0}, told...), told[1:]}
	for length := range told {
		l = append(l, told[:length])
	}
	for at := range told {
		for bit := range 8 {
			l = append(l, turned(told, at, 1<<bit))
		}
		l = append(l, turned(told, at, 255))
	}
	return l
}

func TestF1BadOfOneThatIsGoneOrSpoilt(t *testing.T) {
	// Segment 0 too: where nothing could be parsed, the block has noughts, and those are no right ones.
	for _, segment := range []int{0, 5} {
		all := laid([]byte("a segment of some bytes"), segment, 3, 2)
		for number, told := range all {
			for _, wrong := range spoilt(told) {
				expectBad(t, "blocks, one spoilt", with(all, number, wrong), segment, number)
			}
		}
	}
}

// Whichever are spoilt: the numbers rise, and none comes twice or is left out.
func TestF1BadOfWhicheverAreSpoilt(t *testing.T) {
	all := laid(mixed(40, 2), 7, api.MaxData, api.MaxSpare)
	for mask := range 1 << len(all) {
		l := slices.Clone(all)
		want := []int{}
		for number := range l {
			if mask>>number&1 == 1 {
				l[number] = [][]byte{nil, all[number][:15], turned(all[number], 8, 1), all[(number+1)%12]}[(mask+number)%4]
				want = append(want, number)
			}
		}
		expectBad(t, "blocks, some spoilt", l, 7, want...)
	}
}

func TestF1BadOfBlocksInAnotherPlace(t *testing.T) {
	all := laid(mixed(9, 4), 5, 3, 2)
	other := laid(mixed(9, 4), 6, 3, 2)
	for a := range all {
		for b := range all {
			if a == b {
				continue
			}
			exchanged := with(with(all, a, all[b]), b, all[a])
			expectBad(t, "exchanged blocks", exchanged, 5, min(a, b), max(a, b))
			expectBad(t, "a block twice", with(all, a, all[b]), 5, a)
			expectBad(t, "a block of another segment and place", with(all, a, other[b]), 5, a)
		}
		expectBad(t, "a block of another segment", with(all, a, other[a]), 5, a)
		expectBad(t, "a block of the segment that is asked for", with(all, a, other[a]), 6, slices.DeleteFunc([]int{0, 1, 2, 3, 4}, func(n int) bool { return n == a })...)
	}
	expectBad(t, "blocks without the first one", all[1:], 5, 0, 1, 2, 3)
	expectBad(t, "blocks behind one that is gone", slices.Concat([][]byte{nil}, all), 5, 0, 1, 2, 3, 4, 5)
	expectBad(t, "blocks without the last ones", all[:2], 5)
}

// A right one is told by itself: what the others have says nothing of it.
func TestF1BadOfRightBlocksThatDontGoTogether(t *testing.T) {
	expectBad(t, "blocks of several sizes and lengths", [][]byte{
		bytesOf(5, 0, 3, 1), bytesOf(5, 1, 3200, 1, 2, 3), bytesOf(5, 2, 0, 9), nil, bytesOf(5, 4, 1, mixed(400, 1)...),
	}, 5, 3)
}

func TestF1BadOfARightSumAndAWrongBlock(t *testing.T) {
	long := mixed(api.MaxShard+1, 1)
	for _, c := range []struct {
		name    string
		told    []byte
		segment int
		right   bool
	}{
		{"a right one", bytesOf(5, 0, 1, 1), 5, true},
		{"the greatest segment", bytesOf(39, 0, 1, 1), 39, true},
		{"a segment too great", bytesOf(40, 0, 1, 1), 40, false},
		{"the greatest segment that a byte tells", bytesOf(255, 0, 1, 1), 255, false},
		{"that segment, told as one below 0", bytesOf(255, 0, 1, 1), -1, false},
		{"a segment of which a byte tells another one", bytesOf(5, 0, 1, 1), 261, false},
		{"the greatest size", bytesOf(5, 0, 3200, 1), 5, true},
		{"a size too great", bytesOf(5, 0, 3201, 1), 5, false},
		{"a size too great, of the first segment", bytesOf(0, 0, 3201, 1), 0, false},
		{"the most data", bytesOf(5, 0, 1, long[1:]...), 5, true},
		{"too much data", bytesOf(5, 0, 1, long...), 5, false},
		{"too much data, of the first segment", bytesOf(0, 0, 1, long...), 0, false},
		{"no data", bytesOf(5, 0, 0), 5, false},
		{"another mark", withSum([]byte{'s', 5, 0, 0, 1, 0, 1, 1}), 5, false},
	} {
		if got := len(stripe.Bad([][]byte{c.told}, c.segment)) == 0; got != c.right {
			t.Errorf("%s, segment %d: told to be right: %v", c.name, c.segment, got)
		}
	}
}

// There is no shard behind the most that there may be, so none in such a place is a right one.
func TestF1BadOfTooManyBlocks(t *testing.T) {
	for _, count := range []int{11, 12, 13, 14, 256, 257, 300} {
		l := [][]byte{}
		want := []int{}
		for number := range count {
			l = append(l, bytesOf(2, number, 1, 7))
			if number >= 12 {
				want = append(want, number)
			}
		}
		expectBad(t, "many blocks", l, 2, want...)
	}
}

func TestF1BadOfManyThatAreGone(t *testing.T) {
	bad := stripe.Bad(make([][]byte, 100000), 0)
	if len(bad) != 100000 || bad[0] != 0 || bad[99999] != 99999 {
		t.Errorf("Bad of 100000 that are gone has %d numbers", len(bad))
	}
}
