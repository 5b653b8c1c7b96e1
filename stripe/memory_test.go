package stripe_test

import (
	"bytes"
	"slices"
	"testing"

	"spareparts/api"
	"spareparts/stripe"
)

// roomy is l with other blocks and bytes in the spare room behind its lists, and a way to see all of them.
func roomy(l [][]byte, behind []byte) ([][]byte, func() [][]byte) {
	whole := [][]byte{}
	for _, told := range l {
		whole = append(whole, slices.Concat(told, behind))
	}
	lists := append(slices.Clone(whole), behind, behind)
	for k, told := range l {
		lists[k] = whole[k][:len(told)]
	}
	// The lists too, since blocks that were exchanged have the bytes that they had.
	look := func() [][]byte { return append(copied(whole), copied(lists)...) }
	return lists[:len(l)], look
}

func TestF1WhatIsHandedInIsOnlyRead(t *testing.T) {
	b := mixed(10, 1)
	all := laid(b, 5, 3, 2)
	for _, behind := range [][]byte{{0}, {1, 2, 3}, all[0], mixed(500, 2)} {
		whole := slices.Concat(b, behind)
		was := bytes.Clone(whole)
		expectLay(t, whole[:10], 5, 3, 2, all, api.OK)
		expectLay(t, whole[:0], 5, 3, 2, laid(nil, 5, 3, 2), api.OK)
		expectLay(t, whole[:10], 40, 3, 2, nil, api.ErrRange)
		expectLay(t, whole[:10], 5, 0, 2, nil, api.ErrMany)
		if !bytes.Equal(whole, was) {
			t.Errorf("the bytes were %v, and are %v", was, whole)
		}
		l, look := roomy(wronged(all, 1|1<<3, 1), behind)
		before := look()
		expectBad(t, "blocks with room", l, 5, 0, 3)
		expectBad(t, "blocks with room", l, 7, 0, 1, 2, 3, 4)
		if !same(look(), before) {
			t.Errorf("the blocks were %v, and are %v", before, look())
		}
	}
	most := mixed(2*api.MaxShard+1, 3)
	was := bytes.Clone(most)
	expectLay(t, most[:2*api.MaxShard], 0, 2, 1, laid(most[:2*api.MaxShard], 0, 2, 1), api.OK)
	expectLay(t, most, 0, 2, 1, nil, api.ErrMuch)
	if !bytes.Equal(most, was) {
		t.Error("Lay changes the most that it is handed in")
	}
}

func TestF2WhatIsHandedInIsOnlyRead(t *testing.T) {
	b := mixed(10, 1)
	all := laid(b, 5, 3, 2)
	for _, behind := range [][]byte{{0}, {1, 2, 3}, all[0], mixed(500, 2)} {
		whole, lookWhole := roomy(all, behind)
		holed, lookHoled := roomy(wronged(all, 1|1<<3, 0), behind)
		lost, lookLost := roomy(wronged(all, 1|1<<1|1<<3, 0), behind)
		sized, lookSized := roomy(with(all, 1, resized(all[1], 9)), behind)
		uneven, lookUneven := roomy(unlike(3, 2, 2, 2, 3), behind)
		look := func() [][]byte {
			return slices.Concat(lookWhole(), lookHoled(), lookLost(), lookSized(), lookUneven())
		}
		was := look()

		expectBoth(t, "all blocks with room", whole, 5, 3, b)
		expectBoth(t, "blocks with room", holed, 5, 3, b)
		expectNeither(t, "too few blocks with room", lost, 5, 3, api.ErrLost)
		expectNeither(t, "blocks of two sizes with room", sized, 5, 3, api.ErrFit)
		expectNeither(t, "blocks of two lengths with room", uneven, 5, 2, api.ErrForm)
		expectNeither(t, "blocks with room", whole, 5, 6, api.ErrMany)

		if !same(look(), was) {
			t.Error("Read or Mend changes what is handed in")
		}
	}
}

// What stands behind a list is none of it, even if it would make a right one of it.
func TestF1F2WhatStandsBehindIsNotLookedAt(t *testing.T) {
	b := mixed(7, 4)
	all := laid(b, 5, 2, 2)
	short := slices.Clone(all)
	for number := range short {
		short[number] = short[number][:len(short[number])-1]
	}
	expectBad(t, "blocks whose last bytes stand behind them", short, 5, 0, 1, 2, 3)
	expectNeither(t, "blocks whose last bytes stand behind them", short, 5, 2, api.ErrLost)
	empty := slices.Clone(all)
	for number := range empty {
		empty[number] = empty[number][:0]
	}
	expectBad(t, "blocks that stand behind empty lists", empty, 5, 0, 1, 2, 3)
	expectNeither(t, "blocks that stand behind empty lists", empty, 5, 2, api.ErrLost)
	expectBad(t, "a list with blocks behind it", all[:0], 5)
	expectNeither(t, "one block, one behind it", all[:1], 5, 2, api.ErrMany)
	expectNeither(t, "one block and one that is gone, one behind them", with(all, 0, nil)[:2], 5, 2, api.ErrLost)
	expectLay(t, b[:3], 5, 2, 2, laid([]byte{b[0], b[1], b[2]}, 5, 2, 2), api.OK)
}

func TestF1F2OneListInSeveralPlaces(t *testing.T) {
	one := bytesOf(5, 1, 2, 3)
	was := bytes.Clone(one)
	l := [][]byte{one, one, one}
	expectBad(t, "one list thrice", l, 5, 0, 2)
	expectNeither(t, "one list thrice, of a size that is too great", l, 5, 1, api.ErrFit)
	expectNeither(t, "one list thrice", l, 5, 2, api.ErrLost)
	// With one shard of data its first spare one is the same as it.
	one = bytesOf(5, 1, 1, 3)
	expectBoth(t, "one list thrice", [][]byte{one, one, one}, 5, 1, []byte{3})
	if !bytes.Equal(l[0], was) {
		t.Errorf("the block was %v, and is %v", was, l[0])
	}
}

// spoil writes over everything that the caller of an answer may write over, list by list,
// and tells whether a list is changed by what is written into another one.
func spoil(t *testing.T, name string, l [][]byte) {
	t.Helper()
	for k, told := range l {
		before := copied(l)
		spoilBytes(told)
		for other := range l {
			if other != k && !bytes.Equal(l[other], before[other]) {
				t.Errorf("%s: what is written into list %d is seen in list %d", name, k, other)
			}
		}
	}
	lists := l[:cap(l)]
	for k := range lists {
		lists[k] = []byte{9}
	}
}

func spoilBytes(b []byte) {
	whole := b[:cap(b)]
	for at := range whole {
		whole[at] ^= 255
	}
}

func TestF1F2WhatIsAnsweredIsNewMemory(t *testing.T) {
	b := mixed(12, 5)
	all := laid(b, 5, 3, 2)
	holed := wronged(all, 1|1<<3, 0)
	one := laid(b, 5, 1, 0)
	arguments := func() [][]byte { return slices.Concat([][]byte{b}, all, holed, one) }
	was := copied(arguments())
	answers := map[string]func() [][]byte{
		"Lay":                   func() [][]byte { l, _ := stripe.Lay(b, 5, 3, 2); return l },
		"Lay, none spare":       func() [][]byte { l, _ := stripe.Lay(b, 5, 3, 0); return l },
		"Lay of noughts":        func() [][]byte { l, _ := stripe.Lay(nil, 5, 3, 2); return l },
		"Lay over one":          func() [][]byte { l, _ := stripe.Lay(b, 5, 1, 0); return l },
		"Lay over one, 4 spare": func() [][]byte { l, _ := stripe.Lay(b, 5, 1, 4); return l },
		"Read":                  func() [][]byte { r, _ := stripe.Read(all, 5, 3); return [][]byte{r} },
		"Read, some gone":       func() [][]byte { r, _ := stripe.Read(holed, 5, 3); return [][]byte{r} },
		"Read of one":           func() [][]byte { r, _ := stripe.Read(one, 5, 1); return [][]byte{r} },
		"Mend":                  func() [][]byte { l, _ := stripe.Mend(all, 5, 3); return l },
		"Mend, some gone":       func() [][]byte { l, _ := stripe.Mend(holed, 5, 3); return l },
		"Mend of one":           func() [][]byte { l, _ := stripe.Mend(one, 5, 1); return l },
	}
	for name, answer := range answers {
		first, second := answer(), answer()
		want := copied(first)
		spoil(t, name, first)
		if !same(second, want) {
			t.Errorf("%s: what is written into one answer is seen in another", name)
		}
		if !same(arguments(), was) {
			t.Errorf("%s: what is written into an answer is seen in an argument", name)
		}
		if third := answer(); !same(third, want) {
			t.Errorf("%s: what is written into an answer is seen in a later one", name)
		}
	}
}

func TestF1TheNumbersThatAreAnsweredAreNewMemory(t *testing.T) {
	l := make([][]byte, 5)
	first, second := stripe.Bad(l, 0), stripe.Bad(l, 0)
	whole := first[:cap(first)]
	for k := range whole {
		whole[k] = 99
	}
	if want := []int{0, 1, 2, 3, 4}; !slices.Equal(second, want) || !slices.Equal(stripe.Bad(l, 0), want) {
		t.Error("what is written into one answer of Bad is seen in another")
	}
}

func TestF1F2NothingOfAnArgumentIsKept(t *testing.T) {
	b := mixed(12, 6)
	all := laid(b, 5, 3, 2)
	holed := copied(wronged(all, 1|1<<3, 0))
	one := laid(b, 5, 1, 0)
	answers := func() [][]byte {
		over3, _ := stripe.Lay(b, 5, 3, 2)
		over1, _ := stripe.Lay(b, 5, 1, 0)
		read, _ := stripe.Read(all, 5, 3)
		readOne, _ := stripe.Read(one, 5, 1)
		mended, _ := stripe.Mend(holed, 5, 3)
		whole, _ := stripe.Mend(all, 5, 3)
		return slices.Concat(over3, over1, [][]byte{read, readOne}, mended, whole)
	}
	got := answers()
	want := copied(got)
	for _, list := range slices.Concat([][]byte{b}, all, holed, one) {
		spoilBytes(list)
	}
	if !same(got, want) {
		t.Error("an answer changes with what was handed in")
	}
}

func TestF1F2NilAndNoEntriesAreTheSame(t *testing.T) {
	codes(func(data, spare int) {
		want := laid(nil, 5, data, spare)
		expectLay(t, nil, 5, data, spare, want, api.OK)
		expectLay(t, []byte{}, 5, data, spare, want, api.OK)
		expectLay(t, make([]byte, 0, 9), 5, data, spare, want, api.OK)
		expectBoth(t, "blocks of no bytes", want, 5, data, nil)
	})
	all := laid(mixed(5, 7), 5, 2, 2)
	for _, none := range [][]byte{nil, {}, all[0][:0]} {
		l := [][]byte{none, all[1], none, all[3]}
		expectBad(t, "blocks, two gone", l, 5, 0, 2)
		expectBoth(t, "blocks, two gone", l, 5, 2, mixed(5, 7))
		l[1] = none
		expectBad(t, "blocks, three gone", l, 5, 0, 1, 2)
		expectNeither(t, "blocks, three gone", l, 5, 2, api.ErrLost)
	}
	for _, none := range [][][]byte{nil, {}, all[:0]} {
		expectBad(t, "no list", none, 5)
		for _, data := range numbers {
			expectNeither(t, "no list", none, 5, data, api.ErrMany)
		}
	}
}

// chance tells numbers without a plain rule, the same ones for the same seed.
func chance(seed uint32) func(below int) int {
	return func(below int) int {
		seed = seed*1664525 + 1013904223
		return int(seed>>8) % below
	}
}

// someBlock is a block as it might stand in that place, or not.
func someBlock(pick func(int) int, right []byte, number int) []byte {
	short := right[:pick(len(right))]
	switch pick(16) {
	case 0:
		return nil
	case 1:
		return turned(right, pick(len(right)), byte(1+pick(255)))
	case 2:
		return short
	case 3:
		return append(bytes.Clone(right), byte(pick(256)))
	case 4:
		return withSum(short)
	case 5:
		return resized(right, pick(12))
	case 6:
		// Of the same size, but perhaps of another length.
		return resized(bytesOf(5, number, 0, mixed(1+pick(5), uint32(number))...), int(right[3])*256+int(right[4]))
	case 7:
		return bytesOf(pick(256), pick(14), pick(4000), mixed(pick(5), 1)...)
	case 8:
		return mixed(pick(40), uint32(pick(1000)))
	}
	return right
}

// Whatever the blocks are, each answer is what the words of F1 and F2 make of them.
func TestF1F2OfAllKindsOfBlocks(t *testing.T) {
	pick := chance(11)
	told := map[api.Errno]int{}
	for range 6000 {
		data, spare := 1+pick(8), pick(5)
		l := laid(mixed(pick(2*data+1), uint32(pick(1000))), 5, data, spare)
		// In some lists nearly all are right, in others anything comes.
		strange := 1 + pick(8)
		for number := range l {
			if pick(8) < strange && pick(2) == 0 {
				l[number] = someBlock(pick, l[number], number)
			}
		}
		segment := []int{5, 5, 5, 5, 5, 6, -1, 40, 261}[pick(9)]
		if pick(10) == 0 {
			data = numbers[pick(len(numbers))]
		}
		expectBad(t, "some blocks", l, segment, badOf(l, segment)...)
		b, err := readOf(l, segment, data)
		expectRead(t, "some blocks", l, segment, data, b, err)
		all, mendErr := mendOf(l, segment, data)
		expectMend(t, "some blocks", l, segment, data, all, mendErr)
		told[err]++
	}
	for _, err := range []api.Errno{api.OK, api.ErrMany, api.ErrFit, api.ErrLost, api.ErrForm} {
		if told[err] < 20 {
			t.Errorf("error %d came only %d times", err, told[err])
		}
	}
}

func TestF1LayOfAllKindsOfNumbers(t *testing.T) {
	for _, data := range numbers {
		for _, spare := range []int{-1, 0, 1, 4, 5} {
			for _, segment := range slices.Concat(goodSegments, noSegments) {
				for _, length := range []int{0, 1, 9, 401, 3201} {
					b := make([]byte, length)
					want, err := layOf(b, segment, data, spare)
					expectLay(t, b, segment, data, spare, want, err)
				}
			}
		}
	}
}
