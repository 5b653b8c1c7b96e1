package store_test

import (
	"fmt"
	"math"
	"reflect"
	"slices"
	"testing"

	"spareparts/api"
	"spareparts/store"
)

// chance tells numbers without a plain rule, the same ones for the same seed.
func chance(seed uint32) func(below int) int {
	return func(below int) int {
		seed = seed*1664525 + 1013904223
		return int(seed>>8) % below
	}
}

// script has something of each kind come, some of it refused.
func script() []api.Do {
	return []api.Do{
		put(3, opened("a"), added("a", 7), opened("b")), put(1, taken("a", 2)), put(2, closed("b")), put(9, added("b", 1)), put(4, opened("b")), put(4, opened("c")),
		all(0), all(3), read("a"), read("b"), read("zz"), seen(), health(), all(99), read("A"),
		spoil(0, 0, 4, 9), spoil(1, 1, 2, 3), spoil(1, 77, 2, 3), lose(2), lose(2), put(5, added("a", 1)), put(6, added("b", 2)),
		scrub(), swap(2), all(0), scrub(), seen(), {Kind: 99}, put(0), put(7), put(8, opened("d"), opened("e")), putAt("a", 77, 10, added("a", 1)), all(0), seen(), read("a"), health(),
	}
}

func scriptSetups() []api.Setup {
	return []api.Setup{setup(1, 0, 1), setup(1, 2, 1), setup(2, 1, 1), setup(2, 1, 2), setup(2, 2, 3), setup(3, 1, 10), setup(8, 4, 2)}
}

// roomy is l with other things in the spare room behind it, and other events in that behind each batch's,
// and a way to see all of that.
func roomy(l []api.Do) ([]api.Do, func() string) {
	whole := append(copied(l), put(1, opened("behind")), scrub(), lose(0))
	for k, d := range whole {
		events := append(slices.Clone(d.Batch.Events), opened("behind"), added("a", 1), ev("", 9, 9))
		whole[k].Batch.Events = events[:len(d.Batch.Events)]
	}
	return whole[:len(l)], func() string {
		text := ""
		for _, d := range whole {
			d.Batch.Events = d.Batch.Events[:cap(d.Batch.Events)]
			text += fmt.Sprintf("%+v\n", d)
		}
		return text
	}
}

// copied is l in memory of its own, without room behind.
func copied(l []api.Do) []api.Do {
	l = slices.Clip(slices.Clone(l))
	for k := range l {
		l[k].Batch.Events = slices.Clip(slices.Clone(l[k].Batch.Events))
	}
	return l
}

func TestH1ToH4WhatIsHandedInIsOnlyRead(t *testing.T) {
	for _, s := range append(scriptSetups(), setup(0, 1, 1), setup(1, 1, 11)) {
		for _, l := range [][]api.Do{nil, script(), puts(80), puts(81), many(150), many(160)} {
			want, answers, err := store.Play(s, copied(l))
			l, look := roomy(l)
			was := look()
			expectPlay(t, "things with room", s, l, want, answers, err)
			if look() != was {
				t.Errorf("%v: what is done was %s, and is %s", s, was, look())
			}
		}
	}
}

// What stands behind a list is none of it.
func TestH1ToH4WhatStandsBehindIsNotLookedAt(t *testing.T) {
	s := setup(2, 1, 1)
	l := append(puts(3), api.Do{Kind: 99}, lose(0))
	for n := range l {
		_, answers := expectTruth(t, "things behind", s, l[:n])
		if len(answers) != n {
			t.Errorf("of %d things come %d answers", n, len(answers))
		}
	}
	whole := []api.Event{opened("a"), added("a", 2), ev("A", 0, 0)}
	for n, want := range []api.Answer{refused(api.ErrMany), number(1), number(2), refused(api.ErrName)} {
		expectSteps(t, "events behind", s, step{put(1, whole[:n]...), want})
	}
	if _, answers, err := store.Play(s, make([]api.Do, 80, 200)); err != api.OK || len(answers) != 80 {
		t.Errorf("of 80 things with room behind comes error %d", err)
	}
}

// span is memory that a list has, its spare room too.
type span struct {
	name     string
	from, to uintptr
}

// spans is the memory of all lists of a value, and of those in their spare room.
func spans(name string, v reflect.Value) []span {
	var out []span
	switch v.Kind() {
	case reflect.Struct:
		for k := range v.NumField() {
			out = append(out, spans(name+"."+v.Type().Field(k).Name, v.Field(k))...)
		}
	case reflect.Slice:
		if v.Cap() == 0 {
			return nil
		}
		out = append(out, span{name, v.Pointer(), v.Pointer() + uintptr(v.Cap())*v.Type().Elem().Size()})
		whole := v.Slice(0, v.Cap())
		for k := range whole.Len() {
			out = append(out, spans(name+"[]", whole.Index(k))...)
		}
	}
	return out
}

// expectApart has no two lists share any memory.
func expectApart(t *testing.T, l []span) {
	t.Helper()
	slices.SortFunc(l, func(a, b span) int { return int(a.from) - int(b.from) })
	for k := range len(l) - 1 {
		if l[k].to > l[k+1].from {
			t.Errorf("%s and %s share memory", l[k].name, l[k+1].name)
		}
	}
}

func TestH1ToH4WhatIsAnsweredIsNewMemory(t *testing.T) {
	for _, s := range append(scriptSetups(), setup(0, 1, 1)) {
		for _, l := range [][]api.Do{nil, script(), puts(41), slices.Concat(puts(20), []api.Do{all(0), all(3), all(20), read("s3"), seen(), all(0), seen()}), many(160)} {
			l, _ := roomy(l)
			one, answers, _ := store.Play(s, l)
			two, others, _ := store.Play(s, l)
			all := spans("l", reflect.ValueOf(l))
			all = append(all, spans("store", reflect.ValueOf(one))...)
			all = append(all, spans("answers", reflect.ValueOf(answers))...)
			all = append(all, spans("other store", reflect.ValueOf(two))...)
			all = append(all, spans("other answers", reflect.ValueOf(others))...)
			expectApart(t, all)
		}
	}
}

// overwrite writes over all that the caller of an answer may write over, the spare room too.
func overwrite(v reflect.Value) {
	switch v.Kind() {
	case reflect.Struct:
		for k := range v.NumField() {
			overwrite(v.Field(k))
		}
	case reflect.Slice:
		whole := v.Slice(0, v.Cap())
		for k := range whole.Len() {
			overwrite(whole.Index(k))
		}
	case reflect.Int:
		v.SetInt(-9)
	case reflect.Uint8:
		v.SetUint(99)
	case reflect.String:
		v.SetString("spoilt")
	case reflect.Bool:
		v.SetBool(!v.Bool())
	}
}

// Neither what is written into arguments later nor what is written into an answer is seen anywhere else.
func TestH1ToH4NothingIsKept(t *testing.T) {
	for _, s := range scriptSetups() {
		want, wants := expectTruth(t, "as it was", s, script())
		l, _ := roomy(script())
		one, answers, _ := store.Play(s, l)
		two, others, _ := store.Play(s, l)
		overwrite(reflect.ValueOf(&two).Elem())
		overwrite(reflect.ValueOf(others))
		if _, told, _ := store.Play(s, l); !slices.EqualFunc(told, wants, sameAnswer) {
			t.Errorf("%v: what is written into an answer is seen in a later one", s)
		}
		overwrite(reflect.ValueOf(l))
		if !sameStore(one, want) || !slices.EqualFunc(answers, wants, sameAnswer) {
			t.Errorf("%v: an answer changes with what was handed in, or with another one", s)
		}
		expectTruth(t, "later", s, script())
	}
}

func TestH1ToH4NilAndNoEntriesAreTheSame(t *testing.T) {
	s := setup(2, 1, 1)
	for _, none := range [][]api.Event{nil, {}, make([]api.Event, 0, 9), []api.Event{opened("a")}[:0]} {
		expectSteps(t, "no events", s, step{put(1, none...), refused(api.ErrMany)}, step{api.Do{Kind: api.DoPut, Version: -1, Batch: api.Batch{Command: 1, Events: none}}, refused(api.ErrMany)}, step{seen(), accounts(0)})
		for kind := 2; kind <= 9; kind++ {
			expectTruth(t, "no events of another kind", s, append(puts(2), api.Do{Kind: kind, Stream: "s1", Batch: api.Batch{Events: none}}))
		}
	}
	for _, none := range [][]api.Do{nil, {}, make([]api.Do, 0, 100), puts(3)[:0]} {
		expectPlay(t, "no things", s, none, api.Store{Setup: s, Disks: make([]api.Disk, 3)}, nil, api.OK)
		expectPlay(t, "no things, a wrong setup", api.Setup{Data: 1}, none, api.Store{}, nil, api.ErrRange)
	}
}

// someSetup is seldom one with which something is wrong.
func someSetup(pick func(int) int) api.Setup {
	s := setup(1+pick(4), pick(4), 1+pick(4))
	if pick(8) == 0 {
		s = setup(1+pick(8), pick(5), 1+pick(10))
	}
	if pick(20) == 0 {
		odd := []int{-1, 0, 5, 9, 11, math.MinInt, math.MaxInt}[pick(7)]
		*[]*int{&s.Data, &s.Spare, &s.Batches}[pick(3)] = odd
	}
	return s
}

func someEvents(pick func(int) int) []api.Event {
	var l []api.Event
	size := 1 + pick(3)
	if pick(6) == 0 {
		size = pick(12)
	}
	for range size {
		e := ev(stream(pick(4)), 1+pick(4), 0)
		if pick(3) == 0 {
			e = opened(stream(pick(2000)))
		}
		if e.Kind == api.Added || e.Kind == api.Taken {
			e.N = pick(9)
		}
		if pick(40) == 0 {
			e = []api.Event{ev("", 1, 0), ev("A", 1, 0), ev("a", 0, 0), ev("a", 5, 0), ev("a", 2, -1), ev("a", 2, 1000001), ev("a", 1, 1)}[pick(7)]
		}
		l = append(l, e)
	}
	return l
}

// someDo is something that is done in a store that w is the truth of: often it is not refused.
func someDo(pick func(int) int, w *truth) api.Do {
	odd := []int{math.MinInt, -1, 0, 1, 2, 3, 5, 12, 40, math.MaxInt}[pick(10)]
	d := api.Do{N: pick(len(w.disks)), Segment: pick(len(w.laid) + 1), At: pick(30), By: byte(pick(256)), Stream: stream(pick(5)), Version: -1}
	d.Kind = []int{1, 1, 1, 1, 1, 1, 1, 1, 2, 3, 4, 5, 6, 6, 7, 7, 7, 8, 9, 9}[pick(20)]
	d.Batch = api.Batch{Command: 1 + pick(60), Events: someEvents(pick)}
	switch pick(8) {
	case 0:
		d.Version = w.count(d.Stream) + pick(2)
	case 1:
		d.Batch.Command = []int{0, -1, 1, 1000000, 1000001, odd}[pick(6)]
	case 2:
		d.N = odd
	case 3:
		d.Segment = odd
	case 4:
		d.At = odd
	case 5:
		d.Stream = []string{"", "A", "s1", "elevenchars"}[pick(4)]
	case 6:
		// Most of what may not come is another thing then, so that stores grow.
		d.Kind = api.DoPut
		if copyOf(w).put(d).Err != api.OK {
			d.Batch = api.Batch{Command: 100 + pick(100000), Events: []api.Event{opened(stream(pick(100000)))}}
		}
	}
	if d.Kind == api.DoAll && pick(2) == 0 {
		d.N = pick(len(w.events()) + 2)
	}
	if pick(60) == 0 {
		d.Kind = []int{0, 10, -1, odd}[pick(4)]
	}
	return d
}

// copyOf is one to which something can be put without changing w. Its disks have nothing.
func copyOf(w *truth) *truth {
	other := newTruth(w.setup)
	other.done, other.laid = slices.Clone(w.done), slices.Clone(w.laid)
	return other
}

// Whatever is done, each answer and the store are what the words of H1 to H4 make of it.
func TestH1ToH4OfAllKindsOfScripts(t *testing.T) {
	pick := chance(5)
	came := map[[2]int]int{}
	for range 2500 {
		s := someSetup(pick)
		if wrongOf(s) != api.OK {
			_, _, err := playOf(s, nil)
			expectPlay(t, "some setup", s, script()[:pick(30)], api.Store{}, nil, err)
			came[[2]int{0, int(err)}]++
			continue
		}
		var l []api.Do
		w := newTruth(s)
		var want []api.Answer
		for range pick(83) {
			d := someDo(pick, w)
			a := w.do(d)
			came[[2]int{d.Kind, int(a.Err)}]++
			l, want = append(l, d), append(want, a)
		}
		if len(l) > 80 {
			expectPlay(t, "too many", s, l, api.Store{}, nil, api.ErrMany)
			continue
		}
		expectPlay(t, "some script", s, l, w.store(), want, api.OK)
	}
	// 0 is both no kind and a setup with which something is wrong.
	for kind, errs := range map[int][]api.Errno{
		0:            {api.ErrMany, api.ErrRange, api.ErrKind},
		api.DoPut:    {api.OK, api.ErrKind, api.ErrRange, api.ErrMany, api.ErrName, api.ErrFit, api.ErrOld},
		api.DoRead:   {api.OK, api.ErrName, api.ErrLost},
		api.DoAll:    {api.OK, api.ErrRange, api.ErrLost},
		api.DoView:   {api.OK, api.ErrLost},
		api.DoLose:   {api.OK, api.ErrNone, api.ErrFit},
		api.DoSwap:   {api.OK, api.ErrNone},
		api.DoSpoil:  {api.OK, api.ErrNone, api.ErrRange},
		api.DoScrub:  {api.OK, api.ErrLost},
		api.DoHealth: {api.OK},
		10:           {api.ErrKind},
	} {
		for _, err := range errs {
			if n := came[[2]int{kind, int(err)}]; n < 20 {
				t.Errorf("error %d came of kind %d only %d times", err, kind, n)
			}
		}
	}
}

// Long lists end as soon as others.
func TestH1ToH4OfLongLists(t *testing.T) {
	s := setup(8, 4, 1)
	expectPlay(t, "a long list", s, make([]api.Do, 1000000), api.Store{}, nil, api.ErrMany)
	events := slices.Repeat([]api.Event{opened("a"), closed("a")}, 500000)
	name := string(make([]byte, 1000000))
	expectSteps(t, "long lists in things", s,
		step{put(1, events...), refused(api.ErrMany)},
		step{putAt(name, 1, 1, opened("a")), refused(api.ErrOld)},
		step{putAt(name, 0, 1, opened("a")), number(1)},
		step{put(2, opened(name)), refused(api.ErrName)},
		step{read(name), refused(api.ErrName)},
	)
	// As much as can be on disks, read as often as may be.
	l := append(puts(40), lose(0), lose(3), lose(5), swap(5))
	for len(l) < 80 {
		l = append(l, all(0), scrub(), seen(), health())
	}
	expectTruth(t, "much to read", s, l[:80])
}
