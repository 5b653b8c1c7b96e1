package view_test

import (
	"math"
	"slices"
	"strconv"
	"strings"
	"testing"

	"spareparts/api"
	"spareparts/event"
	"spareparts/view"
)

func ac(stream string, sum, count int, open bool) api.Account {
	return api.Account{Stream: stream, Sum: sum, Count: count, Open: open}
}

func ev(stream string, kind, n int) api.Event {
	return api.Event{Stream: stream, Kind: kind, N: n}
}

func viewOf(upto int, accounts ...api.Account) api.View {
	return api.View{Upto: upto, Accounts: accounts}
}

func fault(err api.Errno, at int) api.Fault {
	return api.Fault{Err: err, At: at}
}

// together is how many events the accounts have.
func together(accounts []api.Account) int {
	all := 0
	for _, a := range accounts {
		all += a.Count
	}
	return all
}

// wrongOf is G1's words for Wrong.
func wrongOf(v api.View) api.Fault {
	if v.Upto < 0 || v.Upto > 150 {
		return fault(api.ErrRange, 0)
	}
	for at, a := range v.Accounts {
		for _, c := range []struct {
			err  api.Errno
			fits bool
		}{
			{api.ErrName, !event.Named(a.Stream)},
			{api.ErrRange, a.Count < 1},
			{api.ErrRange, a.Count > v.Upto},
			{api.ErrRange, a.Sum < -1000000*a.Count},
			{api.ErrRange, a.Sum > 1000000*a.Count},
			{api.ErrForm, at > 0 && v.Accounts[max(at-1, 0)].Stream >= a.Stream},
			{api.ErrFit, together(v.Accounts[:at+1]) > v.Upto},
		} {
			if c.fits {
				return fault(c.err, at)
			}
		}
	}
	if together(v.Accounts) != v.Upto {
		return fault(api.ErrFit, len(v.Accounts))
	}
	return api.Fault{}
}

func expectWrong(t *testing.T, name string, v api.View, want api.Fault) {
	t.Helper()
	if got := view.Wrong(v); got != want {
		t.Errorf("%s: Wrong of %v is %v, not %v", name, v, got, want)
	}
}

func expectRight(t *testing.T, name string, v api.View) {
	t.Helper()
	expectWrong(t, name, v, api.Fault{})
}

// goodView has so many accounts of three events each, and nothing is wrong with it.
func goodView(accounts int) api.View {
	v := api.View{Upto: 3 * accounts}
	for k := range accounts {
		v.Accounts = append(v.Accounts, ac("s"+strconv.Itoa(10+k), 5*k, 3, k%2 == 0))
	}
	return v
}

// withAccount is the view with another account at a place.
func withAccount(v api.View, at int, a api.Account) api.View {
	v.Accounts = slices.Clone(v.Accounts)
	v.Accounts[at] = a
	return v
}

// wrongNames are none of streams.
func wrongNames() []string {
	return []string{
		"", "A", "Z", "aB", "a ", " a", "a-b", "a_b", "`", "{", "/", ":", "a\x00", "\xff", "ä", "a\n",
		"abcdefghijk", strings.Repeat("z", 256), strings.Repeat("a", 100000),
	}
}

// The ends of int, and numbers around those where something wraps round if it is multiplied.
var farNumbers = []int{
	math.MinInt, math.MinInt + 1, math.MinInt / 1000000, math.MinInt32 - 1, -1 << 20,
	1 << 20, math.MaxInt32 + 1, math.MaxInt / 1000000, math.MaxInt/1000000 + 1, math.MaxInt - 1, math.MaxInt,
}

func TestG1WrongOfChosenViews(t *testing.T) {
	for _, c := range []struct {
		name string
		v    api.View
		want api.Fault
	}{
		{"nothing", viewOf(0), api.Fault{}},
		{"one account", viewOf(1, ac("a", 0, 1, true)), api.Fault{}},
		{"two accounts", viewOf(3, ac("a", 7, 2, true), ac("b", 0, 1, false)), api.Fault{}},
		// Whether its events could come to it is not asked.
		{"an account below 0", viewOf(1, ac("a", -1, 1, false)), api.Fault{}},
		{"a name of digits", viewOf(2, ac("0123456789", 0, 1, true), ac("abcdefghij", 0, 1, true)), api.Fault{}},
		{"a name that is none", viewOf(1, ac("A", 0, 1, true)), fault(api.ErrName, 0)},
		{"an account of no events", viewOf(1, ac("a", 0, 0, true)), fault(api.ErrRange, 0)},
		{"the same stream twice", viewOf(2, ac("a", 0, 1, true), ac("a", 0, 1, true)), fault(api.ErrForm, 1)},
		{"too many events", viewOf(3, ac("a", 0, 2, true), ac("b", 0, 2, true)), fault(api.ErrFit, 1)},
		{"too few events", viewOf(5, ac("a", 0, 2, true), ac("b", 0, 2, true)), fault(api.ErrFit, 2)},
		{"events without accounts", viewOf(1), fault(api.ErrFit, 0)},
		{"an account without events", viewOf(0, ac("a", 0, 1, true)), fault(api.ErrRange, 0)},
	} {
		expectWrong(t, c.name, c.v, c.want)
	}
}

func TestG1WrongUpto(t *testing.T) {
	expectRight(t, "no events", viewOf(0))
	expectRight(t, "as many events as there may be", viewOf(api.MaxEvents, ac("a", 0, api.MaxEvents, true)))
	no := fault(api.ErrRange, 0)
	for _, upto := range append([]int{-1, -2, -150, -151, 151, 152, 300}, farNumbers...) {
		expectWrong(t, "no accounts", viewOf(upto), no)
		expectWrong(t, "an account of as many", viewOf(upto, ac("a", 0, upto, true)), no)
		expectWrong(t, "accounts", viewOf(upto, goodView(20).Accounts...), no)
		// Where several errors fit, that of Upto is told, and at 0.
		expectWrong(t, "the second account wrong", viewOf(upto, ac("a", 0, 1, true), ac("", 0, 0, true)), no)
	}
	for upto := range api.MaxEvents + 1 {
		if upto > 0 {
			expectRight(t, "an account of as many", viewOf(upto, ac("a", 0, upto, true)))
			expectWrong(t, "no accounts", viewOf(upto), fault(api.ErrFit, 0))
		}
		expectWrong(t, "an account of more", viewOf(upto, ac("a", 0, upto+1, true)), fault(api.ErrRange, 0))
	}
}

func TestG1WrongStream(t *testing.T) {
	for _, count := range []int{1, 2, 3, 50} {
		v := goodView(count)
		expectRight(t, "a good view", v)
		for _, at := range []int{0, count / 2, count - 1} {
			for _, stream := range wrongNames() {
				a := v.Accounts[at]
				a.Stream = stream
				expectWrong(t, "such a name", withAccount(v, at, a), fault(api.ErrName, at))
			}
		}
	}
}

func TestG1WrongCount(t *testing.T) {
	v := goodView(3)
	for at := range v.Accounts {
		for _, count := range append([]int{-1, 0, v.Upto + 1, v.Upto + 2}, farNumbers...) {
			a := v.Accounts[at]
			a.Sum, a.Count = 0, count
			expectWrong(t, "such a Count", withAccount(v, at, a), fault(api.ErrRange, at))
		}
	}
	for upto := 1; upto <= api.MaxEvents; upto++ {
		expectWrong(t, "Count 0", viewOf(upto, ac("a", 0, 0, true)), fault(api.ErrRange, 0))
		expectWrong(t, "Count below 0", viewOf(upto, ac("a", 0, -upto, true)), fault(api.ErrRange, 0))
		expectWrong(t, "one more than Upto", viewOf(upto, ac("a", 0, upto+1, true)), fault(api.ErrRange, 0))
		// Of Upto it is none that is too great, even if there is no room for the others.
		both := viewOf(upto, ac("a", 0, 1, true), ac("b", 0, upto, true))
		expectWrong(t, "Count 1, and one of Upto", both, fault(api.ErrFit, 1))
		both.Accounts[1].Count++
		expectWrong(t, "Count 1, and one more than Upto", both, fault(api.ErrRange, 1))
	}
}

func TestG1WrongSum(t *testing.T) {
	for count := 1; count <= api.MaxEvents; count++ {
		most := 1000000 * count
		for _, sum := range []int{-most, -most + 1, -1, 0, 1, most - 1, most} {
			expectRight(t, "such a Sum", viewOf(count, ac("a", sum, count, true)))
			expectRight(t, "such a Sum", viewOf(count, ac("a", sum, count, false)))
		}
		for _, sum := range []int{-most - 1, most + 1, math.MinInt, math.MaxInt} {
			expectWrong(t, "such a Sum", viewOf(count, ac("a", sum, count, true)), fault(api.ErrRange, 0))
			// Its own Count says how much it may be, not Upto.
			expectWrong(t, "such a Sum among all", viewOf(api.MaxEvents, ac("a", sum, count, true)), fault(api.ErrRange, 0))
		}
	}
	v := goodView(5)
	for at := range v.Accounts {
		for _, sum := range append([]int{-3000001, 3000001, 15000000, -15000000}, farNumbers...) {
			want := fault(api.ErrRange, at)
			if sum >= -3000000 && sum <= 3000000 {
				want = api.Fault{}
			}
			a := v.Accounts[at]
			a.Sum = sum
			expectWrong(t, "such a Sum", withAccount(v, at, a), want)
		}
	}
}

func TestG1WrongOrderOfStreams(t *testing.T) {
	rising := [][]string{
		{"a", "b"}, {"a", "aa"}, {"0", "00"}, {"9", "a"}, {"10", "9"}, {"aa", "b"}, {"a9", "aa"}, {"az", "b0"},
		{"abcdefghi", "abcdefghij"}, {"abcdefghii", "abcdefghij"}, {"0", "9", "a", "z"},
	}
	viewOfStreams := func(streams ...string) api.View {
		v := api.View{Upto: len(streams)}
		for _, stream := range streams {
			v.Accounts = append(v.Accounts, ac(stream, 0, 1, true))
		}
		return v
	}
	for _, streams := range rising {
		expectRight(t, "streams that rise", viewOfStreams(streams...))
		falling := slices.Clone(streams)
		slices.Reverse(falling)
		expectWrong(t, "streams that fall", viewOfStreams(falling...), fault(api.ErrForm, 1))
		for _, stream := range streams {
			expectWrong(t, "one stream twice", viewOfStreams(stream, stream), fault(api.ErrForm, 1))
		}
	}
	for _, c := range []struct {
		streams []string
		at      int
	}{
		{[]string{"b", "a", "c"}, 1},
		{[]string{"a", "c", "b"}, 2},
		{[]string{"a", "b", "a"}, 2},
		{[]string{"a", "b", "b"}, 2},
		{[]string{"a", "a", "b"}, 1},
		{[]string{"c", "b", "a"}, 1},
		// Less than the one just ahead is enough, wherever it stands to those ahead of that.
		{[]string{"a", "d", "c", "b"}, 2},
		{[]string{"c", "d", "a", "b"}, 2},
		{[]string{"a", "b", "c", "c"}, 3},
	} {
		expectWrong(t, "streams that don't rise", viewOfStreams(c.streams...), fault(api.ErrForm, c.at))
	}
}

func TestG1WrongCountsTogether(t *testing.T) {
	viewOfCounts := func(upto int, counts ...int) api.View {
		v := api.View{Upto: upto}
		for k, count := range counts {
			v.Accounts = append(v.Accounts, ac("s"+strconv.Itoa(1000+k), 0, count, true))
		}
		return v
	}
	for _, c := range []struct {
		upto   int
		counts []int
		want   api.Fault
	}{
		{3, []int{1, 2}, api.Fault{}},
		{3, []int{2, 1}, api.Fault{}},
		{3, []int{1, 1, 1}, api.Fault{}},
		{3, []int{3, 1}, fault(api.ErrFit, 1)},
		{3, []int{1, 3}, fault(api.ErrFit, 1)},
		{3, []int{2, 2, 2, 2}, fault(api.ErrFit, 1)},
		{3, []int{1, 1, 2, 1}, fault(api.ErrFit, 2)},
		{3, []int{1, 1, 1, 1}, fault(api.ErrFit, 3)},
		{3, []int{1}, fault(api.ErrFit, 1)},
		{3, []int{2}, fault(api.ErrFit, 1)},
		{3, []int{1, 1}, fault(api.ErrFit, 2)},
		{3, nil, fault(api.ErrFit, 0)},
		{7, []int{1, 2, 3}, fault(api.ErrFit, 3)},
		{150, []int{149}, fault(api.ErrFit, 1)},
		{150, []int{149, 1}, api.Fault{}},
		{150, []int{149, 2}, fault(api.ErrFit, 1)},
		{150, []int{150, 150}, fault(api.ErrFit, 1)},
	} {
		expectWrong(t, "such Counts", viewOfCounts(c.upto, c.counts...), c.want)
	}
	for _, many := range []int{0, 1, 149, 150, 151, 152, 300, 5000} {
		v := viewOfCounts(150, slices.Repeat([]int{1}, many)...)
		want := fault(api.ErrFit, min(many, 150))
		if many == 150 {
			want = api.Fault{}
		}
		if got := view.Wrong(v); got != want {
			t.Errorf("Wrong of %d accounts is %v, not %v", many, got, want)
		}
	}
}

// Of one account the first error of G1's order is told, and of several accounts that of the first one:
// each of these accounts is wrong in all that is still to come, and the one behind it too.
func TestG1WrongTellsTheFirstError(t *testing.T) {
	for ahead := range 20 {
		good := goodView(ahead + 1)
		for _, c := range []struct {
			name string
			a    api.Account
			want api.Fault
		}{
			{"its name", ac("A", 1000000000, good.Upto+4, true), fault(api.ErrName, ahead+1)},
			{"its Count", ac("a", 1000000000, good.Upto+4, true), fault(api.ErrRange, ahead+1)},
			{"its Sum", ac("a", 4000001, 4, true), fault(api.ErrRange, ahead+1)},
			{"that it falls", ac("a", 4000000, 4, true), fault(api.ErrForm, ahead+1)},
			{"that it is too much", ac("z", 4000000, 4, true), fault(api.ErrFit, ahead+1)},
			{"the one behind it", ac("z", 3000000, 3, true), fault(api.ErrName, ahead+2)},
		} {
			v := viewOf(good.Upto+3, append(slices.Clone(good.Accounts), c.a, ac("", 1, 0, true))...)
			expectWrong(t, c.name, v, c.want)
			v.Accounts = v.Accounts[:ahead+2]
			if c.want.At == ahead+1 {
				expectWrong(t, c.name, v, c.want)
			} else {
				expectRight(t, c.name, v)
			}
		}
	}
	for _, c := range []struct {
		name string
		v    api.View
		want api.Fault
	}{
		{"no name, no Count", viewOf(3, ac("", 0, 0, true)), fault(api.ErrName, 0)},
		{"no name, too great a Sum", viewOf(1, ac("", 1000001, 1, true)), fault(api.ErrName, 0)},
		{"too great a Sum, then no name", viewOf(2, ac("a", 1000001, 1, true), ac("", 0, 1, true)), fault(api.ErrRange, 0)},
		{"too few events, the last without a name", viewOf(9, ac("a", 0, 2, true), ac("", 0, 1, true)), fault(api.ErrName, 1)},
		{"too few events, falling", viewOf(9, ac("b", 0, 2, true), ac("a", 0, 1, true)), fault(api.ErrForm, 1)},
		// Less than a name that is none is no matter, since that is told ahead of it.
		{"a name behind none", viewOf(2, ac("~", 0, 1, true), ac("a", 0, 1, true)), fault(api.ErrName, 0)},
	} {
		expectWrong(t, c.name, c.v, c.want)
	}
}

func TestG1WrongOfAllSmallViews(t *testing.T) {
	some := []api.Account{}
	for _, stream := range []string{"", "a", "b", "c"} {
		for _, count := range []int{-1, 0, 1, 2, 3} {
			for _, sum := range []int{-2000001, -1000001, 0, 1000000, 1000001, 3000000} {
				some = append(some, ac(stream, sum, count, count%2 == 0))
			}
		}
	}
	for upto := -1; upto <= 4; upto++ {
		for k, a := range some {
			expectWrong(t, "one account", viewOf(upto, a), wrongOf(viewOf(upto, a)))
			for j, b := range some {
				v := viewOf(upto, a, b)
				expectWrong(t, "two accounts", v, wrongOf(v))
				v.Accounts = append(v.Accounts, some[(7*k+11*j)%len(some)])
				expectWrong(t, "three accounts", v, wrongOf(v))
			}
		}
	}
}

func expectGet(t *testing.T, v api.View, stream string, want api.Account) {
	t.Helper()
	if got := view.Get(v, stream); got != want {
		t.Errorf("Get of %v, stream %q, is %v, not %v", v, stream, got, want)
	}
}

func TestG1Get(t *testing.T) {
	v := viewOf(9, ac("a", 7, 2, true), ac("ab", -5, 3, false), ac("b", 0, 4, true))
	for _, a := range v.Accounts {
		expectGet(t, v, a.Stream, a)
	}
	for _, stream := range append([]string{"0", "aa", "abc", "c", "B", "a ", "a\x00"}, wrongNames()...) {
		expectGet(t, v, stream, api.Account{Stream: stream})
		expectGet(t, viewOf(0), stream, api.Account{Stream: stream})
		expectGet(t, viewOf(7), stream, api.Account{Stream: stream})
	}
}

func TestG1GetOfAStreamThatIsThereTwice(t *testing.T) {
	twice := viewOf(3, ac("b", 1, 1, true), ac("a", 2, 2, false), ac("b", 3, 3, true), ac("a", 4, 4, true), ac("a", 2, 2, false))
	expectGet(t, twice, "b", ac("b", 1, 1, true))
	expectGet(t, twice, "a", ac("a", 2, 2, false))
	// The first one is told even if the others alone are right, and even if it has nothing.
	expectGet(t, viewOf(1, ac("a", 0, 0, false), ac("a", 5, 1, true)), "a", ac("a", 0, 0, false))
}

// Get asks nothing of the view: neither that its accounts rise nor that they are right.
func TestG1GetOfViewsThatAreWrong(t *testing.T) {
	strange := []api.Account{
		ac("z", math.MaxInt, math.MinInt, true), ac("", 9, -1, true), ac("m", 1, 1, false), ac("A", 3, 0, true),
		ac("\xff", 0, 0, false), ac("b", math.MinInt, math.MaxInt, true), ac(strings.Repeat("q", 5000), 4, 4, true),
	}
	for _, upto := range append([]int{0, 1, 150, 151, -1}, farNumbers...) {
		for _, a := range strange {
			expectGet(t, viewOf(upto, strange...), a.Stream, a)
		}
		expectGet(t, viewOf(upto, strange...), "c", api.Account{Stream: "c"})
	}
	for count := range 60 {
		v := goodView(count)
		for at, a := range v.Accounts {
			expectGet(t, v, a.Stream, v.Accounts[at])
		}
		expectGet(t, v, "s", api.Account{Stream: "s"})
	}
}

// mayOf is G1's words for May.
func mayOf(a api.Account, e api.Event) bool {
	return e.Kind == 1 && !a.Open ||
		e.Kind == 2 && a.Open ||
		e.Kind == 3 && a.Open && !(a.Sum < e.N) ||
		e.Kind == 4 && a.Open
}

func expectMay(t *testing.T, a api.Account, e api.Event, want bool) {
	t.Helper()
	if got := view.May(a, e); got != want {
		t.Errorf("May of %v, %v is %t", a, e, got)
	}
}

func TestG1May(t *testing.T) {
	open, shut := ac("a", 5, 2, true), ac("a", 5, 2, false)
	for _, c := range []struct {
		e              api.Event
		ofOpen, ofShut bool
	}{
		{ev("a", 0, 0), false, false},
		{ev("a", api.Opened, 0), false, true},
		{ev("a", api.Added, 0), true, false},
		{ev("a", api.Added, 1000000), true, false},
		{ev("a", api.Taken, 0), true, false},
		{ev("a", api.Taken, 4), true, false},
		{ev("a", api.Taken, 5), true, false},
		{ev("a", api.Taken, 6), false, false},
		{ev("a", api.Taken, 1000000), false, false},
		{ev("a", api.Closed, 0), true, false},
		{ev("a", 5, 0), false, false},
		{ev("a", -1, 0), false, false},
	} {
		expectMay(t, open, c.e, c.ofOpen)
		expectMay(t, shut, c.e, c.ofShut)
	}
	// To an account that has nothing only Opened may come.
	for kind := -1; kind <= 6; kind++ {
		expectMay(t, api.Account{}, ev("", kind, 0), kind == api.Opened)
	}
	// What is below 0 has not even 0.
	expectMay(t, ac("a", -1, 1, true), ev("a", api.Taken, 0), false)
	expectMay(t, ac("a", 0, 1, true), ev("a", api.Taken, 0), true)
}

// May asks of the event its kind and, of Taken, N: whatever else stands there means nothing.
func TestG1MayOfAllKindsOfAccounts(t *testing.T) {
	numbers := append([]int{-1000001, -6, -5, -1, 0, 1, 4, 5, 6, 999999, 1000000, 1000001, 150000000}, farNumbers...)
	kinds := append([]int{-2, -1, 0, 1, 2, 3, 4, 5, 6, 257, 258, 259, 260}, farNumbers...)
	for _, kind := range kinds {
		for _, sum := range numbers {
			for _, n := range numbers {
				for _, stream := range []string{"a", "b", ""} {
					for _, open := range []bool{false, true} {
						a, e := ac("a", sum, n, open), ev(stream, kind, n)
						expectMay(t, a, e, mayOf(a, e))
					}
				}
			}
		}
	}
}
