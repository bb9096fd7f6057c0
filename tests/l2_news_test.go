package tests

import (
	"math"
	"math/rand"
	"reflect"
	"testing"

	"loop.example/tannoy/impl"
)

// rightReports has one report of each Op that is one at every call, and that tells it by its N from the plan of plainBook.
func rightReports(tick, trip, call int) []impl.Report {
	return []impl.Report{
		told(tick, impl.RLate, trip, call, 7),
		told(tick, impl.RTrack, trip, call, 19),
		told(tick, impl.RStop, trip, call, 0),
		told(tick, impl.RHere, trip, call, 0),
		told(tick, impl.RGone, trip, call, 0),
	}
}

func checkReport(t *testing.T, b impl.Book, r impl.Report, want bool) {
	t.Helper()
	if got := impl.ReportOk(b, r); got != want {
		t.Errorf("%+v: got %v, want %v", r, got, want)
	}
}

func TestOps(t *testing.T) {
	for name, c := range map[string]struct{ got, want int }{
		"RLate":      {impl.RLate, 1},
		"RTrack":     {impl.RTrack, 2},
		"RStop":      {impl.RStop, 3},
		"RHere":      {impl.RHere, 4},
		"RGone":      {impl.RGone, 5},
		"MaxReports": {impl.MaxReports, 500},
	} {
		if c.got != c.want {
			t.Errorf("%s: got %d, want %d", name, c.got, c.want)
		}
	}
}

func TestReportN(t *testing.T) {
	right := map[int][]int{
		1: {0, 1, 20, 21, 99999, 100000},
		2: {1, 2, 19, 20},
		3: {0},
		4: {0},
		5: {0},
	}
	wrong := map[int][]int{
		1: {-1, 100001, math.MinInt, math.MaxInt},
		2: {-1, 0, 21, math.MinInt, math.MaxInt},
		3: {-1, 1, 2, math.MinInt, math.MaxInt},
		4: {-1, 1, 2, math.MinInt, math.MaxInt},
		5: {-1, 1, 2, math.MinInt, math.MaxInt},
	}
	b := plainBook()
	for trip := range b.Trips {
		for call := range b.Trips[trip].Calls {
			for op := 1; op <= 5; op++ {
				for _, n := range right[op] {
					checkReport(t, b, told(50, op, trip, call, n), true)
				}
				for _, n := range wrong[op] {
					checkReport(t, b, told(50, op, trip, call, n), false)
				}
			}
		}
	}
}

func TestReportOp(t *testing.T) {
	for _, op := range []int{math.MinInt, -5, -1, 0, 6, 7, 257, math.MaxInt} {
		for _, n := range []int{0, 1, 20} {
			checkReport(t, plainBook(), told(50, op, 0, 0, n), false)
		}
	}
}

func TestReportTick(t *testing.T) {
	for tick, want := range map[int]bool{
		math.MinInt: false, -1: false, 0: true, 1: true, 999999: true, 1000000: true, 1000001: false, math.MaxInt: false,
	} {
		for _, r := range rightReports(tick, 1, 1) {
			checkReport(t, plainBook(), r, want)
		}
	}
}

func TestReportPlace(t *testing.T) {
	for _, c := range []struct {
		trip, call int
		want       bool
	}{
		{0, 0, true}, {0, 2, true}, {1, 2, true}, {2, 0, true}, {2, 1, true},
		{0, -1, false}, {0, 3, false}, {2, 2, false}, {2, -1, false},
		{0, math.MinInt, false}, {0, math.MaxInt, false},
		{-1, 0, false}, {3, 0, false}, {-1, -1, false}, {3, 3, false},
		{math.MinInt, 0, false}, {math.MaxInt, 0, false},
	} {
		for _, r := range rightReports(50, c.trip, c.call) {
			checkReport(t, plainBook(), r, c.want)
		}
	}
	wide := wideBook(30, 40, 20)
	for _, r := range rightReports(50, 39, 19) {
		checkReport(t, wide, r, true)
	}
	for _, r := range rightReports(50, 39, 20) {
		checkReport(t, wide, r, false)
	}
	for _, r := range rightReports(50, 0, 0) {
		checkReport(t, impl.Book{}, r, false)
	}
}

// wrongBooks are not right, and have a call for every report of plainBook.
func wrongBooks() map[string]impl.Book {
	books := map[string]impl.Book{}
	for _, c := range apartBends() {
		b := plainBook()
		c.do(&b)
		books[c.name] = b
	}
	return books
}

func TestNewsOfWrongBooks(t *testing.T) {
	for name, b := range wrongBooks() {
		news := planNews(b)
		for trip := range 3 {
			for call := range b.Trips[trip].Calls {
				for _, r := range rightReports(50, trip, call) {
					if impl.ReportOk(b, r) {
						t.Errorf("%s: %+v is a report", name, r)
					}
					if impl.Counts(b, news, r) {
						t.Errorf("%s: %+v counts", name, r)
					}
				}
			}
		}
		if got := impl.Known(b, nil, 50); len(got) != 0 {
			t.Errorf("%s: known %v", name, got)
		}
	}
}

// state is what is known of a call when a report of it comes.
type state struct {
	name   string
	call   int
	now    impl.News
	before impl.News
	op, n  int
	want   bool
}

// checkStates asks of trip 0 of plainBook, which has three calls.
func checkStates(t *testing.T, states []state) {
	t.Helper()
	for _, c := range states {
		b := plainBook()
		news := planNews(b)
		if c.call > 0 {
			news[0][c.call-1] = c.before
		}
		news[0][c.call] = c.now
		if got := impl.Counts(b, news, told(50, c.op, 0, c.call, c.n)); got != c.want {
			t.Errorf("%s: got %v, want %v", c.name, got, c.want)
		}
	}
}

func gone() impl.News { return impl.News{Track: 1, Gone: true} }

func TestCountsLate(t *testing.T) {
	late := func(n int) impl.News { return impl.News{Late: n, Track: 2} }
	checkStates(t, []state{
		{"on time, late by 1", 1, late(0), impl.News{}, impl.RLate, 1, true},
		{"on time, late by 100000", 1, late(0), impl.News{}, impl.RLate, 100000, true},
		{"on time, on time", 1, late(0), impl.News{}, impl.RLate, 0, false},
		{"late by 4, late by 4", 1, late(4), impl.News{}, impl.RLate, 4, false},
		{"late by 4, late by 3", 1, late(4), impl.News{}, impl.RLate, 3, true},
		{"late by 4, late by 5", 1, late(4), impl.News{}, impl.RLate, 5, true},
		{"late by 4, on time", 1, late(4), impl.News{}, impl.RLate, 0, true},
		{"by its track", 1, impl.News{Late: 4, Track: 5}, impl.News{}, impl.RLate, 5, true},
		{"the call before is as late", 1, late(0), impl.News{Late: 4}, impl.RLate, 4, true},
		{"the call before has gone", 1, late(0), gone(), impl.RLate, 4, true},
		{"here, late by another", 1, impl.News{Late: 4, Here: true}, gone(), impl.RLate, 5, true},
		{"here, late by the same", 1, impl.News{Late: 4, Here: true}, gone(), impl.RLate, 4, false},
		{"gone", 1, impl.News{Late: 4, Gone: true}, gone(), impl.RLate, 5, false},
		{"off", 1, impl.News{Late: 4, Off: true}, gone(), impl.RLate, 5, false},
		{"here and off", 1, impl.News{Here: true, Off: true}, gone(), impl.RLate, 5, false},
		{"the first call", 0, late(0), impl.News{}, impl.RLate, 1, true},
		{"the last call", 2, late(0), impl.News{}, impl.RLate, 1, true},
		{"the last call, here", 2, impl.News{Here: true}, gone(), impl.RLate, 1, true},
		{"an N that is none", 1, late(4), impl.News{}, impl.RLate, 100001, false},
		{"an N below 0", 1, late(4), impl.News{}, impl.RLate, -1, false},
	})
}

func TestCountsTrack(t *testing.T) {
	on := func(track int) impl.News { return impl.News{Track: track} }
	checkStates(t, []state{
		{"another", 1, on(2), impl.News{}, impl.RTrack, 3, true},
		{"the same", 1, on(2), impl.News{}, impl.RTrack, 2, false},
		{"the planned one, which it is not on now", 1, on(9), impl.News{}, impl.RTrack, 2, true},
		{"the number that it is late by", 1, impl.News{Late: 3, Track: 2}, impl.News{}, impl.RTrack, 3, true},
		{"that of the call before", 1, on(2), on(3), impl.RTrack, 3, true},
		{"the first track", 1, on(2), impl.News{}, impl.RTrack, 1, true},
		{"the last track", 1, on(2), impl.News{}, impl.RTrack, 20, true},
		{"here", 1, impl.News{Track: 2, Here: true}, gone(), impl.RTrack, 3, false},
		{"gone", 1, impl.News{Track: 2, Gone: true}, gone(), impl.RTrack, 3, false},
		{"off", 1, impl.News{Track: 2, Off: true}, impl.News{}, impl.RTrack, 3, false},
		{"the first call", 0, on(1), impl.News{}, impl.RTrack, 3, true},
		{"the last call", 2, on(3), impl.News{}, impl.RTrack, 4, true},
		{"no track", 1, on(2), impl.News{}, impl.RTrack, 0, false},
		{"track 21", 1, on(2), impl.News{}, impl.RTrack, 21, false},
	})
}

func TestCountsStop(t *testing.T) {
	checkStates(t, []state{
		{"planned", 1, impl.News{Track: 2}, impl.News{}, impl.RStop, 0, true},
		{"late", 1, impl.News{Late: 4}, impl.News{}, impl.RStop, 0, true},
		{"here", 1, impl.News{Here: true}, gone(), impl.RStop, 0, false},
		{"gone", 1, impl.News{Gone: true}, gone(), impl.RStop, 0, false},
		{"off", 1, impl.News{Off: true}, impl.News{}, impl.RStop, 0, false},
		{"the call before is here", 1, impl.News{}, impl.News{Here: true}, impl.RStop, 0, true},
		{"the call before has gone", 1, impl.News{}, gone(), impl.RStop, 0, true},
		{"the first call", 0, impl.News{}, impl.News{}, impl.RStop, 0, true},
		{"the first call, here", 0, impl.News{Here: true}, impl.News{}, impl.RStop, 0, false},
		{"the last call", 2, impl.News{}, impl.News{}, impl.RStop, 0, true},
		{"an N that is none", 1, impl.News{}, impl.News{}, impl.RStop, 1, false},
	})
}

func TestCountsHere(t *testing.T) {
	checkStates(t, []state{
		{"the first call", 0, impl.News{}, impl.News{}, impl.RHere, 0, true},
		{"the first call, late", 0, impl.News{Late: 9}, impl.News{}, impl.RHere, 0, true},
		{"the first call, here", 0, impl.News{Here: true}, impl.News{}, impl.RHere, 0, false},
		{"the first call, gone", 0, impl.News{Gone: true}, impl.News{}, impl.RHere, 0, false},
		{"the first call, off", 0, impl.News{Off: true}, impl.News{}, impl.RHere, 0, false},
		{"the call before has gone", 1, impl.News{}, gone(), impl.RHere, 0, true},
		{"the call before is here", 1, impl.News{}, impl.News{Here: true}, impl.RHere, 0, false},
		{"the call before is planned", 1, impl.News{}, impl.News{}, impl.RHere, 0, false},
		{"the call before is off", 1, impl.News{}, impl.News{Off: true}, impl.RHere, 0, false},
		{"the call before is off and has gone", 1, impl.News{}, impl.News{Off: true, Gone: true}, impl.RHere, 0, true},
		{"here", 1, impl.News{Here: true}, gone(), impl.RHere, 0, false},
		{"gone", 1, impl.News{Gone: true}, gone(), impl.RHere, 0, false},
		{"off", 1, impl.News{Off: true}, gone(), impl.RHere, 0, false},
		{"the last call", 2, impl.News{}, gone(), impl.RHere, 0, true},
		{"the last call, the call before has not gone", 2, impl.News{}, impl.News{}, impl.RHere, 0, false},
		{"the last call, here", 2, impl.News{Here: true}, gone(), impl.RHere, 0, false},
		{"an N that is none", 0, impl.News{}, impl.News{}, impl.RHere, 1, false},
	})
}

func TestCountsGone(t *testing.T) {
	checkStates(t, []state{
		{"here", 1, impl.News{Here: true}, gone(), impl.RGone, 0, true},
		{"here and late", 1, impl.News{Here: true, Late: 4}, gone(), impl.RGone, 0, true},
		{"here, the call before has not gone", 1, impl.News{Here: true}, impl.News{}, impl.RGone, 0, true},
		{"not here", 1, impl.News{}, gone(), impl.RGone, 0, false},
		{"gone", 1, impl.News{Gone: true}, gone(), impl.RGone, 0, false},
		{"here and gone", 1, impl.News{Here: true, Gone: true}, gone(), impl.RGone, 0, false},
		{"here and off", 1, impl.News{Here: true, Off: true}, gone(), impl.RGone, 0, false},
		{"the first call, here", 0, impl.News{Here: true}, impl.News{}, impl.RGone, 0, true},
		{"the first call, not here", 0, impl.News{}, impl.News{}, impl.RGone, 0, false},
		{"the last call, here", 2, impl.News{Here: true}, gone(), impl.RGone, 0, false},
		{"the last call, not here", 2, impl.News{}, gone(), impl.RGone, 0, false},
		{"an N that is none", 1, impl.News{Here: true}, gone(), impl.RGone, 1, false},
	})
}

// The last call is the trip's own: trip 2 has two calls, a wide one twenty.
func TestCountsGoneOfOtherTrips(t *testing.T) {
	wide := wideBook(30, 40, 20)
	for _, c := range []struct {
		b          impl.Book
		trip, call int
		want       bool
	}{
		{plainBook(), 1, 1, true}, {plainBook(), 1, 2, false},
		{plainBook(), 2, 0, true}, {plainBook(), 2, 1, false},
		{wide, 39, 2, true}, {wide, 39, 18, true}, {wide, 39, 19, false},
	} {
		news := planNews(c.b)
		news[c.trip][c.call].Here = true
		if got := impl.Counts(c.b, news, told(50, impl.RGone, c.trip, c.call, 0)); got != c.want {
			t.Errorf("call %d of trip %d: got %v, want %v", c.call, c.trip, got, c.want)
		}
	}
}

// What is known of other calls is not asked: of another trip, or behind the report's.
func TestCountsLooksAtItsOwnTrip(t *testing.T) {
	all := impl.News{Late: 7, Track: 19, Off: true, Here: true, Gone: true}
	want := []bool{true, true, true, true, false}
	for i, r := range rightReports(50, 1, 0) {
		b := plainBook()
		news := planNews(b)
		for _, row := range [][]impl.News{news[0], news[1][1:], news[2]} {
			for j := range row {
				row[j] = all
			}
		}
		if got := impl.Counts(b, news, r); got != want[i] {
			t.Errorf("%+v: got %v, want %v", r, got, want[i])
		}
	}
}

func TestCountsAsksForAReport(t *testing.T) {
	b := plainBook()
	for _, r := range []impl.Report{
		told(-1, impl.RLate, 0, 0, 7), told(1000001, impl.RLate, 0, 0, 7),
		told(50, 0, 0, 0, 0), told(50, 6, 0, 0, 0),
		told(50, impl.RLate, -1, 0, 7), told(50, impl.RLate, 3, 0, 7),
		told(50, impl.RLate, 0, -1, 7), told(50, impl.RLate, 0, 3, 7), told(50, impl.RLate, 2, 2, 7),
		told(math.MaxInt, math.MaxInt, math.MaxInt, math.MaxInt, math.MaxInt),
		told(math.MinInt, math.MinInt, math.MinInt, math.MinInt, math.MinInt),
	} {
		if impl.Counts(b, planNews(b), r) {
			t.Errorf("%+v counts", r)
		}
	}
	for _, tick := range []int{0, 1000000} {
		if r := told(tick, impl.RLate, 0, 0, 7); !impl.Counts(b, planNews(b), r) {
			t.Errorf("%+v does not count", r)
		}
	}
}

func TestCountsAsksForNewsThatFit(t *testing.T) {
	for _, c := range []struct {
		name string
		do   func(news [][]impl.News) [][]impl.News
		want bool
	}{
		{"as they are", func(news [][]impl.News) [][]impl.News { return news }, true},
		{"none", func([][]impl.News) [][]impl.News { return nil }, false},
		{"no rows", func([][]impl.News) [][]impl.News { return [][]impl.News{} }, false},
		{"a row too few", func(news [][]impl.News) [][]impl.News { return news[:2] }, false},
		{"a row too many", func(news [][]impl.News) [][]impl.News { return append(news, news[2]) }, false},
		{"an empty row too many", func(news [][]impl.News) [][]impl.News { return append(news, nil) }, false},
		{"far too many rows", func(news [][]impl.News) [][]impl.News { return append(news, make([][]impl.News, 1000)...) }, false},
		{"empty rows", func([][]impl.News) [][]impl.News { return make([][]impl.News, 3) }, false},
		{"two rows in each other's place", func(news [][]impl.News) [][]impl.News { return [][]impl.News{news[0], news[2], news[1]} }, false},
	} {
		checkFit(t, c.name, c.do(planNews(plainBook())), c.want)
	}
	for row := range 3 {
		few, many, none, far := planNews(plainBook()), planNews(plainBook()), planNews(plainBook()), planNews(plainBook())
		few[row] = few[row][:len(few[row])-1]
		many[row] = append(many[row], impl.News{Track: 1})
		none[row] = nil
		far[row] = make([]impl.News, 1000)
		checkFit(t, "a place too few", few, false)
		checkFit(t, "a place too many", many, false)
		checkFit(t, "no places", none, false)
		checkFit(t, "far too many places", far, false)
	}
}

// checkFit asks with a report that counts by the plan, of each trip.
func checkFit(t *testing.T, name string, news [][]impl.News, want bool) {
	t.Helper()
	for trip := range 3 {
		if got := impl.Counts(plainBook(), news, told(50, impl.RLate, trip, 1, 7)); got != want {
			t.Errorf("%s, trip %d: got %v, want %v", name, trip, got, want)
		}
	}
}

func checkKnown(t *testing.T, name string, b impl.Book, reports []impl.Report, tick int, want [][]impl.News) {
	t.Helper()
	if got := impl.Known(b, reports, tick); len(got) != len(want) || len(want) > 0 && !reflect.DeepEqual(got, want) {
		t.Errorf("%s at %d: got %v, want %v", name, tick, got, want)
	}
}

func TestKnownOfThePlan(t *testing.T) {
	for _, b := range []impl.Book{{}, {Stations: []string{"Ash"}}, plainBook(), wideBook(30, 40, 20)} {
		for _, tick := range []int{math.MinInt, -1, 0, 50, 1000000, 1000001, math.MaxInt} {
			checkKnown(t, "no reports", b, nil, tick, planNews(b))
			checkKnown(t, "an empty list", b, []impl.Report{}, tick, planNews(b))
		}
	}
}

// Each list ends in a report at 50 that counts; the ones ahead of it, which it needs, are at 40.
func TestKnownAfterEachOp(t *testing.T) {
	here0, gone0 := told(40, impl.RHere, 0, 0, 0), told(40, impl.RGone, 0, 0, 0)
	for _, c := range []struct {
		name  string
		ahead []impl.Report
		last  impl.Report
		do    func(row []impl.News)
	}{
		{"late from the first", nil, told(50, impl.RLate, 0, 0, 7), func(row []impl.News) { row[0].Late, row[1].Late, row[2].Late = 7, 7, 7 }},
		{"late from the middle", nil, told(50, impl.RLate, 0, 1, 7), func(row []impl.News) { row[1].Late, row[2].Late = 7, 7 }},
		{"late at the last", nil, told(50, impl.RLate, 0, 2, 100000), func(row []impl.News) { row[2].Late = 100000 }},
		{"track of the first", nil, told(50, impl.RTrack, 0, 0, 20), func(row []impl.News) { row[0].Track = 20 }},
		{"track of the middle", nil, told(50, impl.RTrack, 0, 1, 19), func(row []impl.News) { row[1].Track = 19 }},
		{"track of the last", nil, told(50, impl.RTrack, 0, 2, 1), func(row []impl.News) { row[2].Track = 1 }},
		{"off from the first", nil, told(50, impl.RStop, 0, 0, 0), func(row []impl.News) { row[0].Off, row[1].Off, row[2].Off = true, true, true }},
		{"off from the middle", nil, told(50, impl.RStop, 0, 1, 0), func(row []impl.News) { row[1].Off, row[2].Off = true, true }},
		{"off at the last", nil, told(50, impl.RStop, 0, 2, 0), func(row []impl.News) { row[2].Off = true }},
		{"here at the first", nil, told(50, impl.RHere, 0, 0, 0), func(row []impl.News) { row[0].Here = true }},
		{"gone from the first", []impl.Report{here0}, told(50, impl.RGone, 0, 0, 0), func(row []impl.News) { row[0].Here, row[0].Gone = false, true }},
		{"here at the middle", []impl.Report{here0, gone0}, told(50, impl.RHere, 0, 1, 0), func(row []impl.News) { row[1].Here = true }},
	} {
		b := plainBook()
		reports := append(c.ahead[:len(c.ahead):len(c.ahead)], c.last)
		below := impl.Known(b, c.ahead, 40)
		after := copyNews(below)
		c.do(after[0])
		checkKnown(t, c.name, b, reports, 49, below)
		checkKnown(t, c.name, b, reports, 50, after)
		checkKnown(t, c.name, b, reports, 51, after)
		checkKnown(t, c.name, b, reports, math.MaxInt, after)
		checkKnown(t, c.name, b, reports, math.MinInt, planNews(b))
	}
}

// A trip goes its whole way; at each tick it is known where it is by then.
func TestKnownOfAWholeTrip(t *testing.T) {
	reports := []impl.Report{
		told(0, impl.RLate, 0, 0, 3),
		told(10, impl.RHere, 0, 0, 0),
		told(20, impl.RLate, 0, 0, 5),
		told(30, impl.RGone, 0, 0, 0),
		told(40, impl.RHere, 0, 1, 0),
		told(50, impl.RLate, 0, 1, 0),
		told(60, impl.RGone, 0, 1, 0),
		told(70, impl.RTrack, 0, 2, 9),
		told(80, impl.RHere, 0, 2, 0),
		told(90, impl.RLate, 0, 2, 2),
		told(1000000, impl.RLate, 0, 2, 8),
	}
	for tick, row := range map[int][]impl.News{
		-1:      {{Track: 1}, {Track: 2}, {Track: 3}},
		0:       {{Late: 3, Track: 1}, {Late: 3, Track: 2}, {Late: 3, Track: 3}},
		19:      {{Late: 3, Track: 1, Here: true}, {Late: 3, Track: 2}, {Late: 3, Track: 3}},
		29:      {{Late: 5, Track: 1, Here: true}, {Late: 5, Track: 2}, {Late: 5, Track: 3}},
		30:      {{Late: 5, Track: 1, Gone: true}, {Late: 5, Track: 2}, {Late: 5, Track: 3}},
		49:      {{Late: 5, Track: 1, Gone: true}, {Late: 5, Track: 2, Here: true}, {Late: 5, Track: 3}},
		50:      {{Late: 5, Track: 1, Gone: true}, {Track: 2, Here: true}, {Track: 3}},
		60:      {{Late: 5, Track: 1, Gone: true}, {Track: 2, Gone: true}, {Track: 3}},
		70:      {{Late: 5, Track: 1, Gone: true}, {Track: 2, Gone: true}, {Track: 9}},
		80:      {{Late: 5, Track: 1, Gone: true}, {Track: 2, Gone: true}, {Track: 9, Here: true}},
		999999:  {{Late: 5, Track: 1, Gone: true}, {Track: 2, Gone: true}, {Late: 2, Track: 9, Here: true}},
		1000000: {{Late: 5, Track: 1, Gone: true}, {Track: 2, Gone: true}, {Late: 8, Track: 9, Here: true}},
	} {
		want := planNews(plainBook())
		want[0] = row
		checkKnown(t, "a whole trip", plainBook(), reports, tick, want)
	}
}

// Reports that do not count leave what is known as it is, and those behind them count all the same.
func TestKnownPassesOver(t *testing.T) {
	for _, c := range []struct {
		name    string
		reports []impl.Report
		want    []impl.News
	}{
		{"of a call that has gone", []impl.Report{
			told(1, impl.RHere, 0, 0, 0), told(1, impl.RGone, 0, 0, 0),
			told(1, impl.RLate, 0, 0, 4), told(1, impl.RTrack, 0, 0, 4), told(1, impl.RStop, 0, 0, 0), told(1, impl.RHere, 0, 0, 0), told(1, impl.RGone, 0, 0, 0),
			told(1, impl.RLate, 0, 2, 4),
		}, []impl.News{{Track: 1, Gone: true}, {Track: 2}, {Late: 4, Track: 3}}},
		{"of a call that is off", []impl.Report{
			told(1, impl.RStop, 0, 1, 0),
			told(1, impl.RLate, 0, 1, 4), told(1, impl.RTrack, 0, 2, 4), told(1, impl.RStop, 0, 2, 0),
			told(1, impl.RHere, 0, 0, 0), told(1, impl.RGone, 0, 0, 0), told(1, impl.RHere, 0, 1, 0), told(1, impl.RGone, 0, 1, 0),
		}, []impl.News{{Track: 1, Gone: true}, {Track: 2, Off: true}, {Track: 3, Off: true}}},
		{"of a call where it is", []impl.Report{
			told(1, impl.RHere, 0, 0, 0),
			told(1, impl.RTrack, 0, 0, 4), told(1, impl.RStop, 0, 0, 0), told(1, impl.RHere, 0, 0, 0),
			told(1, impl.RLate, 0, 0, 4),
		}, []impl.News{{Late: 4, Track: 1, Here: true}, {Late: 4, Track: 2}, {Late: 4, Track: 3}}},
		{"too early", []impl.Report{
			told(1, impl.RGone, 0, 0, 0), told(1, impl.RHere, 0, 1, 0), told(1, impl.RHere, 0, 0, 0), told(1, impl.RHere, 0, 1, 0), told(1, impl.RGone, 0, 1, 0),
		}, []impl.News{{Track: 1, Here: true}, {Track: 2}, {Track: 3}}},
		{"gone from the last call", []impl.Report{
			told(1, impl.RHere, 0, 0, 0), told(1, impl.RGone, 0, 0, 0), told(1, impl.RHere, 0, 1, 0), told(1, impl.RGone, 0, 1, 0),
			told(1, impl.RHere, 0, 2, 0), told(1, impl.RGone, 0, 2, 0),
		}, []impl.News{{Track: 1, Gone: true}, {Track: 2, Gone: true}, {Track: 3, Here: true}}},
		{"late by the same at its call, by another behind it", []impl.Report{
			told(1, impl.RLate, 0, 1, 6), told(1, impl.RLate, 0, 0, 0),
		}, []impl.News{{Track: 1}, {Late: 6, Track: 2}, {Late: 6, Track: 3}}},
		{"late from the first again, over what is behind it", []impl.Report{
			told(1, impl.RLate, 0, 1, 6), told(1, impl.RLate, 0, 0, 2),
		}, []impl.News{{Late: 2, Track: 1}, {Late: 2, Track: 2}, {Late: 2, Track: 3}}},
		{"late ahead of what is off", []impl.Report{
			told(1, impl.RStop, 0, 2, 0), told(1, impl.RLate, 0, 0, 2),
		}, []impl.News{{Late: 2, Track: 1}, {Late: 2, Track: 2}, {Late: 2, Track: 3, Off: true}}},
		{"off further ahead", []impl.Report{
			told(1, impl.RStop, 0, 2, 0), told(1, impl.RStop, 0, 1, 0), told(1, impl.RStop, 0, 2, 0),
		}, []impl.News{{Track: 1}, {Track: 2, Off: true}, {Track: 3, Off: true}}},
		{"another track, and back", []impl.Report{
			told(1, impl.RTrack, 0, 1, 9), told(1, impl.RTrack, 0, 1, 2),
		}, []impl.News{{Track: 1}, {Track: 2}, {Track: 3}}},
	} {
		want := planNews(plainBook())
		want[0] = c.want
		checkKnown(t, c.name, plainBook(), c.reports, 1, want)
	}
}

func TestKnownKeepsTripsApart(t *testing.T) {
	want := planNews(plainBook())
	want[1][1].Late, want[1][2].Late, want[1][0].Here = 4, 4, true
	want[2][0].Off, want[2][1].Off = true, true
	checkKnown(t, "three trips", plainBook(), []impl.Report{
		told(1, impl.RLate, 1, 1, 4), told(2, impl.RHere, 1, 0, 0), told(2, impl.RStop, 2, 0, 0), told(3, impl.RGone, 0, 0, 0),
	}, 3, want)

	wide := wideBook(30, 40, 20)
	want = planNews(wide)
	want[39][19].Late, want[38][19].Off, want[0][19].Track = 4, true, 5
	checkKnown(t, "the last calls", wide, []impl.Report{
		told(1, impl.RLate, 39, 19, 4), told(1, impl.RStop, 38, 19, 0), told(1, impl.RTrack, 0, 19, 5),
	}, 3, want)
}

// manyReports count each, and the last tells by its N how many were read.
func manyReports(n int) []impl.Report {
	var reports []impl.Report
	for i := range n {
		reports = append(reports, told(i, impl.RLate, 2, 1, i+1))
	}
	return reports
}

func TestKnownOfManyReports(t *testing.T) {
	b := plainBook()
	want := planNews(b)
	for _, n := range []int{1, 499, 500} {
		want[2][1].Late = n
		checkKnown(t, "many reports", b, manyReports(n), 1000, want)
	}
	want[2][1].Late = 100
	checkKnown(t, "500 reports", b, manyReports(500), 99, want)
	for _, n := range []int{501, 502, 5000} {
		checkKnown(t, "too many reports", b, manyReports(n), 1000, nil)
		checkKnown(t, "too many reports", b, manyReports(n), 0, nil)
	}
}

// What makes a list none makes it so at its first place, in its middle and at its end, and whatever tick is asked for.
func TestKnownOfAReportThatIsNone(t *testing.T) {
	b := plainBook()
	list := manyReports(9)
	for i := range list {
		for _, do := range []func(r *impl.Report){
			func(r *impl.Report) { r.Op = 0 },
			func(r *impl.Report) { r.Op = 6 },
			func(r *impl.Report) { r.N = -1 },
			func(r *impl.Report) { r.N = 100001 },
			func(r *impl.Report) { r.Op, r.N = impl.RTrack, 0 },
			func(r *impl.Report) { r.Op, r.N = impl.RGone, 1 },
			func(r *impl.Report) { r.Trip = -1 },
			func(r *impl.Report) { r.Trip = 3 },
			func(r *impl.Report) { r.Call = -1 },
			func(r *impl.Report) { r.Call = 2 },
			func(r *impl.Report) { r.Tick = -1 },
			func(r *impl.Report) { r.Tick = 1000001 },
		} {
			reports := append([]impl.Report(nil), list...)
			do(&reports[i])
			for _, tick := range []int{-1, i - 1, i, i + 1, 1000001, math.MaxInt} {
				checkKnown(t, "a report that is none", b, reports, tick, nil)
			}
		}
	}
	alone := []impl.Report{told(1000001, impl.RLate, 2, 1, 1)}
	checkKnown(t, "a tick above the last", b, alone, math.MaxInt, nil)
	checkKnown(t, "a tick below the first", b, []impl.Report{told(-1, impl.RLate, 2, 1, 1)}, 5, nil)
	checkKnown(t, "a report of an empty book", impl.Book{}, alone, 5, nil)
}

func TestKnownAsksForOrder(t *testing.T) {
	b := plainBook()
	for i := 1; i < 9; i++ {
		same, below := manyReports(9), manyReports(9)
		same[i].Tick = same[i-1].Tick
		below[i].Tick = below[i-1].Tick - 1
		if i == 1 {
			below[0].Tick, below[1].Tick = 1, 0
		}
		want := planNews(b)
		want[2][1].Late = 9
		checkKnown(t, "a Tick at that before it", b, same, 1000, want)
		for _, tick := range []int{-1, 0, i, 1000} {
			checkKnown(t, "a Tick below that before it", b, below, tick, nil)
		}
	}
	apart := []impl.Report{told(9, impl.RLate, 0, 0, 1), told(8, impl.RLate, 1, 0, 1)}
	checkKnown(t, "a Tick below that of another trip", b, apart, 1000, nil)
	uncounted := []impl.Report{told(9, impl.RGone, 0, 0, 0), told(8, impl.RLate, 1, 0, 1)}
	checkKnown(t, "a Tick below that of one that does not count", b, uncounted, 1000, nil)
}

func TestKnownOfEqualTicks(t *testing.T) {
	b := plainBook()
	want := planNews(b)
	want[0][0].Gone, want[0][1].Late, want[0][2].Late = true, 4, 4
	reports := []impl.Report{told(5, impl.RHere, 0, 0, 0), told(5, impl.RGone, 0, 0, 0), told(5, impl.RLate, 0, 1, 4)}
	checkKnown(t, "all at one tick", b, reports, 5, want)
	checkKnown(t, "all at one tick", b, reports, 4, planNews(b))
}

// slowCounts and slowKnown say chapter 2 once more, each condition by itself.
func slowCounts(b impl.Book, news [][]impl.News, r impl.Report) bool {
	row := news[r.Trip]
	mustNot := []bool{row[r.Call].Gone, row[r.Call].Off}
	if r.Op == 1 {
		mustNot = append(mustNot, row[r.Call].Late == r.N)
	}
	if r.Op == 2 {
		mustNot = append(mustNot, row[r.Call].Track == r.N)
	}
	if r.Op == 2 || r.Op == 3 || r.Op == 4 {
		mustNot = append(mustNot, row[r.Call].Here)
	}
	if r.Op == 4 && r.Call > 0 {
		mustNot = append(mustNot, !row[r.Call-1].Gone)
	}
	if r.Op == 5 {
		mustNot = append(mustNot, !row[r.Call].Here, r.Call+1 == len(b.Trips[r.Trip].Calls))
	}
	for _, holds := range mustNot {
		if holds {
			return false
		}
	}
	return true
}

func slowKnown(b impl.Book, reports []impl.Report, tick int) [][]impl.News {
	news := planNews(b)
	for _, r := range reports {
		if r.Tick > tick || !slowCounts(b, news, r) {
			continue
		}
		for i := range news[r.Trip] {
			now := &news[r.Trip][i]
			switch {
			case r.Op == 1 && i >= r.Call:
				now.Late = r.N
			case r.Op == 3 && i >= r.Call:
				now.Off = true
			case r.Op == 2 && i == r.Call:
				now.Track = r.N
			case r.Op == 4 && i == r.Call:
				now.Here = true
			case r.Op == 5 && i == r.Call:
				now.Here, now.Gone = false, true
			}
		}
	}
	return news
}

// randomReports come from few calls and few numbers, so that many count and many do not.
func randomReports(from *rand.Rand, b impl.Book, n int) []impl.Report {
	var reports []impl.Report
	tick := 0
	for range n {
		tick += from.Intn(3)
		r := told(tick, 1+from.Intn(5), from.Intn(len(b.Trips)), 0, 0)
		r.Call = from.Intn(len(b.Trips[r.Trip].Calls))
		if r.Op <= 2 {
			r.N = 1 + from.Intn(4)
		}
		if r.Op == 3 && from.Intn(4) > 0 {
			r.Op = 4
		}
		reports = append(reports, r)
	}
	return reports
}

func TestKnownOfRandomReports(t *testing.T) {
	from := rand.New(rand.NewSource(2))
	counted := map[int]int{}
	for range 400 {
		b := plainBook()
		reports := randomReports(from, b, 1+from.Intn(60))
		for tick := -1; tick <= reports[len(reports)-1].Tick; tick += 1 + from.Intn(4) {
			checkKnown(t, "random reports", b, reports, tick, slowKnown(b, reports, tick))
		}
		for i, r := range reports {
			news := slowKnown(b, reports[:i], r.Tick)
			got, want := impl.Counts(b, news, r), slowCounts(b, news, r)
			if got != want {
				t.Fatalf("%+v by %v: got %v, want %v", r, news, got, want)
			}
			if got {
				counted[r.Op]++
			}
		}
	}
	for op := 1; op <= 5; op++ {
		if counted[op] < 50 {
			t.Errorf("of Op %d only %d counted: too few to tell", op, counted[op])
		}
	}
}

// Every state of a call and of the one before it, at each place of a trip, with every Op.
func TestCountsOfAllStates(t *testing.T) {
	b := plainBook()
	flags := func(bits int) impl.News {
		return impl.News{Late: 2 * (bits >> 3 & 1), Track: 1 + bits>>4&1, Off: bits&1 > 0, Here: bits&2 > 0, Gone: bits&4 > 0}
	}
	for call := range 3 {
		for now := range 32 {
			for before := range 8 {
				news := planNews(b)
				if call > 0 {
					news[0][call-1] = flags(before)
				}
				news[0][call] = flags(now)
				for _, r := range []impl.Report{
					told(1, 1, 0, call, 0), told(1, 1, 0, call, 1), told(1, 1, 0, call, 2),
					told(1, 2, 0, call, 1), told(1, 2, 0, call, 2), told(1, 2, 0, call, 3),
					told(1, 3, 0, call, 0), told(1, 4, 0, call, 0), told(1, 5, 0, call, 0),
				} {
					if got, want := impl.Counts(b, news, r), slowCounts(b, news, r); got != want {
						t.Errorf("%+v by %v: got %v, want %v", r, news[0], got, want)
					}
				}
			}
		}
	}
}

// What was told behind a tick, and what is told again, changes nothing of what is known.
func TestKnownHangsOnWhatWasToldByThen(t *testing.T) {
	from := rand.New(rand.NewSource(3))
	for range 100 {
		b := plainBook()
		reports := randomReports(from, b, 40)
		at := from.Intn(len(reports))
		tick := reports[at].Tick
		byThen := toldBy(reports, tick)
		want := impl.Known(b, byThen, tick)
		checkKnown(t, "all reports", b, reports, tick, want)
		checkKnown(t, "the reports by then, asked later", b, byThen, 1000000, want)
		checkKnown(t, "a report twice", b, saidAgain(reports, at), tick, want)
	}
}

func TestNewsAreNotWritten(t *testing.T) {
	checkNotWritten(t, func(name string, b impl.Book, reports []impl.Report) {
		news := planNews(b)
		oldNews := copyNews(news)
		for _, r := range reports {
			ok, counts := impl.ReportOk(b, r), impl.Counts(b, news, r)
			if impl.ReportOk(b, r) != ok || impl.Counts(b, news, r) != counts {
				t.Errorf("%s: %+v asked again, another answer", name, r)
			}
		}
		checkKnown(t, name, b, reports, 50, impl.Known(b, reports, 50))
		if !reflect.DeepEqual(news, oldNews) {
			t.Errorf("%s: the news were written into", name)
		}
	})
}

// Writing into all of one row, and behind its end where there is room, shows in no other row, no argument and no later answer.
func TestKnownIsNewMemory(t *testing.T) {
	for _, b := range []impl.Book{plainBook(), wideBook(30, 40, 20)} {
		reports := []impl.Report{told(1, impl.RLate, 0, 0, 4), told(2, impl.RStop, 1, 1, 0)}
		oldBook, oldReports := copyBook(b), append([]impl.Report(nil), reports...)
		want := impl.Known(b, reports, 5)
		for row := range want {
			got := impl.Known(b, reports, 5)
			room := got[row][:cap(got[row])]
			for i := range room {
				room[i] = impl.News{Late: -1, Track: -1, Off: true, Here: true, Gone: true}
			}
			for other := range got {
				if other != row && !reflect.DeepEqual(got[other], want[other]) {
					t.Fatalf("rows %d and %d share memory", row, other)
				}
			}
			checkKnown(t, "asked again", b, reports, 5, want)
		}
		if !reflect.DeepEqual(b, oldBook) || !reflect.DeepEqual(reports, oldReports) {
			t.Error("an answer shares memory with an argument")
		}
	}
}
