package tests

import (
	"math"
	"math/rand"
	"reflect"
	"sort"
	"strconv"
	"testing"

	"loop.example/tannoy/impl"
)

func checkBoard(t *testing.T, name string, got, want []impl.Row) {
	t.Helper()
	if len(got) != len(want) || len(want) > 0 && !reflect.DeepEqual(got, want) {
		t.Errorf("%s: got %+v, want %+v", name, got, want)
	}
}

// departures has a trip from station 0 to station 1 for each time, which is when it goes from there.
func departures(times ...int) impl.Book {
	b := impl.Book{Stations: []string{"Ash", "Beck"}}
	for i, time := range times {
		b.Trips = append(b.Trips, impl.Trip{Name: "Trip " + strconv.Itoa(i), Calls: []impl.Call{
			{Station: 0, Come: 0, Go: time, Track: 1},
			{Station: 1, Come: time, Go: 1000000, Track: 2},
		}})
	}
	return b
}

// longTrip has one trip of five calls, at stations that are not in order.
func longTrip() impl.Book {
	return impl.Book{
		Stations: []string{"Ash", "Beck", "Cove", "Dell", "Elm"},
		Trips: []impl.Trip{{Name: "Long 1", Calls: []impl.Call{
			{Station: 3, Come: 100, Go: 101, Track: 1},
			{Station: 0, Come: 110, Go: 112, Track: 2},
			{Station: 4, Come: 120, Go: 123, Track: 3},
			{Station: 1, Come: 130, Go: 134, Track: 4},
			{Station: 2, Come: 140, Go: 145, Track: 5},
		}}},
	}
}

// arrivals tell that trip 0 was at its first calls and has gone from them.
func arrivals(calls int) []impl.Report {
	var reports []impl.Report
	for call := range calls {
		reports = append(reports, told(1, impl.RHere, 0, call, 0), told(1, impl.RGone, 0, call, 0))
	}
	return reports
}

func TestSigns(t *testing.T) {
	for name, c := range map[string]struct{ got, want int }{
		"SOn":   {impl.SOn, 0},
		"SLate": {impl.SLate, 1},
		"SHere": {impl.SHere, 2},
		"SOff":  {impl.SOff, 3},
	} {
		if c.got != c.want {
			t.Errorf("%s: got %d, want %d", name, c.got, c.want)
		}
	}
}

// Of one call, the second of longTrip, what each report makes of its row and its line.
func TestRowOfEachState(t *testing.T) {
	first := arrivals(1)
	for _, c := range []struct {
		name    string
		reports []impl.Report
		row     impl.Row
		line    string
	}{
		{"as planned", nil,
			impl.Row{Trip: 0, To: 2, Due: 112, Expect: 112, Track: 2, State: 0},
			"112 Long 1 Cove track 2\n"},
		{"on its way", first,
			impl.Row{To: 2, Due: 112, Expect: 112, Track: 2, State: 0},
			"112 Long 1 Cove track 2\n"},
		{"late by 1", []impl.Report{told(1, impl.RLate, 0, 1, 1)},
			impl.Row{To: 2, Due: 112, Expect: 113, Track: 2, State: 1},
			"112 Long 1 Cove track 2 expected 113\n"},
		{"late from the call before", []impl.Report{told(1, impl.RLate, 0, 0, 100000)},
			impl.Row{To: 2, Due: 112, Expect: 100112, Track: 2, State: 1},
			"112 Long 1 Cove track 2 expected 100112\n"},
		{"late from the call behind it", []impl.Report{told(1, impl.RLate, 0, 2, 5)},
			impl.Row{To: 2, Due: 112, Expect: 112, Track: 2, State: 0},
			"112 Long 1 Cove track 2\n"},
		{"late, and on time again", []impl.Report{told(1, impl.RLate, 0, 0, 7), told(1, impl.RLate, 0, 0, 0)},
			impl.Row{To: 2, Due: 112, Expect: 112, Track: 2, State: 0},
			"112 Long 1 Cove track 2\n"},
		{"another track", []impl.Report{told(1, impl.RTrack, 0, 1, 20)},
			impl.Row{To: 2, Due: 112, Expect: 112, Track: 20, State: 0},
			"112 Long 1 Cove track 20\n"},
		{"another track of other calls", []impl.Report{told(1, impl.RTrack, 0, 0, 20), told(1, impl.RTrack, 0, 4, 19)},
			impl.Row{To: 2, Due: 112, Expect: 112, Track: 2, State: 0},
			"112 Long 1 Cove track 2\n"},
		{"here", append(arrivals(1), told(1, impl.RHere, 0, 1, 0)),
			impl.Row{To: 2, Due: 112, Expect: 112, Track: 2, State: 2},
			"112 Long 1 Cove track 2 here\n"},
		{"here and late", append(arrivals(1), told(1, impl.RLate, 0, 1, 9), told(1, impl.RHere, 0, 1, 0)),
			impl.Row{To: 2, Due: 112, Expect: 121, Track: 2, State: 2},
			"112 Long 1 Cove track 2 here\n"},
		{"here, late behind that", append(arrivals(1), told(1, impl.RHere, 0, 1, 0), told(1, impl.RLate, 0, 1, 9)),
			impl.Row{To: 2, Due: 112, Expect: 121, Track: 2, State: 2},
			"112 Long 1 Cove track 2 here\n"},
		{"at the call before", []impl.Report{told(1, impl.RHere, 0, 0, 0)},
			impl.Row{To: 2, Due: 112, Expect: 112, Track: 2, State: 0},
			"112 Long 1 Cove track 2\n"},
		{"off", []impl.Report{told(1, impl.RStop, 0, 1, 0)},
			impl.Row{To: 2, Due: 112, Expect: 112, Track: 2, State: 3},
			"112 Long 1 Cove track 2 called off\n"},
		{"off from the first call", []impl.Report{told(1, impl.RStop, 0, 0, 0)},
			impl.Row{To: 2, Due: 112, Expect: 112, Track: 2, State: 3},
			"112 Long 1 Cove track 2 called off\n"},
		{"off behind the first call that has gone", append(arrivals(1), told(1, impl.RStop, 0, 1, 0)),
			impl.Row{To: 2, Due: 112, Expect: 112, Track: 2, State: 3},
			"112 Long 1 Cove track 2 called off\n"},
		{"late, on another track, then off", []impl.Report{told(1, impl.RLate, 0, 1, 9), told(1, impl.RTrack, 0, 1, 8), told(1, impl.RStop, 0, 1, 0)},
			impl.Row{To: 2, Due: 112, Expect: 121, Track: 8, State: 3},
			"112 Long 1 Cove track 8 called off\n"},
		{"off, then late from the call before", []impl.Report{told(1, impl.RStop, 0, 1, 0), told(1, impl.RLate, 0, 0, 6)},
			impl.Row{To: 2, Due: 112, Expect: 118, Track: 2, State: 3},
			"112 Long 1 Cove track 2 called off\n"},
		{"off from a call behind it", []impl.Report{told(1, impl.RStop, 0, 3, 0)},
			impl.Row{To: 4, Due: 112, Expect: 112, Track: 2, State: 0},
			"112 Long 1 Elm track 2\n"},
		{"late, and off from a call behind it", []impl.Report{told(1, impl.RStop, 0, 4, 0), told(1, impl.RLate, 0, 1, 3)},
			impl.Row{To: 1, Due: 112, Expect: 115, Track: 2, State: 1},
			"112 Long 1 Beck track 2 expected 115\n"},
		{"here, and off from a call behind it", append(arrivals(1), told(1, impl.RHere, 0, 1, 0), told(1, impl.RStop, 0, 3, 0)),
			impl.Row{To: 4, Due: 112, Expect: 112, Track: 2, State: 2},
			"112 Long 1 Elm track 2 here\n"},
		{"off, and off from one further ahead", []impl.Report{told(1, impl.RStop, 0, 3, 0), told(1, impl.RStop, 0, 1, 0)},
			impl.Row{To: 2, Due: 112, Expect: 112, Track: 2, State: 3},
			"112 Long 1 Cove track 2 called off\n"},
	} {
		checkBoard(t, c.name, impl.Board(longTrip(), c.reports, 0, 1, 5), []impl.Row{c.row})
		if got := impl.Shown(longTrip(), c.reports, 0, 1, 5); got != c.line {
			t.Errorf("%s: got %q, want %q", c.name, got, c.line)
		}
	}
}

// At which calls of longTrip a board has a row, call by call, and of what State and To.
func TestWhereATripIsShown(t *testing.T) {
	type cell struct{ state, to int }
	none := cell{-1, -1}
	on, off := func(to int) cell { return cell{impl.SOn, to} }, cell{impl.SOff, 2}
	for _, c := range []struct {
		name    string
		reports []impl.Report
		want    [5]cell
	}{
		{"as planned", nil, [5]cell{on(2), on(2), on(2), on(2), none}},
		{"gone from one", arrivals(1), [5]cell{none, on(2), on(2), on(2), none}},
		{"gone from all but the last", arrivals(4), [5]cell{none, none, none, none, none}},
		{"here at the last", append(arrivals(4), told(1, impl.RHere, 0, 4, 0)), [5]cell{none, none, none, none, none}},
		{"off from the last", []impl.Report{told(1, impl.RStop, 0, 4, 0)}, [5]cell{on(1), on(1), on(1), none, none}},
		{"off from the fourth", []impl.Report{told(1, impl.RStop, 0, 3, 0)}, [5]cell{on(4), on(4), none, off, none}},
		{"off from the third", []impl.Report{told(1, impl.RStop, 0, 2, 0)}, [5]cell{on(0), none, off, off, none}},
		{"off from the second", []impl.Report{told(1, impl.RStop, 0, 1, 0)}, [5]cell{none, off, off, off, none}},
		{"off from the first", []impl.Report{told(1, impl.RStop, 0, 0, 0)}, [5]cell{off, off, off, off, none}},
		{"gone from one, off from the third", append(arrivals(1), told(1, impl.RStop, 0, 2, 0)), [5]cell{none, none, off, off, none}},
		{"here at the second, off behind it", append(arrivals(1), told(1, impl.RHere, 0, 1, 0), told(1, impl.RStop, 0, 2, 0)), [5]cell{none, none, off, off, none}},
		{"gone from two, off behind them", append(arrivals(2), told(1, impl.RStop, 0, 2, 0)), [5]cell{none, none, off, off, none}},
		{"late where it ends", []impl.Report{told(1, impl.RStop, 0, 3, 0), told(1, impl.RLate, 0, 2, 4)}, [5]cell{on(4), on(4), none, off, none}},
	} {
		b := longTrip()
		for call, at := range b.Trips[0].Calls {
			got := none
			board := impl.Board(b, c.reports, at.Station, 1, 5)
			if len(board) == 1 {
				got = cell{board[0].State, board[0].To}
			}
			if len(board) > 1 || got != c.want[call] {
				t.Errorf("%s, call %d: got %+v, want %+v", c.name, call, board, c.want[call])
			}
		}
	}
}

// A row of a station that trips pass by, begin at and end at; and of one where none calls.
func TestBoardOfEachStation(t *testing.T) {
	b := plainBook()
	b.Stations = append(b.Stations, "Fen")
	for station, want := range [][]impl.Row{
		{{Trip: 0, To: 2, Due: 105, Expect: 105, Track: 1}},
		{{Trip: 1, To: 0, Due: 115, Expect: 115, Track: 5}, {Trip: 0, To: 2, Due: 125, Expect: 125, Track: 2}},
		{{Trip: 2, To: 3, Due: 305, Expect: 305, Track: 7}},
		{{Trip: 1, To: 0, Due: 95, Expect: 95, Track: 4}},
		nil,
	} {
		checkBoard(t, b.Stations[station], impl.Board(b, nil, station, 50, 40), want)
	}
}

// What is called off goes from the board by its Go, not by when it was told or how late it is; what is not called off stays.
func TestHowLongWhatIsOffIsShown(t *testing.T) {
	b := plainBook()
	off := []impl.Report{told(20, impl.RStop, 1, 0, 0)}
	lateOff := []impl.Report{told(20, impl.RLate, 1, 0, 30), told(20, impl.RStop, 1, 0, 0)}
	toldBehind := []impl.Report{told(500, impl.RStop, 1, 1, 0)}
	for _, c := range []struct {
		name    string
		reports []impl.Report
		tick    int
		want    int
	}{
		{"ahead of its time", off, 20, 2},
		{"at its time", off, 115, 2},
		{"one tick behind it", off, 116, 2},
		{"nine ticks behind it", off, 124, 2},
		{"ten ticks behind it", off, 125, 2},
		{"eleven ticks behind it", off, 126, 1},
		{"far behind it", off, 1000000, 1},
		{"late, ten ticks behind its time", lateOff, 125, 2},
		{"late, eleven ticks behind its time", lateOff, 126, 1},
		{"late, ten ticks behind what was expected", lateOff, 155, 1},
		{"told far behind its time, ahead of that", toldBehind, 499, 2},
		{"told far behind its time", toldBehind, 500, 1},
		{"nothing told, far behind its time", nil, 1000000, 2},
	} {
		if got := impl.Board(b, c.reports, 1, c.tick, 40); len(got) != c.want {
			t.Errorf("%s: got %+v, want %d rows", c.name, got, c.want)
		}
	}
}

// Tick - 10 is below 0 at the first ticks: a Go of 0 is then still shown.
func TestHowLongAGoOfZeroIsShown(t *testing.T) {
	off := []impl.Report{told(0, impl.RStop, 0, 0, 0)}
	for tick, want := range map[int]int{0: 1, 9: 1, 10: 1, 11: 0, 1000000: 0} {
		if got := impl.Board(departures(0), off, 0, tick, 1); len(got) != want {
			t.Errorf("tick %d: got %+v, want %d rows", tick, got, want)
		}
	}
}

func tripsOf(rows []impl.Row) []int {
	trips := []int{}
	for _, row := range rows {
		trips = append(trips, row.Trip)
	}
	return trips
}

func TestOrderOfRows(t *testing.T) {
	late := func(trip, n int) impl.Report { return told(1, impl.RLate, trip, 0, n) }
	stop := func(trip int) impl.Report { return told(1, impl.RStop, trip, 0, 0) }
	here := func(trip int) impl.Report { return told(1, impl.RHere, trip, 0, 0) }
	for _, c := range []struct {
		name    string
		times   []int
		reports []impl.Report
		want    []int
	}{
		{"by Due, nothing told", []int{30, 10, 20}, nil, []int{1, 2, 0}},
		{"numbers, not texts", []int{100, 20, 3}, nil, []int{2, 1, 0}},
		{"by Expect, not by Due", []int{10, 20, 30}, []impl.Report{late(0, 15)}, []int{1, 0, 2}},
		{"all late", []int{10, 20, 30}, []impl.Report{late(0, 90), late(1, 70), late(2, 50)}, []int{2, 1, 0}},
		{"one Expect, by Due", []int{10, 20, 30}, []impl.Report{late(0, 20), late(1, 10)}, []int{0, 1, 2}},
		{"one Expect, by Due, the trips the other way", []int{30, 20, 10}, []impl.Report{late(2, 20), late(1, 10)}, []int{2, 1, 0}},
		{"one Due, by Trip", []int{10, 10, 10}, nil, []int{0, 1, 2}},
		{"one Due, by Expect", []int{10, 10, 10}, []impl.Report{late(0, 2), late(1, 1)}, []int{2, 1, 0}},
		{"one Expect and Due, by Trip", []int{20, 10, 10}, []impl.Report{late(1, 10), late(2, 10)}, []int{1, 2, 0}},
		{"what is off stands where it would", []int{10, 20, 30}, []impl.Report{stop(1)}, []int{0, 1, 2}},
		{"what is off and late stands by its Expect", []int{10, 20, 30}, []impl.Report{late(0, 15), stop(0)}, []int{1, 0, 2}},
		{"what is here stands where it would", []int{10, 20, 30}, []impl.Report{here(2)}, []int{0, 1, 2}},
		{"not by State", []int{10, 10, 10, 10}, []impl.Report{stop(0), here(1)}, []int{0, 1, 2, 3}},
	} {
		got := tripsOf(impl.Board(departures(c.times...), c.reports, 0, 1, 40))
		if !reflect.DeepEqual(got, c.want) {
			t.Errorf("%s: got %v, want %v", c.name, got, c.want)
		}
	}
}

func TestLinesStandInOrder(t *testing.T) {
	reports := []impl.Report{
		told(1, impl.RLate, 0, 0, 15), told(1, impl.RStop, 1, 0, 0), told(1, impl.RHere, 2, 0, 0), told(1, impl.RTrack, 3, 0, 9),
	}
	lines := []string{
		"20 Trip 1 Beck track 1 called off\n", "10 Trip 0 Beck track 1 expected 25\n", "30 Trip 2 Beck track 1 here\n", "40 Trip 3 Beck track 9\n",
	}
	want := ""
	for rows := range 6 {
		if got := impl.Shown(departures(10, 20, 30, 40), reports, 0, 1, rows); got != want {
			t.Errorf("%d rows: got %q, want %q", rows, got, want)
		}
		if rows < len(lines) {
			want += lines[rows]
		}
	}
}

// Full boards of times in many orders: any number of rows is the first of them all.
func TestFewerRowsAreTheFirst(t *testing.T) {
	from := rand.New(rand.NewSource(4))
	for range 40 {
		times := make([]int, 1+from.Intn(40))
		for i := range times {
			times[i] = from.Intn(30)
		}
		b := departures(times...)
		all := impl.Board(b, nil, 0, 0, 40)
		if len(all) != len(times) {
			t.Fatalf("got %d rows of %d trips", len(all), len(times))
		}
		for i := 1; i < len(all); i++ {
			if all[i].Due < all[i-1].Due || all[i].Due == all[i-1].Due && all[i].Trip <= all[i-1].Trip {
				t.Errorf("row %d stands wrong: %+v", i, all)
			}
		}
		for rows := range 41 {
			checkBoard(t, strconv.Itoa(rows)+" rows", impl.Board(b, nil, 0, 0, rows), all[:min(rows, len(all))])
		}
	}
}

func TestNumberOfRows(t *testing.T) {
	three, full := departures(10, 20, 30), wideBook(30, 40, 20)
	for _, c := range []struct {
		rows, ofThree, ofFull int
	}{
		{0, 0, 0}, {1, 1, 1}, {2, 2, 2}, {3, 3, 3}, {4, 3, 4}, {39, 3, 39}, {40, 3, 40},
		{41, 0, 0}, {-1, 0, 0}, {math.MinInt, 0, 0}, {math.MaxInt, 0, 0},
	} {
		checkSize(t, "three trips", three, nil, 0, 0, c.rows, c.ofThree)
		checkSize(t, "forty trips", full, nil, 0, 0, c.rows, c.ofFull)
	}
}

// checkSize asks both functions, of which one has a line where the other has a row.
func checkSize(t *testing.T, name string, b impl.Book, reports []impl.Report, station, tick, rows, want int) {
	t.Helper()
	lines := 0
	for _, c := range impl.Shown(b, reports, station, tick, rows) {
		if c == '\n' {
			lines++
		}
	}
	if got := impl.Board(b, reports, station, tick, rows); len(got) != want || lines != want {
		t.Errorf("%s, station %d, tick %d, %d rows: got %d rows and %d lines, want %d", name, station, tick, rows, len(got), lines, want)
	}
}

func TestTicksOfBoards(t *testing.T) {
	for tick, want := range map[int]int{
		math.MinInt: 0, -1: 0, 0: 2, 1: 2, 999999: 2, 1000000: 2, 1000001: 0, math.MaxInt: 0,
	} {
		checkSize(t, "nothing told", plainBook(), nil, 1, tick, 9, want)
		checkSize(t, "something told", plainBook(), manyReports(9), 1, tick, 9, want)
	}
	ends := departures(0, 1000000)
	last := []impl.Report{told(0, impl.RLate, 0, 0, 100000), told(1000000, impl.RLate, 1, 0, 100000)}
	checkBoard(t, "the first tick", impl.Board(ends, last, 0, 0, 2), []impl.Row{
		{Trip: 0, To: 1, Due: 0, Expect: 100000, Track: 1, State: impl.SLate}, {Trip: 1, To: 1, Due: 1000000, Expect: 1000000, Track: 1},
	})
	checkBoard(t, "the last tick", impl.Board(ends, last, 0, 1000000, 2)[1:], []impl.Row{
		{Trip: 1, To: 1, Due: 1000000, Expect: 1100000, Track: 1, State: impl.SLate},
	})
}

func TestStationsOfBoards(t *testing.T) {
	for station, want := range map[int]int{
		math.MinInt: 0, -1: 0, 0: 1, 1: 2, 2: 1, 3: 1, 4: 0, 5: 0, math.MaxInt: 0,
	} {
		checkSize(t, "plain", plainBook(), nil, station, 50, 9, want)
	}
	wide := wideBook(30, 1, 20)
	last := &wide.Trips[0].Calls[18]
	last.Station = 29
	checkSize(t, "wide", wide, nil, 29, 0, 9, 1)
	checkSize(t, "wide", wide, nil, 30, 0, 9, 0)
	checkSize(t, "wide", wide, nil, 18, 0, 9, 0)
	checkSize(t, "nothing", impl.Book{}, nil, 0, 0, 9, 0)
	checkSize(t, "no trips", impl.Book{Stations: []string{"Ash"}}, nil, 0, 0, 9, 0)
}

func TestBoardsOfWrongBooks(t *testing.T) {
	for name, b := range wrongBooks() {
		for station := range len(b.Stations) {
			checkSize(t, name, b, nil, station, 50, 40, 0)
			checkSize(t, name, b, rightReports(5, 0, 0), station, 50, 40, 0)
		}
	}
	huge := wideBook(31, 41, 21)
	for _, station := range []int{-1, 0, 30, 31, math.MaxInt} {
		checkSize(t, "too many of all", huge, nil, station, 50, 40, 0)
	}
}

// What makes Known nothing makes the board so, told ahead of the tick or behind it.
func TestBoardsOfWrongReports(t *testing.T) {
	for name, reports := range map[string][]impl.Report{
		"too many":         manyReports(501),
		"a wrong Op":       {told(5, 6, 0, 0, 0)},
		"a wrong Trip":     {told(5, impl.RLate, 3, 0, 1)},
		"a wrong Call":     {told(5, impl.RLate, 0, 3, 1)},
		"a wrong N":        {told(5, impl.RLate, 0, 0, 100001)},
		"a wrong Tick":     {told(1000001, impl.RLate, 0, 0, 1)},
		"not in order":     {told(6, impl.RLate, 0, 0, 1), told(5, impl.RLate, 0, 0, 2)},
		"one behind right": append(manyReports(9), told(900, impl.RTrack, 0, 0, 21)),
	} {
		for _, tick := range []int{0, 5, 1000, 1000000} {
			checkSize(t, name, plainBook(), reports, 1, tick, 9, 0)
		}
	}
	checkSize(t, "as many as there may be", plainBook(), manyReports(500), 1, 1000, 9, 2)
}

// planRows is the board of a book of which nothing was told, by its words alone.
func planRows(b impl.Book, station int) []impl.Row {
	var rows []impl.Row
	for i, trip := range b.Trips {
		last := len(trip.Calls) - 1
		for _, call := range trip.Calls[:last] {
			if call.Station == station {
				rows = append(rows, impl.Row{Trip: i, To: trip.Calls[last].Station, Due: call.Go, Expect: call.Go, Track: call.Track})
			}
		}
	}
	sort.SliceStable(rows, func(i, j int) bool { return rows[i].Due < rows[j].Due })
	return rows
}

func TestBoardOfThePlan(t *testing.T) {
	from := rand.New(rand.NewSource(5))
	books := []impl.Book{plainBook(), longTrip(), departures(5, 4, 5, 3), wideBook(30, 40, 20)}
	for range 20 {
		books = append(books, randomBook(from))
	}
	for _, b := range books {
		for station := range b.Stations {
			want := planRows(b, station)
			for _, tick := range []int{0, 100, 1000000} {
				checkBoard(t, "the plan", impl.Board(b, nil, station, tick, 40), want)
				checkBoard(t, "told behind the tick", impl.Board(b, []impl.Report{told(1000000, impl.RStop, 0, 0, 0)}, station, min(tick, 999999), 40), want)
			}
		}
	}
}

// randomBook has trips over the same few stations in many orders, at times that often are the same.
func randomBook(from *rand.Rand) impl.Book {
	b := impl.Book{Stations: []string{"Ash", "Beck", "Cove", "Dell", "Elm"}}
	for i := range 1 + from.Intn(8) {
		trip := impl.Trip{Name: "Trip " + strconv.Itoa(i)}
		tick := 5 * from.Intn(4)
		for _, station := range from.Perm(5)[:2+from.Intn(4)] {
			come := tick + from.Intn(4)
			tick = come + from.Intn(4)
			trip.Calls = append(trip.Calls, impl.Call{Station: station, Come: come, Go: tick, Track: 1 + from.Intn(20)})
		}
		b.Trips = append(b.Trips, trip)
	}
	return b
}

// slowBoard says chapter 3 once more, on top of slowKnown.
func slowBoard(b impl.Book, reports []impl.Report, station, tick int) []impl.Row {
	var rows []impl.Row
	for i, news := range slowKnown(b, reports, tick) {
		calls := b.Trips[i].Calls
		ends := -1
		for j := range calls {
			if !news[j].Off {
				ends = calls[j].Station
			}
		}
		for j, call := range calls {
			if call.Station != station || j+1 == len(calls) || news[j].Gone {
				continue
			}
			row := impl.Row{Trip: i, To: ends, Due: call.Go, Expect: call.Go + news[j].Late, Track: news[j].Track}
			if news[j].Off {
				if tick-10 > call.Go {
					continue
				}
				row.State, row.To = 3, calls[len(calls)-1].Station
			} else if ends == station {
				continue
			} else if news[j].Here {
				row.State = 2
			} else if news[j].Late != 0 {
				row.State = 1
			}
			rows = append(rows, row)
		}
	}
	sort.Slice(rows, func(i, j int) bool {
		if rows[i].Expect != rows[j].Expect {
			return rows[i].Expect < rows[j].Expect
		}
		if rows[i].Due != rows[j].Due {
			return rows[i].Due < rows[j].Due
		}
		return rows[i].Trip < rows[j].Trip
	})
	return rows
}

func slowShown(b impl.Book, rows []impl.Row) string {
	text := ""
	for _, row := range rows {
		tail := []string{"", " expected " + strconv.Itoa(row.Expect), " here", " called off"}[row.State]
		text += strconv.Itoa(row.Due) + " " + b.Trips[row.Trip].Name + " " + b.Stations[row.To] + " track " + strconv.Itoa(row.Track) + tail + "\n"
	}
	return text
}

func TestBoardsOfRandomReports(t *testing.T) {
	from := rand.New(rand.NewSource(6))
	seen := map[int]int{}
	for range 300 {
		b := randomBook(from)
		reports := randomReports(from, b, 1+from.Intn(60))
		for range 20 {
			station, tick, rows := from.Intn(5), from.Intn(70), from.Intn(10)
			all := slowBoard(b, reports, station, tick)
			want := all[:min(rows, len(all))]
			checkBoard(t, "random reports", impl.Board(b, reports, station, tick, rows), want)
			if got := impl.Shown(b, reports, station, tick, rows); got != slowShown(b, want) {
				t.Errorf("random reports: got %q, want %q", got, slowShown(b, want))
			}
			for _, row := range want {
				seen[row.State]++
			}
		}
	}
	for state := range 4 {
		if seen[state] < 100 {
			t.Errorf("of State %d only %d rows: too few to tell", state, seen[state])
		}
	}
}

// What was told behind a tick changes nothing of what is shown at it, and what is told again just behind itself nothing at any.
func TestBoardsHangOnWhatWasToldByThen(t *testing.T) {
	from := rand.New(rand.NewSource(7))
	for range 200 {
		b := randomBook(from)
		reports := randomReports(from, b, 40)
		at := from.Intn(len(reports))
		tick := reports[at].Tick
		byThen, twice := toldBy(reports, tick), saidAgain(reports, at)
		other := append(append([]impl.Report(nil), byThen...), told(tick+1, impl.RStop, 0, 0, 0), told(tick+1, impl.RLate, 0, 0, 77))
		for station := range b.Stations {
			want := impl.Board(b, byThen, station, tick, 40)
			checkBoard(t, "all reports", impl.Board(b, reports, station, tick, 40), want)
			checkBoard(t, "other reports behind the tick", impl.Board(b, other, station, tick, 40), want)
			checkBoard(t, "a report twice", impl.Board(b, twice, station, tick, 40), want)
			if got := impl.Shown(b, reports, station, tick, 40); got != impl.Shown(b, byThen, station, tick, 40) {
				t.Errorf("shown by all reports: %q", got)
			}
		}
	}
}

func TestATickOnItsOwnReport(t *testing.T) {
	reports := []impl.Report{told(7, impl.RLate, 1, 0, 3)}
	for tick, want := range map[int]int{6: impl.SOn, 7: impl.SLate, 8: impl.SLate} {
		if got := impl.Board(plainBook(), reports, 1, tick, 1); len(got) != 1 || got[0].State != want {
			t.Errorf("tick %d: got %+v, want State %d", tick, got, want)
		}
	}
}

// A trip that is called off from its first call on is shown so at every call but its last, up to ten ticks behind its time there.
func TestATripThatIsOff(t *testing.T) {
	b := longTrip()
	reports := []impl.Report{told(0, impl.RStop, 0, 0, 0)}
	for i, call := range b.Trips[0].Calls {
		want := []impl.Row{{Trip: 0, To: 2, Due: call.Go, Expect: call.Go, Track: call.Track, State: impl.SOff}}
		if i == 4 {
			want = nil
		}
		for _, tick := range []int{0, call.Go, call.Go + 10} {
			checkBoard(t, "by then", impl.Board(b, reports, call.Station, tick, 40), want)
		}
		checkBoard(t, "behind that", impl.Board(b, reports, call.Station, call.Go+11, 40), nil)
	}
}

func TestBoardsAreNotWritten(t *testing.T) {
	checkNotWritten(t, func(name string, b impl.Book, reports []impl.Report) {
		for station := range 4 {
			rows, text := impl.Board(b, reports, station, 41, 9), impl.Shown(b, reports, station, 41, 9)
			checkBoard(t, name+", asked again", impl.Board(b, reports, station, 41, 9), rows)
			if impl.Shown(b, reports, station, 41, 9) != text {
				t.Errorf("%s: asked again, another text", name)
			}
		}
	})
}

// Writing into all of a board, and behind its end where there is room, shows in no argument and no later answer.
func TestBoardIsNewMemory(t *testing.T) {
	b := wideBook(30, 40, 20)
	reports := []impl.Report{told(1, impl.RLate, 0, 0, 4), told(2, impl.RStop, 1, 1, 0)}
	oldBook, oldReports := copyBook(b), append([]impl.Report(nil), reports...)
	for _, rows := range []int{0, 1, 7, 40} {
		want := impl.Board(b, reports, 0, 5, rows)
		got := impl.Board(b, reports, 0, 5, rows)
		room := got[:cap(got)]
		for i := range room {
			room[i] = impl.Row{Trip: -1, To: -1, Due: -1, Expect: -1, Track: -1, State: -1}
		}
		checkBoard(t, "asked again", impl.Board(b, reports, 0, 5, rows), want)
	}
	if !reflect.DeepEqual(b, oldBook) || !reflect.DeepEqual(reports, oldReports) {
		t.Error("an answer shares memory with an argument")
	}
}
