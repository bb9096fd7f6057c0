package tests

import (
	"reflect"
	"strconv"
	"testing"

	"loop.example/tannoy/impl"
)

// plainBook is a right book with room on every side: each test bends one thing of it.
func plainBook() impl.Book {
	return impl.Book{
		Stations: []string{"Ash", "Beck Hill", "Cove", "Dell 4"},
		Trips: []impl.Trip{
			{Name: "Coast 1", Calls: []impl.Call{
				{Station: 0, Come: 100, Go: 105, Track: 1},
				{Station: 1, Come: 120, Go: 125, Track: 2},
				{Station: 2, Come: 140, Go: 145, Track: 3},
			}},
			{Name: "Hill 2", Calls: []impl.Call{
				{Station: 3, Come: 90, Go: 95, Track: 4},
				{Station: 1, Come: 110, Go: 115, Track: 5},
				{Station: 0, Come: 130, Go: 135, Track: 6},
			}},
			{Name: "Night 3", Calls: []impl.Call{
				{Station: 2, Come: 300, Go: 305, Track: 7},
				{Station: 3, Come: 320, Go: 325, Track: 8},
			}},
		},
	}
}

// wideBook has that many stations and trips, and that many calls of each trip.
func wideBook(stations, trips, calls int) impl.Book {
	b := impl.Book{}
	for i := range stations {
		b.Stations = append(b.Stations, "Station "+strconv.Itoa(i))
	}
	for i := range trips {
		b.Trips = append(b.Trips, impl.Trip{Name: "Trip " + strconv.Itoa(i), Calls: runOfCalls(calls)})
	}
	return b
}

func runOfCalls(n int) []impl.Call {
	var calls []impl.Call
	for i := range n {
		calls = append(calls, impl.Call{Station: i, Come: 10 * i, Go: 10*i + 5, Track: 1 + i%20})
	}
	return calls
}

// copyBook keeps nil and empty lists apart, so that a comparison shows every change.
func copyBook(b impl.Book) impl.Book {
	c := impl.Book{Stations: append(b.Stations[:0:0], b.Stations...), Trips: append(b.Trips[:0:0], b.Trips...)}
	for i := range c.Trips {
		calls := b.Trips[i].Calls
		c.Trips[i].Calls = append(calls[:0:0], calls...)
	}
	return c
}

// planNews is what is known of a book of which nothing was told.
func planNews(b impl.Book) [][]impl.News {
	news := make([][]impl.News, len(b.Trips))
	for i, trip := range b.Trips {
		for _, call := range trip.Calls {
			news[i] = append(news[i], impl.News{Track: call.Track})
		}
	}
	return news
}

func copyNews(news [][]impl.News) [][]impl.News {
	c := append(news[:0:0], news...)
	for i, row := range c {
		c[i] = append(row[:0:0], row...)
	}
	return c
}

func told(tick, op, trip, call, n int) impl.Report {
	return impl.Report{Tick: tick, Op: op, Trip: trip, Call: call, N: n}
}

// toldBy is those of the reports that were told up to a tick.
func toldBy(reports []impl.Report, tick int) []impl.Report {
	var byThen []impl.Report
	for _, r := range reports {
		if r.Tick <= tick {
			byThen = append(byThen, r)
		}
	}
	return byThen
}

// saidAgain has one of the reports again just behind itself.
func saidAgain(reports []impl.Report, at int) []impl.Report {
	return append(append([]impl.Report(nil), reports[:at+1]...), reports[at:]...)
}

// checkNotWritten asks of books that are right and that are not, each with reports of every Op, and looks whether these stay as they were.
func checkNotWritten(t *testing.T, ask func(name string, b impl.Book, reports []impl.Report)) {
	t.Helper()
	books := wrongBooks()
	books["plain"], books["wide"], books["empty"] = plainBook(), wideBook(30, 40, 20), impl.Book{}
	reports := append(manyReports(3), rightReports(40, 0, 0)...)
	reports = append(reports, rightReports(41, 1, 1)...)
	for name, b := range books {
		oldBook, oldReports := copyBook(b), append([]impl.Report(nil), reports...)
		ask(name, b, reports)
		if !reflect.DeepEqual(b, oldBook) || !reflect.DeepEqual(reports, oldReports) {
			t.Errorf("%s: an argument was written into", name)
		}
	}
}
