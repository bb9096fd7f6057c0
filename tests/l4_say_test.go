package tests

import (
	"math"
	"math/rand"
	"reflect"
	"strconv"
	"strings"
	"testing"

	"loop.example/tannoy/impl"
)

func checkSaid(t *testing.T, name string, got, want []impl.Said) {
	t.Helper()
	if len(got) != len(want) || len(want) > 0 && !reflect.DeepEqual(got, want) {
		t.Errorf("%s: got %+v, want %+v", name, got, want)
	}
}

func checkOnward(t *testing.T, name string, got, want []int) {
	t.Helper()
	if len(got) != len(want) || len(want) > 0 && !reflect.DeepEqual(got, want) {
		t.Errorf("%s: got %v, want %v", name, got, want)
	}
}

// always is what is said at a station at whatever tick a report can have.
func always(b impl.Book, reports []impl.Report, station int) []impl.Said {
	return impl.Say(b, reports, station, 0, 1000000)
}

// lastOfLongTrip is what is said of a report of longTrip's trip, call by call, behind what was told at tick 1.
func lastOfLongTrip(t *testing.T, name string, before []impl.Report, r impl.Report) [5]string {
	t.Helper()
	b := longTrip()
	r.Tick = 2
	var texts [5]string
	for call, at := range b.Trips[0].Calls {
		said := impl.Say(b, append(append([]impl.Report(nil), before...), r), at.Station, 2, 2)
		if len(said) > 1 || len(said) == 1 && said[0].Tick != 2 {
			t.Errorf("%s, call %d: got %+v", name, call, said)
		}
		for _, s := range said {
			texts[call] = s.Text
		}
	}
	return texts
}

// What is said of one report at each call of a trip, by Op and by what was known ahead of it.
func TestWhatIsSaidAtEachCall(t *testing.T) {
	late := func(call, n int) impl.Report { return told(1, impl.RLate, 0, call, n) }
	track := func(call, n int) impl.Report { return told(1, impl.RTrack, 0, call, n) }
	stop := func(call int) impl.Report { return told(1, impl.RStop, 0, call, 0) }
	here := func(call int) impl.Report { return told(1, impl.RHere, 0, call, 0) }
	gone := func(call int) impl.Report { return told(1, impl.RGone, 0, call, 0) }
	hereAt := func(call int, more ...impl.Report) []impl.Report {
		return append(append(arrivals(call), here(call)), more...)
	}
	list := func(reports ...impl.Report) []impl.Report { return reports }
	const lateBy4, onTime, off = "Long 1 to Cove is late by 4", "Long 1 to Cove is on time", "Long 1 to Cove does not come"
	for _, c := range []struct {
		name   string
		before []impl.Report
		r      impl.Report
		want   [5]string
	}{
		{"late from the first call", nil, late(0, 4), [5]string{lateBy4, lateBy4, lateBy4, lateBy4, ""}},
		{"late from the third call", nil, late(2, 4), [5]string{"", "", lateBy4, lateBy4, ""}},
		{"late at the last call", nil, late(4, 4), [5]string{}},
		{"late by the least", nil, late(3, 1), [5]string{"", "", "", "Long 1 to Cove is late by 1", ""}},
		{"late by the most", nil, late(3, 100000), [5]string{"", "", "", "Long 1 to Cove is late by 100000", ""}},
		{"on time again", list(late(0, 9)), late(0, 0), [5]string{onTime, onTime, onTime, onTime, ""}},
		{"on time from the third call", list(late(0, 9)), late(2, 0), [5]string{"", "", onTime, onTime, ""}},
		{"on time, where some are already", list(late(0, 9), late(3, 0)), late(1, 0), [5]string{"", onTime, onTime, "", ""}},
		{"late by another number", list(late(0, 9)), late(1, 4), [5]string{"", lateBy4, lateBy4, lateBy4, ""}},
		{"late, some by as much already", list(late(2, 4)), late(0, 4), [5]string{lateBy4, lateBy4, "", "", ""}},
		{"late, all behind it by as much already", list(late(1, 4)), late(0, 4), [5]string{lateBy4, "", "", "", ""}},
		{"late, one between by as much already", list(late(2, 4), late(3, 5)), late(1, 4), [5]string{"", lateBy4, "", lateBy4, ""}},
		{"late, known already", list(late(0, 4)), late(0, 4), [5]string{}},
		{"late, known already there, not behind it", list(late(0, 4), late(2, 5)), late(0, 4), [5]string{}},
		{"late of a call where it is", hereAt(1), late(1, 4), [5]string{"", lateBy4, lateBy4, lateBy4, ""}},
		{"on time of a call where it is", hereAt(1, late(1, 4)), late(1, 0), [5]string{"", onTime, onTime, onTime, ""}},
		{"late of a call where it ends and is", hereAt(4), late(4, 4), [5]string{}},
		{"late behind the call where it is", hereAt(1), late(2, 4), [5]string{"", "", lateBy4, lateBy4, ""}},
		{"late of a call that has gone", arrivals(2), late(1, 4), [5]string{}},
		{"late behind a call that has gone", arrivals(2), late(2, 4), [5]string{"", "", lateBy4, lateBy4, ""}},
		{"late of a call that is off", list(stop(2)), late(2, 4), [5]string{}},
		{"late of a call behind one that is off", list(stop(2)), late(3, 4), [5]string{}},
		{"late ahead of what is off", list(stop(3)), late(0, 4), [5]string{"Long 1 to Elm is late by 4", "Long 1 to Elm is late by 4", "", "", ""}},
		{"late where it ends early", list(stop(3)), late(2, 4), [5]string{}},
		{"late at the last call but one, where it ends", list(stop(4)), late(3, 4), [5]string{}},
		{"on time ahead of what is off", list(stop(2), late(0, 4)), late(0, 0), [5]string{"Long 1 to Ash is on time", "", "", "", ""}},
		{"late where it is and ends", hereAt(2, stop(3)), late(2, 4), [5]string{}},
		{"late at the first call, where it ends", list(stop(1)), late(0, 4), [5]string{}},

		{"another track", nil, track(1, 20), [5]string{1: "Long 1 to Cove comes on track 20"}},
		{"another track at the first call", nil, track(0, 9), [5]string{0: "Long 1 to Cove comes on track 9"}},
		{"another track at the last call", nil, track(4, 1), [5]string{4: "Long 1 to Cove comes on track 1"}},
		{"the planned track again", list(track(1, 20)), track(1, 2), [5]string{1: "Long 1 to Cove comes on track 2"}},
		{"the planned track", nil, track(1, 2), [5]string{}},
		{"the track that is known", list(track(1, 20)), track(1, 20), [5]string{}},
		{"another track, late", list(late(0, 4)), track(1, 20), [5]string{1: "Long 1 to Cove comes on track 20"}},
		{"another track where it is", hereAt(1), track(1, 20), [5]string{}},
		{"another track behind where it is", hereAt(1), track(2, 20), [5]string{2: "Long 1 to Cove comes on track 20"}},
		{"another track where it was", arrivals(2), track(1, 20), [5]string{}},
		{"another track of a call that is off", list(stop(1)), track(2, 20), [5]string{}},
		{"another track ahead of what is off", list(stop(3)), track(0, 20), [5]string{0: "Long 1 to Elm comes on track 20"}},
		{"another track where it ends", list(stop(3)), track(2, 20), [5]string{2: "Long 1 to Elm comes on track 20"}},

		{"off from the first call", nil, stop(0), [5]string{off, off, off, off, off}},
		{"off from the third call", nil, stop(2), [5]string{"", "", off, off, off}},
		{"off at the last call", nil, stop(4), [5]string{4: off}},
		{"off and late", list(late(0, 4)), stop(3), [5]string{3: off, 4: off}},
		{"off where it is", hereAt(2), stop(2), [5]string{}},
		{"off behind where it is", hereAt(2), stop(3), [5]string{3: off, 4: off}},
		{"off where it was", arrivals(2), stop(1), [5]string{}},
		{"off behind where it was", arrivals(2), stop(2), [5]string{"", "", off, off, off}},
		{"off already", list(stop(2)), stop(2), [5]string{}},
		{"off already from one ahead", list(stop(2)), stop(4), [5]string{}},
		{"off from one ahead of what is off", list(stop(3)), stop(1), [5]string{1: "Long 1 to Elm does not come", 2: "Long 1 to Elm does not come"}},
		{"off from the first call, the others off", list(stop(1)), stop(0), [5]string{0: "Long 1 to Dell does not come"}},

		{"here at the first call", nil, here(0), [5]string{0: "Long 1 to Cove is here on track 1"}},
		{"here at the third call", arrivals(2), here(2), [5]string{2: "Long 1 to Cove is here on track 3"}},
		{"here on another track", append(arrivals(2), track(2, 20)), here(2), [5]string{2: "Long 1 to Cove is here on track 20"}},
		{"here, another track elsewhere", append(arrivals(2), track(3, 20)), here(2), [5]string{2: "Long 1 to Cove is here on track 3"}},
		{"here late", append(arrivals(2), late(2, 4)), here(2), [5]string{2: "Long 1 to Cove is here on track 3"}},
		{"here at the last call", arrivals(4), here(4), [5]string{4: "Long 1 ends here"}},
		{"here at the last call, on another track", append(arrivals(4), track(4, 9)), here(4), [5]string{4: "Long 1 ends here"}},
		{"here at the last call but one", arrivals(3), here(3), [5]string{3: "Long 1 to Cove is here on track 4"}},
		{"here where it ends early", append(arrivals(2), stop(3)), here(2), [5]string{2: "Long 1 ends here"}},
		{"here at the first call, where it ends", list(stop(1)), here(0), [5]string{0: "Long 1 ends here"}},
		{"here ahead of where it ends early", append(arrivals(1), stop(3)), here(1), [5]string{1: "Long 1 to Elm is here on track 2"}},
		{"here again", hereAt(2), here(2), [5]string{}},
		{"here again where it was", arrivals(2), here(1), [5]string{}},
		{"here where it is off", append(arrivals(2), stop(2)), here(2), [5]string{}},
		{"here ahead of having gone", hereAt(1), here(2), [5]string{}},

		{"gone from the first call", hereAt(0), gone(0), [5]string{0: "Long 1 to Cove goes"}},
		{"gone from the last call but one", hereAt(3), gone(3), [5]string{3: "Long 1 to Cove goes"}},
		{"gone late", hereAt(2, late(2, 4)), gone(2), [5]string{2: "Long 1 to Cove goes"}},
		{"gone from the last call", hereAt(4), gone(4), [5]string{}},
		{"gone without being here", arrivals(2), gone(2), [5]string{}},
		{"gone again", arrivals(2), gone(1), [5]string{}},
		{"gone where it is off", append(arrivals(2), stop(2)), gone(2), [5]string{}},
		{"gone ahead of where it ends early", hereAt(1, stop(4)), gone(1), [5]string{1: "Long 1 to Beck goes"}},
		{"gone from where it ends early", hereAt(1, stop(2)), gone(1), [5]string{1: "Long 1 to Ash goes"}},
	} {
		if got := lastOfLongTrip(t, c.name, c.before, c.r); got != c.want {
			t.Errorf("%s: got %q, want %q", c.name, got, c.want)
		}
	}
}

// A trip goes its way and is cut short; what its stations hear of it, all in order.
func TestWhatIsSaidOfAWholeTrip(t *testing.T) {
	b := plainBook()
	reports := []impl.Report{
		told(0, impl.RLate, 0, 0, 3),
		told(10, impl.RHere, 0, 0, 0),
		told(20, impl.RLate, 0, 0, 5),
		told(30, impl.RGone, 0, 0, 0),
		told(40, impl.RTrack, 0, 1, 9),
		told(40, impl.RLate, 0, 1, 0),
		told(50, impl.RStop, 0, 2, 0),
		told(60, impl.RLate, 0, 1, 8),
		told(70, impl.RHere, 0, 1, 0),
		told(80, impl.RGone, 0, 1, 0),
		told(90, impl.RHere, 0, 2, 0),
	}
	for station, want := range [][]impl.Said{
		{
			{Tick: 0, Text: "Coast 1 to Cove is late by 3"},
			{Tick: 10, Text: "Coast 1 to Cove is here on track 1"},
			{Tick: 20, Text: "Coast 1 to Cove is late by 5"},
			{Tick: 30, Text: "Coast 1 to Cove goes"},
		},
		{
			{Tick: 0, Text: "Coast 1 to Cove is late by 3"},
			{Tick: 20, Text: "Coast 1 to Cove is late by 5"},
			{Tick: 40, Text: "Coast 1 to Cove comes on track 9"},
			{Tick: 40, Text: "Coast 1 to Cove is on time"},
			{Tick: 70, Text: "Coast 1 ends here"},
			{Tick: 80, Text: "Coast 1 to Beck Hill goes"},
		},
		{
			{Tick: 50, Text: "Coast 1 to Cove does not come"},
		},
		nil,
	} {
		checkSaid(t, b.Stations[station], always(b, reports, station), want)
	}
}

// Reports of several trips at one tick are said in their order, each of its own trip.
func TestWhatIsSaidOfSeveralTrips(t *testing.T) {
	b := plainBook()
	reports := []impl.Report{
		told(5, impl.RTrack, 1, 1, 9),
		told(5, impl.RLate, 0, 0, 2),
		told(5, impl.RHere, 2, 0, 0),
		told(5, impl.RStop, 1, 1, 0),
		told(5, impl.RTrack, 0, 1, 9),
	}
	for station, want := range [][]impl.Said{
		{{Tick: 5, Text: "Coast 1 to Cove is late by 2"}, {Tick: 5, Text: "Hill 2 to Ash does not come"}},
		{
			{Tick: 5, Text: "Hill 2 to Ash comes on track 9"},
			{Tick: 5, Text: "Coast 1 to Cove is late by 2"},
			{Tick: 5, Text: "Hill 2 to Ash does not come"},
			{Tick: 5, Text: "Coast 1 to Cove comes on track 9"},
		},
		{{Tick: 5, Text: "Night 3 to Dell 4 is here on track 7"}},
		nil,
	} {
		checkSaid(t, b.Stations[station], always(b, reports, station), want)
	}
	wide := wideBook(30, 40, 20)
	checkSaid(t, "the last call of the last trip", always(wide, []impl.Report{told(1, impl.RStop, 39, 0, 0)}, 19),
		[]impl.Said{{Tick: 1, Text: "Trip 39 to Station 19 does not come"}})
	checkSaid(t, "the last call but one, late", always(wide, []impl.Report{told(1, impl.RLate, 39, 18, 5)}, 18),
		[]impl.Said{{Tick: 1, Text: "Trip 39 to Station 19 is late by 5"}})
}

// manySaid has one thing said for each tick from 0 on, at station 2 of plainBook, with the tick in its text.
func manySaid(from, to int) []impl.Said {
	var said []impl.Said
	for tick := from; tick <= to; tick++ {
		said = append(said, impl.Said{Tick: tick, Text: "Night 3 to Dell 4 is late by " + strconv.Itoa(tick+1)})
	}
	return said
}

func manyLate(n int) []impl.Report {
	reports := manyReports(n)
	for i := range reports {
		reports[i].Call = 0
	}
	return reports
}

func TestFromAndTo(t *testing.T) {
	b := plainBook()
	reports := manyLate(10)
	for _, c := range []struct {
		name     string
		from, to int
		want     []impl.Said
	}{
		{"all", 0, 9, manySaid(0, 9)},
		{"more than all", -1, 10, manySaid(0, 9)},
		{"whatever tick", math.MinInt, math.MaxInt, manySaid(0, 9)},
		{"some", 3, 6, manySaid(3, 6)},
		{"one", 4, 4, manySaid(4, 4)},
		{"the first", 0, 0, manySaid(0, 0)},
		{"the last", 9, 9, manySaid(9, 9)},
		{"from below 0", math.MinInt, 2, manySaid(0, 2)},
		{"to past MaxTick", 7, 1000001, manySaid(7, 9)},
		{"to far past MaxTick", 7, math.MaxInt, manySaid(7, 9)},
		{"below 0", -5, -1, nil},
		{"behind all", 10, 1000000, nil},
		{"past MaxTick", 1000001, math.MaxInt, nil},
		{"from one behind to", 5, 4, nil},
		{"from far behind to", math.MaxInt, math.MinInt, nil},
	} {
		checkSaid(t, c.name, impl.Say(b, reports, 2, c.from, c.to), c.want)
	}
	ends := []impl.Report{told(0, impl.RLate, 2, 0, 1), told(1000000, impl.RLate, 2, 0, 2)}
	first, last := impl.Said{Tick: 0, Text: "Night 3 to Dell 4 is late by 1"}, impl.Said{Tick: 1000000, Text: "Night 3 to Dell 4 is late by 2"}
	checkSaid(t, "the first and last tick", always(b, ends, 2), []impl.Said{first, last})
	checkSaid(t, "the last tick", impl.Say(b, ends, 2, 1, 1000000), []impl.Said{last})
	checkSaid(t, "neither", impl.Say(b, ends, 2, 1, 999999), nil)
}

// What was told ahead of from is known, said or not; what was told behind to is not.
func TestWhatIsSaidByWhatWasKnown(t *testing.T) {
	b := plainBook()
	reports := []impl.Report{
		told(1, impl.RStop, 0, 2, 0), told(2, impl.RHere, 0, 0, 0), told(3, impl.RLate, 0, 0, 4), told(4, impl.RLate, 0, 0, 4), told(5, impl.RStop, 0, 1, 0),
	}
	checkSaid(t, "late", impl.Say(b, reports, 0, 3, 3), []impl.Said{{Tick: 3, Text: "Coast 1 to Beck Hill is late by 4"}})
	checkSaid(t, "late again", impl.Say(b, reports, 0, 4, 4), nil)
	checkSaid(t, "off by where it ended ahead of that", impl.Say(b, reports, 1, 5, 5), []impl.Said{{Tick: 5, Text: "Coast 1 to Beck Hill does not come"}})
	checkSaid(t, "nothing where it was off", impl.Say(b, reports, 2, 5, 5), nil)
}

func TestStationsWhereSomethingIsSaid(t *testing.T) {
	b := plainBook()
	stop := []impl.Report{told(1, impl.RStop, 1, 0, 0)}
	for station, want := range map[int]int{
		math.MinInt: 0, -1: 0, 0: 1, 1: 1, 2: 0, 3: 1, 4: 0, 5: 0, math.MaxInt: 0,
	} {
		if got := always(b, stop, station); len(got) != want {
			t.Errorf("station %d: got %+v", station, got)
		}
	}
	wide := wideBook(30, 1, 20)
	wide.Trips[0].Calls[18].Station = 29
	stop[0].Trip = 0
	for station, want := range map[int]int{17: 1, 18: 0, 19: 1, 29: 1, 30: 0} {
		if got := always(wide, stop, station); len(got) != want {
			t.Errorf("wide, station %d: got %+v", station, got)
		}
	}
	checkSaid(t, "nothing", always(impl.Book{}, nil, 0), nil)
	checkSaid(t, "no trips", always(impl.Book{Stations: []string{"Ash"}}, nil, 0), nil)
}

func TestNothingIsSaidOfWrongBooks(t *testing.T) {
	books := wrongBooks()
	books["too many of all"] = wideBook(31, 41, 21)
	for name, b := range books {
		for _, reports := range [][]impl.Report{nil, rightReports(5, 0, 0), {told(5, impl.RStop, 1, 0, 0)}} {
			for station := range b.Stations {
				checkSaid(t, name, always(b, reports, station), nil)
			}
			for trip := -1; trip <= len(b.Trips); trip++ {
				checkOnward(t, name, impl.Onward(b, reports, trip, 5), nil)
			}
		}
	}
}

// What makes Known nothing makes what is said so, and where a trip goes, told ahead of the ticks or behind them.
func TestNothingIsSaidOfWrongReports(t *testing.T) {
	b := plainBook()
	for name, reports := range map[string][]impl.Report{
		"too many":         manyLate(501),
		"a wrong Op":       {told(5, impl.RLate, 2, 0, 1), told(5, 6, 0, 0, 0)},
		"no Op":            {told(5, impl.RLate, 2, 0, 1), told(5, 0, 0, 0, 0)},
		"a far Op":         {told(5, impl.RLate, 2, 0, 1), told(5, math.MaxInt, 0, 0, 0)},
		"a wrong Trip":     {told(5, impl.RLate, 2, 0, 1), told(5, impl.RLate, 3, 0, 1)},
		"a Trip below 0":   {told(5, impl.RLate, 2, 0, 1), told(5, impl.RLate, -1, 0, 1)},
		"a wrong Call":     {told(5, impl.RLate, 2, 0, 1), told(5, impl.RLate, 0, 3, 1)},
		"a Call below 0":   {told(5, impl.RLate, 2, 0, 1), told(5, impl.RLate, 0, -1, 1)},
		"a wrong N":        {told(5, impl.RLate, 2, 0, 1), told(5, impl.RLate, 0, 0, 100001)},
		"a wrong Tick":     {told(5, impl.RLate, 2, 0, 1), told(1000001, impl.RLate, 0, 0, 1)},
		"a Tick below 0":   {told(-1, impl.RLate, 2, 0, 1), told(5, impl.RLate, 2, 0, 2)},
		"not in order":     {told(6, impl.RLate, 2, 0, 1), told(5, impl.RLate, 2, 0, 2)},
		"one behind right": append(manyLate(9), told(900, impl.RTrack, 0, 0, 21)),
	} {
		for _, to := range []int{5, 899, 1000, 1000000, math.MaxInt} {
			checkSaid(t, name, impl.Say(b, reports, 2, -1, to), nil)
			checkOnward(t, name, impl.Onward(b, reports, 2, to), nil)
		}
		checkOnward(t, name, impl.Onward(b, reports, 2, -1), nil)
	}
	checkSaid(t, "as many as there may be", always(b, manyLate(500), 2), manySaid(0, 499))
	checkOnward(t, "as many as there may be", impl.Onward(b, manyLate(500), 2, 1000), []int{2, 3})
}

// Where the trip of longTrip still goes, whose stations are 3, 0, 4, 1, 2.
func TestOnward(t *testing.T) {
	late, here, stop := told(1, impl.RLate, 0, 0, 9), told(1, impl.RHere, 0, 0, 0), told(1, impl.RStop, 0, 0, 0)
	at := func(r impl.Report, call int) impl.Report {
		r.Call = call
		return r
	}
	for _, c := range []struct {
		name    string
		reports []impl.Report
		want    []int
	}{
		{"nothing told", nil, []int{3, 0, 4, 1, 2}},
		{"late", []impl.Report{late}, []int{3, 0, 4, 1, 2}},
		{"on another track", []impl.Report{told(1, impl.RTrack, 0, 2, 9)}, []int{3, 0, 4, 1, 2}},
		{"here at its first call", []impl.Report{here}, []int{3, 0, 4, 1, 2}},
		{"gone from its first call", arrivals(1), []int{0, 4, 1, 2}},
		{"here at its second call", append(arrivals(1), at(here, 1)), []int{0, 4, 1, 2}},
		{"gone from its third call", arrivals(3), []int{1, 2}},
		{"gone from all but its last call", arrivals(4), []int{2}},
		{"here at its last call", append(arrivals(4), at(here, 4)), []int{2}},
		{"off from its last call", []impl.Report{at(stop, 4)}, []int{3, 0, 4, 1}},
		{"off from its third call", []impl.Report{at(stop, 2)}, []int{3, 0}},
		{"off from its second call", []impl.Report{at(stop, 1)}, []int{3}},
		{"off from its first call", []impl.Report{stop}, nil},
		{"off from its last, then from its first call", []impl.Report{at(stop, 4), stop}, nil},
		{"off from its first call, then more", []impl.Report{stop, late, here, at(late, 2)}, nil},
		{"gone from one, off from its fourth call", append(arrivals(1), at(stop, 3)), []int{0, 4}},
		{"here at its second call, off behind it", append(arrivals(1), at(here, 1), at(stop, 2)), []int{0}},
		{"gone from two, off behind them", append(arrivals(2), at(stop, 2)), nil},
		{"a stop that does not count", append(arrivals(1), stop), []int{0, 4, 1, 2}},
	} {
		for _, tick := range []int{1, 2, 1000000, 1000001, math.MaxInt} {
			checkOnward(t, c.name, impl.Onward(longTrip(), c.reports, 0, tick), c.want)
		}
		for _, tick := range []int{0, -1, math.MinInt} {
			checkOnward(t, c.name+", ahead of that", impl.Onward(longTrip(), c.reports, 0, tick), []int{3, 0, 4, 1, 2})
		}
	}
}

func TestTicksOfOnward(t *testing.T) {
	b := plainBook()
	reports := []impl.Report{
		told(0, impl.RHere, 1, 0, 0), told(5, impl.RGone, 1, 0, 0), told(7, impl.RStop, 1, 2, 0), told(1000000, impl.RStop, 1, 1, 0),
	}
	for tick, want := range map[int][]int{
		math.MinInt: {3, 1, 0}, -1: {3, 1, 0}, 0: {3, 1, 0}, 4: {3, 1, 0}, 5: {1, 0}, 6: {1, 0}, 7: {1}, 999999: {1},
		1000000: nil, 1000001: nil, math.MaxInt: nil,
	} {
		checkOnward(t, "at tick "+strconv.Itoa(tick), impl.Onward(b, reports, 1, tick), want)
	}
}

func TestTripsOfOnward(t *testing.T) {
	b := plainBook()
	for trip, want := range map[int][]int{
		math.MinInt: nil, -1: nil, 0: {0, 1, 2}, 1: {3, 1, 0}, 2: {2, 3}, 3: nil, 4: nil, math.MaxInt: nil,
	} {
		checkOnward(t, "trip "+strconv.Itoa(trip), impl.Onward(b, nil, trip, 50), want)
	}
	wide := wideBook(30, 40, 20)
	for trip, want := range map[int]int{0: 20, 38: 20, 39: 19, 40: 0} {
		if got := impl.Onward(wide, []impl.Report{told(1, impl.RStop, 39, 19, 0)}, trip, 50); len(got) != want {
			t.Errorf("wide, trip %d: got %v", trip, got)
		}
	}
	checkOnward(t, "nothing", impl.Onward(impl.Book{}, nil, 0, 0), nil)
	checkOnward(t, "no trips", impl.Onward(impl.Book{Stations: []string{"Ash"}}, nil, 0, 0), nil)
}

// A trip that is called off from its first call on goes nowhere, from that tick on, and each of its stations is told so once.
func TestATripThatIsOffGoesNowhere(t *testing.T) {
	from := rand.New(rand.NewSource(8))
	books := []impl.Book{plainBook(), longTrip(), wideBook(30, 40, 20)}
	for range 20 {
		books = append(books, randomBook(from))
	}
	for _, b := range books {
		for trip := range b.Trips {
			reports := []impl.Report{told(3, impl.RStop, trip, 0, 0), told(4, impl.RStop, trip, 0, 0), told(5, impl.RHere, trip, 0, 0), told(6, impl.RLate, trip, 1, 6)}
			checkOnward(t, "ahead of that", impl.Onward(b, reports, trip, 2), stationsOf(b, trip))
			for _, tick := range []int{3, 6, 1000000} {
				checkOnward(t, "behind that", impl.Onward(b, reports, trip, tick), nil)
			}
			end := b.Stations[stationsOf(b, trip)[len(b.Trips[trip].Calls)-1]]
			for _, station := range stationsOf(b, trip) {
				checkSaid(t, "off", always(b, reports, station), []impl.Said{{Tick: 3, Text: b.Trips[trip].Name + " to " + end + " does not come"}})
			}
			checkShownAsOff(t, b, reports, trip)
		}
	}
}

func stationsOf(b impl.Book, trip int) []int {
	var stations []int
	for _, call := range b.Trips[trip].Calls {
		stations = append(stations, call.Station)
	}
	return stations
}

// checkShownAsOff asks the boards where a trip would have gone on, up to ten ticks behind its time and one tick later.
func checkShownAsOff(t *testing.T, b impl.Book, reports []impl.Report, trip int) {
	t.Helper()
	calls := b.Trips[trip].Calls
	for _, call := range calls[:len(calls)-1] {
		for _, c := range []struct{ tick, want int }{{max(3, call.Go), 1}, {call.Go + 10, 1}, {call.Go + 11, 0}} {
			rows := 0
			for _, row := range impl.Board(b, reports, call.Station, c.tick, 40) {
				if row.Trip == trip {
					rows++
					if row.State != impl.SOff {
						t.Errorf("shown as %+v", row)
					}
				}
			}
			if rows != c.want {
				t.Errorf("tick %d, which goes at %d: got %d rows, want %d", c.tick, call.Go, rows, c.want)
			}
		}
	}
}

// slowSaid says what chapter 4 says of one report, by what was known ahead of it, on top of slowCounts.
func slowSaid(b impl.Book, news [][]impl.News, r impl.Report, station int) string {
	calls, row := b.Trips[r.Trip].Calls, news[r.Trip]
	at, ends := -1, ""
	for i := range calls {
		if calls[i].Station == station {
			at = i
		}
		if !row[i].Off {
			ends = b.Stations[calls[i].Station]
		}
	}
	if !slowCounts(b, news, r) || at < r.Call || at > r.Call && r.Op != 1 && r.Op != 3 {
		return ""
	}
	if row[at].Gone || row[at].Off || row[at].Here && r.Op != 1 && r.Op != 5 {
		return ""
	}
	isEnd := at == len(calls)-1 || b.Stations[station] == ends
	name := b.Trips[r.Trip].Name
	switch {
	case r.Op == 1 && (isEnd || row[at].Late == r.N):
		return ""
	case r.Op == 1 && r.N == 0:
		return name + " to " + ends + " is on time"
	case r.Op == 4 && isEnd:
		return name + " ends here"
	}
	return name + " to " + ends + []string{
		"", " is late by " + strconv.Itoa(r.N), " comes on track " + strconv.Itoa(r.N), " does not come", " is here on track " + strconv.Itoa(row[at].Track), " goes",
	}[r.Op]
}

func slowSay(b impl.Book, reports []impl.Report, station, from, to int) []impl.Said {
	var said []impl.Said
	for i, r := range reports {
		text := slowSaid(b, slowKnown(b, reports[:i], r.Tick), r, station)
		if text != "" && from <= r.Tick && r.Tick <= to {
			said = append(said, impl.Said{Tick: r.Tick, Text: text})
		}
	}
	return said
}

func slowOnward(b impl.Book, reports []impl.Report, trip, tick int) []int {
	var stations []int
	for i, now := range slowKnown(b, reports, tick)[trip] {
		if now.Gone || now.Off {
			continue
		}
		stations = append(stations, b.Trips[trip].Calls[i].Station)
	}
	return stations
}

// tellingReports go with the trips, so that many count at every call: here and gone are told by turns, and a late one often is on time again.
func tellingReports(from *rand.Rand, b impl.Book, n int) []impl.Report {
	reports := randomReports(from, b, n)
	turns := make([]int, len(b.Trips))
	for i := range reports {
		r := &reports[i]
		if r.Op == impl.RTrack && from.Intn(2) == 0 {
			r.Op = impl.RLate
		}
		if r.Op == impl.RLate && from.Intn(2) == 0 {
			r.N = 0
		}
		if r.Op == impl.RHere || r.Op == impl.RGone {
			r.Op = impl.RHere + turns[r.Trip]%2
			r.Call = min(turns[r.Trip]/2, len(b.Trips[r.Trip].Calls)-1)
			turns[r.Trip]++
		}
	}
	return reports
}

func TestWhatIsSaidOfRandomReports(t *testing.T) {
	from := rand.New(rand.NewSource(9))
	kinds, said := []string{" late ", " on time", " comes ", " does not ", " ends ", " is here ", " goes"}, map[string]int{}
	for range 600 {
		b := randomBook(from)
		reports := tellingReports(from, b, 1+from.Intn(80))
		for station := range b.Stations {
			first, last := from.Intn(40)-2, from.Intn(90)
			want := slowSay(b, reports, station, first, last)
			checkSaid(t, "random reports", impl.Say(b, reports, station, first, last), want)
			for _, s := range want {
				for _, kind := range kinds {
					said[kind] += strings.Count(s.Text, kind)
				}
			}
		}
		for trip := range b.Trips {
			tick := from.Intn(70) - 2
			checkOnward(t, "random reports", impl.Onward(b, reports, trip, tick), slowOnward(b, reports, trip, tick))
		}
	}
	for _, kind := range kinds {
		if said[kind] < 100 {
			t.Errorf("%q was said only %d times: too few to tell", kind, said[kind])
		}
	}
}

// What is said in a time is what is said in its two pieces, wherever it is cut.
func TestWhatIsSaidInTwoPieces(t *testing.T) {
	from := rand.New(rand.NewSource(10))
	for range 60 {
		b := randomBook(from)
		reports := tellingReports(from, b, 40)
		last := reports[len(reports)-1].Tick
		for station := range b.Stations {
			whole := impl.Say(b, reports, station, 0, last)
			for cut := -1; cut <= last+1; cut++ {
				pieces := append(impl.Say(b, reports, station, 0, cut), impl.Say(b, reports, station, cut+1, last)...)
				checkSaid(t, "cut behind "+strconv.Itoa(cut), pieces, whole)
			}
		}
	}
}

// What was told twice is said once: a report that is said again just behind itself changes nothing, wherever it stands.
func TestAReportSaidAgain(t *testing.T) {
	from := rand.New(rand.NewSource(11))
	for range 60 {
		b := randomBook(from)
		reports := tellingReports(from, b, 30)
		for at := range reports {
			twice := saidAgain(reports, at)
			for station := range b.Stations {
				checkSaid(t, "a report twice", always(b, twice, station), always(b, reports, station))
				checkBoard(t, "a report twice", impl.Board(b, twice, station, reports[at].Tick, 40), impl.Board(b, reports, station, reports[at].Tick, 40))
			}
			for trip := range b.Trips {
				checkOnward(t, "a report twice", impl.Onward(b, twice, trip, reports[at].Tick), impl.Onward(b, reports, trip, reports[at].Tick))
			}
		}
	}
}

// Each Op by itself, told twice at one tick and at a later one.
func TestEachOpSaidAgain(t *testing.T) {
	for _, c := range []struct {
		before []impl.Report
		r      impl.Report
	}{
		{nil, told(2, impl.RLate, 0, 1, 5)},
		{[]impl.Report{told(1, impl.RLate, 0, 0, 5)}, told(2, impl.RLate, 0, 1, 0)},
		{nil, told(2, impl.RTrack, 0, 1, 9)},
		{nil, told(2, impl.RStop, 0, 1, 0)},
		{arrivals(1), told(2, impl.RHere, 0, 1, 0)},
		{append(arrivals(1), told(1, impl.RHere, 0, 1, 0)), told(2, impl.RGone, 0, 1, 0)},
	} {
		again := c.r
		again.Tick = 3
		once := append(append([]impl.Report(nil), c.before...), c.r)
		twice := append(append([]impl.Report(nil), once...), c.r, again)
		if got := impl.Say(longTrip(), twice, 0, 2, 3); len(got) != 1 {
			t.Errorf("%+v: got %+v", c.r, got)
		}
		checkSaid(t, "told twice", always(longTrip(), twice, 0), always(longTrip(), once, 0))
		checkOnward(t, "told twice", impl.Onward(longTrip(), twice, 0, 3), impl.Onward(longTrip(), once, 0, 3))
	}
}

func TestNothingIsSaidWhereNothingWasTold(t *testing.T) {
	from := rand.New(rand.NewSource(12))
	books := []impl.Book{plainBook(), longTrip(), departures(5, 4), wideBook(30, 40, 20), {}}
	for range 20 {
		books = append(books, randomBook(from))
	}
	for _, b := range books {
		for station := -1; station <= len(b.Stations); station++ {
			checkSaid(t, "nil", impl.Say(b, nil, station, math.MinInt, math.MaxInt), nil)
			checkSaid(t, "no reports", impl.Say(b, []impl.Report{}, station, 0, 1000000), nil)
		}
		for trip := range b.Trips {
			checkOnward(t, "the plan", impl.Onward(b, nil, trip, 500), stationsOf(b, trip))
		}
	}
}

// What was told behind a tick changes nothing of what is said up to it, and of where a trip goes at it.
func TestWhatIsSaidHangsOnWhatWasToldByThen(t *testing.T) {
	from := rand.New(rand.NewSource(13))
	for range 200 {
		b := randomBook(from)
		reports := tellingReports(from, b, 40)
		tick := reports[from.Intn(len(reports))].Tick
		byThen := toldBy(reports, tick)
		other := append(append([]impl.Report(nil), byThen...), told(tick+1, impl.RStop, 0, 0, 0), told(tick+1, impl.RLate, 0, 0, 77))
		for station := range b.Stations {
			want := always(b, byThen, station)
			checkSaid(t, "all reports", impl.Say(b, reports, station, 0, tick), want)
			checkSaid(t, "other reports behind the tick", impl.Say(b, other, station, 0, tick), want)
		}
		for trip := range b.Trips {
			want := impl.Onward(b, byThen, trip, 1000000)
			checkOnward(t, "all reports", impl.Onward(b, reports, trip, tick), want)
			checkOnward(t, "other reports behind the tick", impl.Onward(b, other, trip, tick), want)
		}
	}
}

func TestWhatIsSaidIsNotWritten(t *testing.T) {
	checkNotWritten(t, func(name string, b impl.Book, reports []impl.Report) {
		for station := range 4 {
			checkSaid(t, name+", asked again", always(b, reports, station), always(b, reports, station))
		}
		for trip := range 4 {
			checkOnward(t, name+", asked again", impl.Onward(b, reports, trip, 41), impl.Onward(b, reports, trip, 41))
		}
	})
}

// Writing into all of an answer, and behind its end where there is room, shows in no argument and no later answer.
func TestWhatIsSaidIsNewMemory(t *testing.T) {
	b, reports := plainBook(), manyLate(20)
	oldBook, oldReports := copyBook(b), append([]impl.Report(nil), reports...)
	for n := range 21 {
		got := impl.Say(b, reports, 2, 0, n-1)
		room := got[:cap(got)]
		for i := range room {
			room[i] = impl.Said{Tick: -1, Text: "other"}
		}
		checkSaid(t, "asked again", impl.Say(b, reports, 2, 0, n-1), manySaid(0, n-1))
	}
	for trip := range b.Trips {
		got := impl.Onward(b, reports, trip, 5)
		room := got[:cap(got)]
		for i := range room {
			room[i] = -1
		}
		checkOnward(t, "asked again", impl.Onward(b, reports, trip, 5), stationsOf(b, trip))
	}
	if !reflect.DeepEqual(b, oldBook) || !reflect.DeepEqual(reports, oldReports) {
		t.Error("an answer shares memory with an argument")
	}
}
