package impl

import (
	"errors"
	"strconv"
)

const (
	MaxStations = 30
	MaxTrips    = 40
	MaxCalls    = 20
	MaxName     = 20
	MaxTick     = 1000000
)

const (
	minCalls = 2
	maxTrack = 20
)

const (
	faultTooMany  = 1
	faultStation  = 2
	faultTrip     = 3
	faultTripName = 4
)

var (
	errTooMany      = errors.New("more stations or trips than a book may have")
	errNoName       = errors.New("not a name")
	errNameTwice    = errors.New("a name that one ahead has")
	errCallCount    = errors.New("fewer or more calls than a trip may have")
	errNoStation    = errors.New("a station that there is not")
	errStationTwice = errors.New("a station that a call ahead has")
	errTime         = errors.New("a time out of order or out of range")
	errTrack        = errors.New("a track that there is not")
)

// Call is a trip at a station: when it comes, when it goes, on which track.
type Call struct {
	Station int
	Come    int
	Go      int
	Track   int
}

// Trip is a train's calls, in order.
type Trip struct {
	Name  string
	Calls []Call
}

// Book is the stations by their names, and all trips.
type Book struct {
	Stations []string
	Trips    []Trip
}

// Fault is what is wrong with a book, and at which station or trip.
type Fault struct {
	Code int
	At   int
}

// faultError carries a fault with its place up to BookOk, around the cause that a check found without knowing the place.
type faultError struct {
	fault Fault
	cause error
}

func (e faultError) Error() string {
	return "fault " + strconv.Itoa(e.fault.Code) + " at " + strconv.Itoa(e.fault.At) + ": " + e.cause.Error()
}

func (e faultError) Unwrap() error { return e.cause }

// BookOk is the zero value for a book that is right, else its first fault, by code and then by place.
func BookOk(b Book) Fault {
	var found faultError
	if errors.As(checkBook(b), &found) {
		return found.fault
	}
	return Fault{}
}

// CallAt is the call of a trip at a station, or -1 when there is none or the book is not right.
func CallAt(b Book, trip, station int) int {
	if !isRight(b) || trip < 0 || trip >= len(b.Trips) {
		return -1
	}
	return callOf(b.Trips[trip], station)
}

// callOf is for those who know the book to be right: it is -1 when the trip has no call there.
func callOf(trip Trip, station int) int {
	if call, ok := callsByStation(trip.Calls)[station]; ok {
		return call
	}
	return -1
}

func isRight(b Book) bool { return BookOk(b) == Fault{} }

// checkBook checks in the order of the codes, so that the first error it meets is the first fault.
func checkBook(b Book) error {
	if len(b.Stations) > MaxStations || len(b.Trips) > MaxTrips {
		return faultError{fault: Fault{Code: faultTooMany}, cause: errTooMany}
	}
	if err := checkNames(b.Stations, faultStation); err != nil {
		return err
	}
	if err := checkTrips(b); err != nil {
		return err
	}
	// Every trip's name is one by now: what this can still find is a name that stands twice.
	return checkNames(tripNames(b.Trips), faultTripName)
}

func checkNames(names []string, code int) error {
	places := make(map[string]int, len(names))
	for i, name := range names {
		if !isName(name) {
			return faultError{fault: Fault{Code: code, At: i}, cause: errNoName}
		}
		if _, taken := places[name]; taken {
			return faultError{fault: Fault{Code: code, At: i}, cause: errNameTwice}
		}
		places[name] = i
	}
	return nil
}

func checkTrips(b Book) error {
	for i, trip := range b.Trips {
		if err := checkTrip(trip, len(b.Stations)); err != nil {
			return faultError{fault: Fault{Code: faultTrip, At: i}, cause: err}
		}
	}
	return nil
}

func checkTrip(trip Trip, stations int) error {
	if !isName(trip.Name) {
		return errNoName
	}
	if len(trip.Calls) < minCalls || len(trip.Calls) > MaxCalls {
		return errCallCount
	}
	gone := 0
	for _, call := range trip.Calls {
		if err := checkCall(call, stations, gone); err != nil {
			return err
		}
		gone = call.Go
	}
	if len(callsByStation(trip.Calls)) < len(trip.Calls) {
		return errStationTwice
	}
	return nil
}

// checkCall checks a call by itself and against when the trip had gone from the call before it.
func checkCall(call Call, stations, gone int) error {
	if call.Station < 0 || call.Station >= stations {
		return errNoStation
	}
	// gone is 0 or more and Come is not above Go, so these hold both of them in 0 .. MaxTick.
	if call.Come < gone || call.Go < call.Come || call.Go > MaxTick {
		return errTime
	}
	if call.Track < 1 || call.Track > maxTrack {
		return errTrack
	}
	return nil
}

// callsByStation has fewer entries than there are calls when two of them are at one station.
func callsByStation(calls []Call) map[int]int {
	places := make(map[int]int, len(calls))
	for i, call := range calls {
		places[call.Station] = i
	}
	return places
}

func tripNames(trips []Trip) []string {
	names := make([]string, len(trips))
	for i, trip := range trips {
		names[i] = trip.Name
	}
	return names
}

func isName(text string) bool {
	if len(text) > MaxName {
		return false
	}
	// The beginning counts as a blank: so a blank may not stand there, nor at the end, nor behind another, and no text at all is no name.
	blank := true
	for i := 0; i < len(text); i++ {
		if text[i] == ' ' && !blank {
			blank = true
		} else if isLetterOrDigit(text[i]) {
			blank = false
		} else {
			return false
		}
	}
	return !blank
}

func isLetterOrDigit(c byte) bool {
	return c >= 'a' && c <= 'z' || c >= 'A' && c <= 'Z' || c >= '0' && c <= '9'
}
