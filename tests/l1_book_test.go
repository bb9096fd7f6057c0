package tests

import (
	"math"
	"reflect"
	"strings"
	"testing"

	"loop.example/tannoy/impl"
)

// bend is a change to plainBook and the fault that it alone brings.
type bend struct {
	name string
	do   func(b *impl.Book)
	want impl.Fault
}

func right() impl.Fault { return impl.Fault{} }

func fault(code, at int) impl.Fault { return impl.Fault{Code: code, At: at} }

func checkBends(t *testing.T, bends []bend) {
	t.Helper()
	for _, c := range bends {
		b := plainBook()
		c.do(&b)
		if got := impl.BookOk(b); got != c.want {
			t.Errorf("%s: got %v, want %v", c.name, got, c.want)
		}
	}
}

func TestRightBooks(t *testing.T) {
	sharedName := plainBook()
	sharedName.Trips[0].Name = sharedName.Stations[0]
	otherCase := plainBook()
	otherCase.Stations[1] = "ash"
	otherCase.Trips[1].Name = "coast 1"
	for name, b := range map[string]impl.Book{
		"plain":                             plainBook(),
		"nothing":                           {},
		"empty lists":                       {Stations: []string{}, Trips: []impl.Trip{}},
		"stations alone":                    {Stations: []string{"Ash"}},
		"a trip with the name of a station": sharedName,
		"names that differ by case":         otherCase,
	} {
		if got := impl.BookOk(b); got != right() {
			t.Errorf("%s: got %v", name, got)
		}
	}
}

func TestBookSizes(t *testing.T) {
	for _, c := range []struct {
		name                   string
		stations, trips, calls int
		want                   impl.Fault
	}{
		{"30 stations", 30, 1, 2, right()},
		{"31 stations", 31, 1, 2, fault(1, 0)},
		{"31 stations, no trips", 31, 0, 0, fault(1, 0)},
		{"40 trips", 2, 40, 2, right()},
		{"41 trips", 2, 41, 2, fault(1, 0)},
		{"30 stations, 40 trips, 20 calls", 30, 40, 20, right()},
		{"31 stations, 41 trips, 21 calls", 31, 41, 21, fault(1, 0)},
		{"no calls", 30, 1, 0, fault(3, 0)},
		{"1 call", 30, 1, 1, fault(3, 0)},
		{"2 calls", 30, 1, 2, right()},
		{"20 calls", 30, 1, 20, right()},
		{"21 calls", 30, 1, 21, fault(3, 0)},
		{"trips without a station", 0, 1, 2, fault(3, 0)},
	} {
		if got := impl.BookOk(wideBook(c.stations, c.trips, c.calls)); got != c.want {
			t.Errorf("%s: got %v, want %v", c.name, got, c.want)
		}
	}
}

func TestNames(t *testing.T) {
	for _, c := range []struct {
		name string
		ok   bool
	}{
		{"", false},
		{"a", true},
		{"7", true},
		{strings.Repeat("x", 20), true},
		{strings.Repeat("x", 21), false},
		{strings.Repeat("a ", 9) + "bc", true},
		{strings.Repeat("a ", 10) + "b", false},
		{"a b", true},
		{"a b c", true},
		{"1 A z", true},
		{"a  b", false},
		{"a b  c", false},
		{"a   b", false},
		{" ", false},
		{"  ", false},
		{" a", false},
		{"a ", false},
		{" a b", false},
		{"a b ", false},
		{"a\tb", false},
		{"a\nb", false},
		{"a\x00", false},
		{"a-b", false},
		{"a_b", false},
		{"\u00e4", false},
		{"a\u00a0b", false},
		{"\xff\xfe", false},
		{strings.Repeat("x", 100000), false},
	} {
		checkName(t, c.name, c.ok)
	}
}

func TestNameBytes(t *testing.T) {
	const letters = "abcdefghijklmnopqrstuvwxyzABCDEFGHIJKLMNOPQRSTUVWXYZ0123456789"
	for c := range 256 {
		one := string([]byte{byte(c)})
		ok := strings.Contains(letters, one)
		checkName(t, one, ok)
		checkName(t, "p"+one+"q", ok || c == ' ')
	}
}

// checkName asks for a name at both of its places: of a station, and of a trip.
func checkName(t *testing.T, name string, ok bool) {
	t.Helper()
	checkNameAt(t, name, ok, fault(2, 2), func(b *impl.Book) { b.Stations[2] = name })
	checkNameAt(t, name, ok, fault(3, 1), func(b *impl.Book) { b.Trips[1].Name = name })
}

func checkNameAt(t *testing.T, name string, ok bool, want impl.Fault, do func(b *impl.Book)) {
	t.Helper()
	if ok {
		want = right()
	}
	b := plainBook()
	do(&b)
	if got := impl.BookOk(b); got != want {
		t.Errorf("name %.40q: got %v, want %v", name, got, want)
	}
}

func TestNamesTwice(t *testing.T) {
	checkBends(t, []bend{
		{"the next station", func(b *impl.Book) { b.Stations[1] = "Ash" }, fault(2, 1)},
		{"the last station", func(b *impl.Book) { b.Stations[3] = "Ash" }, fault(2, 3)},
		{"three stations", func(b *impl.Book) { b.Stations[2], b.Stations[3] = "Ash", "Ash" }, fault(2, 2)},
		{"two pairs of stations", func(b *impl.Book) { b.Stations[3], b.Stations[2] = "Ash", "Beck Hill" }, fault(2, 2)},
		{"the next trip", func(b *impl.Book) { b.Trips[1].Name = "Coast 1" }, fault(4, 1)},
		{"the last trip", func(b *impl.Book) { b.Trips[2].Name = "Coast 1" }, fault(4, 2)},
		{"three trips", func(b *impl.Book) { b.Trips[1].Name, b.Trips[2].Name = "Coast 1", "Coast 1" }, fault(4, 1)},
	})
}

func TestCallStations(t *testing.T) {
	checkBends(t, []bend{
		{"the last station", func(b *impl.Book) { b.Trips[0].Calls[1].Station = 3 }, right()},
		{"one behind the last", func(b *impl.Book) { b.Trips[0].Calls[1].Station = 4 }, fault(3, 0)},
		{"below the first", func(b *impl.Book) { b.Trips[1].Calls[2].Station = -1 }, fault(3, 1)},
		{"far above", func(b *impl.Book) { b.Trips[0].Calls[1].Station = math.MaxInt }, fault(3, 0)},
		{"far below", func(b *impl.Book) { b.Trips[0].Calls[1].Station = math.MinInt }, fault(3, 0)},
		{"that of the call before", func(b *impl.Book) { b.Trips[2].Calls[1].Station = 2 }, fault(3, 2)},
		{"that of the first call", func(b *impl.Book) { b.Trips[1].Calls[2].Station = 3 }, fault(3, 1)},
	})
}

func TestCallTimes(t *testing.T) {
	checkBends(t, []bend{
		{"Come is the Go before", func(b *impl.Book) { b.Trips[0].Calls[1].Come = 105 }, right()},
		{"Come is one below the Go before", func(b *impl.Book) { b.Trips[0].Calls[1].Come = 104 }, fault(3, 0)},
		{"the last Come is the Go before", func(b *impl.Book) { b.Trips[0].Calls[2].Come = 125 }, right()},
		{"the last Come is one below the Go before", func(b *impl.Book) { b.Trips[0].Calls[2].Come = 124 }, fault(3, 0)},
		{"Come is the Come before, its Go above", func(b *impl.Book) { b.Trips[1].Calls[1].Come = 90 }, fault(3, 1)},
		{"Go is its Come", func(b *impl.Book) { b.Trips[0].Calls[1].Go = 120 }, right()},
		{"Go is one below its Come", func(b *impl.Book) { b.Trips[0].Calls[1].Go = 119 }, fault(3, 0)},
		{"the first Go is its Come", func(b *impl.Book) { b.Trips[0].Calls[0].Go = 100 }, right()},
		{"the first Go is one below its Come", func(b *impl.Book) { b.Trips[0].Calls[0].Go = 99 }, fault(3, 0)},
		{"the last Go is its Come", func(b *impl.Book) { b.Trips[2].Calls[1].Go = 320 }, right()},
		{"the last Go is one below its Come", func(b *impl.Book) { b.Trips[2].Calls[1].Go = 319 }, fault(3, 2)},
		{"the first Come at 0", func(b *impl.Book) { b.Trips[0].Calls[0].Come = 0 }, right()},
		{"the first Come at -1", func(b *impl.Book) { b.Trips[0].Calls[0].Come = -1 }, fault(3, 0)},
		{"the first Come and Go at 0", setTimes(0, 0, 0), right()},
		{"the first Come and Go at -1", setTimes(0, -1, -1), fault(3, 0)},
		{"the last Go at MaxTick", setTimes(2, 140, 1000000), right()},
		{"the last Go above MaxTick", setTimes(2, 140, 1000001), fault(3, 0)},
		{"the last Come and Go at MaxTick", setTimes(2, 1000000, 1000000), right()},
		{"the last Come and Go above MaxTick", setTimes(2, 1000001, 1000001), fault(3, 0)},
		{"Come above MaxTick, Go at it", setTimes(2, 1000001, 1000000), fault(3, 0)},
		{"the greatest numbers", setTimes(2, math.MaxInt, math.MaxInt), fault(3, 0)},
		{"the least numbers", setTimes(0, math.MinInt, math.MinInt), fault(3, 0)},
		{"from the least to the greatest", setTimes(1, math.MinInt, math.MaxInt), fault(3, 0)},
	})
}

func TestAllCallsAtOneTick(t *testing.T) {
	for tick, want := range map[int]impl.Fault{-1: fault(3, 0), 0: right(), 500: right(), 1000000: right(), 1000001: fault(3, 0)} {
		b := wideBook(20, 1, 20)
		for i := range b.Trips[0].Calls {
			b.Trips[0].Calls[i].Come, b.Trips[0].Calls[i].Go = tick, tick
		}
		if got := impl.BookOk(b); got != want {
			t.Errorf("all at %d: got %v, want %v", tick, got, want)
		}
	}
}

func setTimes(call, come, leave int) func(b *impl.Book) {
	return func(b *impl.Book) {
		b.Trips[0].Calls[call].Come = come
		b.Trips[0].Calls[call].Go = leave
	}
}

func TestCallTracks(t *testing.T) {
	for track, ok := range map[int]bool{math.MinInt: false, -1: false, 0: false, 1: true, 2: true, 19: true, 20: true, 21: false, math.MaxInt: false} {
		want := fault(3, 1)
		if ok {
			want = right()
		}
		for call := range 3 {
			b := plainBook()
			b.Trips[1].Calls[call].Track = track
			if got := impl.BookOk(b); got != want {
				t.Errorf("track %d of call %d: got %v, want %v", track, call, got, want)
			}
		}
	}
}

// apartBends change things that have nothing to do with each other, so that two together bring both faults.
func apartBends() []bend {
	return []bend{
		{"41 trips", func(b *impl.Book) { b.Trips = append(b.Trips, wideBook(2, 38, 2).Trips...) }, fault(1, 0)},
		{"31 stations", func(b *impl.Book) { b.Stations = append(b.Stations, wideBook(27, 0, 0).Stations...) }, fault(1, 0)},
		{"station 1 is no name", func(b *impl.Book) { b.Stations[1] = "a  b" }, fault(2, 1)},
		{"station 2 is that of 0", func(b *impl.Book) { b.Stations[2] = "Ash" }, fault(2, 2)},
		{"station 3 is empty", func(b *impl.Book) { b.Stations[3] = "" }, fault(2, 3)},
		{"call 2 of trip 0 with no track", func(b *impl.Book) { b.Trips[0].Calls[2].Track = 0 }, fault(3, 0)},
		{"call 1 of trip 0 at that of call 0", func(b *impl.Book) { b.Trips[0].Calls[1].Station = 0 }, fault(3, 0)},
		{"trip 1 with no name", func(b *impl.Book) { b.Trips[1].Name = "" }, fault(3, 1)},
		{"call 1 of trip 1 too early", func(b *impl.Book) { b.Trips[1].Calls[1].Come = 94 }, fault(3, 1)},
		{"call 2 of trip 1 goes too early", func(b *impl.Book) { b.Trips[1].Calls[2].Go = 129 }, fault(3, 1)},
		{"call 1 of trip 2 nowhere", func(b *impl.Book) { b.Trips[2].Calls[1].Station = 4000 }, fault(3, 2)},
		{"trip 2 with the name of trip 0", func(b *impl.Book) { b.Trips[2].Name = "Coast 1" }, fault(4, 2)},
	}
}

func earlier(a, b impl.Fault) impl.Fault {
	if b.Code < a.Code || b.Code == a.Code && b.At < a.At {
		return b
	}
	return a
}

func TestFirstOfTwoFaults(t *testing.T) {
	for _, one := range apartBends() {
		for _, two := range apartBends() {
			b := plainBook()
			one.do(&b)
			if one.name != two.name {
				two.do(&b)
			}
			if got, want := impl.BookOk(b), earlier(one.want, two.want); got != want {
				t.Errorf("%s, %s: got %v, want %v", one.name, two.name, got, want)
			}
		}
	}
}

func TestFirstOfAllFaults(t *testing.T) {
	bends := apartBends()
	for from := range bends {
		b := plainBook()
		for _, c := range bends[from:] {
			c.do(&b)
		}
		if got := impl.BookOk(b); got != bends[from].want {
			t.Errorf("all from %s: got %v, want %v", bends[from].name, got, bends[from].want)
		}
	}
}

func TestFaultsAtTheLastPlace(t *testing.T) {
	wide := func(do func(b *impl.Book)) impl.Book {
		b := wideBook(30, 40, 20)
		do(&b)
		return b
	}
	for _, c := range []struct {
		b    impl.Book
		want impl.Fault
	}{
		{wide(func(b *impl.Book) { b.Stations[29] = "no name " }), fault(2, 29)},
		{wide(func(b *impl.Book) { b.Stations[29] = b.Stations[28] }), fault(2, 29)},
		{wide(func(b *impl.Book) { b.Trips[39].Calls[19].Track = 21 }), fault(3, 39)},
		{wide(func(b *impl.Book) { b.Trips[39].Calls[19].Station = 30 }), fault(3, 39)},
		{wide(func(b *impl.Book) { b.Trips[39].Calls[19].Station = 0 }), fault(3, 39)},
		{wide(func(b *impl.Book) { b.Trips[39].Calls[19].Come-- }), right()},
		{wide(func(b *impl.Book) { b.Trips[39].Name = b.Trips[0].Name }), fault(4, 39)},
		{wide(func(b *impl.Book) { b.Trips[39].Name = b.Trips[38].Name }), fault(4, 39)},
	} {
		if got := impl.BookOk(c.b); got != c.want {
			t.Errorf("got %v, want %v", got, c.want)
		}
	}
}

func TestCallAt(t *testing.T) {
	want := [][]int{{0, 1, 2, -1}, {2, 1, -1, 0}, {-1, -1, 0, 1}}
	for trip, row := range want {
		for station, call := range row {
			if got := impl.CallAt(plainBook(), trip, station); got != call {
				t.Errorf("trip %d at station %d: got %d, want %d", trip, station, got, call)
			}
		}
	}
	wide := wideBook(30, 40, 20)
	if got := impl.CallAt(wide, 39, 19); got != 19 {
		t.Errorf("the last call of the last trip: got %d", got)
	}
	if got := impl.CallAt(wide, 39, 20); got != -1 {
		t.Errorf("a station behind the last call: got %d", got)
	}
}

func TestCallAtNowhere(t *testing.T) {
	for _, c := range []struct{ trip, station int }{
		{-1, 0}, {3, 0}, {math.MinInt, 0}, {math.MaxInt, 0},
		{0, -1}, {0, 4}, {0, math.MinInt}, {0, math.MaxInt},
		{-1, -1}, {3, 4},
	} {
		if got := impl.CallAt(plainBook(), c.trip, c.station); got != -1 {
			t.Errorf("trip %d at station %d: got %d", c.trip, c.station, got)
		}
	}
	if got := impl.CallAt(impl.Book{}, 0, 0); got != -1 {
		t.Errorf("an empty book: got %d", got)
	}
}

// Trip 0 calls at station 0 in every one of these books: what keeps the call back is the fault alone, wherever it is.
func TestCallAtWrongBook(t *testing.T) {
	for _, c := range apartBends() {
		b := plainBook()
		c.do(&b)
		for trip := range b.Trips {
			for station := range b.Stations {
				if got := impl.CallAt(b, trip, station); got != -1 {
					t.Errorf("%s: trip %d at station %d: got %d", c.name, trip, station, got)
				}
			}
		}
	}
}

func TestBookIsNotWritten(t *testing.T) {
	books := []impl.Book{{}, plainBook(), wideBook(30, 40, 20), wideBook(31, 41, 21)}
	for _, c := range apartBends() {
		b := plainBook()
		c.do(&b)
		books = append(books, b)
	}
	for i, b := range books {
		before := copyBook(b)
		first, call := impl.BookOk(b), impl.CallAt(b, 0, 1)
		if !reflect.DeepEqual(b, before) {
			t.Errorf("book %d was written into", i)
		}
		if impl.BookOk(b) != first || impl.CallAt(b, 0, 1) != call {
			t.Errorf("book %d: asked again, another answer", i)
		}
	}
}
