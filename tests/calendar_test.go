package tests

import (
	"math"
	"slices"
	"testing"

	"loop.example/g00834/impl"
)

// closedOf returns closed times from three numbers each: the team, the first and the last day.
func closedOf(list ...int) []impl.Closed {
	var closed []impl.Closed
	for i := 0; i < len(list); i += 3 {
		closed = append(closed, impl.Closed{Team: list[i], From: list[i+1], To: list[i+2]})
	}
	return closed
}

// daysTo returns the days from first to last.
func daysTo(first int, last int) []int {
	var days []int
	for day := first; day <= last; day++ {
		days = append(days, day)
	}
	return days
}

// everyDay returns size days that are step apart, from the day 0 on.
func everyDay(step int, size int) []int { return everyDayFrom(0, step, size) }

// everyDayFrom returns size days that are step apart, from first on.
func everyDayFrom(first int, step int, size int) []int {
	var days []int
	for i := range size {
		days = append(days, first+i*step)
	}
	return days
}

// threeTeamSeason is a season of three teams with the rounds 1-2, 2-0 and 0-1; the venue of the team 2 is closed on the day 3.
func threeTeamSeason() impl.Season {
	return impl.Season{Rounds: roundsOf("12, 20, 01"), Days: []int{1, 3, 4, 6}, Rest: 2, Closed: closedOf(2, 3, 3)}
}

// longSeason is a season of eight teams that meet twice, in 14 rounds.
func longSeason(days []int, rest int, closed ...int) impl.Season {
	return impl.Season{Rounds: impl.MirrorRounds(impl.CircleRounds(8)), Days: days, Rest: rest, Closed: closedOf(closed...)}
}

// plainClosed goes through the days of each closed time: a second way to ClosedOk.
func plainClosed(n int, list []impl.Closed) bool {
	wanted := 0
	for _, c := range list {
		days := 0
		for day := range 61 {
			if c.From <= day && day <= c.To {
				days++
			}
		}
		if c.Team >= 0 && c.Team < n && days > 0 && c.From >= 0 && c.To <= 60 {
			wanted++
		}
	}
	return wanted == len(list) && wanted <= 8
}

// plainCanPlay goes through the closed times and looks for their teams in the round: a second way to CanPlayOn.
func plainCanPlay(round []impl.Pair, day int, list []impl.Closed) bool {
	for _, c := range list {
		if c.From > day || c.To < day {
			continue
		}
		for i, team := range teamsIn(round) {
			if i%2 == 0 && team == c.Team {
				return false
			}
		}
	}
	return true
}

// plainPlannable keeps the days in a set: a second way to what a season has to be for a calendar.
func plainPlannable(n int, s impl.Season) bool {
	if !plainSchedule(n, s.Rounds) || !plainClosed(n, s.Closed) || s.Rest < 1 || s.Rest > 60 || len(s.Days) > 30 {
		return false
	}
	set := map[int]bool{}
	for _, day := range s.Days {
		set[day] = true
	}
	var days []int
	for day := range 61 {
		if set[day] {
			days = append(days, day)
		}
	}
	return slices.Equal(days, s.Days)
}

// plainCalendar compares each two dates: a second way to IsCalendar.
func plainCalendar(n int, s impl.Season, dates []int) bool {
	if !plainPlannable(n, s) || len(dates) != len(s.Rounds) {
		return false
	}
	for r, day := range dates {
		if slices.Index(s.Days, day) < 0 || !plainCanPlay(s.Rounds[r], day, s.Closed) {
			return false
		}
		for q := range r {
			if dates[q]+(r-q)*s.Rest > day {
				return false
			}
		}
	}
	return true
}

// plainFirst finds, from the last round back, from which days the season can go on: a second way to FirstCalendar.
func plainFirst(n int, s impl.Season) ([]int, bool) {
	if !plainPlannable(n, s) {
		return nil, false
	}
	goesOn := make([][]int, len(s.Rounds)+1)
	for r := len(s.Rounds) - 1; r >= 0; r-- {
		for _, day := range s.Days {
			later := slices.ContainsFunc(goesOn[r+1], func(next int) bool { return next >= day+s.Rest })
			if plainCanPlay(s.Rounds[r], day, s.Closed) && (later || r == len(s.Rounds)-1) {
				goesOn[r] = append(goesOn[r], day)
			}
		}
	}
	var dates []int
	for r := range s.Rounds {
		for _, day := range goesOn[r] {
			if r == 0 || day >= dates[r-1]+s.Rest {
				dates = append(dates, day)
				break
			}
		}
		if len(dates) != r+1 {
			return nil, false
		}
	}
	return dates, true
}

// plainBlocked counts the days on which each round can be played: a second way to BlockedRounds.
func plainBlocked(n int, s impl.Season) []int {
	if !plainSchedule(n, s.Rounds) || !plainClosed(n, s.Closed) {
		return nil
	}
	var blocked []int
	for r, round := range s.Rounds {
		count := 0
		for _, day := range s.Days {
			if plainCanPlay(round, day, s.Closed) {
				count++
			}
		}
		if count == 0 {
			blocked = append(blocked, r)
		}
	}
	return blocked
}

// plainRest compares the dates of each two rounds with the team that have none with it between them: a second way to RestOf.
func plainRest(s impl.Season, dates []int, team int) int {
	for _, day := range dates {
		if day < 0 || day > 60 {
			return -1
		}
	}
	if len(dates) != len(s.Rounds) {
		return -1
	}
	least := 1000
	for r := range s.Rounds {
		for q := range r {
			between := slices.ContainsFunc(s.Rounds[q+1:r], func(round []impl.Pair) bool { return slices.Contains(teamsIn(round), team) })
			if between || !slices.Contains(teamsIn(s.Rounds[q]), team) || !slices.Contains(teamsIn(s.Rounds[r]), team) {
				continue
			}
			least = min(least, max(dates[r]-dates[q], dates[q]-dates[r]))
		}
	}
	if least == 1000 {
		return -1
	}
	return least
}

// checkDates checks whether the dates are a calendar of the season.
func checkDates(t *testing.T, n int, s impl.Season, dates []int, want bool) {
	t.Helper()
	if got := impl.IsCalendar(n, s, dates); got != want {
		t.Fatalf("IsCalendar(%d, %v, %v) = %v", n, s, dates, got)
	}
}

// checkFirst checks the first calendar of the season, and that it is one.
func checkFirst(t *testing.T, n int, s impl.Season, want []int, ok bool) {
	t.Helper()
	got, found := impl.FirstCalendar(n, s)
	if found != ok || !slices.Equal(got, want) {
		t.Fatalf("FirstCalendar(%d, %v) = %v, %v, want %v, %v", n, s, got, found, want, ok)
	}
	checkDates(t, n, s, got, ok)
}

// checkNoCalendar checks that the season has no calendar, neither the given one nor a first one.
func checkNoCalendar(t *testing.T, n int, s impl.Season, dates []int) {
	t.Helper()
	checkDates(t, n, s, dates, false)
	if got, ok := impl.FirstCalendar(n, s); ok || len(got) != 0 {
		t.Fatalf("FirstCalendar(%d, %v) = %v, %v", n, s, got, ok)
	}
}

// checkBlocked checks the blocked rounds.
func checkBlocked(t *testing.T, n int, s impl.Season, want ...int) {
	t.Helper()
	if got := impl.BlockedRounds(n, s); !slices.Equal(got, want) {
		t.Fatalf("BlockedRounds(%d, %v) = %v, want %v", n, s, got, want)
	}
}

// checkRest checks the rest of a team.
func checkRest(t *testing.T, s impl.Season, dates []int, team int, want int) {
	t.Helper()
	if got := impl.RestOf(s, dates, team); got != want {
		t.Fatalf("RestOf(%v, %v, %d) = %d, want %d", s.Rounds, dates, team, got, want)
	}
}

// checkSeason compares what all functions say of a season and dates, valid or not, with the second ways.
func checkSeason(t *testing.T, s impl.Season, dates []int) {
	t.Helper()
	for n := -1; n <= 10; n++ {
		if got, want := impl.ClosedOk(n, s.Closed), plainClosed(n, s.Closed); got != want {
			t.Fatalf("ClosedOk(%d, %v) = %v", n, s.Closed, got)
		}
		checkDates(t, n, s, dates, plainCalendar(n, s, dates))
		first, ok := plainFirst(n, s)
		checkFirst(t, n, s, first, ok)
		checkBlocked(t, n, s, plainBlocked(n, s)...)
	}
	for _, round := range s.Rounds {
		for day := -2; day <= 63; day++ {
			if got, want := impl.CanPlayOn(round, day, s.Closed), plainCanPlay(round, day, s.Closed); got != want {
				t.Fatalf("CanPlayOn(%v, %d, %v) = %v", round, day, s.Closed, got)
			}
		}
	}
	for team := -2; team <= 9; team++ {
		checkRest(t, s, dates, team, plainRest(s, dates, team))
	}
}

func TestClosedOk(t *testing.T) {
	const least, greatest = math.MinInt, math.MaxInt
	cases := []struct {
		n    int
		list []impl.Closed
		want bool
	}{
		{3, closedOf(0, 0, 0), true}, {3, closedOf(2, 60, 60), true}, {3, closedOf(1, 0, 60), true}, {3, closedOf(0, 5, 9, 1, 9, 9, 0, 5, 9), true}, {3, closedOf(0, 5, 9, 0, 7, 12), true},
		{3, closedOf(3, 0, 0), false}, {3, closedOf(-1, 0, 0), false}, {3, closedOf(0, 1, 0), false}, {3, closedOf(0, 60, 0), false}, {3, closedOf(0, -1, 0), false}, {3, closedOf(0, -1, -1), false},
		{3, closedOf(0, 0, 61), false}, {3, closedOf(0, 61, 61), false}, {3, closedOf(0, 60, 61), false}, {3, closedOf(0, 61, 60), false}, {3, closedOf(0, 0, -1), false},
		{3, closedOf(0, least, greatest), false}, {3, closedOf(0, greatest, least), false}, {3, closedOf(0, 0, greatest), false}, {3, closedOf(0, least, 60), false}, {3, closedOf(0, 0, 1<<32), false}, {3, closedOf(0, 1<<32, 1<<32+1), false},
		{3, closedOf(0, 0, 0, 1, 1, 1, 3, 2, 2), false}, {3, closedOf(3, 0, 0, 1, 1, 1, 2, 2, 2), false}, {3, closedOf(0, 0, 0, 1, 2, 1, 2, 2, 2), false},
		{1, closedOf(0, 0, 0), true}, {1, closedOf(1, 0, 0), false}, {0, closedOf(0, 0, 0), false}, {-1, closedOf(0, 0, 0), false}, {-1, closedOf(-1, 0, 0), false}, {-1, closedOf(-2, 0, 0), false}, {least, closedOf(0, 0, 0), false},
		{8, closedOf(7, 1, 2), true}, {8, closedOf(8, 1, 2), false}, {9, closedOf(8, 1, 2), true}, {100, closedOf(99, 1, 2), true}, {100, closedOf(100, 1, 2), false}, {greatest, closedOf(greatest-1, 1, 2), true}, {greatest, closedOf(greatest, 1, 2), false},
	}
	for _, c := range cases {
		if got := impl.ClosedOk(c.n, c.list); got != c.want {
			t.Errorf("ClosedOk(%d, %v) = %v", c.n, c.list, got)
		}
	}
}

// Without elements, there is nothing that could be wrong: the number of teams doesn't matter.
func TestClosedOkWithoutElements(t *testing.T) {
	for _, n := range withEdges(-3, 12) {
		if !impl.ClosedOk(n, nil) || !impl.ClosedOk(n, []impl.Closed{}) || !impl.ClosedOk(n, closedOf(-1, 5, 3)[:0]) {
			t.Errorf("ClosedOk(%d) of no elements = false", n)
		}
	}
}

func TestClosedOkNumbers(t *testing.T) {
	days := append(withEdges(-2, 2), 3, 58, 59, 60, 61, 62)
	for _, from := range days {
		for _, to := range days {
			want := from >= 0 && from <= to && to <= 60
			if got := impl.ClosedOk(4, closedOf(3, from, to)); got != want {
				t.Errorf("ClosedOk(4) from %d to %d = %v", from, to, got)
			}
		}
	}
	for _, n := range withEdges(-3, 10) {
		for _, team := range withEdges(-3, 10) {
			want := team >= 0 && team < n
			if got := impl.ClosedOk(n, closedOf(team, 2, 4)); got != want {
				t.Errorf("ClosedOk(%d) of the team %d = %v", n, team, got)
			}
		}
	}
}

func TestClosedOkSizes(t *testing.T) {
	for _, size := range []int{0, 1, 2, 7, 8, 9, 10, 16, 264, 100000} {
		list := slices.Repeat(closedOf(1, 2, 3), size)
		if got := impl.ClosedOk(2, list); got != (size <= impl.MaxClosed) {
			t.Errorf("ClosedOk of %d elements = %v", size, got)
		}
		s := impl.Season{Rounds: roundsOf("01"), Days: []int{0, 3}, Rest: 1, Closed: list}
		if size > impl.MaxClosed {
			checkNoCalendar(t, 2, s, []int{0})
			checkBlocked(t, 2, s)
		} else {
			checkFirst(t, 2, s, []int{0}, true)
		}
	}
	// Each of eight elements counts.
	for at := range impl.MaxClosed {
		for _, bad := range closedOf(4, 1, 2, -1, 1, 2, 0, 2, 1, 0, -1, 2, 0, 1, 61) {
			list := slices.Repeat(closedOf(3, 0, 60), impl.MaxClosed)
			list[at] = bad
			if impl.ClosedOk(4, list) {
				t.Errorf("ClosedOk(4) with %v at %d = true", bad, at)
			}
		}
	}
}

func TestClosedOkAgainstASecondWay(t *testing.T) {
	for _, list := range listsOver(closedOf(0, 0, 0, 1, 60, 60, 2, 3, 4, 0, 4, 3, -1, 1, 1, 1, -1, 5, 1, 5, 61, 3, 0, 60), 3) {
		for n := -1; n <= 5; n++ {
			if got, want := impl.ClosedOk(n, list), plainClosed(n, list); got != want {
				t.Fatalf("ClosedOk(%d, %v) = %v", n, list, got)
			}
		}
	}
}

// On the first and the last day of a closed time the venue is closed, on the days beside them it is not; for the team that is away it doesn't matter.
func TestCanPlayOn(t *testing.T) {
	const least, greatest = math.MinInt, math.MaxInt
	cases := []struct {
		round  []impl.Pair
		closed []impl.Closed
		shut   []int // of the days from -2 to 63
	}{
		{nil, closedOf(0, 0, 60), nil}, {[]impl.Pair{}, closedOf(0, 0, 60), nil}, {pairsOf(0, 1), nil, nil}, {pairsOf(0, 1), []impl.Closed{}, nil}, {nil, nil, nil},
		{pairsOf(0, 1), closedOf(0, 3, 5), []int{3, 4, 5}}, {pairsOf(1, 0), closedOf(0, 3, 5), nil}, {pairsOf(1, 0), closedOf(1, 3, 5), []int{3, 4, 5}}, {pairsOf(0, 1), closedOf(2, 3, 5), nil},
		{pairsOf(0, 1), closedOf(0, 0, 0), []int{0}}, {pairsOf(0, 1), closedOf(0, 60, 60), []int{60}}, {pairsOf(0, 1), closedOf(0, 7, 7), []int{7}}, {pairsOf(0, 1), closedOf(0, 0, 60), daysTo(0, 60)},
		{pairsOf(0, 1, 2, 3), closedOf(2, 8, 9), []int{8, 9}}, {pairsOf(0, 1, 2, 3), closedOf(3, 8, 9, 1, 8, 9), nil}, {pairsOf(0, 1, 2, 3), closedOf(0, 4, 5, 2, 8, 9), []int{4, 5, 8, 9}}, {pairsOf(4, 5, 6, 7, 3, 2, 1, 0), closedOf(1, 8, 9), []int{8, 9}},
		{pairsOf(0, 1), closedOf(0, 3, 5, 0, 5, 7, 1, 20, 30), []int{3, 4, 5, 6, 7}}, {pairsOf(0, 1), closedOf(1, 1, 9, 2, 1, 9, 0, 4, 4), []int{4}},
		// Elements that are not valid: one that ends before it begins is never closed, the others are as they stand.
		{pairsOf(0, 1), closedOf(0, 5, 3), nil}, {pairsOf(0, 1), closedOf(0, 5, 4), nil}, {pairsOf(0, 1), closedOf(0, greatest, least), nil}, {pairsOf(0, 1), closedOf(0, 61, 0), nil},
		{pairsOf(0, 1), closedOf(0, -5, 1), []int{-2, -1, 0, 1}}, {pairsOf(0, 1), closedOf(0, -5, -1), []int{-2, -1}}, {pairsOf(0, 1), closedOf(0, 60, 62), []int{60, 61, 62}}, {pairsOf(0, 1), closedOf(0, 63, greatest), []int{63}},
		{pairsOf(0, 1), closedOf(0, least, greatest), daysTo(-2, 63)}, {pairsOf(0, 1), closedOf(0, least, 0), []int{-2, -1, 0}}, {pairsOf(0, 1), closedOf(0, 5, 3, 0, 4, 4), []int{4}},
		// Rounds that are none: teams that do not exist, that play more than once, or against themselves.
		{pairsOf(-1, 9), closedOf(-1, 2, 3), []int{2, 3}}, {pairsOf(-1, 9), closedOf(9, 2, 3), nil}, {pairsOf(9, -1), closedOf(9, 2, 3), []int{2, 3}}, {pairsOf(greatest, least), closedOf(greatest, 2, 3), []int{2, 3}},
		{pairsOf(0, 1, 1, 0), closedOf(1, 2, 3), []int{2, 3}}, {pairsOf(1, 0, 0, 1), closedOf(1, 2, 3), []int{2, 3}}, {pairsOf(2, 2), closedOf(2, 2, 3), []int{2, 3}}, {pairsOf(0, 1), closedOf(1<<32, 2, 3, 256, 2, 3), nil},
	}
	for _, c := range cases {
		for day := -2; day <= 63; day++ {
			if got := impl.CanPlayOn(c.round, day, c.closed); got == slices.Contains(c.shut, day) {
				t.Errorf("CanPlayOn(%v, %d, %v) = %v", c.round, day, c.closed, got)
			}
		}
	}
}

func TestCanPlayOnEdges(t *testing.T) {
	days := append(withEdges(-2, 2), 59, 60, 61)
	for _, from := range days {
		for _, to := range days {
			for _, day := range days {
				list := closedOf(1, from, to)
				want := from > day || to < day
				if got := impl.CanPlayOn(pairsOf(2, 0, 1, 3), day, list); got != want {
					t.Fatalf("CanPlayOn(%d, %v) of the team at home = %v", day, list, got)
				}
				if !impl.CanPlayOn(pairsOf(2, 0, 3, 1), day, list) {
					t.Fatalf("CanPlayOn(%d, %v) of the team away = false", day, list)
				}
			}
		}
	}
	// More elements than are valid, and more pairs than a round can have, count too.
	many := append(slices.Repeat(closedOf(5, 1, 2), 1000), closedOf(3, 4, 4)...)
	long := append(slices.Repeat(pairsOf(1, 2), 1000), pairsOf(3, 2)...)
	if impl.CanPlayOn(long, 4, many) || !impl.CanPlayOn(long, 3, many) || !impl.CanPlayOn(long, 5, many) || !impl.CanPlayOn(long[:1000], 4, many) || !impl.CanPlayOn(long, 4, many[:1000]) {
		t.Error("CanPlayOn of many pairs and closed times")
	}
}

func TestIsCalendar(t *testing.T) {
	s := threeTeamSeason()
	for _, dates := range listsOver([]int{0, 1, 2, 3, 4, 5, 6, 7}, 4) {
		checkDates(t, 3, s, dates, slices.Equal(dates, []int{1, 4, 6}))
	}
	s.Closed = nil
	for _, dates := range listsOver([]int{0, 1, 2, 3, 4, 5, 6, 7}, 4) {
		want := slices.Equal(dates, []int{1, 4, 6}) || slices.Equal(dates, []int{1, 3, 6})
		checkDates(t, 3, s, dates, want)
	}
	checkDates(t, 3, s, nil, false)
	for _, day := range append(edgeInts(), -1, 61) {
		for at := range 3 {
			dates := []int{1, 4, 6}
			dates[at] = day
			checkDates(t, 3, s, dates, false)
		}
	}
}

func TestIsCalendarRest(t *testing.T) {
	days := []int{0, 1, 2, 10, 11, 30, 31, 59, 60}
	for _, rest := range append(withEdges(-2, 3), 9, 10, 29, 30, 31, 58, 59, 60, 61, 62, 1000) {
		for _, first := range days {
			for _, second := range days {
				s := impl.Season{Rounds: roundsOf("01, 10"), Days: days, Rest: rest}
				want := rest >= 1 && rest <= 60 && first+rest <= second
				checkDates(t, 2, s, []int{first, second}, want)
			}
		}
	}
	// The rest counts from the round before, whether a team plays in it or not.
	s := impl.Season{Rounds: roundsOf("01, , 23"), Days: daysTo(0, 20), Rest: 5}
	checkDates(t, 4, s, []int{0, 5, 10}, true)
	checkDates(t, 4, s, []int{0, 4, 10}, false)
	checkDates(t, 4, s, []int{0, 5, 9}, false)
	checkDates(t, 4, s, []int{5, 0, 10}, false)
	checkDates(t, 4, s, []int{10, 5, 0}, false)
	checkDates(t, 4, s, []int{0, 0, 10}, false)
}

func TestIsCalendarRounds(t *testing.T) {
	for _, n := range withEdges(-2, 12) {
		s := impl.Season{Days: []int{2, 5}, Rest: 1}
		inRange := n >= 2 && n <= 8
		checkDates(t, n, s, nil, inRange)
		s.Rounds = roundsOf(", ")
		checkDates(t, n, s, []int{2, 5}, inRange)
		s.Rounds = roundsOf("30 12")
		checkDates(t, n, s, []int{5}, inRange && n > 3)
	}
	for _, text := range []string{"00", "01 10", "01 12", "04", "40", "01, 01 20", "01, 00", "01 23, 23 04"} {
		s := impl.Season{Rounds: roundsOf(text), Days: []int{2, 5}, Rest: 1}
		checkNoCalendar(t, 4, s, []int{2, 5}[:len(s.Rounds)])
		checkBlocked(t, 4, s)
	}
	for size := range 20 {
		s := impl.Season{Rounds: slices.Repeat(roundsOf("01"), size), Days: everyDay(2, 30), Rest: 2}
		dates := everyDay(2, size)
		if size <= 14 {
			checkFirst(t, 2, s, dates, true)
		} else {
			checkNoCalendar(t, 2, s, dates)
		}
	}
}

func TestIsCalendarDays(t *testing.T) {
	const least, greatest = math.MinInt, math.MaxInt
	rounds := roundsOf("01, 10")
	good := [][]int{{3, 9}, {0, 3, 9, 60}, {3, 4, 5, 6, 7, 8, 9}, {2, 3, 9}, {3, 9, 60}, append([]int{0, 3, 9}, daysTo(30, 56)...)}
	bad := [][]int{
		{9, 3}, {3, 3, 9}, {3, 9, 9}, {3, 9, 9, 10}, {3, 9, 8}, {4, 3, 9}, {3, 9, 10, 12, 11}, {-1, 3, 9}, {3, 9, 61}, {least, 3, 9}, {3, 9, greatest}, {3, 9, 1 << 32}, {3, 9, 1<<32 + 10}, {0, 0, 3, 9}, {3, 9, 60, 60},
		append([]int{0, 3, 9}, daysTo(30, 57)...), daysTo(0, 30), daysTo(0, 60), daysTo(-1, 12), daysTo(3, 61), nil, {3}, {9}, {1, 2, 4, 8, 10},
	}
	for _, days := range good {
		s := impl.Season{Rounds: rounds, Days: days, Rest: 3}
		checkDates(t, 2, s, []int{3, 9}, true)
	}
	for _, days := range bad {
		s := impl.Season{Rounds: rounds, Days: days, Rest: 3}
		checkDates(t, 2, s, []int{3, 9}, false)
	}
	for size := 25; size <= 35; size++ {
		s := impl.Season{Rounds: rounds, Days: daysTo(61-size, 60), Rest: 3}
		checkDates(t, 2, s, []int{57, 60}, size <= 30)
	}
	// Each day counts, also one that no round is played on.
	for at := range 30 {
		for _, day := range append(edgeInts(), -1, 61, at-1, at+1) {
			s := impl.Season{Rounds: rounds, Days: daysTo(0, 29), Rest: 3}
			s.Days[at] = day
			checkDates(t, 2, s, []int{3, 9}, day == 30 && at == 29)
		}
	}
}

func TestIsCalendarClosed(t *testing.T) {
	s := impl.Season{Rounds: roundsOf("30 12, 13 20, 32 01"), Days: []int{2, 4, 6}, Rest: 2}
	dates := []int{2, 4, 6}
	for team := range 4 {
		for _, from := range daysTo(0, 8) {
			for _, to := range daysTo(from, 8) {
				s.Closed = closedOf(team, from, to)
				want := true
				for r, home := range [][]int{{3, 1}, {1, 2}, {3, 0}} {
					if slices.Contains(home, team) && from <= dates[r] && dates[r] <= to {
						want = false
					}
				}
				checkDates(t, 4, s, dates, want)
			}
		}
	}
	// Elements that are not valid make no calendar, even if they close nothing.
	for _, c := range closedOf(4, 50, 50, -1, 50, 50, 0, 51, 50, 0, -1, -1, 0, 50, 61, 0, 61, 61, 0, math.MaxInt, math.MinInt) {
		s.Closed = []impl.Closed{{Team: 0, From: 50, To: 50}, c}
		checkNoCalendar(t, 4, s, dates)
		s.Closed = s.Closed[:1]
		checkDates(t, 4, s, dates, true)
	}
}

// A season that is valid has exactly one calendar without rounds: the empty one.
func TestCalendarWithoutRounds(t *testing.T) {
	for _, n := range withEdges(-2, 12) {
		for _, s := range []impl.Season{{Rest: 1}, {Rest: 60, Days: []int{}, Closed: []impl.Closed{}}, {Rest: 7, Days: []int{0, 60}, Rounds: [][]impl.Pair{}}} {
			if n >= 2 && n <= 8 {
				checkFirst(t, n, s, nil, true)
			} else {
				checkNoCalendar(t, n, s, nil)
			}
			checkDates(t, n, s, []int{0}, false)
			checkBlocked(t, n, s)
			checkRest(t, s, nil, 0, -1)
		}
	}
	for _, s := range []impl.Season{{}, {Rest: -1}, {Rest: 61}, {Rest: 1, Days: []int{1, 1}}, {Rest: 1, Days: []int{61}}, {Rest: 1, Days: daysTo(0, 30)}, {Rest: 1, Closed: closedOf(2, 1, 1)}, {Rest: 1, Closed: closedOf(0, 2, 1)}} {
		checkNoCalendar(t, 2, s, nil)
	}
	// Without days, only a season without rounds has a calendar, and all rounds are blocked.
	for size := 1; size <= 14; size++ {
		s := impl.Season{Rounds: make([][]impl.Pair, size), Rest: 1}
		checkNoCalendar(t, 2, s, nil)
		checkNoCalendar(t, 2, s, make([]int, size))
		checkBlocked(t, 2, s, daysTo(0, size-1)...)
	}
}

func TestFirstCalendar(t *testing.T) {
	cases := []struct {
		n      int
		rounds string
		days   []int
		rest   int
		closed []impl.Closed
		want   []int
		ok     bool
	}{
		{3, "12, 20, 01", []int{1, 3, 4, 6}, 2, closedOf(2, 3, 3), []int{1, 4, 6}, true},
		{3, "12, 20, 01", []int{1, 3, 4, 6}, 2, nil, []int{1, 3, 6}, true},
		{3, "12, 20, 01", []int{1, 3, 4, 6}, 1, nil, []int{1, 3, 4}, true},
		{3, "12, 20, 01", []int{1, 3, 5, 6}, 3, nil, nil, false},
		{3, "12, 20, 01", []int{0, 30, 60}, 30, nil, []int{0, 30, 60}, true},
		{3, "12, 20, 01", []int{0, 30, 60}, 31, nil, nil, false},
		{2, "01, 10", []int{0, 60}, 60, nil, []int{0, 60}, true},
		{2, "01, 10", []int{0, 59}, 60, nil, nil, false},
		{2, "01, 10", []int{1, 60}, 60, nil, nil, false},
		{2, "01", []int{60}, 60, nil, []int{60}, true},
		{2, "01", []int{0}, 1, nil, []int{0}, true},
		{2, "01", nil, 1, nil, nil, false},

		// The earliest day for a round leaves a later one none, and so does every other day.
		{2, "01, 10", []int{5, 6, 7}, 2, closedOf(0, 5, 5, 1, 7, 7), nil, false},
		{2, "01, 10", []int{5, 6, 7}, 2, closedOf(1, 7, 7), nil, false},
		{2, "01, 10", []int{5, 6, 7}, 1, closedOf(1, 7, 7), []int{5, 6}, true},
		{2, "01, 10", []int{5, 6, 7}, 1, closedOf(0, 5, 5, 1, 7, 7), nil, false},
		{2, "01, 10", []int{5, 6, 7, 9}, 1, closedOf(0, 5, 5, 1, 7, 7), []int{6, 9}, true},
		{2, "01, 01, 10", []int{1, 2, 3, 4, 5}, 2, closedOf(1, 0, 4), []int{1, 3, 5}, true},
		{2, "01, 01, 10", []int{1, 2, 3, 4, 5}, 2, closedOf(1, 5, 5), nil, false},

		// A closed time ends or begins beside a day, and closes the team at home only.
		{2, "01", []int{4, 5, 6}, 1, closedOf(0, 0, 3), []int{4}, true},
		{2, "01", []int{4, 5, 6}, 1, closedOf(0, 0, 4), []int{5}, true},
		{2, "01", []int{4, 5, 6}, 1, closedOf(0, 4, 5), []int{6}, true},
		{2, "01", []int{4, 5, 6}, 1, closedOf(0, 4, 6), nil, false},
		{2, "01", []int{4, 5, 6}, 1, closedOf(1, 0, 60), []int{4}, true},
		{2, "01", []int{4, 5, 6}, 1, closedOf(0, 5, 60), []int{4}, true},
		{2, "01", []int{4, 5, 6}, 1, closedOf(0, 4, 4, 0, 5, 5, 0, 6, 6), nil, false},
		{2, "01", []int{4, 5, 6}, 1, closedOf(0, 6, 6, 0, 4, 4, 1, 5, 5), []int{5}, true},

		// Rounds without pairs take a day too.
		{2, ", , ", []int{3, 4, 5, 6, 7}, 2, closedOf(0, 0, 60, 1, 0, 60), []int{3, 5, 7}, true},
		{2, ", 01, ", []int{3, 4, 5, 6, 7, 8}, 2, closedOf(0, 5, 5), []int{3, 6, 8}, true},
		{4, "01 23, 01 32, 23", []int{2, 3, 5, 8, 13, 21, 34, 55}, 3, closedOf(2, 0, 4, 3, 0, 14, 2, 50, 60), []int{5, 21, 34}, true},
		{4, "01 23, 01 32, 23", []int{2, 3, 5, 8, 13, 21, 34, 55}, 21, closedOf(2, 0, 4, 3, 0, 14, 2, 50, 60), nil, false},
	}
	for _, c := range cases {
		s := impl.Season{Rounds: roundsOf(c.rounds), Days: c.days, Rest: c.rest, Closed: c.closed}
		checkFirst(t, c.n, s, c.want, c.ok)
	}
}

// A season that is not valid has no first calendar, whatever is wrong with it.
func TestFirstCalendarOfInvalidSeasons(t *testing.T) {
	checkFirst(t, 3, threeTeamSeason(), []int{1, 4, 6}, true)
	broken := map[string]func(s *impl.Season){
		"a team that does not exist":       func(s *impl.Season) { s.Rounds[2][0].Away = 3 },
		"a negative team":                  func(s *impl.Season) { s.Rounds[0][0].Home = -1 },
		"a team against itself":            func(s *impl.Season) { s.Rounds[1][0].Home = 0 },
		"a team twice in a round":          func(s *impl.Season) { s.Rounds[0] = append(s.Rounds[0], impl.Pair{Home: 0, Away: 1}) },
		"too many rounds":                  func(s *impl.Season) { s.Rounds, s.Days, s.Rest = make([][]impl.Pair, 15), daysTo(0, 20), 1 },
		"equal days":                       func(s *impl.Season) { s.Days = []int{1, 3, 4, 6, 6} },
		"descending days":                  func(s *impl.Season) { s.Days = []int{6, 4, 3, 1} },
		"days that go back at the end":     func(s *impl.Season) { s.Days = []int{1, 3, 4, 6, 5} },
		"a negative day":                   func(s *impl.Season) { s.Days = []int{-1, 1, 3, 4, 6} },
		"a day too late":                   func(s *impl.Season) { s.Days = []int{1, 3, 4, 6, 61} },
		"the greatest int as a day":        func(s *impl.Season) { s.Days = []int{1, 3, 4, 6, math.MaxInt} },
		"the least int as a day":           func(s *impl.Season) { s.Days = []int{math.MinInt, 1, 3, 4, 6} },
		"too many days":                    func(s *impl.Season) { s.Days = daysTo(1, 31) },
		"no rest":                          func(s *impl.Season) { s.Rest = 0 },
		"a negative rest":                  func(s *impl.Season) { s.Rest = -2 },
		"too much rest":                    func(s *impl.Season) { s.Rest = 61 },
		"the greatest int as the rest":     func(s *impl.Season) { s.Rest = math.MaxInt },
		"the least int as the rest":        func(s *impl.Season) { s.Rest = math.MinInt },
		"too many closed times":            func(s *impl.Season) { s.Closed = slices.Repeat(s.Closed, 9) },
		"a closed time of no team":         func(s *impl.Season) { s.Closed[0].Team = 3 },
		"a closed time of a negative team": func(s *impl.Season) { s.Closed[0].Team = -1 },
		"a closed time that goes back":     func(s *impl.Season) { s.Closed[0].To = 2 },
		"a closed time from before 0":      func(s *impl.Season) { s.Closed[0].From = -1 },
		"a closed time until after 60":     func(s *impl.Season) { s.Closed = closedOf(2, 60, 61) },
		"a closed time beside the range":   func(s *impl.Season) { s.Closed = closedOf(2, 3, 3, 2, 61, 61) },
	}
	for label, change := range broken {
		s := threeTeamSeason()
		change(&s)
		if got, ok := impl.FirstCalendar(3, s); ok || len(got) != 0 {
			t.Errorf("FirstCalendar with %s = %v, %v", label, got, ok)
		}
		if impl.IsCalendar(3, s, []int{1, 4, 6}) {
			t.Errorf("IsCalendar with %s = true", label)
		}
	}
	for _, n := range withEdges(-2, 12) {
		got, ok := impl.FirstCalendar(n, threeTeamSeason())
		if want := n >= 3 && n <= 8; ok != want || want != (len(got) == 3) {
			t.Errorf("FirstCalendar(%d) = %v, %v", n, got, ok)
		}
	}
}

// With 14 rounds and 30 days, a search that tried all lists of dates would not end.
func TestFirstCalendarOfLongSeasons(t *testing.T) {
	checkFirst(t, 8, longSeason(daysTo(0, 29), 1), daysTo(0, 13), true)
	checkFirst(t, 8, longSeason(daysTo(31, 60), 2), everyDayFrom(31, 2, 14), true)
	checkFirst(t, 8, longSeason(daysTo(0, 26), 2), everyDay(2, 14), true)
	checkFirst(t, 8, longSeason(daysTo(0, 25), 2), nil, false)
	checkFirst(t, 8, longSeason(everyDay(2, 30), 4), everyDay(4, 14), true)
	checkFirst(t, 8, longSeason(everyDay(2, 30), 5), nil, false)
	checkFirst(t, 8, longSeason(everyDay(2, 30), 60), nil, false)
	// In the round 13, the team 3 is at home against the team 2: if its venue is closed from the day 12 on, no list of dates is long enough.
	checkFirst(t, 8, longSeason(daysTo(0, 29), 1, 3, 12, 60), nil, false)
	checkFirst(t, 8, longSeason(daysTo(0, 29), 1, 3, 14, 60), daysTo(0, 13), true)
	checkFirst(t, 8, longSeason(daysTo(0, 29), 1, 3, 13, 28), append(daysTo(0, 12), 29), true)
	checkFirst(t, 8, longSeason(daysTo(0, 29), 1, 3, 13, 29), nil, false)
	for team := range 8 {
		checkFirst(t, 8, longSeason(daysTo(0, 29), 1, team, 0, 60), nil, false)
	}
	for n := 2; n <= impl.MaxTeams; n++ {
		for rest := 1; rest <= 5; rest++ {
			s := impl.Season{Rounds: impl.MirrorRounds(impl.CircleRounds(n)), Days: everyDay(2, 30), Rest: rest, Closed: closedOf(0, 3, 9, 1, 20, 30, 0, 40, 41)}
			first, ok := plainFirst(n, s)
			checkFirst(t, n, s, first, ok)
		}
	}
}

// P4: of all lists of dates, IsCalendar accepts those that keep to the rules; the first calendar is the least of them, and none ends before it.
func TestFirstCalendarIsTheBest(t *testing.T) {
	pool := []int{0, 1, 2, 4, 5}
	all := listsOver(pool, 3)
	found := map[bool]int{}
	for _, text := range []string{"12, 20, 01", "01, 01, 10", "01 23, , 32"} {
		for _, closed := range [][]impl.Closed{nil, closedOf(0, 0, 1), closedOf(1, 2, 4), closedOf(2, 1, 4), closedOf(0, 0, 0, 0, 2, 4, 1, 5, 5), closedOf(3, 5, 5, 2, 0, 0, 0, 0, 0), closedOf(1, 0, 60)} {
			for choice := range 1 << len(pool) {
				var days []int
				for i, day := range pool {
					if choice>>i&1 == 1 {
						days = append(days, day)
					}
				}
				for rest := 1; rest <= 3; rest++ {
					s := impl.Season{Rounds: roundsOf(text), Days: days, Rest: rest, Closed: closed}
					found[checkBest(t, 4, s, all)]++
				}
			}
		}
	}
	if found[true] < 100 || found[false] < 100 {
		t.Errorf("%d seasons have calendars and %d have none", found[true], found[false])
	}
}

// checkBest compares the first calendar with all lists of dates, and reports whether there is one.
func checkBest(t *testing.T, n int, s impl.Season, all [][]int) bool {
	t.Helper()
	var calendars [][]int
	for _, dates := range all {
		if plainCalendar(n, s, dates) {
			calendars = append(calendars, dates)
		}
		checkDates(t, n, s, dates, plainCalendar(n, s, dates))
	}
	if len(calendars) == 0 {
		checkFirst(t, n, s, nil, false)
		return false
	}
	least := slices.MinFunc(calendars, slices.Compare)
	checkFirst(t, n, s, least, true)
	for _, dates := range calendars {
		if impl.LastDay(dates) < impl.LastDay(least) {
			t.Fatalf("of %v, %v ends before %v", s, dates, least)
		}
	}
	return true
}

func TestLastDay(t *testing.T) {
	const least, greatest = math.MinInt, math.MaxInt
	cases := []struct {
		dates []int
		want  int
	}{
		{nil, -1}, {[]int{}, -1}, {[]int{5, 6}[:0], -1}, {[]int{0}, 0}, {[]int{60}, 60}, {[]int{7}, 7}, {[]int{-1}, -1}, {[]int{61}, 61}, {[]int{least}, least}, {[]int{greatest}, greatest},
		{[]int{1, 2}, 2}, {[]int{2, 1}, 1}, {[]int{9, 9, 3}, 3}, {[]int{60, 0}, 0}, {[]int{4, -7}, -7}, {[]int{1, 2, 3}[:2], 2}, {daysTo(0, 100000), 100000},
	}
	for _, c := range cases {
		if got := impl.LastDay(c.dates); got != c.want {
			t.Errorf("LastDay(%v) = %d, want %d", c.dates, got, c.want)
		}
	}
}

func TestBlockedRounds(t *testing.T) {
	const least, greatest = math.MinInt, math.MaxInt
	cases := []struct {
		rounds string
		days   []int
		closed []impl.Closed
		want   []int
	}{
		{"12, 20, 01", []int{1, 3, 4, 6}, closedOf(2, 3, 3), nil}, {"12, 20, 01", []int{1, 3, 4, 6}, nil, nil},
		{"12, 20, 01", []int{1, 3, 4, 6}, closedOf(2, 0, 60), []int{1}}, {"12, 20, 01", []int{1, 3, 4, 6}, closedOf(1, 0, 60), []int{0}}, {"12, 20, 01", []int{1, 3, 4, 6}, closedOf(0, 0, 60), []int{2}},
		{"12, 20, 01", []int{1, 3, 4, 6}, closedOf(0, 1, 6, 1, 1, 6, 2, 1, 6), []int{0, 1, 2}}, {"12, 20, 01", []int{1, 3, 4, 6}, closedOf(0, 1, 5, 1, 1, 6, 2, 2, 6), []int{0}},
		{"12, 20, 01", []int{1, 3, 4, 6}, closedOf(1, 1, 1, 1, 3, 4, 1, 6, 6), []int{0}}, {"12, 20, 01", []int{1, 3, 4, 6}, closedOf(1, 1, 1, 1, 3, 3, 1, 6, 6), nil},
		{"12, 12, 21, 12", []int{5}, closedOf(1, 5, 5), []int{0, 1, 3}}, {"12, 12, 21, 12", []int{5}, closedOf(1, 4, 4, 1, 6, 60), nil},
		// One team of two at home may block a round, or both of them together.
		{"01 23", []int{5, 6}, closedOf(2, 5, 6), []int{0}}, {"01 23", []int{5, 6}, closedOf(0, 5, 5, 2, 6, 6), []int{0}}, {"01 23", []int{5, 6}, closedOf(1, 5, 5, 3, 6, 6), nil}, {"01 23", []int{5, 6}, closedOf(0, 5, 5, 2, 5, 5), nil},
		{", 01, ", []int{5}, closedOf(0, 0, 60), []int{1}}, {", , ", []int{5}, closedOf(0, 0, 60), nil},
		// On no days, all rounds are blocked, also those without pairs.
		{"12, 20, 01", nil, nil, []int{0, 1, 2}}, {", 01, ", []int{}, closedOf(0, 0, 60), []int{0, 1, 2}},
		// Days may be of any kind.
		{"01, 10", []int{9, 3, 9, 3}, closedOf(0, 3, 9), []int{0}}, {"01, 10", []int{9, 3, 3, 2}, closedOf(0, 3, 9), nil}, {"01, 10", []int{-1}, closedOf(0, 0, 60), nil}, {"01, 10", []int{61}, closedOf(0, 0, 60), nil},
		{"01, 10", []int{30, least}, closedOf(0, 0, 60), nil}, {"01, 10", []int{30, greatest}, closedOf(0, 0, 60), nil}, {"01, 10", []int{0, 60, 0}, closedOf(0, 0, 60), []int{0}}, {"01, 10", daysTo(0, 60), closedOf(0, 0, 60), []int{0}},
		{"01, 10", daysTo(0, 61), closedOf(0, 0, 60), nil}, {"01, 10", daysTo(0, 60), closedOf(0, 0, 59, 1, 0, 60), []int{1}}, {"01, 10", slices.Repeat([]int{7}, 10000), closedOf(0, 7, 7), []int{0}},
	}
	for _, c := range cases {
		for _, rest := range []int{1, 2, 60, 0, -1, 61, least, greatest} {
			s := impl.Season{Rounds: roundsOf(c.rounds), Days: c.days, Rest: rest, Closed: c.closed}
			checkBlocked(t, 4, s, c.want...)
		}
	}
}

func TestBlockedRoundsOfInvalidSeasons(t *testing.T) {
	for _, text := range []string{"00", "01 10", "01, 04", "01, 40", "01 12", "01, 01 21"} {
		for _, days := range [][]int{nil, {5}} {
			checkBlocked(t, 4, impl.Season{Rounds: roundsOf(text), Days: days, Rest: 1, Closed: closedOf(0, 0, 60)})
		}
	}
	for _, c := range closedOf(4, 1, 2, -1, 1, 2, 0, 2, 1, 0, -1, 2, 0, 1, 61, 0, math.MinInt, math.MaxInt) {
		s := impl.Season{Rounds: roundsOf("01, 10"), Days: []int{5}, Rest: 1, Closed: closedOf(0, 5, 5)}
		checkBlocked(t, 4, s, 0)
		s.Closed = append(s.Closed, c)
		checkBlocked(t, 4, s)
		s.Days = nil
		checkBlocked(t, 4, s)
	}
	for _, n := range withEdges(-2, 12) {
		s := impl.Season{Rounds: roundsOf("12, 20, 01"), Days: []int{3}, Rest: 1, Closed: closedOf(2, 3, 3)}
		if n >= 3 && n <= 8 {
			checkBlocked(t, n, s, 1)
		} else {
			checkBlocked(t, n, s)
		}
	}
	for size := range 20 {
		s := impl.Season{Rounds: slices.Repeat(roundsOf("01"), size), Days: []int{3}, Closed: closedOf(0, 3, 3)}
		if size <= 14 {
			checkBlocked(t, 2, s, daysTo(0, size-1)...)
		} else {
			checkBlocked(t, 2, s)
		}
	}
}

// A season with a blocked round has no calendar.
func TestBlockedSeasons(t *testing.T) {
	for team := range 8 {
		s := longSeason(daysTo(0, 29), 1, team, 0, 60)
		var want []int
		for r, venue := range impl.VenuesOf(s.Rounds, team) {
			if venue == 1 {
				want = append(want, r)
			}
		}
		if len(want) != 7 {
			t.Errorf("the team %d is at home in the rounds %v", team, want)
		}
		checkBlocked(t, 8, s, want...)
		checkNoCalendar(t, 8, s, daysTo(0, 13))
	}
}

func TestRestOf(t *testing.T) {
	const least, greatest = math.MinInt, math.MaxInt
	cases := []struct {
		rounds string
		dates  []int
		team   int
		want   int
	}{
		{"12, 20, 01", []int{1, 4, 6}, 0, 2}, {"12, 20, 01", []int{1, 4, 6}, 1, 5}, {"12, 20, 01", []int{1, 4, 6}, 2, 3}, {"12, 20, 01", []int{1, 4, 6}, 3, -1}, {"12, 20, 01", []int{1, 4, 6}, -1, -1},
		// At home and away, one after the other, in any order.
		{"01, 02, 10, 20", []int{0, 10, 13, 20}, 0, 3}, {"01, 02, 10, 20", []int{0, 2, 13, 20}, 0, 2}, {"01, 02, 10, 20", []int{0, 10, 20, 21}, 0, 1}, {"01, 02, 10, 20", []int{0, 10, 20, 21}, 1, 20}, {"01, 02, 10, 20", []int{0, 10, 20, 21}, 2, 11},
		// Byes are left out, at the beginning, at the end and between.
		{"23, 01, , 23, 10, ", []int{0, 1, 2, 3, 10, 11}, 0, 9}, {"01, , , 01", []int{0, 20, 40, 60}, 1, 60}, {"01, , 01, , 01", []int{0, 20, 30, 40, 41}, 1, 11}, {"01, 23, 01", []int{5, 6, 7}, 0, 2},
		// No game and one game have no days between them.
		{"", []int{5}, 0, -1}, {"01", []int{5}, 0, -1}, {"01, 23", []int{5, 6}, 0, -1}, {"23, 45", []int{5, 6}, 0, -1}, {"23, 23", []int{5, 6}, 0, -1}, {", , ", []int{1, 2, 3}, 0, -1}, {"01, , ", []int{1, 2, 3}, 1, -1}, {", , 01", []int{1, 2, 3}, 1, -1},
		// A round that has the team twice counts once.
		{"01 10", []int{5}, 0, -1}, {"01 10, 01 02", []int{5, 9}, 0, 4}, {"00", []int{5}, 0, -1}, {"00, 00", []int{5, 9}, 0, 4}, {"01 02 03, 23, 10 20 30", []int{5, 9, 17}, 0, 12}, {"01 20, 23", []int{5, 9}, 0, -1}, {"01 20, 23", []int{5, 9}, 2, 4},
		// Dates that are equal, or that go back.
		{"01, 10", []int{5, 5}, 0, 0}, {"01, 10", []int{9, 5}, 0, 4}, {"01, 10", []int{60, 0}, 0, 60}, {"01, 10", []int{0, 60}, 0, 60}, {"01, 10, 01", []int{9, 5, 8}, 0, 3}, {"01, 10, 01", []int{9, 20, 8}, 0, 11}, {"01, 10, 01", []int{60, 40, 30}, 1, 10}, {"01, 10, 01", []int{30, 60, 30}, 1, 30}, {"01, 10, 01", []int{0, 0, 0}, 1, 0},
		{"01, 10, 01", []int{1, 50, 2}, 1, 48}, {"01, 23, 01", []int{50, 1, 50}, 1, 0},
		// Dates that are too few or too many, and dates that are none, also those of rounds in which the team has a bye.
		{"01, 10", []int{5}, 0, -1}, {"01, 10", nil, 0, -1}, {"01, 10", []int{5, 6, 7}, 0, -1}, {"01, 10, ", []int{5, 6}, 0, -1}, {"01", []int{5, 6}, 0, -1},
		{"01, 10", []int{-1, 6}, 0, -1}, {"01, 10", []int{5, -1}, 0, -1}, {"01, 10", []int{5, 61}, 0, -1}, {"01, 10", []int{61, 5}, 0, -1}, {"01, 10", []int{least, 6}, 0, -1}, {"01, 10", []int{5, greatest}, 0, -1}, {"01, 10", []int{least, greatest}, 0, -1}, {"01, 10", []int{5, 1 << 32}, 0, -1},
		{"01, 10, 23", []int{5, 6, 61}, 0, -1}, {"01, 10, 23", []int{5, 6, 60}, 0, 1}, {"23, 01, 10", []int{-1, 5, 6}, 0, -1}, {"23, 01, 10", []int{0, 5, 6}, 0, 1}, {"01, , 10", []int{5, -1, 6}, 0, -1},
		// Teams that do not exist have games if the rounds name them.
		{"98, 89", []int{5, 8}, 9, 3}, {"98, 89", []int{5, 8}, 8, 3}, {"01, 10", []int{5, 8}, 8, -1}, {"01, 10", []int{5, 8}, 256, -1}, {"01, 10", []int{5, 8}, 1 << 32, -1}, {"01, 10", []int{5, 8}, least, -1}, {"01, 10", []int{5, 8}, greatest, -1},
	}
	for _, c := range cases {
		s := impl.Season{Rounds: roundsOf(c.rounds)}
		checkRest(t, s, c.dates, c.team, c.want)
		// Days, Rest and the closed times do not matter.
		s = impl.Season{Rounds: roundsOf(c.rounds), Days: []int{7, 3, -9}, Rest: -5, Closed: closedOf(9, 8, 7)}
		checkRest(t, s, c.dates, c.team, c.want)
	}
	odd := impl.Season{Rounds: [][]impl.Pair{pairsOf(least, greatest), pairsOf(-1, -1), pairsOf(greatest, -1, least, 3)}}
	checkRest(t, odd, []int{1, 3, 8}, least, 7)
	checkRest(t, odd, []int{1, 3, 8}, greatest, 7)
	checkRest(t, odd, []int{1, 3, 8}, -1, 5)
	checkRest(t, odd, []int{1, 3, 8}, 3, -1)
}

func TestRestOfManyRounds(t *testing.T) {
	for size := range 40 {
		s := impl.Season{Rounds: slices.Repeat(roundsOf("01"), size)}
		want := 1
		if size < 2 {
			want = -1
		}
		checkRest(t, s, daysTo(1, size), 0, want)
		checkRest(t, s, daysTo(1, size), 2, -1)
		checkRest(t, s, daysTo(0, size), 0, -1)
	}
	s := impl.Season{Rounds: slices.Repeat(roundsOf("01"), 100000)}
	checkRest(t, s, slices.Repeat([]int{0, 40}, 50000), 1, 40)
	for _, team := range withEdges(-3, 10) {
		checkRest(t, impl.Season{}, nil, team, -1)
		checkRest(t, impl.Season{}, []int{0}, team, -1)
		checkRest(t, impl.Season{Rounds: roundsOf(", ")}, []int{0, 9}, team, -1)
	}
}

// In a calendar, no team has less rest than the season asks for.
func TestRestInCalendars(t *testing.T) {
	for n := 2; n <= impl.MaxTeams; n++ {
		for rest := 1; rest <= 4; rest++ {
			s := impl.Season{Rounds: impl.MirrorRounds(impl.CircleRounds(n)), Days: everyDay(2, 30), Rest: rest, Closed: closedOf(0, 3, 9, 1, 20, 23)}
			dates, ok := impl.FirstCalendar(n, s)
			if !ok {
				t.Errorf("FirstCalendar(%d) with %d days of rest = false", n, rest)
			}
			for team := range n {
				if got := impl.RestOf(s, dates, team); got < rest {
					t.Errorf("of %d teams, %d has %d days of rest, not %d", n, team, got, rest)
				}
			}
		}
	}
}

// someDays returns up to 33 days, which are mostly ascending and in range.
func someDays(next func(n int) int) []int {
	var days []int
	day := next(4) - next(20)/19
	for size := next(34); len(days) < size && day <= 60+next(20)/19; {
		days = append(days, day)
		day += 1 + next(3)
		if next(150) == 0 {
			day -= 3
		}
	}
	return days
}

// someSeason returns a season of up to n teams, which is mostly valid.
func someSeason(start int) (int, impl.Season) {
	next := numbersFrom(start)
	n := 2 + next(7)
	s := impl.Season{Rounds: impl.MirrorRounds(impl.CircleRounds(n)), Days: someDays(next), Rest: 1 + next(4)}
	s.Rounds = s.Rounds[:next(len(s.Rounds)+1)]
	if next(4) == 0 {
		n, s.Rounds = someRounds(start)
	}
	for range next(10) {
		from := next(61)
		c := impl.Closed{Team: next(n), From: from, To: min(from+next(12), 60)}
		if next(40) == 0 {
			c = impl.Closed{Team: next(n+2) - 1, From: next(64) - 2, To: next(64) - 2}
		}
		s.Closed = append(s.Closed, c)
	}
	if next(12) == 0 {
		s.Rest = next(64) - 1
	}
	return n, s
}

// someDates returns dates near a calendar, if there is one, and any others if there is none.
func someDates(start int, s impl.Season, first []int) []int {
	next := numbersFrom(start)
	dates := slices.Clone(first)
	for len(dates) < len(s.Rounds)+next(20)/19 {
		dates = append(dates, next(61))
	}
	for range next(3) {
		if len(dates) > 0 {
			dates[next(len(dates))] += next(4) - 1
		}
	}
	return dates
}

// P4 and P9: seasons of all sizes, valid and others, with dates that are calendars or nearly so.
func TestManySeasons(t *testing.T) {
	found := map[bool]int{}
	calendars := map[bool]int{}
	for start := range 3000 {
		n, s := someSeason(start)
		first, ok := impl.FirstCalendar(n, s)
		found[ok]++
		dates := someDates(start, s, first)
		checkSeason(t, s, dates)
		calendars[impl.IsCalendar(n, s, dates)]++
	}
	if found[true] < 500 || found[false] < 500 || calendars[true] < 500 || calendars[false] < 500 {
		t.Errorf("seasons with a calendar: %v, dates that are one: %v", found, calendars)
	}
}

// spareSeason returns a season and dates with further elements behind each list, and a function that reports whether any of these has changed.
func spareSeason() (impl.Season, []int, func() bool) {
	pairs := pairsOf(1, 2, 2, 0, 0, 1, 9, 9)
	rounds := [][]impl.Pair{pairs[0:1], pairs[1:2], pairs[2:3], pairs[3:4]}
	days := []int{1, 3, 4, 6, 5, -1}
	closed := closedOf(2, 3, 3, 0, 0, 60, 9, 9, 9)
	dates := []int{1, 4, 6, 99}
	pairsBefore, roundsBefore, daysBefore, closedBefore, datesBefore := slices.Clone(pairs), copyRounds(rounds), slices.Clone(days), slices.Clone(closed), slices.Clone(dates)
	s := impl.Season{Rounds: rounds[:3], Days: days[:4], Rest: 2, Closed: closed[:1]}
	return s, dates[:3], func() bool {
		return !slices.Equal(pairs, pairsBefore) || !sameRounds(rounds, roundsBefore) || !slices.Equal(days, daysBefore) || !slices.Equal(closed, closedBefore) || !slices.Equal(dates, datesBefore)
	}
}

// Neither the arguments nor the spare capacity behind them may change, and what is behind them does not count.
func TestCalendarArgumentsStay(t *testing.T) {
	s, dates, changed := spareSeason()
	checkFirst(t, 3, s, []int{1, 4, 6}, true)
	checkDates(t, 3, s, dates, true)
	checkSeason(t, s, dates)
	checkSeason(t, s, dates[:2])
	s.Days = s.Days[:3]
	checkFirst(t, 3, s, nil, false)
	checkSeason(t, s, dates)
	s.Days, s.Closed = s.Days[:2], closedOf(2, 0, 60)
	checkBlocked(t, 3, s, 1)
	if impl.LastDay(dates) != 6 || impl.LastDay(dates[:0]) != -1 || !impl.ClosedOk(3, s.Closed) {
		t.Error("LastDay or ClosedOk count what is behind")
	}
	if changed() {
		t.Errorf("the season became %v with the dates %v", s, dates)
	}
}

// Results are new at each call, also where the dates are all of the days, and stay as they are when the arguments change.
func TestCalendarResultsAreNew(t *testing.T) {
	s, _, changed := spareSeason()
	all := impl.Season{Rounds: roundsOf("01, 10, 01"), Days: []int{1, 2, 3}, Rest: 1}
	shut := impl.Season{Rounds: roundsOf("01, 10, 01"), Days: []int{0, 1, 2}, Rest: 1, Closed: closedOf(0, 0, 60, 1, 0, 60)}
	first := func(n int, s impl.Season) []int {
		dates, _ := impl.FirstCalendar(n, s)
		return dates
	}
	checkNewResults(t,
		indexCall{func() []int { return first(3, s) }, []int{1, 4, 6}},
		indexCall{func() []int { return first(2, all) }, []int{1, 2, 3}},
		indexCall{func() []int { return impl.BlockedRounds(2, shut) }, []int{0, 1, 2}},
	)
	if changed() || !slices.Equal(all.Days, []int{1, 2, 3}) || !slices.Equal(shut.Days, []int{0, 1, 2}) {
		t.Errorf("the seasons became %v, %v and %v", s, all, shut)
	}
	dates, blocked := first(2, all), impl.BlockedRounds(2, shut)
	clear(all.Days)
	clear(shut.Days)
	if !slices.Equal(dates, []int{1, 2, 3}) || !slices.Equal(blocked, []int{0, 1, 2}) {
		t.Errorf("after a change of the seasons, the results are %v and %v", dates, blocked)
	}
}
