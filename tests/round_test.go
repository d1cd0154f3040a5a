package tests

import (
	"math"
	"slices"
	"strings"
	"testing"

	"loop.example/g00834/impl"
)

// pairsOf returns the pairs of teams that follow each other: the first one of each two is at home.
func pairsOf(teams ...int) []impl.Pair {
	var round []impl.Pair
	for i := 0; i < len(teams); i += 2 {
		round = append(round, impl.Pair{Home: teams[i], Away: teams[i+1]})
	}
	return round
}

// roundsOf reads rounds that are separated by commas; each pair is two digits, the first one for the team at home.
func roundsOf(text string) [][]impl.Pair {
	var rounds [][]impl.Pair
	for _, part := range strings.Split(text, ",") {
		var teams []int
		for _, pair := range strings.Fields(part) {
			teams = append(teams, int(pair[0]-'0'), int(pair[1]-'0'))
		}
		rounds = append(rounds, pairsOf(teams...))
	}
	return rounds
}

// singleRounds returns the rounds of the circle method for each number of teams, as found by hand.
func singleRounds() map[int]string {
	return map[int]string{
		2: "10",
		3: "12, 20, 01",
		4: "30 12, 13 20, 32 01",
		5: "14 32, 20 43, 31 04, 42 10, 03 21",
		6: "50 14 32, 15 20 43, 52 31 04, 35 42 10, 54 03 21",
		7: "16 52 34, 20 63 45, 31 04 56, 42 15 60, 53 26 01, 64 30 12, 05 41 23",
		8: "70 16 52 34, 17 20 63 45, 72 31 04 56, 37 42 15 60, 74 53 26 01, 57 64 30 12, 76 05 41 23",
	}
}

// sameRounds compares rounds; nil and empty ones are the same.
func sameRounds(a [][]impl.Pair, b [][]impl.Pair) bool { return slices.EqualFunc(a, b, slices.Equal) }

// copyRounds returns the rounds in new memory without spare capacity.
func copyRounds(rounds [][]impl.Pair) [][]impl.Pair {
	other := make([][]impl.Pair, len(rounds))
	for r, round := range rounds {
		other[r] = make([]impl.Pair, len(round))
		copy(other[r], round)
	}
	return other
}

// reversed returns the pairs with their teams exchanged.
func reversed(round []impl.Pair) []impl.Pair {
	var other []impl.Pair
	for _, p := range round {
		other = append(other, impl.Pair{Home: p.Away, Away: p.Home})
	}
	return other
}

// teamsIn returns the teams of a round, those at home at the even places.
func teamsIn(round []impl.Pair) []int {
	var teams []int
	for _, p := range round {
		teams = append(teams, p.Home, p.Away)
	}
	return teams
}

// plainMirror puts the rounds behind each other twice, the second time with the teams exchanged: a second way to MirrorRounds.
func plainMirror(rounds [][]impl.Pair) [][]impl.Pair {
	both := slices.Clone(rounds)
	for _, round := range rounds {
		both = append(both, reversed(round))
	}
	return both
}

// plainSchedule counts how often each team occurs in a round: a second way to IsSchedule.
func plainSchedule(n int, rounds [][]impl.Pair) bool {
	if n < 2 || n > 8 || len(rounds) > 14 {
		return false
	}
	for _, round := range rounds {
		count := map[int]int{}
		for _, team := range teamsIn(round) {
			count[team]++
			if team < 0 || team >= n || count[team] > 1 {
				return false
			}
		}
	}
	return true
}

// plainRobin compares the sorted list of all pairs with the one that there has to be: a second way to IsRoundRobin.
func plainRobin(n int, rounds [][]impl.Pair, times int) bool {
	if !plainSchedule(n, rounds) || times != 1 && times != 2 {
		return false
	}
	var got, want []int
	for _, p := range slices.Concat(rounds...) {
		if times == 1 {
			got = append(got, min(p.Home, p.Away)*10+max(p.Home, p.Away))
		} else {
			got = append(got, p.Home*10+p.Away)
		}
	}
	for a := range n {
		for b := range n {
			if a < b || a > b && times == 2 {
				want = append(want, a*10+b)
			}
		}
	}
	slices.Sort(got)
	return slices.Equal(got, want)
}

// plainVenues looks for the first place of a team among all places of each round: a second way to VenuesOf.
func plainVenues(rounds [][]impl.Pair, team int) []int {
	var venues []int
	for _, round := range rounds {
		at := slices.Index(teamsIn(round), team)
		venues = append(venues, map[int]int{0: 1, 1: 2}[at%2])
	}
	return venues
}

// plainBreaks counts the venues that occur twice in a row: a second way to BreaksOf.
func plainBreaks(rounds [][]impl.Pair, team int) int {
	breaks := 0
	venues := plainVenues(rounds, team)
	for r := range venues {
		if r > 0 && venues[r]*venues[r-1] != 0 && venues[r]*venues[r-1] != 2 {
			breaks++
		}
	}
	return breaks
}

// plainTotal adds the breaks of all teams: a second way to TotalBreaks.
func plainTotal(n int, rounds [][]impl.Pair) int {
	if !plainSchedule(n, rounds) {
		return -1
	}
	total := 0
	for team := n - 1; team >= 0; team-- {
		total += plainBreaks(rounds, team)
	}
	return total
}

// plainGames returns the open games pair by pair: a second way to GamesFrom.
func plainGames(rounds [][]impl.Pair) []impl.Game {
	var games []impl.Game
	for _, p := range slices.Concat(rounds...) {
		games = append(games, open(p.Home, p.Away))
	}
	return games
}

// plainRoundOf goes through the rounds from the last one on: a second way to RoundOf.
func plainRoundOf(rounds [][]impl.Pair, home int, away int) int {
	first := -1
	for r := len(rounds) - 1; r >= 0; r-- {
		for _, p := range rounds[r] {
			if p.Home == home && p.Away == away {
				first = r
			}
		}
	}
	return first
}

// checkSchedule checks whether the rounds are a schedule and a round robin, and how many breaks they have, for numbers of teams and times in range and out of it.
func checkSchedule(t *testing.T, rounds [][]impl.Pair) {
	t.Helper()
	for n := -1; n <= 10; n++ {
		if got, want := impl.IsSchedule(n, rounds), plainSchedule(n, rounds); got != want {
			t.Fatalf("IsSchedule(%d, %v) = %v", n, rounds, got)
		}
		if got, want := impl.TotalBreaks(n, rounds), plainTotal(n, rounds); got != want {
			t.Fatalf("TotalBreaks(%d, %v) = %d, want %d", n, rounds, got, want)
		}
		for times := -1; times <= 4; times++ {
			if got, want := impl.IsRoundRobin(n, rounds, times), plainRobin(n, rounds, times); got != want {
				t.Fatalf("IsRoundRobin(%d, %v, %d) = %v", n, rounds, times, got)
			}
		}
	}
}

// checkRounds compares what all functions say of rounds, valid or not, with the second ways.
func checkRounds(t *testing.T, rounds [][]impl.Pair) {
	t.Helper()
	checkSchedule(t, rounds)
	if got, want := impl.MirrorRounds(rounds), plainMirror(rounds); !sameRounds(got, want) {
		t.Fatalf("MirrorRounds(%v) = %v, want %v", rounds, got, want)
	}
	if got, want := impl.GamesFrom(rounds), plainGames(rounds); !slices.Equal(got, want) {
		t.Fatalf("GamesFrom(%v) = %v, want %v", rounds, got, want)
	}
	for team := -2; team <= 9; team++ {
		checkVenues(t, rounds, team, plainVenues(rounds, team), plainBreaks(rounds, team))
		for other := -2; other <= 9; other++ {
			if got, want := impl.RoundOf(rounds, team, other), plainRoundOf(rounds, team, other); got != want {
				t.Fatalf("RoundOf(%v, %d, %d) = %d, want %d", rounds, team, other, got, want)
			}
		}
	}
}

// checkVenues checks the venues and breaks of a team.
func checkVenues(t *testing.T, rounds [][]impl.Pair, team int, venues []int, breaks int) {
	t.Helper()
	if got := impl.VenuesOf(rounds, team); !slices.Equal(got, venues) {
		t.Fatalf("VenuesOf(%v, %d) = %v, want %v", rounds, team, got, venues)
	}
	if got := impl.BreaksOf(rounds, team); got != breaks {
		t.Fatalf("BreaksOf(%v, %d) = %d, want %d", rounds, team, got, breaks)
	}
}

func TestCircleRounds(t *testing.T) {
	single := singleRounds()
	for _, n := range withEdges(-20, 20) {
		var want [][]impl.Pair
		if text, known := single[n]; known {
			want = roundsOf(text)
		}
		if got := impl.CircleRounds(n); !sameRounds(got, want) {
			t.Errorf("CircleRounds(%d) = %v, want %v", n, got, want)
		}
	}
}

// The rule of the document, number by number: which teams make the pair k of the round r, and which of them is at home.
func TestCircleRoundsByTheRule(t *testing.T) {
	for n := 2; n <= impl.MaxTeams; n++ {
		m := n + n%2
		rounds := impl.CircleRounds(n)
		for r := range m - 1 {
			var want []impl.Pair
			for k := range m / 2 {
				a, b := m-1, r
				for x := range m - 1 {
					if k > 0 && (x-r-k)%(m-1) == 0 {
						a = x
					}
					if k > 0 && (x-r+k)%(m-1) == 0 {
						b = x
					}
				}
				if k == 0 && r%2 == 1 || k > 0 && k%2 == 0 {
					a, b = b, a
				}
				if a < n && b < n {
					want = append(want, impl.Pair{Home: a, Away: b})
				}
			}
			if len(rounds) != m-1 || !slices.Equal(rounds[r], want) {
				t.Errorf("round %d of CircleRounds(%d) = %v, want %v", r, n, rounds, want)
			}
		}
	}
}

// P4: every team plays in each round or has one bye in all, every two teams meet once, and no team is at home much more often than away.
func TestCircleRoundsAreRoundRobins(t *testing.T) {
	for n := 2; n <= impl.MaxTeams; n++ {
		rounds := impl.CircleRounds(n)
		met := map[[2]int]int{}
		games := make([]int, n)
		surplus := make([]int, n)
		for r, round := range rounds {
			if len(round) != n/2 {
				t.Errorf("round %d of %d teams = %v", r, n, round)
			}
			teams := teamsIn(round)
			slices.Sort(teams)
			if len(slices.Compact(teams)) != n/2*2 {
				t.Errorf("round %d of %d teams has a team twice: %v", r, n, round)
			}
			for _, p := range round {
				met[[2]int{min(p.Home, p.Away), max(p.Home, p.Away)}]++
				games[p.Home]++
				games[p.Away]++
				surplus[p.Home]++
				surplus[p.Away]--
			}
		}
		for team := range n {
			if games[team] != n-1 || surplus[team] < -1 || surplus[team] > 1 {
				t.Errorf("of %d teams, %d plays %d games and is %d times more often at home", n, team, games[team], surplus[team])
			}
			for other := range team {
				if met[[2]int{other, team}] != 1 {
					t.Errorf("of %d teams, %d and %d meet %d times", n, other, team, met[[2]int{other, team}])
				}
			}
		}
	}
}

// P4: the circle method gives a single round robin, and its rounds with their mirror a double one, of these teams and of no other number.
func TestCircleRoundsPassTheChecks(t *testing.T) {
	for n := 2; n <= impl.MaxTeams; n++ {
		single := impl.CircleRounds(n)
		double := impl.MirrorRounds(single)
		for _, m := range withEdges(-2, 12) {
			fits := m >= n && m <= 8
			if impl.IsSchedule(m, single) != fits || impl.IsSchedule(m, double) != fits {
				t.Errorf("IsSchedule(%d) of %d teams = %v", m, n, !fits)
			}
			for _, times := range withEdges(-3, 4) {
				if got := impl.IsRoundRobin(m, single, times); got != (m == n && times == 1) {
					t.Errorf("IsRoundRobin(%d, %d) of %d teams that meet once = %v", m, times, n, got)
				}
				if got := impl.IsRoundRobin(m, double, times); got != (m == n && times == 2) {
					t.Errorf("IsRoundRobin(%d, %d) of %d teams that meet twice = %v", m, times, n, got)
				}
			}
		}
		checkRounds(t, single)
		checkRounds(t, double)
		if !impl.SeasonOk(n, impl.GamesFrom(single)) || !impl.SeasonOk(n, impl.GamesFrom(double)) {
			t.Errorf("the games of %d teams are no season", n)
		}
	}
}

func TestMirrorRounds(t *testing.T) {
	const least, greatest = math.MinInt, math.MaxInt
	cases := []struct {
		rounds, want [][]impl.Pair
	}{
		{nil, nil}, {[][]impl.Pair{}, nil}, {[][]impl.Pair{nil}, [][]impl.Pair{nil, nil}}, {[][]impl.Pair{{}, nil, {}}, make([][]impl.Pair, 6)},
		{roundsOf("01"), roundsOf("01, 10")}, {roundsOf("12, 20, 01"), roundsOf("12, 20, 01, 21, 02, 10")},
		{roundsOf("30 12, 13 20, 32 01"), roundsOf("30 12, 13 20, 32 01, 03 21, 31 02, 23 10")},
		{roundsOf("01 23, , 45"), roundsOf("01 23, , 45, 10 32, , 54")}, {roundsOf(", 76"), roundsOf(", 76, , 67")},
		{roundsOf("01 01 10, 33 31"), roundsOf("01 01 10, 33 31, 10 10 01, 33 13")}, {roundsOf("89 98, 89"), roundsOf("89 98, 89, 98 89, 98")},
		{[][]impl.Pair{pairsOf(least, greatest, -1, -1), pairsOf(greatest, 0)}, [][]impl.Pair{pairsOf(least, greatest, -1, -1), pairsOf(greatest, 0), pairsOf(greatest, least, -1, -1), pairsOf(0, greatest)}},
	}
	for _, c := range cases {
		if got := impl.MirrorRounds(c.rounds); !sameRounds(got, c.want) {
			t.Errorf("MirrorRounds(%v) = %v, want %v", c.rounds, got, c.want)
		}
	}
	for _, size := range []int{14, 15, 1000} {
		rounds := slices.Repeat(roundsOf("01, , 24 35 77"), size)
		if got := impl.MirrorRounds(rounds); !sameRounds(got, append(slices.Repeat(roundsOf("01, , 24 35 77"), size), slices.Repeat(roundsOf("10, , 42 53 77"), size)...)) {
			t.Errorf("MirrorRounds of %d rounds = %v", 3*size, got)
		}
	}
}

func TestMirrorRoundsTwice(t *testing.T) {
	for n := 2; n <= impl.MaxTeams; n++ {
		rounds := impl.CircleRounds(n)
		double := impl.MirrorRounds(rounds)
		again := impl.MirrorRounds(double)
		size := len(rounds)
		if len(again) != 4*size || !sameRounds(again[:2*size], double) || !sameRounds(again[3*size:], rounds) || !sameRounds(again[2*size:3*size], double[size:]) {
			t.Errorf("MirrorRounds of the mirror of %v = %v", rounds, again)
		}
	}
}

// A schedule without pairs asks for nothing but the numbers of teams and of rounds.
func TestIsScheduleWithoutPairs(t *testing.T) {
	for _, n := range withEdges(-2, 12) {
		inRange := n >= 2 && n <= 8
		for _, rounds := range [][][]impl.Pair{nil, {}, {nil}, {{}}, {{}, nil, {}}, roundsOf("00")[:0], {pairsOf(3, 3)[:0]}} {
			if impl.IsSchedule(n, rounds) != inRange {
				t.Errorf("IsSchedule(%d, %v) = %v", n, rounds, !inRange)
			}
			if got := impl.TotalBreaks(n, rounds); got != map[bool]int{true: 0, false: -1}[inRange] {
				t.Errorf("TotalBreaks(%d, %v) = %d", n, rounds, got)
			}
			for times := -1; times <= 3; times++ {
				if impl.IsRoundRobin(n, rounds, times) {
					t.Errorf("IsRoundRobin(%d, %v, %d) = true", n, rounds, times)
				}
			}
		}
	}
}

func TestIsScheduleSizes(t *testing.T) {
	for _, pool := range []string{"", "01", "01 32", "01, 10", ", , 12"} {
		many := slices.Repeat(roundsOf(pool), 20)
		for size := range min(len(many), 30) + 1 {
			for n := 4; n <= 8; n++ {
				if got := impl.IsSchedule(n, many[:size]); got != (size <= 14) {
					t.Errorf("IsSchedule(%d) of %d rounds of %q = %v", n, size, pool, got)
				}
				if got := impl.TotalBreaks(n, many[:size]); (got == -1) != (size > 14) {
					t.Errorf("TotalBreaks(%d) of %d rounds of %q = %d", n, size, pool, got)
				}
			}
		}
	}
	for _, size := range []int{15, 16, 28, 100000} {
		if impl.IsSchedule(2, make([][]impl.Pair, size)) || impl.IsSchedule(8, slices.Repeat(roundsOf("01"), size)) {
			t.Errorf("IsSchedule of %d rounds = true", size)
		}
	}
}

func TestIsScheduleTeams(t *testing.T) {
	teams := withEdges(-2, 10)
	for _, n := range teams {
		for _, home := range teams {
			for _, away := range teams {
				want := n >= 2 && n <= 8 && home >= 0 && home < n && away >= 0 && away < n && home != away
				rounds := [][]impl.Pair{pairsOf(home, away)}
				if got := impl.IsSchedule(n, rounds); got != want {
					t.Fatalf("IsSchedule(%d, %v) = %v", n, rounds, got)
				}
				if got := impl.TotalBreaks(n, rounds); got != map[bool]int{true: 0, false: -1}[want] {
					t.Fatalf("TotalBreaks(%d, %v) = %d", n, rounds, got)
				}
				if got := impl.IsRoundRobin(n, rounds, 1); got != (want && n == 2) {
					t.Fatalf("IsRoundRobin(%d, %v, 1) = %v", n, rounds, got)
				}
			}
		}
	}
}

// Each pair of a long schedule counts, and so do each two pairs of one round.
func TestIsScheduleAtEachPlace(t *testing.T) {
	whole := impl.MirrorRounds(impl.CircleRounds(8))
	bad := pairsOf(8, 0, 0, 8, -1, 0, 0, -1, 3, 3, math.MinInt, 1, 1, math.MinInt, math.MaxInt, 2, 2, math.MaxInt, 1<<32, 1, 1, 1<<32+1, -8, -7, 256, 257)
	for r, round := range whole {
		for i := range round {
			for _, p := range bad {
				rounds := copyRounds(whole)
				// The teams of the bad pair play nowhere else in the round.
				rounds[r] = slices.DeleteFunc(rounds[r], func(x impl.Pair) bool {
					return x != round[i] && (x.Home == p.Home || x.Away == p.Home || x.Home == p.Away || x.Away == p.Away)
				})
				rounds[r][slices.Index(rounds[r], round[i])] = p
				if impl.IsSchedule(8, rounds) || impl.TotalBreaks(8, rounds) != -1 || impl.IsRoundRobin(8, rounds, 2) {
					t.Errorf("IsSchedule with %v at %d in round %d = true", p, i, r)
				}
			}
			for j := range round {
				for _, team := range []int{round[j].Home, round[j].Away} {
					home, away := copyRounds(whole), copyRounds(whole)
					home[r][i].Home = team
					away[r][i].Away = team
					if got := impl.IsSchedule(8, home); got != (team == round[i].Home) {
						t.Errorf("IsSchedule with %d at home at %d in round %d, %v, = %v", team, i, r, round, got)
					}
					if got := impl.IsSchedule(8, away); got != (team == round[i].Away) {
						t.Errorf("IsSchedule with %d away at %d in round %d, %v, = %v", team, i, r, round, got)
					}
				}
			}
		}
	}
}

// A schedule may repeat pairs in other rounds, leave teams out, and have a round robin of some teams only.
func TestIsScheduleAccepts(t *testing.T) {
	for _, text := range []string{"01, 01, 01, 01", "01, 10, 01", "01, , , 23", "67 01, 54", "34", "76 54 32 10", "01 23 45 67", "72, 27, 72, 30", "20, 21, 23, 24, 25, 26, 27"} {
		rounds := roundsOf(text)
		if !impl.IsSchedule(8, rounds) {
			t.Errorf("IsSchedule(8, %q) = false", text)
		}
		checkRounds(t, rounds)
	}
	for _, text := range []string{"01 01", "01 10", "01 12", "01 20", "10 12", "00", "00 11", "01 22", "01, 23 32", "01 23 45 67 01", "01 23 45 67 10", "01 23 45 60", "01 23 45 36", "12, 13, 14 41"} {
		rounds := roundsOf(text)
		if impl.IsSchedule(8, rounds) {
			t.Errorf("IsSchedule(8, %q) = true", text)
		}
		checkRounds(t, rounds)
	}
	long := [][]impl.Pair{slices.Repeat(pairsOf(0, 1, 2, 3), 50000)}
	if impl.IsSchedule(8, long) || impl.TotalBreaks(8, long) != -1 || impl.IsRoundRobin(8, long, 1) {
		t.Error("IsSchedule of a round of 100000 pairs = true")
	}
}

// roundPool returns pairs of up to three teams, and some with teams that do not exist.
func roundPool() []impl.Pair {
	return pairsOf(0, 1, 1, 0, 0, 2, 2, 1, 1, 1, -1, 0, 1, 3)
}

// P9: every round of at most three pairs, and every list of at most three rounds of at most one pair.
func TestRoundsAgainstSecondWays(t *testing.T) {
	lists := listsOver(roundPool(), 3)
	for _, round := range lists {
		checkRounds(t, [][]impl.Pair{round})
		checkRounds(t, [][]impl.Pair{{}, round, reversed(round)})
	}
	for _, rounds := range listsOver(listsOver(roundPool(), 1), 3) {
		checkRounds(t, rounds)
	}
}

// someRounds returns up to 16 rounds of pairs that are mostly valid for n teams.
func someRounds(start int) (int, [][]impl.Pair) {
	next := numbersFrom(start)
	n := 2 + next(7)
	rounds := make([][]impl.Pair, next(17))
	for r := range rounds {
		free := ordersOf(4)[next(24)]
		free = append(free, 4, 5, 6, 7)
		for i := 0; i+1 < len(free); i += 2 {
			p := impl.Pair{Home: free[i], Away: free[i+1]}
			if next(2) == 0 {
				p.Home, p.Away = p.Away, p.Home
			}
			if next(3) > 0 && max(p.Home, p.Away) < n || next(150) == 0 {
				rounds[r] = append(rounds[r], p)
			}
		}
		if next(40) == 0 {
			rounds[r] = append(rounds[r], impl.Pair{Home: next(11) - 1, Away: next(11) - 1})
		}
	}
	return n, rounds
}

// P9: long lists of rounds, schedules and others.
func TestManyRounds(t *testing.T) {
	valid := map[bool]int{}
	for start := range 1500 {
		n, rounds := someRounds(start)
		checkRounds(t, rounds)
		valid[impl.IsSchedule(n, rounds)]++
	}
	if valid[true] < 300 || valid[false] < 300 {
		t.Errorf("of the rounds, %d are schedules and %d are not", valid[true], valid[false])
	}
}

// Every list of at most six rounds with one pair of three teams each: all round robins of three teams without empty rounds are among them.
func TestIsRoundRobinOfThreeTeams(t *testing.T) {
	var pool [][]impl.Pair
	for _, p := range pairsOf(0, 1, 1, 0, 0, 2, 2, 0, 1, 2, 2, 1) {
		pool = append(pool, []impl.Pair{p})
	}
	found := map[int]int{}
	for _, rounds := range listsOver(pool, 6) {
		for times := 0; times <= 3; times++ {
			got := impl.IsRoundRobin(3, rounds, times)
			if got != plainRobin(3, rounds, times) {
				t.Fatalf("IsRoundRobin(3, %v, %d) = %v", rounds, times, got)
			}
			if got {
				found[times]++
			}
		}
	}
	// The three pairs in each order, each of them either way round, and the six of a double one in each order.
	if len(found) != 2 || found[1] != 6*8 || found[2] != 720 {
		t.Errorf("the numbers of round robins of three teams are %v", found)
	}
}

func TestIsRoundRobinOfTwoTeams(t *testing.T) {
	for _, rounds := range listsOver([][]impl.Pair{nil, pairsOf(0, 1), pairsOf(1, 0), pairsOf(0, 1, 1, 0), pairsOf(0, 0)}, 5) {
		checkSchedule(t, rounds)
	}
	for text, times := range map[string]int{"01": 1, "10": 1, "01, 10": 2, "10, 01": 2, ", 01, ": 1, "10, , , 01, ": 2, "01, 01": 0, "10, 10": 0, "01 10": 0, "01, 10, 01": 0, "01, 10, 01, 10": 0} {
		for other := -1; other <= 5; other++ {
			if got := impl.IsRoundRobin(2, roundsOf(text), other); got != (other == times && times > 0) {
				t.Errorf("IsRoundRobin(2, %q, %d) = %v", text, other, got)
			}
		}
	}
}

// turned returns the rounds and the pairs of each round in another order.
func turned(rounds [][]impl.Pair, start int) [][]impl.Pair {
	next := numbersFrom(start)
	other := copyRounds(rounds)
	for i := range other {
		j := next(len(other))
		other[i], other[j] = other[j], other[i]
		for k := range other[i] {
			l := next(len(other[i]))
			other[i][k], other[i][l] = other[i][l], other[i][k]
		}
	}
	return other
}

// Neither the order of the rounds nor that of the pairs matters; in a single round robin, it does not matter either who is at home.
func TestIsRoundRobinInOtherOrders(t *testing.T) {
	for n := 2; n <= impl.MaxTeams; n++ {
		for start := range 30 {
			single := turned(impl.CircleRounds(n), start)
			double := turned(impl.MirrorRounds(single), start)
			if !impl.IsRoundRobin(n, single, 1) || !impl.IsRoundRobin(n, double, 2) || impl.IsRoundRobin(n, double, 1) || impl.IsRoundRobin(n, single, 2) {
				t.Errorf("IsRoundRobin(%d) of %v or %v", n, single, double)
			}
			for r, round := range single {
				if (start+r)%3 > 0 {
					single[r] = reversed(round)
				}
			}
			if !impl.IsRoundRobin(n, single, 1) || impl.IsRoundRobin(n, single, 2) {
				t.Errorf("IsRoundRobin(%d) of %v with some rounds exchanged", n, single)
			}
		}
	}
}

// checkBroken checks that the rounds of n teams are a schedule, but no round robin of any kind.
func checkBroken(t *testing.T, n int, rounds [][]impl.Pair) {
	t.Helper()
	if !impl.IsSchedule(n, rounds) {
		t.Fatalf("IsSchedule(%d, %v) = false", n, rounds)
	}
	for times := -1; times <= 4; times++ {
		if impl.IsRoundRobin(n, rounds, times) {
			t.Fatalf("IsRoundRobin(%d, %v, %d) = true", n, rounds, times)
		}
	}
}

// A pair that is missing, or that has the wrong team at home in a double round robin, is found wherever it is.
func TestIsRoundRobinAtEachPair(t *testing.T) {
	for n := 2; n <= impl.MaxTeams; n++ {
		single := impl.CircleRounds(n)
		double := impl.MirrorRounds(single)
		for r, round := range double {
			for i, p := range round {
				missing, flipped := copyRounds(double), copyRounds(double)
				missing[r] = slices.Delete(missing[r], i, i+1)
				flipped[r][i] = impl.Pair{Home: p.Away, Away: p.Home}
				if n > 2 {
					checkBroken(t, n, missing)
				}
				checkBroken(t, n, flipped)
				if r < len(single) {
					checkBroken(t, n, missing[:len(single)])
					if !impl.IsRoundRobin(n, flipped[:len(single)], 1) {
						t.Errorf("IsRoundRobin of %v, %d pair of round %d exchanged, = false", single, i, r)
					}
				}
			}
		}
	}
}

// A round that takes the place of another one leaves all numbers of games as they are, but not all pairs.
func TestIsRoundRobinWithRepetitions(t *testing.T) {
	for n := 3; n <= impl.MaxTeams; n++ {
		single := impl.CircleRounds(n)
		double := impl.MirrorRounds(single)
		for r := range double {
			for s := range double {
				rounds := copyRounds(double)
				rounds[r] = slices.Clone(double[s])
				if r != s {
					checkBroken(t, n, rounds)
				}
				if r != s && r < len(single) && s != r+len(single) {
					checkBroken(t, n, rounds[:len(single)])
				}
			}
			if len(double) < 14 {
				checkBroken(t, n, append(copyRounds(double), double[r]))
				checkBroken(t, n, append(copyRounds(double), double[r][:1]))
				checkBroken(t, n, append([][]impl.Pair{double[r][:1]}, double...))
			}
			checkBroken(t, n, append(copyRounds(single), double[r][:1]))
			checkBroken(t, n, append(copyRounds(single), double[r]))
		}
	}
}

// Empty rounds do not matter as long as there are at most 14 rounds.
func TestIsRoundRobinWithEmptyRounds(t *testing.T) {
	for n := 2; n <= impl.MaxTeams; n++ {
		for times := 1; times <= 2; times++ {
			rounds := impl.CircleRounds(n)
			if times == 2 {
				rounds = impl.MirrorRounds(rounds)
			}
			for size := len(rounds); size <= 17; size++ {
				longer := append(slices.Clone(rounds), make([][]impl.Pair, size-len(rounds))...)
				before := append(make([][]impl.Pair, size-len(rounds)), rounds...)
				want := size <= 14
				if impl.IsRoundRobin(n, longer, times) != want || impl.IsRoundRobin(n, before, times) != want {
					t.Errorf("IsRoundRobin(%d) in %d rounds, %d times, = %v", n, size, times, !want)
				}
				if impl.IsRoundRobin(n, longer, 3-times) || impl.IsRoundRobin(n, before, 3-times) {
					t.Errorf("IsRoundRobin(%d) in %d rounds, %d times, = true", n, size, 3-times)
				}
			}
		}
	}
}

// A round may have one pair only: 14 rounds are enough for a single round robin of up to five teams, and for a double one of up to four.
func TestIsRoundRobinOfSinglePairs(t *testing.T) {
	for n := 2; n <= impl.MaxTeams; n++ {
		for times := 1; times <= 2; times++ {
			var rounds [][]impl.Pair
			for home := range n {
				for away := range n {
					if home < away || home > away && times == 2 {
						rounds = append(rounds, pairsOf(home, away))
					}
				}
			}
			want := len(rounds) <= 14
			if impl.IsRoundRobin(n, rounds, times) != want || impl.IsSchedule(n, rounds) != want {
				t.Errorf("IsRoundRobin(%d, %d) of single pairs = %v", n, times, !want)
			}
			if len(rounds) > 1 {
				if short := rounds[1:]; impl.IsRoundRobin(n, short, times) {
					t.Errorf("IsRoundRobin(%d, %v, %d) = true", n, short, times)
				}
			}
		}
	}
}

func TestVenuesOf(t *testing.T) {
	const least, greatest = math.MinInt, math.MaxInt
	cases := []struct {
		rounds string
		team   int
		venues []int
		breaks int
	}{
		{"12, 20, 01", 0, []int{0, 2, 1}, 0}, {"12, 20, 01", 1, []int{1, 0, 2}, 0}, {"12, 20, 01", 2, []int{2, 1, 0}, 0}, {"12, 20, 01", 3, []int{0, 0, 0}, 0},
		{"30 12, 13 20, 32 01", 0, []int{2, 2, 1}, 1}, {"30 12, 13 20, 32 01", 1, []int{1, 1, 2}, 1}, {"30 12, 13 20, 32 01", 2, []int{2, 1, 2}, 0},
		{"01", 0, []int{1}, 0}, {"01", 1, []int{2}, 0}, {"01", 2, []int{0}, 0}, {"", 0, []int{0}, 0},
		{"01, 02, 03, 04", 0, []int{1, 1, 1, 1}, 3}, {"10, 20, 30, 40", 0, []int{2, 2, 2, 2}, 3}, {"01, 10, 01, 10", 0, []int{1, 2, 1, 2}, 0}, {"01, 02, 10, 20", 0, []int{1, 1, 2, 2}, 2},

		// A bye between two games makes no break, and byes that follow each other make none.
		{"01, , 01", 0, []int{1, 0, 1}, 0}, {"10, 23, 10", 0, []int{2, 0, 2}, 0}, {", , 01, 01", 0, []int{0, 0, 1, 1}, 1}, {"01, 01, , , 01, 01", 0, []int{1, 1, 0, 0, 1, 1}, 2},
		{"01, 01, , ", 1, []int{2, 2, 0, 0}, 1}, {", , , ", 0, []int{0, 0, 0, 0}, 0},

		// The first pair with the team counts, wherever it stands, and one of the team with itself has it at home.
		{"01 10", 0, []int{1}, 0}, {"10 01", 0, []int{2}, 0}, {"23 10 01 01", 0, []int{2}, 0}, {"23 45 67 01 10", 0, []int{1}, 0}, {"01 20, 03 40", 0, []int{1, 1}, 1}, {"01 20, 30 04", 0, []int{1, 2}, 0},
		{"00", 0, []int{1}, 0}, {"00, 00", 0, []int{1, 1}, 1}, {"10 00, 00 10", 0, []int{2, 1}, 0}, {"11 00", 0, []int{1}, 0}, {"00, 01, 10", 0, []int{1, 1, 2}, 1}, {"11, 22", 0, []int{0, 0}, 0},
		{"98, 89, 89", 9, []int{1, 2, 2}, 1}, {"98, 89, 89", 8, []int{2, 1, 1}, 1},

		// Teams that do not exist have byes, even if they are equal to others in fewer bits.
		{"01, 01", -1, []int{0, 0}, 0}, {"01, 01", least, []int{0, 0}, 0}, {"01, 01", greatest, []int{0, 0}, 0}, {"01, 01", 1 << 32, []int{0, 0}, 0}, {"01, 01", 256, []int{0, 0}, 0}, {"01, 01", 1<<32 + 1, []int{0, 0}, 0},
	}
	for _, c := range cases {
		checkVenues(t, roundsOf(c.rounds), c.team, c.venues, c.breaks)
	}
	odd := [][]impl.Pair{pairsOf(least, greatest), pairsOf(-1, greatest), pairsOf(greatest, -1, least, -5), nil, pairsOf(-1, -1)}
	checkVenues(t, odd, least, []int{1, 0, 1, 0, 0}, 0)
	checkVenues(t, odd, greatest, []int{2, 2, 1, 0, 0}, 1)
	checkVenues(t, odd, -1, []int{0, 1, 2, 0, 1}, 0)
	checkVenues(t, odd, 0, []int{0, 0, 0, 0, 0}, 0)
	for _, team := range withEdges(-3, 10) {
		checkVenues(t, nil, team, nil, 0)
		checkVenues(t, [][]impl.Pair{}, team, nil, 0)
		checkVenues(t, [][]impl.Pair{{}, nil}, team, []int{0, 0}, 0)
	}
}

// Venues and breaks are those of all rounds, also where there are too many for a schedule.
func TestVenuesOfManyRounds(t *testing.T) {
	for size := range 40 {
		rounds := slices.Repeat(roundsOf("34"), size)
		checkVenues(t, rounds, 3, slices.Repeat([]int{1}, size), max(size-1, 0))
		checkVenues(t, rounds, 4, slices.Repeat([]int{2}, size), max(size-1, 0))
		checkVenues(t, rounds, 5, make([]int, size), 0)
		checkVenues(t, slices.Repeat(roundsOf("34, 43"), size), 3, slices.Repeat([]int{1, 2}, size), 0)
		checkVenues(t, slices.Repeat(roundsOf("34, 34, 43, 43, "), size), 4, slices.Repeat([]int{2, 2, 1, 1, 0}, size), 2*size)
	}
	long := [][]impl.Pair{append(slices.Repeat(pairsOf(1, 2), 100000), pairsOf(2, 3, 3, 1)...)}
	checkVenues(t, long, 3, []int{2}, 0)
	checkVenues(t, long, 2, []int{2}, 0)
}

// The circle method has as few breaks as there can be: none for an odd number of teams, and two less than there are teams otherwise.
func TestTotalBreaks(t *testing.T) {
	single := map[int]int{2: 0, 3: 0, 4: 2, 5: 0, 6: 4, 7: 0, 8: 6}
	double := map[int]int{2: 0, 3: 1, 4: 6, 5: 3, 6: 12, 7: 5, 8: 18}
	for n := 2; n <= impl.MaxTeams; n++ {
		rounds := impl.CircleRounds(n)
		for _, m := range withEdges(-2, 12) {
			wantSingle, wantDouble := -1, -1
			if m >= n && m <= 8 {
				wantSingle, wantDouble = single[n], double[n]
			}
			if got := impl.TotalBreaks(m, rounds); got != wantSingle {
				t.Errorf("TotalBreaks(%d) of %d teams = %d, want %d", m, n, got, wantSingle)
			}
			if got := impl.TotalBreaks(m, impl.MirrorRounds(rounds)); got != wantDouble {
				t.Errorf("TotalBreaks(%d) of %d teams that meet twice = %d, want %d", m, n, got, wantDouble)
			}
		}
	}
	for text, want := range map[string]int{
		"01, 01": 2, "01, 10": 0, "01, 21": 1, "01, 02": 1, "01, 23": 0, "01, , 01": 0, "01 23, 01 23, 10 32, 10 32": 8, "67, 67, 67": 4,
		"01 01": -1, "00": -1, "01, 01, 89": -1, "01, 11": -1,
	} {
		if got := impl.TotalBreaks(8, roundsOf(text)); got != want {
			t.Errorf("TotalBreaks(8, %q) = %d, want %d", text, got, want)
		}
	}
	if got := impl.TotalBreaks(8, slices.Repeat(roundsOf("01 23 45 67"), 14)); got != 8*13 {
		t.Errorf("TotalBreaks of 14 equal rounds = %d", got)
	}
	if got := impl.TotalBreaks(8, slices.Repeat(roundsOf("01 23 45 67"), 15)); got != -1 {
		t.Errorf("TotalBreaks of 15 equal rounds = %d", got)
	}
}

// Each pair gives a game that is open, whether its teams exist or not, and however many there are.
func TestGamesFrom(t *testing.T) {
	const least, greatest = math.MinInt, math.MaxInt
	cases := []struct {
		rounds [][]impl.Pair
		want   []impl.Game
	}{
		{nil, nil}, {[][]impl.Pair{}, nil}, {[][]impl.Pair{nil, {}}, nil}, {roundsOf("01"), []impl.Game{open(0, 1)}}, {roundsOf("10"), []impl.Game{open(1, 0)}},
		{roundsOf("30 12, 13 20, 32 01"), []impl.Game{open(3, 0), open(1, 2), open(1, 3), open(2, 0), open(3, 2), open(0, 1)}},
		{roundsOf(", 76, , 01 23, "), []impl.Game{open(7, 6), open(0, 1), open(2, 3)}},
		{roundsOf("01 01, 00, 10, 01"), []impl.Game{open(0, 1), open(0, 1), open(0, 0), open(1, 0), open(0, 1)}},
		{[][]impl.Pair{pairsOf(-1, 8), pairsOf(least, greatest, greatest, greatest)}, []impl.Game{open(-1, 8), open(least, greatest), open(greatest, greatest)}},
	}
	for _, c := range cases {
		if got := impl.GamesFrom(c.rounds); !slices.Equal(got, c.want) {
			t.Errorf("GamesFrom(%v) = %v, want %v", c.rounds, got, c.want)
		}
	}
	for _, size := range []int{15, 60, 61, 1000} {
		if got := impl.GamesFrom(slices.Repeat(roundsOf("01 23"), size)); !slices.Equal(got, slices.Repeat([]impl.Game{open(0, 1), open(2, 3)}, size)) {
			t.Errorf("GamesFrom of %d rounds has %d games", size, len(got))
		}
	}
	for n := 2; n <= impl.MaxTeams; n++ {
		games := impl.GamesFrom(impl.MirrorRounds(impl.CircleRounds(n)))
		if len(games) != n*(n-1) || len(impl.OpenGames(games)) != len(games) {
			t.Errorf("GamesFrom of %d teams that meet twice = %v", n, games)
		}
	}
}

func TestRoundOf(t *testing.T) {
	const least, greatest = math.MinInt, math.MaxInt
	rounds := append(roundsOf("01 23, , 10 45, 01 32, 77 54, 01 10, 99"), pairsOf(-1, greatest), pairsOf(least, 0, -1, greatest))
	cases := []struct {
		home, away, want int
	}{
		{0, 1, 0}, {1, 0, 2}, {2, 3, 0}, {3, 2, 3}, {4, 5, 2}, {5, 4, 4}, {7, 7, 4}, {9, 9, 6}, {-1, greatest, 7}, {greatest, -1, -1}, {least, 0, 8}, {0, least, -1},
		{0, 0, -1}, {1, 1, -1}, {0, 3, -1}, {2, 1, -1}, {1, 2, -1}, {0, 2, -1}, {6, 7, -1}, {8, 0, -1}, {-1, -1, -1}, {7, 5, -1}, {1 << 32, 1, -1}, {0, 1<<32 + 1, -1}, {256, 257, -1},
	}
	for _, c := range cases {
		if got := impl.RoundOf(rounds, c.home, c.away); got != c.want {
			t.Errorf("RoundOf(%d, %d) = %d, want %d", c.home, c.away, got, c.want)
		}
	}
	for _, home := range withEdges(-2, 9) {
		for _, away := range withEdges(-2, 9) {
			if impl.RoundOf(nil, home, away) != -1 || impl.RoundOf([][]impl.Pair{}, home, away) != -1 || impl.RoundOf([][]impl.Pair{{}, nil}, home, away) != -1 {
				t.Errorf("RoundOf no pairs, %d, %d, is not -1", home, away)
			}
			single := [][]impl.Pair{nil, pairsOf(home, away)}
			if impl.RoundOf(single, home, away) != 1 || home != away && impl.RoundOf(single, away, home) != -1 {
				t.Errorf("RoundOf(%v, %d, %d) = %d", single, home, away, impl.RoundOf(single, home, away))
			}
		}
	}
	if got := impl.RoundOf(append(slices.Repeat(roundsOf("01"), 1000), pairsOf(1, 0)), 1, 0); got != 1000 {
		t.Errorf("RoundOf of the last one of 1001 rounds = %d", got)
	}
}

// Every pair of a round robin is found in its round, and its mirror in the same round of the other half.
func TestRoundOfEachPair(t *testing.T) {
	for n := 2; n <= impl.MaxTeams; n++ {
		single := impl.CircleRounds(n)
		double := impl.MirrorRounds(single)
		for r, round := range single {
			for _, p := range round {
				if impl.RoundOf(single, p.Home, p.Away) != r || impl.RoundOf(single, p.Away, p.Home) != -1 {
					t.Errorf("RoundOf %v of %v is not %d", p, single, r)
				}
				if impl.RoundOf(double, p.Home, p.Away) != r || impl.RoundOf(double, p.Away, p.Home) != r+len(single) {
					t.Errorf("RoundOf %v of %v is not %d", p, double, r)
				}
			}
		}
	}
}

// spareRounds returns rounds that are cut from one list of pairs, with further rounds and pairs behind them, and a function that reports whether any of these has changed.
func spareRounds() ([][]impl.Pair, func() bool) {
	pairs := pairsOf(3, 0, 1, 2, 1, 3, 2, 0, 3, 2, 0, 1, 9, 9, 0, 1)
	rounds := [][]impl.Pair{pairs[0:2], pairs[2:4], pairs[4:4], pairs[4:6], pairs[0:2], pairs[6:], nil}
	pairsBefore, roundsBefore := slices.Clone(pairs), copyRounds(rounds)
	return rounds[:4], func() bool { return !slices.Equal(pairs, pairsBefore) || !sameRounds(rounds, roundsBefore) }
}

// Neither the rounds nor the spare capacity behind them and behind their pairs may change, and what is behind them does not count.
func TestRoundArgumentsStay(t *testing.T) {
	rounds, changed := spareRounds()
	for size := range len(rounds) + 1 {
		checkRounds(t, rounds[:size])
		if other := copyRounds(rounds[:size]); !sameRounds(impl.MirrorRounds(rounds[:size]), impl.MirrorRounds(other)) {
			t.Errorf("the first %d rounds and their copy differ", size)
		}
	}
	if !impl.IsRoundRobin(4, rounds, 1) {
		t.Error("IsRoundRobin = false")
	}
	if changed() {
		t.Errorf("the rounds became %v", rounds)
	}
}

// checkNewRounds writes into each round of a result and behind it, which no other round and no other result may show.
func checkNewRounds(t *testing.T, call func() [][]impl.Pair, want [][]impl.Pair) {
	t.Helper()
	first, other := call(), call()
	if !sameRounds(first, want) {
		t.Fatalf("the call returns %v, want %v", first, want)
	}
	for r := range first {
		whole := first[r][:cap(first[r])]
		for i := range whole {
			whole[i] = impl.Pair{Home: -r, Away: 100 + r}
		}
	}
	for r, round := range first {
		if !slices.Equal(round, slices.Repeat(pairsOf(-r, 100+r), len(want[r]))) {
			t.Errorf("the round %d of a result shares memory: %v", r, first)
		}
	}
	_ = append(first, pairsOf(7, 7))
	clear(first)
	if !sameRounds(other, want) || !sameRounds(call(), want) {
		t.Errorf("after a change of its result, a call returns %v, want %v", call(), want)
	}
}

// Results are new at each call; no two rounds of one share memory, nor does a round with those that were given, even if these share memory themselves.
func TestRoundResultsAreNew(t *testing.T) {
	for n, text := range singleRounds() {
		checkNewRounds(t, func() [][]impl.Pair { return impl.CircleRounds(n) }, roundsOf(text))
	}
	rounds, changed := spareRounds()
	checkNewRounds(t, func() [][]impl.Pair { return impl.MirrorRounds(rounds) }, roundsOf("30 12, 13 20, , 32 01, 03 21, 31 02, , 23 10"))
	one := pairsOf(0, 1, 3, 2)
	same := [][]impl.Pair{one, one, one[:1], one[1:]}
	checkNewRounds(t, func() [][]impl.Pair { return impl.MirrorRounds(same) }, roundsOf("01 32, 01 32, 01, 32, 10 23, 10 23, 10, 23"))
	checkNewList(t, func() []impl.Game { return impl.GamesFrom(rounds) }, plainGames(rounds), open(9, 8))
	checkNewResults(t,
		indexCall{func() []int { return impl.VenuesOf(rounds, 0) }, []int{2, 2, 0, 1}},
		indexCall{func() []int { return impl.VenuesOf(rounds, 8) }, []int{0, 0, 0, 0}},
	)
	if changed() || !slices.Equal(one, pairsOf(0, 1, 3, 2)) {
		t.Errorf("the rounds became %v and %v", rounds, one)
	}
}

// A result stays as it is when the rounds that were given change.
func TestRoundResultsStay(t *testing.T) {
	rounds := roundsOf("30 12, 13 20, 32 01")
	mirrored, games, venues := impl.MirrorRounds(rounds), impl.GamesFrom(rounds), impl.VenuesOf(rounds, 1)
	for r := range rounds {
		clear(rounds[r])
		rounds[r] = nil
	}
	if !sameRounds(mirrored, roundsOf("30 12, 13 20, 32 01, 03 21, 31 02, 23 10")) || !slices.Equal(venues, []int{1, 1, 2}) || len(games) != 6 || games[5] != open(0, 1) {
		t.Errorf("after a change of the rounds, the results are %v, %v and %v", mirrored, games, venues)
	}
}
