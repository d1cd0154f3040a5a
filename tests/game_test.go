package tests

import (
	"math"
	"slices"
	"testing"

	"loop.example/g00834/impl"
)

// edgeInts returns the least and the greatest numbers, and some that are equal to small ones in fewer bits.
func edgeInts() []int {
	return []int{math.MinInt, math.MinInt + 1, math.MinInt32, -257, -256, 256, 257, 1 << 16, 1<<32 + 1, 1 << 32, math.MaxInt32, math.MaxInt - 1, math.MaxInt}
}

// withEdges returns the numbers from first to last and the edgeInts.
func withEdges(first int, last int) []int {
	list := edgeInts()
	for x := first; x <= last; x++ {
		list = append(list, x)
	}
	return list
}

// open returns an open game.
func open(home int, away int) impl.Game { return impl.Game{Home: home, Away: away} }

// played returns a game that ended with these goals.
func played(home int, away int, homeGoals int, awayGoals int) impl.Game {
	return impl.Game{Home: home, Away: away, HomeGoals: homeGoals, AwayGoals: awayGoals, State: impl.GmPlayed}
}

// fullSeason returns a game for each ordered pair of teams, the states in turn.
func fullSeason(n int) []impl.Game {
	var games []impl.Game
	for home := range n {
		for away := range n {
			if home != away {
				g := impl.Game{Home: home, Away: away, State: len(games) % 5}
				if g.State == impl.GmPlayed {
					g.HomeGoals, g.AwayGoals = home*9, away*14
				}
				games = append(games, g)
			}
		}
	}
	return games
}

func TestGameConstants(t *testing.T) {
	got := []int{impl.MaxGames, impl.MaxGoals, impl.GmOpen, impl.GmPlayed, impl.GmHome, impl.GmAway, impl.GmVoid}
	if !slices.Equal(got, []int{60, 99, 0, 1, 2, 3, 4}) {
		t.Errorf("constants are %v", got)
	}
}

func TestGameOkTeams(t *testing.T) {
	numbers := withEdges(-2, 10)
	for _, n := range numbers {
		for _, home := range numbers {
			for _, away := range numbers {
				want := n >= 2 && n <= 8 && home >= 0 && home < n && away >= 0 && away < n && home != away
				for state := range 5 {
					g := impl.Game{Home: home, Away: away, State: state}
					if got := impl.GameOk(n, g); got != want {
						t.Fatalf("GameOk(%d, %v) = %v", n, g, got)
					}
				}
			}
		}
	}
}

func TestGameOkGoals(t *testing.T) {
	for _, state := range withEdges(-3, 9) {
		for _, homeGoals := range withEdges(-3, 103) {
			for _, awayGoals := range withEdges(-3, 103) {
				g := impl.Game{Home: 7, Away: 0, HomeGoals: homeGoals, AwayGoals: awayGoals, State: state}
				want := false
				switch state {
				case 1:
					want = homeGoals >= 0 && homeGoals <= 99 && awayGoals >= 0 && awayGoals <= 99
				case 0, 2, 3, 4:
					want = homeGoals == 0 && awayGoals == 0
				}
				if got := impl.GameOk(8, g); got != want {
					t.Fatalf("GameOk(8, %v) = %v", g, got)
				}
			}
		}
	}
	if impl.GameOk(2, impl.Game{}) {
		t.Error("GameOk of the zero value = true")
	}
}

func TestSeasonOkAccepts(t *testing.T) {
	for n := 2; n <= 8; n++ {
		games := fullSeason(n)
		if len(games) != n*(n-1) {
			t.Fatalf("fullSeason(%d) has %d games", n, len(games))
		}
		for m := n; m <= 8; m++ {
			for size := range len(games) + 1 {
				if !impl.SeasonOk(m, games[:size]) {
					t.Fatalf("SeasonOk of %d games of %d of %d teams = false", size, n, m)
				}
			}
		}
	}
	if !impl.SeasonOk(2, []impl.Game{open(0, 1), open(1, 0)}) || !impl.SeasonOk(8, []impl.Game{played(7, 6, 99, 0), played(6, 7, 0, 99)}) {
		t.Error("SeasonOk of two teams that are at home once each = false")
	}
}

// A season asks for nothing but valid games: where there are none, all of them are valid, whatever n is.
func TestSeasonOkOfNoGames(t *testing.T) {
	for _, n := range withEdges(-2, 10) {
		if !impl.SeasonOk(n, nil) || !impl.SeasonOk(n, []impl.Game{}) || !impl.SeasonOk(n, []impl.Game{open(3, 3)}[:0]) {
			t.Errorf("SeasonOk(%d) of no games = false", n)
		}
	}
}

func TestSeasonOkTeams(t *testing.T) {
	for _, n := range withEdges(-2, 10) {
		for teams := 2; teams <= 8; teams++ {
			want := n >= teams && n <= 8
			if got := impl.SeasonOk(n, fullSeason(teams)); got != want {
				t.Errorf("SeasonOk(%d) of games of %d teams = %v", n, teams, got)
			}
		}
	}
}

// Each place of a season counts, and each two places are compared.
func TestSeasonOkAtEachPlace(t *testing.T) {
	whole := fullSeason(8)
	bad := []impl.Game{
		{}, open(8, 0), open(0, 8), open(-1, 0), open(0, -1), open(5, 5), open(math.MinInt, 0), open(0, math.MaxInt), open(1<<32, 1),
		played(0, 1, 100, 0), played(0, 1, 0, 100), played(0, 1, -1, 0), played(0, 1, 0, -1),
		{Away: 1, State: 5}, {Away: 1, State: -1}, {Away: 1, HomeGoals: 1}, {Away: 1, AwayGoals: 3, State: impl.GmAway}, {Away: 1, HomeGoals: 3, State: impl.GmHome},
	}
	for i := range whole {
		for _, g := range bad {
			games := slices.Clone(whole)
			games[i] = g
			// The good games that the bad one could be taken for are not in the season.
			games = slices.DeleteFunc(games, func(x impl.Game) bool { return x.Home == g.Home && x.Away == g.Away && x != g })
			if impl.SeasonOk(8, games) {
				t.Errorf("SeasonOk with %v at %d = true", g, i)
			}
		}
		for j, other := range whole {
			if i == j {
				continue
			}
			for _, g := range []impl.Game{other, open(other.Home, other.Away), played(other.Home, other.Away, 2, 1)} {
				games := slices.Clone(whole)
				games[i] = g
				if impl.SeasonOk(8, games) {
					t.Fatalf("SeasonOk with the game %d at %d, too, = true", j, i)
				}
			}
		}
	}
}

// Eight teams have 56 games at most, so each longer season has one of them twice.
func TestSeasonOkSizes(t *testing.T) {
	many := slices.Repeat(fullSeason(8), 2)
	for size := range len(many) + 1 {
		if got := impl.SeasonOk(8, many[:size]); got != (size <= 56) {
			t.Errorf("SeasonOk of %d games = %v", size, got)
		}
	}
	for _, size := range []int{2, 57, 60, 61, 62, 100000} {
		if impl.SeasonOk(8, slices.Repeat([]impl.Game{open(0, 1)}, size)) {
			t.Errorf("SeasonOk of %d equal games = true", size)
		}
	}
}

// plainSeasonOk compares each two games: a second way to SeasonOk for seasons that are short enough.
func plainSeasonOk(n int, games []impl.Game) bool {
	for i, a := range games {
		for _, b := range games[:i] {
			if a.Home == b.Home && a.Away == b.Away {
				return false
			}
		}
		if !impl.GameOk(n, a) {
			return false
		}
	}
	return true
}

// gamePool returns games, valid and not, that have teams, goals or states in common.
func gamePool() []impl.Game {
	return []impl.Game{
		open(0, 1), open(1, 0), played(0, 1, 2, 2), played(1, 2, 0, 1), {Home: 2, Away: 1, State: impl.GmAway}, {Home: 1, Away: 0, State: impl.GmVoid},
		open(2, 2), {Home: 0, Away: 2, State: impl.GmHome, HomeGoals: 3}, {Home: -1, Away: 1, State: 7}, open(1, -1),
	}
}

func TestSeasonsAgainstPairs(t *testing.T) {
	for _, games := range listsOver(gamePool(), 4) {
		for n := 1; n <= 3; n++ {
			if want := plainSeasonOk(n, games); impl.SeasonOk(n, games) != want {
				t.Fatalf("SeasonOk(%d, %v) = %v", n, games, !want)
			}
		}
		checkGamesFound(t, games)
	}
}

// checkGamesFound compares what OpenGames, GameOf and GamesBetween find with a walk over the games.
func checkGamesFound(t *testing.T, games []impl.Game) {
	t.Helper()
	var stillOpen []int
	for i, g := range games {
		if g.State == 0 {
			stillOpen = append(stillOpen, i)
		}
	}
	if got := impl.OpenGames(games); !slices.Equal(got, stillOpen) {
		t.Fatalf("OpenGames(%v) = %v, want %v", games, got, stillOpen)
	}
	for a := -2; a <= 3; a++ {
		for b := -2; b <= 3; b++ {
			first := -1
			var between []int
			for i := len(games) - 1; i >= 0; i-- {
				there := games[i].Home == a && games[i].Away == b
				back := games[i].Home == b && games[i].Away == a
				if there {
					first = i
				}
				if there || back {
					between = append([]int{i}, between...)
				}
			}
			if got := impl.GameOf(games, a, b); got != first {
				t.Fatalf("GameOf(%v, %d, %d) = %d, want %d", games, a, b, got, first)
			}
			if got := impl.GamesBetween(games, a, b); !slices.Equal(got, between) {
				t.Fatalf("GamesBetween(%v, %d, %d) = %v, want %v", games, a, b, got, between)
			}
		}
	}
}

func TestGoalsOf(t *testing.T) {
	type goals struct {
		home, away int
		ok         bool
	}
	for _, state := range withEdges(-3, 9) {
		for _, homeGoals := range withEdges(-1, 3) {
			for _, awayGoals := range withEdges(-1, 3) {
				want := goals{}
				switch state {
				case 1:
					want = goals{homeGoals, awayGoals, true}
				case 2:
					want = goals{3, 0, true}
				case 3:
					want = goals{0, 3, true}
				}
				// The teams do not matter, and neither does it whether the game is valid.
				for _, teams := range [][2]int{{0, 1}, {1, 0}, {4, 4}, {-1, math.MaxInt}} {
					g := impl.Game{Home: teams[0], Away: teams[1], HomeGoals: homeGoals, AwayGoals: awayGoals, State: state}
					home, away, ok := impl.GoalsOf(g)
					if got := (goals{home, away, ok}); got != want {
						t.Fatalf("GoalsOf(%v) = %v, want %v", g, got, want)
					}
				}
			}
		}
	}
}

// P2: a game that is played has the outcome that it was played with, and its goals count for both teams.
func TestPlayedGames(t *testing.T) {
	for homeGoals := range 100 {
		for awayGoals := range 100 {
			g := played(2, 5, homeGoals, awayGoals)
			back := played(5, 2, awayGoals, homeGoals)
			home, away, ok := impl.GoalsOf(g)
			if !impl.GameOk(8, g) || home != homeGoals || away != awayGoals || !ok {
				t.Fatalf("GoalsOf(%v) = %d, %d, %v", g, home, away, ok)
			}
			want := 2
			if homeGoals > awayGoals {
				want = 1
			} else if homeGoals < awayGoals {
				want = 3
			}
			if got := impl.OutcomeOf(g); got != want {
				t.Fatalf("OutcomeOf(%v) = %d, want %d", g, got, want)
			}
			if got := impl.OutcomeOf(back); got != 4-want {
				t.Fatalf("OutcomeOf(%v) = %d, want %d", back, got, 4-want)
			}
		}
	}
}

func TestOutcomeOf(t *testing.T) {
	cases := []struct {
		g    impl.Game
		want int
	}{
		{impl.Game{}, 0}, {open(0, 1), 0}, {open(3, 3), 0},
		{impl.Game{Away: 1, State: impl.GmHome}, 1}, {impl.Game{Away: 1, State: impl.GmAway}, 3}, {impl.Game{Away: 1, State: impl.GmVoid}, 0},
		{impl.Game{Away: 1, State: -1}, 0}, {impl.Game{Away: 1, State: 5}, 0}, {impl.Game{Away: 1, State: math.MinInt}, 0}, {impl.Game{Away: 1, State: math.MaxInt}, 0},
		{impl.Game{Away: 1, State: 1<<32 + 1}, 0}, {impl.Game{Away: 1, State: 257}, 0}, {impl.Game{Away: 1, State: 258}, 0},

		// Goals that GameOk refuses: they count in a game that is played only.
		{impl.Game{Away: 1, HomeGoals: 2}, 0}, {impl.Game{Away: 1, AwayGoals: 2}, 0},
		{impl.Game{Away: 1, HomeGoals: 2, State: impl.GmVoid}, 0}, {impl.Game{Away: 1, HomeGoals: 2, State: 5}, 0},
		{impl.Game{Away: 1, AwayGoals: 9, State: impl.GmHome}, 1}, {impl.Game{Away: 1, HomeGoals: 9, State: impl.GmAway}, 3},
		{impl.Game{Away: 1, HomeGoals: 3, AwayGoals: 3, State: impl.GmHome}, 1}, {impl.Game{Away: 1, HomeGoals: 3, AwayGoals: 3, State: impl.GmAway}, 3},
		{played(0, 1, 100, 99), 1}, {played(0, 1, 99, 100), 3}, {played(0, 1, 100, 100), 2}, {played(0, 1, -1, -1), 2}, {played(0, 1, -1, 0), 3}, {played(0, 1, -1, -2), 1},
		{played(0, 1, math.MaxInt, math.MinInt), 1}, {played(0, 1, math.MinInt, math.MaxInt), 3}, {played(0, 1, math.MaxInt, -1), 1}, {played(0, 1, -2, math.MaxInt), 3},
		{played(0, 1, math.MinInt, math.MinInt), 2}, {played(0, 1, math.MaxInt, math.MaxInt), 2}, {played(0, 1, 0, math.MinInt), 1}, {played(0, 1, math.MinInt, 0), 3},
		{played(9, 9, 1, 0), 1}, {played(-1, 9, 0, 1), 3}, {played(0, 0, 0, 0), 2},
	}
	for _, c := range cases {
		if got := impl.OutcomeOf(c.g); got != c.want {
			t.Errorf("OutcomeOf(%v) = %d, want %d", c.g, got, c.want)
		}
	}
}

func TestIsOpen(t *testing.T) {
	for _, state := range withEdges(-3, 9) {
		for _, g := range []impl.Game{{State: state}, {Home: 1, Away: 2, State: state}, {Home: -1, Away: 2, HomeGoals: 4, AwayGoals: -1, State: state}} {
			if got := impl.IsOpen(g); got != (state == 0) {
				t.Errorf("IsOpen(%v) = %v", g, got)
			}
		}
	}
}

func TestOpenGames(t *testing.T) {
	games := fullSeason(8)
	var want []int
	for i := 0; i < len(games); i += 5 {
		want = append(want, i)
	}
	if got := impl.OpenGames(games); !slices.Equal(got, want) {
		t.Errorf("OpenGames of a season = %v, want %v", got, want)
	}
	if len(impl.OpenGames(nil)) != 0 || len(impl.OpenGames([]impl.Game{})) != 0 || len(impl.OpenGames([]impl.Game{played(0, 1, 0, 0), {State: 9}})) != 0 {
		t.Error("OpenGames where there are none is not empty")
	}
	if got := impl.OpenGames(make([]impl.Game, 70)); len(got) != 70 || got[0] != 0 || got[69] != 69 {
		t.Errorf("OpenGames of 70 zero games = %v", got)
	}
}

func TestGameOf(t *testing.T) {
	games := []impl.Game{open(1, 0), played(0, 1, 1, 1), open(0, 1), {Home: 1, Away: 0, State: impl.GmVoid}, open(4, 4), open(-1, 9), open(2, math.MaxInt), open(0, 1)}
	cases := []struct {
		home, away, want int
	}{
		{0, 1, 1}, {1, 0, 0}, {4, 4, 4}, {-1, 9, 5}, {9, -1, -1}, {2, math.MaxInt, 6}, {math.MaxInt, 2, -1},
		{0, 0, -1}, {1, 1, -1}, {0, 4, -1}, {4, 0, -1}, {0, 2, -1}, {1, 9, -1}, {-1, -1, -1}, {8, 0, -1}, {0, 8, -1},
		{math.MinInt, 0, -1}, {0, math.MaxInt, -1}, {1 << 32, 1, -1}, {0, 1<<32 + 1, -1},
	}
	for _, c := range cases {
		if got := impl.GameOf(games, c.home, c.away); got != c.want {
			t.Errorf("GameOf(%d, %d) = %d, want %d", c.home, c.away, got, c.want)
		}
	}
	if impl.GameOf(nil, 0, 0) != -1 || impl.GameOf([]impl.Game{}, 0, 1) != -1 || impl.GameOf([]impl.Game{{}}, 0, 0) != 0 {
		t.Error("GameOf of no game and of the zero game")
	}
	season := fullSeason(8)
	for i, g := range season {
		if got := impl.GameOf(season, g.Home, g.Away); got != i {
			t.Errorf("GameOf a season, %d, %d = %d, want %d", g.Home, g.Away, got, i)
		}
	}
}

// P2: with an outcome, a game of any state becomes one that is played with this outcome; with another number, it stays.
func TestPlayGame(t *testing.T) {
	goals := map[int][2]int{1: {1, 0}, 2: {0, 0}, 3: {0, 1}}
	for _, state := range withEdges(-2, 6) {
		for _, g := range []impl.Game{
			{Home: 3, Away: 6, State: state}, {Home: 7, Away: 0, HomeGoals: 99, AwayGoals: 98, State: state}, {Home: 1, Away: 2, HomeGoals: 4, AwayGoals: 4, State: state},
			{State: state}, {Home: -1, Away: math.MaxInt, HomeGoals: math.MinInt, AwayGoals: -1, State: state},
		} {
			for _, outcome := range withEdges(-3, 8) {
				want := g
				if x, known := goals[outcome]; known {
					want = played(g.Home, g.Away, x[0], x[1])
				}
				got := impl.PlayGame(g, outcome)
				if got != want {
					t.Fatalf("PlayGame(%v, %d) = %v, want %v", g, outcome, got, want)
				}
				if _, known := goals[outcome]; known && impl.OutcomeOf(got) != outcome {
					t.Fatalf("OutcomeOf(PlayGame(%v, %d)) = %d", g, outcome, impl.OutcomeOf(got))
				}
			}
		}
	}
}

func TestPlayGameStaysValid(t *testing.T) {
	for _, g := range fullSeason(8) {
		for outcome := 1; outcome <= 3; outcome++ {
			if p := impl.PlayGame(g, outcome); !impl.GameOk(8, p) || impl.IsOpen(p) {
				t.Errorf("PlayGame(%v, %d) = %v", g, outcome, p)
			}
		}
	}
}

func TestGamesBetween(t *testing.T) {
	games := []impl.Game{open(1, 0), open(2, 0), played(0, 1, 1, 1), open(1, 2), {Home: 1, Away: 0, State: impl.GmVoid}, open(4, 4), open(-1, 9), {Home: 2, Away: 1, State: impl.GmAway}}
	cases := []struct {
		a, b int
		want []int
	}{
		{0, 1, []int{0, 2, 4}}, {1, 2, []int{3, 7}}, {0, 2, []int{1}}, {-1, 9, []int{6}}, {0, 4, nil}, {1, 9, nil}, {3, 5, nil}, {0, -1, nil}, {0, 8, nil},
		{math.MinInt, math.MaxInt, nil}, {0, math.MaxInt, nil}, {1 << 32, 1, nil},
		// A valid game is between two teams, so one team has none with itself; only a game that names it twice is one.
		{0, 0, nil}, {1, 1, nil}, {2, 2, nil}, {-1, -1, nil}, {9, 9, nil}, {4, 4, []int{5}}, {math.MinInt, math.MinInt, nil},
	}
	for _, c := range cases {
		if got := impl.GamesBetween(games, c.a, c.b); !slices.Equal(got, c.want) {
			t.Errorf("GamesBetween(%d, %d) = %v, want %v", c.a, c.b, got, c.want)
		}
		if got := impl.GamesBetween(games, c.b, c.a); !slices.Equal(got, c.want) {
			t.Errorf("GamesBetween(%d, %d) = %v, want %v", c.b, c.a, got, c.want)
		}
	}
	if len(impl.GamesBetween(nil, 0, 1)) != 0 || len(impl.GamesBetween([]impl.Game{}, 0, 0)) != 0 {
		t.Error("GamesBetween of no games is not empty")
	}
}

// Neither the games nor the spare capacity behind them may change, and what is behind them does not count.
func TestGameArgumentsStay(t *testing.T) {
	whole := append(fullSeason(4), open(0, 1), open(9, 9), impl.Game{State: 7})
	before := slices.Clone(whole)
	for size := range len(whole) + 1 {
		games := whole[:size]
		other := slices.Clip(slices.Clone(games))
		same := impl.SeasonOk(4, games) == impl.SeasonOk(4, other) && impl.GameOf(games, 9, 9) == impl.GameOf(other, 9, 9) &&
			slices.Equal(impl.OpenGames(games), impl.OpenGames(other)) && slices.Equal(impl.GamesBetween(games, 0, 1), impl.GamesBetween(other, 0, 1))
		if !same {
			t.Errorf("the first %d games and their copy differ", size)
		}
	}
	if !slices.Equal(whole, before) {
		t.Errorf("the games became %v", whole)
	}
}

// Results are new at each call: a caller may write into them.
func TestGameResultsAreNew(t *testing.T) {
	games := []impl.Game{played(0, 1, 1, 0), open(1, 0), open(0, 2), open(1, 0)}
	checkNewResults(t,
		indexCall{func() []int { return impl.OpenGames(games) }, []int{1, 2, 3}},
		indexCall{func() []int { return impl.GamesBetween(games, 0, 1) }, []int{0, 1, 3}},
	)
}
