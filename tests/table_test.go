package tests

import (
	"math"
	"math/big"
	"slices"
	"testing"

	"loop.example/g00834/impl"
)

// pointRules returns rules with these points and the shortest ladder.
func pointRules(win int, draw int, loss int) impl.Rules {
	return impl.Rules{Win: win, Draw: draw, Loss: loss, Ladder: []int{impl.KeyPoints}}
}

// plainTable looks up, for each team, what each of its games of two teams of the group gives it: a second way to TableAmong.
func plainTable(u impl.Rules, n int, games []impl.Game, inGroup func(team int) bool) []impl.Row {
	rows := make([]impl.Row, n)
	for team := range rows {
		r := &rows[team]
		for _, g := range games {
			own, other, counts := plainGoals(g, team)
			if !counts || !inGroup(g.Home) || !inGroup(g.Away) {
				continue
			}
			r.Scored += own
			r.Against += other
			if own == other {
				r.Draws++
			} else if own > other {
				r.Wins++
			} else {
				r.Losses++
			}
		}
		r.Played = r.Wins + r.Draws + r.Losses
		r.Points = r.Wins*u.Win + r.Draws*u.Draw + r.Losses*u.Loss
	}
	return rows
}

// plainGoals returns the goals for and against a team in a game, if it is one of the team's games and counts.
func plainGoals(g impl.Game, team int) (int, int, bool) {
	home := map[int]int{1: g.HomeGoals, 2: 3, 3: 0}
	away := map[int]int{1: g.AwayGoals, 2: 0, 3: 3}
	_, counts := home[g.State]
	switch team {
	case g.Home:
		return home[g.State], away[g.State], counts
	case g.Away:
		return away[g.State], home[g.State], counts
	}
	return 0, 0, false
}

func everyTeam(int) bool { return true }

// checkTables compares both tables with plainTable where there is one, and with nothing where there is none.
func checkTables(t *testing.T, u impl.Rules, n int, games []impl.Game, group []int, valid bool) {
	t.Helper()
	var whole, among []impl.Row
	if valid {
		whole = plainTable(u, n, games, everyTeam)
		among = plainTable(u, n, games, func(team int) bool { return slices.Contains(group, team) })
	}
	if got := impl.TableOf(u, n, games); !slices.Equal(got, whole) {
		t.Fatalf("TableOf(%v, %d, %v) = %v, want %v", u, n, games, got, whole)
	}
	if got := impl.TableAmong(u, n, games, group); !slices.Equal(got, among) {
		t.Fatalf("TableAmong(%v, %d, %v, %v) = %v, want %v", u, n, games, group, got, among)
	}
}

// fourTeams returns a season with a game of each state, and what the usual rules make of it; the last team has no game that counts.
func fourTeams() ([]impl.Game, []impl.Row) {
	games := []impl.Game{
		played(0, 1, 4, 1), played(1, 0, 2, 2), {Home: 0, Away: 2, State: impl.GmAway}, {Home: 2, Away: 1, State: impl.GmHome},
		{Home: 2, Away: 0, State: impl.GmVoid}, open(1, 2), open(3, 0), {Home: 2, Away: 3, State: impl.GmVoid},
	}
	rows := []impl.Row{
		{Played: 3, Wins: 1, Draws: 1, Losses: 1, Scored: 6, Against: 6, Points: 4},
		{Played: 3, Wins: 0, Draws: 1, Losses: 2, Scored: 3, Against: 9, Points: 1},
		{Played: 2, Wins: 2, Draws: 0, Losses: 0, Scored: 6, Against: 0, Points: 6},
		{},
	}
	return games, rows
}

func TestTableOf(t *testing.T) {
	games, want := fourTeams()
	if got := impl.TableOf(impl.UsualRules(), 4, games); !slices.Equal(got, want) {
		t.Errorf("TableOf = %v, want %v", got, want)
	}
	want[0].Points, want[1].Points, want[2].Points = 10+7+4, 7+4+4, 10+10
	if got := impl.TableOf(pointRules(10, 7, 4), 4, games); !slices.Equal(got, want) {
		t.Errorf("TableOf with other points = %v, want %v", got, want)
	}
}

func TestTableAmong(t *testing.T) {
	games, whole := fourTeams()
	none := make([]impl.Row, 4)
	first := []impl.Row{
		{Played: 2, Wins: 1, Draws: 1, Scored: 6, Against: 3, Points: 4}, {Played: 2, Draws: 1, Losses: 1, Scored: 3, Against: 6, Points: 1}, {}, {},
	}
	ends := []impl.Row{{Played: 1, Losses: 1, Against: 3}, {}, {Played: 1, Wins: 1, Scored: 3, Points: 3}, {}}
	last := []impl.Row{{}, {Played: 1, Losses: 1, Against: 3}, {Played: 1, Wins: 1, Scored: 3, Points: 3}, {}}
	cases := []struct {
		group []int
		want  []impl.Row
	}{
		{nil, none}, {[]int{}, none}, {[]int{0}, none}, {[]int{1}, none}, {[]int{2, 2}, none}, {[]int{3}, none}, {[]int{0, 0, 0, 0}, none},
		{[]int{0, 1}, first}, {[]int{1, 0}, first}, {[]int{0, 1, 0, 1}, first}, {[]int{0, 3, 1}, first}, {[]int{0, 2}, ends}, {[]int{2, 1}, last},
		{[]int{0, 3}, none}, {[]int{2, 3}, none}, {[]int{0, 1, 2}, whole}, {[]int{3, 2, 1, 0}, whole}, {[]int{2, 0, 1, 2, 3, 3}, whole},
		{[]int{-1}, none}, {[]int{-1, 0}, none}, {[]int{0, 4}, none}, {[]int{4, 5, 8}, none}, {[]int{math.MinInt, math.MaxInt}, none},
		{[]int{-1, 0, 4, 1, math.MinInt}, first}, {[]int{1, math.MaxInt, 0, 8, 9, -7}, first}, {[]int{1 << 32, 1<<32 + 1, 256, 257}, none},
		{[]int{1 << 32, 1}, none}, {append(edgeInts(), 2, 0), ends}, {append(make([]int, 100000), 2), ends},
	}
	for _, c := range cases {
		if got := impl.TableAmong(impl.UsualRules(), 4, games, c.group); !slices.Equal(got, c.want) {
			t.Errorf("TableAmong(%v) = %v, want %v", c.group[:min(len(c.group), 20)], got, c.want)
		}
	}
}

// Each team has a row, though it has no game at all.
func TestTablesOfNoGames(t *testing.T) {
	for _, n := range withEdges(-2, 10) {
		want := 0
		if n >= 2 && n <= 8 {
			want = n
		}
		for _, games := range [][]impl.Game{nil, {}, {played(3, 3, 1, 0)}} {
			games = games[:0]
			for _, group := range [][]int{nil, {}, {0}, {0, 1}, {9, -1}} {
				for _, rows := range [][]impl.Row{impl.TableOf(impl.UsualRules(), n, games), impl.TableAmong(impl.UsualRules(), n, games, group)} {
					if !slices.Equal(rows, make([]impl.Row, want)) {
						t.Errorf("a table of %d teams without games is %v", n, rows)
					}
				}
			}
		}
	}
}

func TestTablesOfTeams(t *testing.T) {
	for teams := 2; teams <= 8; teams++ {
		games := fullSeason(teams)
		for _, n := range withEdges(-2, 10) {
			checkTables(t, impl.UsualRules(), n, games, []int{0, 1, teams - 1}, n >= teams && n <= 8)
		}
	}
}

// Where rules are refused, there is no table, with games or without.
func TestTablesOfRules(t *testing.T) {
	accepted := 0
	for _, u := range differentRules() {
		valid := impl.RulesOk(u)
		if valid {
			accepted++
		}
		for _, games := range [][]impl.Game{nil, {open(0, 1)}, fullSeason(3), threeGames()} {
			checkTables(t, u, 3, games, []int{0, 1}, valid)
		}
	}
	if accepted == 0 || accepted == len(differentRules()) {
		t.Errorf("%d of the rules are accepted", accepted)
	}
}

func TestTablesOfPoints(t *testing.T) {
	games := fullSeason(4)
	for win := -1; win <= 11; win++ {
		for draw := -1; draw <= 11; draw++ {
			for loss := -1; loss <= 11; loss++ {
				valid := loss >= 0 && draw >= loss && win >= draw && win <= 10
				checkTables(t, pointRules(win, draw, loss), 4, games, []int{3, 0, 1}, valid)
			}
		}
	}
	for _, x := range edgeInts() {
		for _, u := range []impl.Rules{pointRules(x, 1, 0), pointRules(3, x, 0), pointRules(3, 1, x), pointRules(x, x, x), pointRules(math.MaxInt, x, math.MinInt)} {
			checkTables(t, u, 4, games, []int{3, 0, 1}, false)
		}
	}
}

// A table asks for a valid season, although the faulty game would not count or is not one of the group's.
func TestTablesOfBrokenSeasons(t *testing.T) {
	whole := threeGames()
	faults := []impl.Game{
		{}, open(0, 1), played(0, 1, 2, 0), played(1, 2, 0, 1), open(2, 2), open(0, 3), open(3, 0), open(-1, 0), open(0, -1), open(math.MinInt, 0), open(1, math.MaxInt), open(1<<32, 1),
		played(2, 0, 100, 0), played(2, 0, 0, 100), played(2, 0, -1, 0), played(2, 0, 0, -1), {Home: 2, State: 5}, {Home: 2, State: -1}, {Home: 2, HomeGoals: 1},
		{Home: 2, AwayGoals: 1, State: impl.GmVoid}, {Home: 2, HomeGoals: 3, State: impl.GmHome}, {Home: 2, AwayGoals: 3, State: impl.GmAway}, {Home: 2, State: 1<<32 + 1},
	}
	for _, g := range faults {
		for at := range len(whole) + 1 {
			games := slices.Insert(slices.Clone(whole), at, g)
			for _, group := range [][]int{nil, {0}, {0, 1}, {1, 2}, {0, 1, 2}} {
				checkTables(t, impl.UsualRules(), 3, games, group, false)
			}
		}
	}
	checkTables(t, impl.UsualRules(), 3, whole, []int{0, 1}, true)
	for _, size := range []int{57, 60, 61, 100000} {
		checkTables(t, impl.UsualRules(), 8, slices.Repeat(fullSeason(8), 2000)[:size], []int{0, 1}, false)
	}
}

func TestTablesOfGoals(t *testing.T) {
	for homeGoals := range 100 {
		for awayGoals := range 100 {
			games := []impl.Game{played(1, 3, homeGoals, awayGoals), played(3, 0, awayGoals, homeGoals)}
			checkTables(t, pointRules(9, 5, 2), 4, games, []int{3, 1}, true)
		}
	}
	var most []impl.Game
	for _, g := range fullSeason(8) {
		most = append(most, played(g.Home, g.Away, 99, 99))
	}
	for team, r := range impl.TableOf(pointRules(10, 10, 10), 8, most) {
		if (r != impl.Row{Played: 14, Draws: 14, Scored: 1386, Against: 1386, Points: 140}) {
			t.Errorf("the row of team %d of the greatest table is %v", team, r)
		}
	}
}

// P2: a table depends on the games only: not on their order, nor on those that do not count, nor on how teams would be ranked.
func TestTablesDependOnTheGames(t *testing.T) {
	games, want := fourTeams()
	games = games[:6]
	for _, order := range ordersOf(len(games)) {
		var list, counted []impl.Game
		for _, i := range order {
			list = append(list, games[i])
			if impl.OutcomeOf(games[i]) != 0 {
				counted = append(counted, games[i])
			}
		}
		for _, season := range [][]impl.Game{list, counted} {
			if got := impl.TableOf(impl.UsualRules(), 4, season); !slices.Equal(got, want) {
				t.Fatalf("TableOf(%v) = %v, want %v", season, got, want)
			}
		}
	}
	for size := 1; size <= 8; size++ {
		for _, again := range []bool{false, true} {
			u := impl.Rules{Win: 3, Draw: 1, Ladder: allKeys()[:size], Again: again}
			if got := impl.TableOf(u, 4, games); !slices.Equal(got, want) {
				t.Errorf("TableOf with the ladder %v = %v, want %v", u.Ladder, got, want)
			}
		}
	}
}

// P2: the table of what the notes give is the same in each order of them, and the last note for a game is the one that counts.
func TestTablesDependOnTheNotes(t *testing.T) {
	games := []impl.Game{open(0, 1), open(1, 2), open(2, 0)}
	notes := []impl.Note{noteOf(1, games, 0, 5, 0), noteIn(3, games, 1, impl.GmHome), noteOf(7, games, 0, 1, 1), noteOf(4, games, 2, 0, 2), noteIn(9, games, 2, impl.GmVoid)}
	want := []impl.Row{
		{Played: 1, Draws: 1, Scored: 1, Against: 1, Points: 1},
		{Played: 2, Wins: 1, Draws: 1, Scored: 4, Against: 1, Points: 4},
		{Played: 1, Losses: 1, Against: 3},
	}
	for _, order := range ordersOf(len(notes)) {
		var arrived []impl.Note
		for _, i := range order {
			arrived = append(arrived, notes[i], notes[order[0]])
		}
		results, _ := impl.ApplyNotes(3, games, arrived)
		if got := impl.TableOf(impl.UsualRules(), 3, results); !slices.Equal(got, want) {
			t.Fatalf("the table of %v is %v, want %v", arrived, got, want)
		}
	}
	early, _ := impl.ApplyNotes(3, games, impl.UpTo(notes, 1))
	want = []impl.Row{{Played: 1, Wins: 1, Scored: 5, Points: 3}, {Played: 1, Losses: 1, Against: 5}, {}}
	if got := impl.TableOf(impl.UsualRules(), 3, early); !slices.Equal(got, want) {
		t.Errorf("the table of the first note is %v, want %v", got, want)
	}
}

// seasonPool returns games of three teams, valid and not, of each state.
func seasonPool() []impl.Game {
	return []impl.Game{
		played(0, 1, 2, 2), played(1, 0, 0, 3), {Home: 1, Away: 2, State: impl.GmHome}, {Home: 2, Away: 1, State: impl.GmAway}, played(2, 0, 99, 0), played(0, 2, 0, 0),
		{Home: 0, Away: 2, State: impl.GmVoid}, open(1, 0), open(2, 2), {Home: 2, Away: 0, State: impl.GmHome, HomeGoals: 3},
	}
}

// P2 and P9: all short seasons, valid and not, with groups of each kind; each table of a valid one is balanced, and the one among all teams is the table.
func TestTablesAgainstTeams(t *testing.T) {
	groups := [][]int{nil, {0}, {1, 0}, {2, 1, 2}, {0, 2, -1, 3}, {7, 2}, {2, 1, 0}}
	for _, games := range listsOver(seasonPool(), 4) {
		for n := 2; n <= 3; n++ {
			valid := plainSeasonOk(n, games)
			for i, group := range groups {
				u := pointRules(3+i, 1+i%3, i%2)
				checkTables(t, u, n, games, group, valid)
				among := impl.TableAmong(u, n, games, group)
				if !impl.IsBalanced(among) || valid && len(among) != n {
					t.Fatalf("TableAmong(%v, %d, %v, %v) = %v is not balanced", u, n, games, group, among)
				}
			}
			checkWholeTable(t, n, games)
		}
	}
}

// checkWholeTable checks what the table of all teams of a season promises.
func checkWholeTable(t *testing.T, n int, games []impl.Game) {
	t.Helper()
	table := impl.TableOf(impl.UsualRules(), n, games)
	if !impl.IsBalanced(table) {
		t.Fatalf("the table %v of %v is not balanced", table, games)
	}
	for _, all := range [][]int{{0, 1, 2}, {2, 0, 1}, {2, 2, 1, 0, 8}} {
		if among := impl.TableAmong(impl.UsualRules(), n, games, all); !slices.Equal(table, among) {
			t.Fatalf("TableAmong(%d, %v, %v) = %v, want %v", n, games, all, among, table)
		}
	}
	counted := 0
	for _, g := range games {
		if impl.OutcomeOf(g) != 0 {
			counted++
		}
	}
	if got := impl.TotalPlayed(table); len(table) > 0 && got != counted {
		t.Fatalf("TotalPlayed of the table of %v = %d", games, got)
	}
}

// P2: the tables of long seasons are balanced, and so is their sum.
func TestLongSeasonsAreBalanced(t *testing.T) {
	for n := 2; n <= 8; n++ {
		games := fullSeason(n)
		all := make([]int, n)
		for i := range all {
			all[i] = n - 1 - i
		}
		var sum []impl.Row
		for size := range len(games) + 1 {
			checkTables(t, impl.UsualRules(), n, games[:size], all, true)
			checkTables(t, impl.UsualRules(), n, games[:size], all[1:], true)
			table := impl.TableOf(impl.UsualRules(), n, games[:size])
			sum = append(sum, table...)
			if !impl.IsBalanced(table) || !impl.IsBalanced(sum) {
				t.Fatalf("the table of %d games of %d teams is not balanced: %v", size, n, table)
			}
		}
	}
}

// numbers returns the fields of a row; rowOf is its inverse.
func numbers(r impl.Row) [7]int {
	return [7]int{r.Played, r.Wins, r.Draws, r.Losses, r.Scored, r.Against, r.Points}
}

func rowOf(x [7]int) impl.Row {
	return impl.Row{Played: x[0], Wins: x[1], Draws: x[2], Losses: x[3], Scored: x[4], Against: x[5], Points: x[6]}
}

// wrapped returns the sum of the numbers, added without limits and then cut to 64 bits.
func wrapped(list ...int) int {
	sum := new(big.Int)
	for _, x := range list {
		sum.Add(sum, big.NewInt(int64(x)))
	}
	sum.And(sum, new(big.Int).SetUint64(math.MaxUint64))
	return int(sum.Uint64())
}

func TestWrapped(t *testing.T) {
	if wrapped() != 0 || wrapped(-1, 3) != 2 || wrapped(1, -3) != -2 || wrapped(math.MaxInt, 1) != math.MinInt || wrapped(math.MinInt, -1) != math.MaxInt {
		t.Error("wrapped is wrong")
	}
}

func TestDifferenceOf(t *testing.T) {
	for _, scored := range withEdges(-3, 101) {
		for _, against := range withEdges(-3, 101) {
			want := wrapped(scored, ^against, 1)
			for _, r := range []impl.Row{{Scored: scored, Against: against}, {Played: 1, Wins: 2, Draws: 3, Losses: 4, Scored: scored, Against: against, Points: math.MaxInt}} {
				if got := impl.DifferenceOf(r); got != want {
					t.Fatalf("DifferenceOf(%v) = %d, want %d", r, got, want)
				}
			}
		}
	}
}

func TestAddRows(t *testing.T) {
	a := rowOf([7]int{1, 20, 300, 4000, 50000, 600000, 7000000})
	b := rowOf([7]int{-8, 9, -10, 11, -12, 13, -14})
	want := rowOf([7]int{-7, 29, 290, 4011, 49988, 600013, 6999986})
	if impl.AddRows(a, b) != want || impl.AddRows(b, a) != want || impl.AddRows(a, impl.Row{}) != a || impl.AddRows(impl.Row{}, a) != a || impl.AddRows(impl.Row{}, impl.Row{}) != (impl.Row{}) {
		t.Errorf("AddRows(%v, %v) = %v", a, b, impl.AddRows(a, b))
	}
	for field := range 7 {
		for _, x := range withEdges(-2, 2) {
			for _, y := range withEdges(-2, 2) {
				left, right, sum := numbers(a), numbers(b), numbers(want)
				left[field], right[field], sum[field] = x, y, wrapped(x, y)
				if got := impl.AddRows(rowOf(left), rowOf(right)); got != rowOf(sum) {
					t.Fatalf("AddRows(%v, %v) = %v, want %v", left, right, got, sum)
				}
			}
		}
	}
}

// playedRows returns rows with these numbers of games.
func playedRows(list ...int) []impl.Row {
	var rows []impl.Row
	for i, x := range list {
		rows = append(rows, rowOf([7]int{x, i, i + 1, -i, 9, math.MaxInt, math.MinInt}))
	}
	return rows
}

func TestTotalPlayed(t *testing.T) {
	cases := []struct {
		played []int
		want   int
	}{
		{nil, 0}, {[]int{}, 0}, {[]int{0}, 0}, {[]int{1}, 0}, {[]int{2}, 1}, {[]int{3}, 1}, {[]int{5}, 2}, {[]int{-1}, 0}, {[]int{-2}, -1}, {[]int{-3}, -1}, {[]int{-5}, -2},
		{[]int{1, 1}, 1}, {[]int{1, 2}, 1}, {[]int{1, 1, 1}, 1}, {[]int{-1, -1}, -1}, {[]int{-1, -2}, -1}, {[]int{-1, 1}, 0}, {[]int{3, -8}, -2}, {[]int{4, 4, 3, 3}, 7},
		{[]int{math.MaxInt}, 1<<62 - 1}, {[]int{math.MinInt}, -1 << 62}, {[]int{math.MaxInt, math.MinInt}, 0}, {[]int{math.MinInt, 1}, -1<<62 + 1},
		{[]int{math.MaxInt, 1}, -1 << 62}, {[]int{math.MaxInt, math.MaxInt}, -1}, {[]int{math.MinInt, math.MinInt}, 0}, {[]int{math.MinInt, -1}, 1<<62 - 1},
		{[]int{math.MaxInt, math.MaxInt, 2}, 0}, {[]int{math.MaxInt, math.MaxInt, 4}, 1}, {slices.Repeat([]int{7}, 100001), 350003},
	}
	for _, c := range cases {
		if got := impl.TotalPlayed(playedRows(c.played...)); got != c.want {
			t.Errorf("TotalPlayed of %v = %d, want %d", c.played[:min(len(c.played), 9)], got, c.want)
		}
	}
	for _, list := range listsOver(withEdges(-3, 3), 3) {
		if got := impl.TotalPlayed(playedRows(list...)); got != wrapped(list...)/2 {
			t.Fatalf("TotalPlayed of %v = %d", list, got)
		}
	}
}

// pointRows returns rows with these points.
func pointRows(list ...int) []impl.Row {
	var rows []impl.Row
	for i, x := range list {
		rows = append(rows, rowOf([7]int{i, -i, i, 7 - i, i * 3, -i, x}))
	}
	return rows
}

func TestLeaderOf(t *testing.T) {
	cases := []struct {
		points []int
		want   int
	}{
		{nil, -1}, {[]int{}, -1}, {[]int{0}, 0}, {[]int{-4}, 0}, {[]int{math.MinInt}, 0}, {[]int{math.MaxInt}, 0}, {[]int{5, 5}, 0}, {[]int{5, 6}, 1}, {[]int{6, 5}, 0},
		{[]int{0, 0, 0, 0}, 0}, {[]int{1, 3, 3, 2, 3}, 1}, {[]int{3, 1, 3}, 0}, {[]int{1, 2, 3}, 2}, {[]int{-1, -2, -3}, 0}, {[]int{-3, -2, -1}, 2}, {[]int{-3, -1, -2, -1}, 1},
		{[]int{-1, 0}, 1}, {[]int{0, -1}, 0}, {[]int{math.MinInt, math.MinInt}, 0}, {[]int{math.MinInt, math.MinInt + 1}, 1}, {[]int{math.MinInt, math.MaxInt}, 1},
		{[]int{math.MaxInt, math.MinInt}, 0}, {[]int{math.MaxInt - 1, math.MaxInt, math.MaxInt}, 1}, {[]int{1, 1 << 32}, 1}, {[]int{1 << 32, 1}, 0},
		{append(make([]int, 100000), 1), 100000},
	}
	for _, c := range cases {
		if got := impl.LeaderOf(pointRows(c.points...)); got != c.want {
			t.Errorf("LeaderOf rows with the points %v = %d, want %d", c.points[:min(len(c.points), 9)], got, c.want)
		}
	}
	if impl.LeaderOf([]impl.Row{}) != -1 {
		t.Error("LeaderOf no rows is not -1")
	}
	for _, list := range listsOver(withEdges(-2, 2), 3) {
		if got := impl.LeaderOf(pointRows(list...)); len(list) > 0 && got != slices.Index(list, slices.Max(list)) {
			t.Fatalf("LeaderOf rows with the points %v = %d", list, got)
		}
	}
}

// balancedRows returns a table with all kinds of games that is balanced.
func balancedRows() []impl.Row {
	return []impl.Row{
		{Played: 5, Wins: 3, Draws: 1, Losses: 1, Scored: 12, Against: 6, Points: 10},
		{Played: 4, Wins: 1, Draws: 2, Losses: 1, Scored: 5, Against: 5, Points: 5},
		{Played: 3, Wins: 0, Draws: 1, Losses: 2, Scored: 2, Against: 8, Points: 1},
		{},
	}
}

// Each change breaks exactly one of the conditions, whatever row it is made in.
func TestIsBalancedConditions(t *testing.T) {
	changes := map[string]impl.Row{
		"Played too great": {Played: 1},
		"Played too small": {Played: -1},
		"Played wraps":     {Played: math.MinInt},
		"Wins, not Losses": {Played: 1, Wins: 1},
		"Losses, not Wins": {Played: 1, Losses: 1},
		"two Wins":         {Played: 2, Wins: 2},
		"Wins for Losses":  {Wins: 1, Losses: -1},
		"fewer Losses":     {Played: -2, Losses: -2},
		"greatest Wins":    {Played: math.MaxInt, Wins: math.MaxInt},
		"odd Draws":        {Played: 1, Draws: 1},
		"odd Draws less":   {Played: -1, Draws: -1},
		"negative Draws":   {Played: -7, Draws: -7},
		"greatest Draws":   {Played: math.MaxInt, Draws: math.MaxInt},
		"Scored":           {Scored: 1},
		"Scored less":      {Scored: -1},
		"greatest Scored":  {Scored: math.MaxInt},
		"least Scored":     {Scored: math.MinInt},
		"Against":          {Against: 1},
		"Against less":     {Against: -1},
		"greatest Against": {Against: math.MaxInt},
		"cancelled goals":  {Scored: 1, Against: -1},
	}
	for label, change := range changes {
		for at := range balancedRows() {
			rows := balancedRows()
			rows[at] = impl.AddRows(rows[at], change)
			if impl.IsBalanced(rows) {
				t.Errorf("%s at %d: IsBalanced(%v) = true", label, at, rows)
			}
		}
		if impl.IsBalanced([]impl.Row{change}) {
			t.Errorf("%s alone: IsBalanced = true", label)
		}
	}
}

// Rows that do not add up on their own are not balanced, though they do together.
func TestIsBalancedForEachRow(t *testing.T) {
	for a := range balancedRows() {
		for b := range balancedRows() {
			rows := balancedRows()
			rows[a].Played++
			rows[b].Played--
			if got := impl.IsBalanced(rows); got != (a == b) {
				t.Errorf("IsBalanced with a game of row %d in row %d = %v", b, a, got)
			}
		}
	}
}

// Each change keeps all conditions, because sums wrap around or because a condition asks for nothing more.
func TestIsBalancedAccepts(t *testing.T) {
	changes := map[string]impl.Row{
		"nothing":          {},
		"Points":           {Points: 1},
		"greatest Points":  {Points: math.MaxInt},
		"least Points":     {Points: math.MinInt},
		"two Draws":        {Played: 2, Draws: 2},
		"fewer Draws":      {Played: -6, Draws: -6},
		"least Draws":      {Played: math.MinInt, Draws: math.MinInt},
		"a win and a loss": {Played: 2, Wins: 1, Losses: 1},
		"wins that wrap":   {Played: -2, Wins: math.MaxInt, Losses: math.MaxInt},
		"least wins":       {Wins: math.MinInt, Losses: math.MinInt},
		"a goal each":      {Scored: 1, Against: 1},
		"negative goals":   {Scored: -90, Against: -90},
		"greatest goals":   {Scored: math.MaxInt, Against: math.MaxInt},
		"all of these":     {Played: math.MinInt + 2, Wins: 1, Draws: math.MinInt, Losses: 1, Scored: math.MinInt, Against: math.MinInt, Points: -1},
	}
	for label, change := range changes {
		for at := range balancedRows() {
			rows := balancedRows()
			rows[at] = impl.AddRows(rows[at], change)
			if !impl.IsBalanced(rows) {
				t.Errorf("%s at %d: IsBalanced(%v) = false", label, at, rows)
			}
		}
	}
	wins := []impl.Row{{Played: math.MinInt, Wins: math.MinInt}, {Played: math.MinInt, Wins: math.MinInt}}
	goals := []impl.Row{{Scored: math.MaxInt}, {Scored: math.MaxInt}, {Scored: 3, Against: 1}}
	for _, rows := range [][]impl.Row{nil, {}, {{}}, make([]impl.Row, 9), balancedRows(), wins, goals, slices.Repeat(balancedRows(), 20000)} {
		if !impl.IsBalanced(rows) {
			t.Errorf("IsBalanced(%v) = false", rows[:min(len(rows), 9)])
		}
	}
}

// plainBalanced adds without limits and cuts afterwards: a second way to IsBalanced.
func plainBalanced(rows []impl.Row) bool {
	var columns [7][]int
	for _, r := range rows {
		if wrapped(r.Wins, r.Draws, r.Losses) != r.Played {
			return false
		}
		for i, x := range numbers(r) {
			columns[i] = append(columns[i], x)
		}
	}
	return wrapped(columns[1]...) == wrapped(columns[3]...) && wrapped(columns[2]...)&1 == 0 && wrapped(columns[4]...) == wrapped(columns[5]...)
}

func TestIsBalancedAgainstColumns(t *testing.T) {
	var pool []impl.Row
	for _, x := range []int{math.MinInt, -1, 0, 1, math.MaxInt} {
		pool = append(pool,
			impl.Row{Played: x, Wins: x}, impl.Row{Played: x, Draws: x}, impl.Row{Played: x, Losses: x}, impl.Row{Wins: x}, impl.Row{Scored: x}, impl.Row{Against: x},
			impl.Row{Played: wrapped(x, x), Wins: x, Losses: x}, impl.Row{Played: -1, Draws: x, Losses: wrapped(-1, ^x, 1)})
	}
	balanced := 0
	for _, rows := range listsOver(pool, 3) {
		want := plainBalanced(rows)
		if want {
			balanced++
		}
		if got := impl.IsBalanced(rows); got != want {
			t.Fatalf("IsBalanced(%v) = %v", rows, got)
		}
	}
	if balanced < 100 {
		t.Errorf("%d of the lists are balanced only", balanced)
	}
}

// Neither the arguments nor the spare capacity behind them may change, and what is behind them does not count.
func TestTableArgumentsStay(t *testing.T) {
	u := ladderRules(allKeys()...)
	games := append(fullSeason(3), open(0, 1), played(2, 1, 7, 0), open(9, 9))
	group := []int{1, 0, 2, 1, -5, 9}
	rows := append(balancedRows(), impl.Row{Played: 1, Points: 99}, impl.Row{Wins: 1, Points: 100})
	gamesBefore, groupBefore, rowsBefore := slices.Clone(games), slices.Clone(group), slices.Clone(rows)
	for size := range 7 {
		for count := range len(group) + 1 {
			checkTables(t, impl.Rules{Win: 3, Draw: 1, Ladder: u.Ladder[:1+size]}, 3, games[:size], group[:count], true)
		}
		some := rows[:min(size, 4)]
		other := slices.Clip(slices.Clone(some))
		if impl.TotalPlayed(some) != impl.TotalPlayed(other) || impl.LeaderOf(some) != impl.LeaderOf(other) || impl.IsBalanced(some) != impl.IsBalanced(other) {
			t.Errorf("the first rows of %d and their copy differ", size)
		}
	}
	if !slices.Equal(games, gamesBefore) || !slices.Equal(group, groupBefore) || !slices.Equal(rows, rowsBefore) || !slices.Equal(u.Ladder, allKeys()) {
		t.Errorf("the arguments became %v, %v, %v and %v", u, games, group, rows)
	}
}

// Results are new at each call: a caller may write into them.
func TestTableResultsAreNew(t *testing.T) {
	games, want := fourTeams()
	other := impl.Row{Played: 77, Points: -1}
	checkNewList(t, func() []impl.Row { return impl.TableOf(impl.UsualRules(), 4, games) }, want, other)
	checkNewList(t, func() []impl.Row { return impl.TableAmong(impl.UsualRules(), 4, games, []int{0, 1, 2}) }, want, other)
	checkNewList(t, func() []impl.Row { return impl.TableAmong(impl.UsualRules(), 4, games, nil) }, make([]impl.Row, 4), other)
}
