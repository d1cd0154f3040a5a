package tests

import (
	"cmp"
	"math"
	"slices"
	"testing"

	"loop.example/g00834/impl"
)

// bookOf returns a book of n teams, the team i with the seed i + 1, without penalty points and deductions.
func bookOf(n int, u impl.Rules, games ...impl.Game) impl.Book {
	return impl.Book{Field: fieldOf(allTeams(n + 1)[1:]...), Rules: u, Games: games, Fair: make([]int, n), Taken: make([]int, n)}
}

// plainBook returns a valid book of three teams.
func plainBook() impl.Book { return bookOf(3, impl.UsualRules(), threeGames()...) }

// allTeams returns the numbers from 0 up to n.
func allTeams(n int) []int {
	all := make([]int, n)
	for i := range all {
		all[i] = i
	}
	return all
}

// withAgain returns the rules with this Again.
func withAgain(u impl.Rules, again bool) impl.Rules {
	u.Again = again
	return u
}

// sameParts reports whether two lists of groups are equal.
func sameParts(a [][]int, b [][]int) bool { return slices.EqualFunc(a, b, slices.Equal) }

// plainValue looks a value up in the tables of plainTable: a second way to KeyValue for valid books and teams.
func plainValue(b impl.Book, key int, team int, group []int) int {
	n := len(b.Field)
	whole := plainTable(b.Rules, n, b.Games, everyTeam)[team]
	among := plainTable(b.Rules, n, b.Games, func(x int) bool { return slices.Contains(group, x) })[team]
	values := map[int]int{
		1: whole.Points - b.Taken[team], 2: whole.Scored - whole.Against, 3: whole.Scored, 4: whole.Wins,
		5: among.Points, 6: among.Scored - among.Against, 7: -b.Fair[team], 8: -b.Field[team].Seed,
	}
	return values[key]
}

// plainSplit takes the teams with the greatest value out of the group until none is left: a second way to SplitBy.
func plainSplit(b impl.Book, key int, group []int) [][]int {
	var parts [][]int
	values := map[int]int{}
	for _, team := range group {
		if _, known := values[team]; !known {
			values[team] = plainValue(b, key, team, group)
		}
	}
	rest := slices.Clone(group)
	for len(rest) > 0 {
		best := math.MinInt
		for _, team := range rest {
			best = max(best, values[team])
		}
		var part []int
		for _, team := range rest {
			if values[team] == best {
				part = append(part, team)
			}
		}
		parts = append(parts, part)
		rest = slices.DeleteFunc(rest, func(team int) bool { return values[team] == best })
	}
	return parts
}

// plainRank keeps the groups that wait for a step on a stack: a second way to RankFrom, for what it accepts.
func plainRank(b impl.Book, group []int, step int) [][]int {
	type waiting struct {
		group []int
		step  int
	}
	stack := []waiting{{group, step}}
	var ranked [][]int
	for len(stack) > 0 {
		w := stack[len(stack)-1]
		stack = stack[:len(stack)-1]
		if len(w.group) < 2 || w.step >= len(b.Rules.Ladder) {
			if len(w.group) > 0 {
				ranked = append(ranked, w.group)
			}
			continue
		}
		key := b.Rules.Ladder[w.step]
		parts := plainSplit(b, key, w.group)
		next := w.step + 1
		if b.Rules.Again && len(parts) > 1 && (key == 5 || key == 6) {
			next = 0
		}
		for _, part := range slices.Backward(parts) {
			stack = append(stack, waiting{part, next})
		}
	}
	return ranked
}

// checkRanks compares the ranking of all teams of a valid book with plainRank.
func checkRanks(t *testing.T, b impl.Book) {
	t.Helper()
	want := plainRank(b, allTeams(len(b.Field)), 0)
	if got := impl.RankGroups(b); !sameParts(got, want) {
		t.Fatalf("RankGroups(%v) = %v, want %v", b, got, want)
	}
	var order []int
	ranks := map[int]int{}
	unique := true
	for _, part := range want {
		for _, team := range part {
			ranks[team] = len(order) + 1
		}
		order = append(order, part...)
		unique = unique && len(part) == 1
	}
	if !unique {
		order = nil
	}
	if got := impl.Ranking(b); !slices.Equal(got, order) {
		t.Fatalf("Ranking(%v) = %v, want %v", b, got, order)
	}
	for team := -2; team < len(b.Field)+2; team++ {
		if got := impl.RankOf(b, team); got != ranks[team] {
			t.Fatalf("RankOf(%v, %d) = %d, want %d", b, team, got, ranks[team])
		}
	}
}

// checkNoRanks checks that every function refuses a book that is not valid.
func checkNoRanks(t *testing.T, label string, b impl.Book) {
	t.Helper()
	if impl.BookOk(b) {
		t.Errorf("%s: BookOk = true", label)
	}
	for _, group := range [][]int{nil, {}, {0}, {1, 0}, {0, 1, 2}, {0, 0}} {
		for key := range 10 {
			for team := range 3 {
				if got := impl.KeyValue(b, key, team, group); got != 0 {
					t.Errorf("%s: KeyValue(%d, %d, %v) = %d", label, key, team, group, got)
				}
			}
			if got := impl.SplitBy(b, key, group); len(got) != 0 {
				t.Errorf("%s: SplitBy(%d, %v) = %v", label, key, group, got)
			}
		}
		for _, step := range []int{-1, 0, 1, 9} {
			if got := impl.RankFrom(b, group, step); len(got) != 0 {
				t.Errorf("%s: RankFrom(%v, %d) = %v", label, group, step, got)
			}
		}
	}
	if groups, order := impl.RankGroups(b), impl.Ranking(b); len(groups) != 0 || len(order) != 0 {
		t.Errorf("%s: RankGroups = %v, Ranking = %v", label, groups, order)
	}
	for team := -1; team <= 9; team++ {
		if got := impl.RankOf(b, team); got != 0 {
			t.Errorf("%s: RankOf(%d) = %d", label, team, got)
		}
	}
}

func TestBookOkFields(t *testing.T) {
	for n := 2; n <= 8; n++ {
		b := bookOf(n, impl.UsualRules(), fullSeason(n)...)
		if !impl.BookOk(b) {
			t.Errorf("a book of %d teams is not valid", n)
		}
		checkRanks(t, b)
	}
	for label, field := range brokenFields() {
		b := impl.Book{Field: field, Rules: impl.UsualRules(), Fair: make([]int, len(field)), Taken: make([]int, len(field))}
		checkNoRanks(t, label, b)
	}
	for _, n := range []int{0, 1, 9, 10, 1000} {
		checkNoRanks(t, impl.FormatInt(n)+" teams", bookOf(n, impl.UsualRules()))
	}
	checkNoRanks(t, "zero", impl.Book{})
}

func TestBookOkRules(t *testing.T) {
	for i, u := range differentRules() {
		b := plainBook()
		b.Rules = u
		if impl.RulesOk(u) {
			checkRanks(t, b)
		} else {
			checkNoRanks(t, "rules "+impl.FormatInt(i), b)
		}
		if impl.BookOk(b) != impl.RulesOk(u) {
			t.Errorf("BookOk with the rules %v = %v", u, impl.BookOk(b))
		}
	}
	b := plainBook()
	b.Rules.Ladder = slices.Repeat(allKeys(), 10000)
	checkNoRanks(t, "long ladder", b)
}

// The season has to be valid for the number of teams of the field.
func TestBookOkSeasons(t *testing.T) {
	for n := 2; n <= 8; n++ {
		for teams := 2; teams <= 8; teams++ {
			if got := impl.BookOk(bookOf(n, impl.UsualRules(), fullSeason(teams)...)); got != (teams <= n) {
				t.Errorf("BookOk of %d teams and the games of %d = %v", n, teams, got)
			}
		}
	}
	valid := 0
	for _, games := range listsOver(gamePool(), 3) {
		b := bookOf(3, impl.UsualRules(), games...)
		want := plainSeasonOk(3, games)
		if got := impl.BookOk(b); got != want {
			t.Fatalf("BookOk with the games %v = %v", games, got)
		}
		if want {
			valid++
			checkRanks(t, b)
		}
	}
	if valid == 0 {
		t.Error("no season is valid")
	}
	for label, g := range map[string]impl.Game{
		"game again": threeGames()[1], "open game again": open(0, 1), "own game": open(2, 2), "team 3": open(2, 3), "team -1": open(-1, 2),
		"goals": played(2, 0, 100, 0), "goals of an open game": {Home: 2, Away: 0, HomeGoals: 1}, "state": {Home: 2, Away: 0, State: 5},
	} {
		checkNoRanks(t, label, bookOf(3, impl.UsualRules(), append(threeGames(), g)...))
	}
	checkNoRanks(t, "61 games", bookOf(8, impl.UsualRules(), append(fullSeason(8), fullSeason(8)[:5]...)...))
	checkNoRanks(t, "many games", bookOf(8, impl.UsualRules(), slices.Repeat(fullSeason(8), 1000)...))
}

// Penalty points and deductions are needed for each team, each from 0 to 1000.
func TestBookOkPenalties(t *testing.T) {
	for _, x := range withEdges(-3, 1003) {
		for at := range 3 {
			list := []int{1000, 0, 500}
			list[at] = x
			fair, taken := plainBook(), plainBook()
			fair.Fair, taken.Taken = list, list
			want := x >= 0 && x <= 1000
			if impl.BookOk(fair) != want || impl.BookOk(taken) != want {
				t.Errorf("BookOk with %v as Fair and as Taken = %v and %v", list, impl.BookOk(fair), impl.BookOk(taken))
			}
		}
	}
	for _, list := range [][]int{nil, {}, {0}, {0, 0}, {0, 0, 0, 0}, {0, 0, 0, -1}, make([]int, 8), make([]int, 100000), {0, 0, 1001}, {-1, 0, 0}, {0, math.MinInt, 0}, {math.MaxInt, 0, 0}} {
		fair, taken, both := plainBook(), plainBook(), plainBook()
		fair.Fair, taken.Taken = list, list
		both.Fair, both.Taken = list, list
		label := impl.FormatInt(len(list)) + " penalties"
		checkNoRanks(t, "Fair, "+label, fair)
		checkNoRanks(t, "Taken, "+label, taken)
		checkNoRanks(t, "both, "+label, both)
	}
}

// valuesBook returns the season of fourTeams with seeds, penalty points and deductions that are all different.
func valuesBook() impl.Book {
	games, _ := fourTeams()
	b := bookOf(4, impl.UsualRules(), games...)
	b.Field = fieldOf(5, 8, 1, 2)
	b.Fair = []int{7, 0, 1000, 1}
	b.Taken = []int{5, 0, 1, 1000}
	return b
}

func TestKeyValue(t *testing.T) {
	all, first := []int{0, 1, 2, 3}, []int{1, 0}
	cases := []struct {
		key   int
		group []int
		want  []int
	}{
		{impl.KeyPoints, all, []int{-1, 1, 5, -1000}}, {impl.KeyPoints, nil, []int{-1, 1, 5, -1000}}, {impl.KeyPoints, first, []int{-1, 1, 5, -1000}},
		{impl.KeyDifference, all, []int{0, -6, 6, 0}}, {impl.KeyDifference, first, []int{0, -6, 6, 0}}, {impl.KeyDifference, nil, []int{0, -6, 6, 0}},
		{impl.KeyScored, all, []int{6, 3, 6, 0}}, {impl.KeyScored, first, []int{6, 3, 6, 0}}, {impl.KeyWins, all, []int{1, 0, 2, 0}}, {impl.KeyWins, first, []int{1, 0, 2, 0}},
		{impl.KeyFair, all, []int{-7, 0, -1000, -1}}, {impl.KeyFair, nil, []int{-7, 0, -1000, -1}}, {impl.KeySeed, all, []int{-5, -8, -1, -2}}, {impl.KeySeed, first, []int{-5, -8, -1, -2}},
		{impl.KeyMutual, all, []int{4, 1, 6, 0}}, {impl.KeyMutual, first, []int{4, 1, 0, 0}}, {impl.KeyMutual, []int{2, 0}, []int{0, 0, 3, 0}}, {impl.KeyMutual, []int{0, 3}, []int{0, 0, 0, 0}},
		{impl.KeyMutual, nil, []int{0, 0, 0, 0}}, {impl.KeyMutual, []int{0}, []int{0, 0, 0, 0}}, {impl.KeyMutual, []int{0, 1, 0, 1, 0}, []int{4, 1, 0, 0}},
		{impl.KeyMutual, []int{-1, 0, 4, 1, math.MinInt, math.MaxInt}, []int{4, 1, 0, 0}},
		{impl.KeyMutualDifference, all, []int{0, -6, 6, 0}}, {impl.KeyMutualDifference, first, []int{3, -3, 0, 0}}, {impl.KeyMutualDifference, []int{2, 0}, []int{-3, 0, 3, 0}},
		{impl.KeyMutualDifference, []int{2, 1, 3}, []int{0, -3, 3, 0}}, {impl.KeyMutualDifference, nil, []int{0, 0, 0, 0}}, {impl.KeyMutualDifference, []int{9, 1, 0, -7}, []int{3, -3, 0, 0}},
	}
	b := valuesBook()
	for _, c := range cases {
		for team, want := range c.want {
			if got := impl.KeyValue(b, c.key, team, c.group); got != want {
				t.Errorf("KeyValue(%d, %d, %v) = %d, want %d", c.key, team, c.group, got, want)
			}
		}
	}
}

// Mutual points are those of the rules, and deductions do not change them.
func TestKeyValueWithOtherPoints(t *testing.T) {
	b := valuesBook()
	b.Rules = pointRules(10, 7, 4)
	for team, want := range []int{21 - 5, 15, 20 - 1, -1000} {
		if got := impl.KeyValue(b, impl.KeyPoints, team, nil); got != want {
			t.Errorf("KeyValue by points of the team %d = %d, want %d", team, got, want)
		}
	}
	for team, want := range []int{17, 11, 0, 0} {
		if got := impl.KeyValue(b, impl.KeyMutual, team, []int{0, 1}); got != want {
			t.Errorf("KeyValue by mutual points of the team %d = %d, want %d", team, got, want)
		}
	}
}

func TestKeyValueOfNothing(t *testing.T) {
	b := valuesBook()
	for _, key := range oddInts() {
		for team := range 4 {
			if got := impl.KeyValue(b, key, team, []int{0, 1, 2}); (key < 1 || key > 8) && got != 0 {
				t.Errorf("KeyValue(%d, %d) = %d", key, team, got)
			}
		}
	}
	for _, team := range withEdges(-9, 12) {
		for key := range 10 {
			for _, group := range [][]int{nil, {team}, {0, 1, team}} {
				want := 0
				if team >= 0 && team < 4 {
					want = plainValue(b, key, team, group)
				}
				if got := impl.KeyValue(b, key, team, group); got != want {
					t.Errorf("KeyValue(%d, %d, %v) = %d, want %d", key, team, group, got, want)
				}
			}
		}
	}
}

func TestKeyValuesAgainstTables(t *testing.T) {
	fields := [][]int{{3, 1, 2}, {8, 7, 1}}
	groups := [][]int{nil, {1}, {0, 2}, {2, 1, 2}, {0, 1, 2}, {-1, 5, 0, 1}}
	for i, games := range listsOver(seasonPool(), 3) {
		if !plainSeasonOk(3, games) {
			continue
		}
		b := bookOf(3, pointRules(3+i%5, 1+i%3, i%2), games...)
		b.Field = fieldOf(fields[i%2]...)
		b.Fair, b.Taken = []int{i % 1001, 0, 1000}, []int{0, i % 7, 1000 - i%3}
		for key := range 10 {
			for team := range 3 {
				for _, group := range groups {
					if got, want := impl.KeyValue(b, key, team, group), plainValue(b, key, team, group); got != want {
						t.Fatalf("KeyValue(%v, %d, %d, %v) = %d, want %d", b, key, team, group, got, want)
					}
				}
			}
		}
	}
}

func TestSplitBy(t *testing.T) {
	cases := []struct {
		key   int
		group []int
		want  [][]int
	}{
		{impl.KeyPoints, []int{0, 1, 2, 3}, [][]int{{2}, {1}, {0}, {3}}}, {impl.KeyDifference, []int{0, 1, 2, 3}, [][]int{{2}, {0, 3}, {1}}},
		{impl.KeyDifference, []int{3, 1, 0}, [][]int{{3, 0}, {1}}}, {impl.KeyScored, []int{2, 3, 1, 0}, [][]int{{2, 0}, {1}, {3}}}, {impl.KeyWins, []int{3, 0, 1}, [][]int{{0}, {3, 1}}},
		{impl.KeyFair, []int{0, 1, 2, 3}, [][]int{{1}, {3}, {0}, {2}}}, {impl.KeySeed, []int{0, 1, 2, 3}, [][]int{{2}, {3}, {0}, {1}}}, {impl.KeySeed, []int{1, 0}, [][]int{{0}, {1}}},
		{impl.KeyMutual, []int{0, 1, 2, 3}, [][]int{{2}, {0}, {1}, {3}}}, {impl.KeyMutual, []int{1, 0}, [][]int{{0}, {1}}}, {impl.KeyMutual, []int{3, 0}, [][]int{{3, 0}}},
		{impl.KeyMutual, []int{0, 3, 2}, [][]int{{2}, {0, 3}}}, {impl.KeyMutualDifference, []int{3, 2, 1}, [][]int{{2}, {3}, {1}}}, {impl.KeyMutualDifference, []int{3, 1}, [][]int{{3, 1}}},
		{impl.KeyPoints, nil, nil}, {impl.KeyPoints, []int{}, nil}, {impl.KeyMutual, nil, nil}, {impl.KeyPoints, []int{3}, [][]int{{3}}}, {impl.KeyMutual, []int{2}, [][]int{{2}}},
		{impl.KeyScored, []int{2, 2}, [][]int{{2, 2}}}, {impl.KeyScored, []int{0, 1, 2, 1, 0}, [][]int{{0, 2, 0}, {1, 1}}}, {impl.KeyMutual, []int{1, 0, 1, 0, 0}, [][]int{{0, 0, 0}, {1, 1}}},
		{0, []int{3, 0, 2}, [][]int{{3, 0, 2}}}, {9, []int{1, 0}, [][]int{{1, 0}}}, {-1, []int{2, 2, 1}, [][]int{{2, 2, 1}}}, {math.MinInt, []int{0}, [][]int{{0}}}, {math.MaxInt, nil, nil},
		{1<<32 + 8, []int{0, 1, 2, 3}, [][]int{{0, 1, 2, 3}}}, {256 + 1, []int{0, 1, 2, 3}, [][]int{{0, 1, 2, 3}}},
	}
	b := valuesBook()
	for _, c := range cases {
		if got := impl.SplitBy(b, c.key, c.group); !sameParts(got, c.want) {
			t.Errorf("SplitBy(%d, %v) = %v, want %v", c.key, c.group, got, c.want)
		}
	}
}

// Other than KeyValue, SplitBy refuses a group with a team that does not exist, by each key and by none.
func TestSplitByTeams(t *testing.T) {
	b := valuesBook()
	for _, team := range withEdges(-3, 9) {
		for key := range 10 {
			for _, group := range [][]int{{team}, {team, 0}, {0, 1, team}, {0, team, 1, 2}} {
				var want [][]int
				if team >= 0 && team < 4 {
					want = plainSplit(b, key, group)
				}
				if got := impl.SplitBy(b, key, group); !sameParts(got, want) {
					t.Errorf("SplitBy(%d, %v) = %v, want %v", key, group, got, want)
				}
			}
		}
	}
}

func TestSplitsAgainstValues(t *testing.T) {
	for _, group := range listsOver([]int{0, 1, 2, 3}, 5) {
		for key := range 10 {
			if got, want := impl.SplitBy(valuesBook(), key, group), plainSplit(valuesBook(), key, group); !sameParts(got, want) {
				t.Fatalf("SplitBy(%d, %v) = %v, want %v", key, group, got, want)
			}
		}
	}
}

// A long group is split as fast as it is read, not with a table for each of its teams.
func TestSplitByOfLongGroups(t *testing.T) {
	group := slices.Repeat([]int{1, 3, 0, 2}, 50000)
	b := valuesBook()
	for key := range 10 {
		if got, want := impl.SplitBy(b, key, group), plainSplit(b, key, group); !sameParts(got, want) {
			t.Errorf("SplitBy(%d) of a long group has %d parts, not %d", key, len(got), len(want))
		}
		for team := range 4 {
			if got, want := impl.KeyValue(b, key, team, group), plainValue(b, key, team, group); got != want {
				t.Errorf("KeyValue(%d, %d) of a long group = %d, want %d", key, team, got, want)
			}
		}
	}
	if got := impl.RankFrom(b, group, 0); len(got) != 0 {
		t.Errorf("RankFrom of a long group = %v", got)
	}
}

func TestRankFromGroups(t *testing.T) {
	b := valuesBook()
	b.Rules = ladderRules(impl.KeyScored, impl.KeyPoints)
	cases := []struct {
		group []int
		want  [][]int
	}{
		{nil, nil}, {[]int{}, nil}, {[]int{0}, [][]int{{0}}}, {[]int{3}, [][]int{{3}}}, {[]int{0, 2}, [][]int{{2}, {0}}}, {[]int{2, 0}, [][]int{{2}, {0}}}, {[]int{3, 1}, [][]int{{1}, {3}}},
		{[]int{0, 1, 2, 3}, [][]int{{2}, {0}, {1}, {3}}}, {[]int{3, 2, 1, 0}, [][]int{{2}, {0}, {1}, {3}}}, {[]int{1, 3, 0}, [][]int{{0}, {1}, {3}}},
		{[]int{0, 0}, nil}, {[]int{0, 1, 0}, nil}, {[]int{3, 1, 2, 0, 3}, nil}, {[]int{0, 1, 2, 3, 0, 1, 2, 3}, nil}, {[]int{-1}, nil}, {[]int{4}, nil}, {[]int{0, 1, 4}, nil},
		{[]int{0, -1, 1}, nil}, {[]int{math.MinInt}, nil}, {[]int{1, math.MaxInt}, nil}, {[]int{0, 1, 2, 3, 4}, nil}, {[]int{1 << 32, 1}, nil}, {edgeInts(), nil}, {make([]int, 9), nil},
	}
	for _, c := range cases {
		if got := impl.RankFrom(b, c.group, 0); !sameParts(got, c.want) {
			t.Errorf("RankFrom(%v, 0) = %v, want %v", c.group, got, c.want)
		}
	}
}

// Behind the ladder, a group stays as it is; before it, there is nothing, even of a group of one team.
func TestRankFromSteps(t *testing.T) {
	b := valuesBook()
	b.Rules = ladderRules(impl.KeyScored, impl.KeyWins, impl.KeyFair)
	group := []int{3, 2, 1, 0}
	inside := [][][]int{{{2}, {0}, {1}, {3}}, {{2}, {0}, {1}, {3}}, {{1}, {3}, {0}, {2}}}
	for _, step := range withEdges(-9, 12) {
		var whole, one [][]int
		if step >= 0 {
			whole, one = [][]int{group}, [][]int{{2}}
		}
		if step >= 0 && step < 3 {
			whole = inside[step]
		}
		if got := impl.RankFrom(b, group, step); !sameParts(got, whole) {
			t.Errorf("RankFrom(%v, %d) = %v, want %v", group, step, got, whole)
		}
		if got := impl.RankFrom(b, []int{2}, step); !sameParts(got, one) {
			t.Errorf("RankFrom([2], %d) = %v, want %v", step, got, one)
		}
		for _, other := range [][]int{nil, {}, {0, 0}, {0, 4}, {-1}} {
			if got := impl.RankFrom(b, other, step); len(got) != 0 {
				t.Errorf("RankFrom(%v, %d) = %v", other, step, got)
			}
		}
	}
}

// secondWins has three teams with 4 points each after deductions. Among them, 2 has the most mutual points; of 0 and 1, 0 has more, but 1 scored more.
func secondWins(ladder ...int) impl.Book {
	b := bookOf(3, ladderRules(ladder...), played(0, 1, 1, 0), played(1, 0, 0, 0), played(0, 2, 0, 1), played(2, 0, 1, 0), played(1, 2, 5, 0), played(2, 1, 1, 0))
	b.Taken = []int{0, 0, 5}
	return b
}

// thirdWins adds to secondWins a fourth team, behind all of them in the mutual points of four, among which these three are equal.
func thirdWins(ladder ...int) impl.Book {
	b := secondWins(ladder...)
	games := append(b.Games, played(0, 3, 2, 0), played(3, 0, 0, 1), played(1, 3, 1, 0), played(3, 1, 0, 1), played(2, 3, 0, 0), played(3, 2, 1, 0))
	b = bookOf(4, b.Rules, games...)
	b.Taken = []int{6, 6, 6, 0}
	return b
}

// differencesWin has three teams with a point each after deductions; 0 and 1 are equal by mutual differences, but not among the two of them.
func differencesWin(ladder ...int) impl.Book {
	b := bookOf(3, ladderRules(ladder...), played(0, 1, 1, 0), played(0, 2, 0, 0), played(2, 1, 0, 2))
	b.Taken = []int{3, 2, 0}
	return b
}

// circle has three teams that beat each other; only 2 is behind in the difference, and 1 is seeded before 0.
func circle(ladder ...int) impl.Book {
	b := bookOf(3, ladderRules(ladder...), played(0, 1, 2, 0), played(1, 2, 3, 0), played(2, 0, 1, 0))
	b.Field = fieldOf(2, 1, 3)
	return b
}

// With Again, the ladder begins anew after a mutual key that separated teams, and after no other key.
func TestAgain(t *testing.T) {
	ahead := secondWins(impl.KeyPoints, impl.KeyMutual, impl.KeySeed)
	ahead.Taken = []int{1, 0, 5}
	const points, scored, mutual, differences, seed = impl.KeyPoints, impl.KeyScored, impl.KeyMutual, impl.KeyMutualDifference, impl.KeySeed
	cases := []struct {
		label string
		book  impl.Book
		step  int
		plain [][]int
		again [][]int
	}{
		{"split twice", secondWins(points, mutual, scored, seed), 0, [][]int{{2}, {1}, {0}}, [][]int{{2}, {0}, {1}}},
		{"split three times", thirdWins(points, mutual, scored, seed), 0, [][]int{{1}, {0}, {2}, {3}}, [][]int{{2}, {0}, {1}, {3}}},
		{"split in the end", thirdWins(points, scored, mutual), 0, [][]int{{1}, {0}, {2}, {3}}, [][]int{{1}, {0}, {2}, {3}}},
		{"differences", differencesWin(points, differences, scored, seed), 0, [][]int{{1}, {0}, {2}}, [][]int{{0}, {1}, {2}}},
		{"no later key", secondWins(points, mutual), 0, [][]int{{2}, {0, 1}}, [][]int{{2}, {0}, {1}}},
		{"mutual alone", secondWins(mutual), 0, [][]int{{2}, {0, 1}}, [][]int{{2}, {0}, {1}}},
		{"differences alone", differencesWin(differences), 0, [][]int{{0, 1}, {2}}, [][]int{{0}, {1}, {2}}},
		{"mutual first", secondWins(mutual, points, scored), 0, [][]int{{2}, {1}, {0}}, [][]int{{2}, {0}, {1}}},
		{"from the mutual key", secondWins(points, mutual, scored, seed), 1, [][]int{{2}, {1}, {0}}, [][]int{{2}, {0}, {1}}},
		{"from the mutual key, but anew", ahead, 1, [][]int{{2}, {0}, {1}}, [][]int{{2}, {1}, {0}}},
		{"not split", circle(points, mutual, seed), 0, [][]int{{1}, {0}, {2}}, [][]int{{1}, {0}, {2}}},
		{"not split at all", circle(points, mutual), 0, [][]int{{0, 1, 2}}, [][]int{{0, 1, 2}}},
		{"split by another key", circle(points, mutual, impl.KeyDifference, seed), 0, [][]int{{1}, {0}, {2}}, [][]int{{1}, {0}, {2}}},
		{"split by mutual differences", circle(points, mutual, differences, seed), 0, [][]int{{1}, {0}, {2}}, [][]int{{0}, {1}, {2}}},
	}
	for _, c := range cases {
		for _, again := range []bool{false, true} {
			b := c.book
			b.Rules = withAgain(b.Rules, again)
			want := c.plain
			if again {
				want = c.again
			}
			if got := impl.RankFrom(b, allTeams(len(b.Field)), c.step); !sameParts(got, want) {
				t.Errorf("%s, Again %v: RankFrom = %v, want %v", c.label, again, got, want)
			}
			checkRanks(t, b)
		}
	}
}

// Teams that stay equal share a rank, and the next one is as far behind as there are teams before it.
func TestEqualTeams(t *testing.T) {
	b := bookOf(5, ladderRules(impl.KeyPoints), played(0, 1, 1, 0), played(2, 3, 1, 0), played(4, 1, 2, 2))
	if got, want := impl.RankGroups(b), [][]int{{0, 2}, {1, 4}, {3}}; !sameParts(got, want) {
		t.Errorf("RankGroups = %v, want %v", got, want)
	}
	if got := impl.Ranking(b); len(got) != 0 {
		t.Errorf("Ranking of equal teams = %v", got)
	}
	for _, team := range withEdges(-2, 9) {
		want := map[int]int{0: 1, 1: 3, 2: 1, 3: 5, 4: 3}[team]
		if got := impl.RankOf(b, team); got != want {
			t.Errorf("RankOf(%d) = %d, want %d", team, got, want)
		}
	}
	b.Fair = []int{0, 1, 2, 3, 4}
	b.Rules.Ladder = []int{impl.KeyPoints, impl.KeyFair}
	if got, want := impl.Ranking(b), []int{0, 2, 1, 4, 3}; !slices.Equal(got, want) {
		t.Errorf("Ranking by penalty points = %v, want %v", got, want)
	}
}

// Without games, all keys but Fair, Seed and deductions leave all teams equal.
func TestRanksWithoutGames(t *testing.T) {
	for n := 2; n <= 8; n++ {
		b := bookOf(n, ladderRules(allKeys()[:6]...))
		for _, again := range []bool{false, true} {
			b.Rules.Again = again
			if got := impl.RankGroups(b); !sameParts(got, [][]int{allTeams(n)}) {
				t.Errorf("RankGroups without games = %v", got)
			}
			if got := impl.Ranking(b); len(got) != 0 {
				t.Errorf("Ranking without games = %v", got)
			}
			checkRanks(t, b)
		}
		b.Rules.Ladder = allKeys()
		if got := impl.Ranking(b); !slices.Equal(got, allTeams(n)) {
			t.Errorf("Ranking without games by seeds = %v", got)
		}
		b.Fair[0] = 1
		if got := impl.Ranking(b); !slices.Equal(got, append(allTeams(n)[1:], 0)) {
			t.Errorf("Ranking without games by penalty points = %v", got)
		}
		b.Taken = slices.Repeat([]int{1000}, n)
		b.Taken[0], b.Taken[n-1] = 999, 0
		if got := impl.Ranking(b); got[0] != n-1 || n > 2 && got[1] != 0 || len(got) != n {
			t.Errorf("Ranking without games by deductions = %v", got)
		}
		checkRanks(t, b)
	}
}

// Points below 0 rank as numbers do.
func TestDeductedPoints(t *testing.T) {
	b := bookOf(4, ladderRules(impl.KeyPoints), played(0, 1, 1, 0), played(0, 2, 1, 0), played(3, 1, 1, 0))
	b.Taken = []int{7, 2, 1, 1000}
	if got, want := impl.RankGroups(b), [][]int{{0, 2}, {1}, {3}}; !sameParts(got, want) {
		t.Errorf("RankGroups = %v, want %v", got, want)
	}
	b.Taken[0] = 9
	if got, want := impl.Ranking(b), []int{2, 1, 0, 3}; !slices.Equal(got, want) {
		t.Errorf("Ranking = %v, want %v", got, want)
	}
	for team, want := range []int{-3, -2, -1, -997} {
		if got := impl.KeyValue(b, impl.KeyPoints, team, nil); got != want {
			t.Errorf("KeyValue of the team %d = %d, want %d", team, got, want)
		}
	}
}

// resultPool returns what a game can be: open, void, awarded, or played with goals that make it count differently.
func resultPool(home int, away int) []impl.Game {
	return []impl.Game{
		open(home, away), {Home: home, Away: away, State: impl.GmHome}, {Home: home, Away: away, State: impl.GmVoid},
		played(home, away, 1, 0), played(home, away, 1, 1), played(home, away, 0, 1), played(home, away, 2, 4),
	}
}

// seasonsOver returns all seasons in which each of these games has each of the first kinds of results.
func seasonsOver(games []impl.Game, kinds ...int) [][]impl.Game {
	seasons := [][]impl.Game{nil}
	for _, g := range games {
		pool := resultPool(g.Home, g.Away)
		var longer [][]impl.Game
		for _, s := range seasons {
			for _, kind := range kinds {
				longer = append(longer, append(slices.Clone(s), pool[kind]))
			}
		}
		seasons = longer
	}
	return seasons
}

// someLadders returns ladders with and without mutual keys, decisive and not, in orders that the checker likes and does not.
func someLadders() [][]int {
	return [][]int{
		{1}, {5}, {6}, {1, 5}, {1, 5, 6, 2, 3, 8}, {1, 2, 3, 5, 8}, {1, 6, 5, 4, 7}, {5, 1, 8}, {6, 1, 3}, {1, 3, 6, 8, 5}, {4, 5, 6, 7, 8}, {1, 7, 5, 2, 8}, {2, 6, 5, 3}, {1, 5, 4, 6, 3, 2, 7, 8},
	}
}

// P3 and P9: three games of three teams, each with each kind of result, by ladders of all kinds, the deductions in turn.
func TestRanksOfThreeTeams(t *testing.T) {
	for i, games := range seasonsOver([]impl.Game{open(0, 1), open(1, 2), open(2, 0)}, 0, 1, 2, 3, 4, 5, 6) {
		for k, ladder := range someLadders() {
			for _, again := range []bool{false, true} {
				b := bookOf(3, withAgain(ladderRules(ladder...), again), games...)
				b.Field = fieldOf(3, 1, 2)
				b.Fair = []int{i % 2, 0, i % 3}
				b.Taken = [][]int{{0, 0, 0}, {3, 0, 0}, {1, 3, 0}}[(i+k)%3]
				checkRanks(t, b)
			}
		}
	}
}

// P3: six games of four teams, each won at home, drawn or lost by goals that differ, by the usual rules and by a ladder in turn.
func TestRanksOfFourTeams(t *testing.T) {
	games := []impl.Game{open(0, 1), open(2, 3), open(0, 2), open(1, 3), open(3, 0), open(1, 2)}
	for i, season := range seasonsOver(games, 3, 4, 6) {
		ladder := someLadders()[i%len(someLadders())]
		for _, u := range []impl.Rules{impl.UsualRules(), withAgain(impl.UsualRules(), false), withAgain(ladderRules(ladder...), true)} {
			checkRanks(t, bookOf(4, u, season...))
		}
	}
}

// numbersFrom returns a function whose calls return numbers from 0 up to n, the same ones for the same start.
func numbersFrom(start int) func(n int) int {
	state := uint64(start)*2862933555777941757 + 3037000493
	return func(n int) int {
		state = state*6364136223846793005 + 1442695040888963407
		return int(state>>33) % n
	}
}

// someBook returns a valid book of 2 to 8 teams, with many equal results.
func someBook(start int) impl.Book {
	next := numbersFrom(start)
	n := 2 + next(7)
	var games []impl.Game
	for _, g := range fullSeason(n) {
		pool := resultPool(g.Home, g.Away)
		if next(3) > 0 {
			games = append(games, pool[next(len(pool))])
		}
	}
	u := impl.Rules{Win: 2 + next(2), Draw: 1, Ladder: slices.Clone(someLadders()[next(len(someLadders()))]), Again: next(2) == 0}
	b := bookOf(n, u, games...)
	for i := range n {
		b.Fair[i], b.Taken[i] = next(3), next(2)*next(4)
		other := next(n)
		b.Field[i].Seed, b.Field[other].Seed = b.Field[other].Seed, b.Field[i].Seed
	}
	return b
}

// P3 and P9: long seasons of all sizes, with groups in each order and from each step.
func TestRanksOfManyBooks(t *testing.T) {
	for start := range 1500 {
		b := someBook(start)
		if !impl.BookOk(b) {
			t.Fatalf("the book %v is not valid", b)
		}
		checkRanks(t, b)
		next := numbersFrom(-start)
		group := allTeams(len(b.Field))
		for i := range group {
			j := next(len(group))
			group[i], group[j] = group[j], group[i]
		}
		group = group[:next(len(group)+1)]
		for step := range len(b.Rules.Ladder) + 2 {
			if got, want := impl.RankFrom(b, group, step), plainRank(b, group, step); !sameParts(got, want) {
				t.Fatalf("RankFrom(%v, %v, %d) = %v, want %v", b, group, step, got, want)
			}
		}
	}
}

// Without mutual keys, a ranking is what sorting by the values of all keys gives.
func TestRanksAreSorted(t *testing.T) {
	for start := range 500 {
		b := someBook(start)
		b.Rules.Ladder = slices.DeleteFunc(allKeys(), impl.IsMutual)
		if start%2 == 0 {
			slices.Reverse(b.Rules.Ladder[:5])
		}
		order := allTeams(len(b.Field))
		slices.SortFunc(order, func(x int, y int) int {
			for _, key := range b.Rules.Ladder {
				if c := cmp.Compare(plainValue(b, key, y, nil), plainValue(b, key, x, nil)); c != 0 {
					return c
				}
			}
			return 0
		})
		if got := impl.Ranking(b); !slices.Equal(got, order) {
			t.Fatalf("Ranking(%v) = %v, want %v", b, got, order)
		}
	}
}

// P3: decisive rules rank all teams, each with a rank of its own, and no team stands below one with fewer points if the points come first.
func TestDecisiveRulesRankAllTeams(t *testing.T) {
	ladders := [][]int{{8}, {1, 8}, {5, 8}, {8, 1}, {1, 8, 5}, {6, 5, 1, 8}, {1, 5, 8}, {1, 6, 8}, impl.UsualRules().Ladder, allKeys()}
	for start := range 400 {
		b := someBook(start)
		for _, ladder := range ladders {
			b.Rules.Ladder = ladder
			order := impl.Ranking(b)
			if !impl.IsDecisive(b.Rules) || !impl.IsOrder(len(b.Field), order) {
				t.Fatalf("Ranking(%v) = %v", b, order)
			}
			for at, team := range order {
				if got := impl.RankOf(b, team); got != at+1 {
					t.Fatalf("RankOf(%v, %d) = %d, want %d", b, team, got, at+1)
				}
				if ladder[0] == impl.KeyPoints && at > 0 && plainValue(b, 1, order[at-1], nil) < plainValue(b, 1, team, nil) {
					t.Fatalf("Ranking(%v) = %v puts %d behind fewer points", b, order, team)
				}
			}
		}
	}
}

// P3: a ranking does not depend on the order of the games, nor do the groups of equal teams.
func TestRanksDependOnTheGames(t *testing.T) {
	for _, ladder := range someLadders() {
		for _, b := range []impl.Book{secondWins(ladder...), circle(ladder...)} {
			want := impl.RankGroups(b)
			games := b.Games
			for _, order := range ordersOf(len(games)) {
				b.Games = nil
				for _, i := range order {
					b.Games = append(b.Games, games[i])
				}
				if got := impl.RankGroups(b); !sameParts(got, want) {
					t.Fatalf("RankGroups(%v) = %v, want %v", b, got, want)
				}
			}
		}
	}
	for start := range 300 {
		b := someBook(start)
		want := impl.RankGroups(b)
		for range min(len(b.Games), 5) {
			b.Games = append(slices.Clone(b.Games[1:]), b.Games[0])
			slices.Reverse(b.Games[1:])
			if got := impl.RankGroups(b); !sameParts(got, want) {
				t.Fatalf("RankGroups(%v) = %v, want %v", b, got, want)
			}
		}
		b.Games = slices.DeleteFunc(slices.Clone(b.Games), func(g impl.Game) bool { return impl.OutcomeOf(g) == 0 })
		if got := impl.RankGroups(b); !sameParts(got, want) {
			t.Fatalf("RankGroups(%v) without the games that do not count = %v, want %v", b, got, want)
		}
	}
}

// spareBook returns a book whose lists have spare capacity, and a function that reports whether anything in it changed.
func spareBook() (impl.Book, func() bool) {
	b := secondWins()
	fields, ladder := fieldOf(3, 1, 2, 9, 9), append(allKeys(), 9, 0, -1)
	games := append(b.Games, open(0, 1), open(9, 9))
	fair, taken := []int{4, 5, 6, -1, -2}, []int{0, 0, 5, -1, 1001}
	fieldsBefore, ladderBefore, gamesBefore := slices.Clone(fields), slices.Clone(ladder), slices.Clone(games)
	fairBefore, takenBefore := slices.Clone(fair), slices.Clone(taken)
	b.Field, b.Rules.Ladder, b.Games, b.Fair, b.Taken = fields[:3], ladder[:8], games[:6], fair[:3], taken[:3]
	b.Rules.Again = true
	return b, func() bool {
		return !slices.Equal(fields, fieldsBefore) || !slices.Equal(ladder, ladderBefore) || !slices.Equal(games, gamesBefore) ||
			!slices.Equal(fair, fairBefore) || !slices.Equal(taken, takenBefore)
	}
}

// Neither the arguments nor the spare capacity behind them may change, and what is behind them does not count.
func TestRankArgumentsStay(t *testing.T) {
	b, changed := spareBook()
	group := []int{2, 0, 1, 0, 7, -1}
	before := slices.Clone(group)
	for size := range len(group) + 1 {
		for key := range 10 {
			impl.KeyValue(b, key, 1, group[:size])
			impl.SplitBy(b, key, group[:size])
		}
		for step := range 10 {
			impl.RankFrom(b, group[:size], step)
		}
	}
	if !impl.BookOk(b) {
		t.Error("BookOk = false")
	}
	checkRanks(t, b)
	if changed() || !slices.Equal(group, before) {
		t.Errorf("the arguments became %v and %v", b, group)
	}
}

// checkNewParts writes into each part of a result and behind it, which no other part and no other result may show.
func checkNewParts(t *testing.T, call func() [][]int, want [][]int) {
	t.Helper()
	first, other := call(), call()
	for i := range first {
		_ = append(first[i], 77)
		for j := range first[i] {
			first[i][j] = -5 - i
		}
	}
	for i, part := range first {
		if !slices.Equal(part, slices.Repeat([]int{-5 - i}, len(want[i]))) {
			t.Errorf("the part %d of a result shares memory: %v", i, first)
		}
	}
	_ = append(first, []int{77})
	clear(first)
	if !sameParts(other, want) || !sameParts(call(), want) {
		t.Errorf("after a change of its result, a call returns %v, want %v", call(), want)
	}
}

// Results are new at each call, and no two parts of one share memory, nor does a part with the group or the book.
func TestRankResultsAreNew(t *testing.T) {
	b, changed := spareBook()
	group := []int{2, 0, 1, 9}
	b.Rules.Ladder = []int{impl.KeyMutualDifference, impl.KeyScored, impl.KeySeed}[:1]
	b.Rules.Again = false
	checkNewParts(t, func() [][]int { return impl.SplitBy(b, impl.KeySeed, group[:3]) }, [][]int{{1}, {2}, {0}})
	checkNewParts(t, func() [][]int { return impl.SplitBy(b, impl.KeyPoints, group[:3]) }, [][]int{{2, 0, 1}})
	checkNewParts(t, func() [][]int { return impl.SplitBy(b, 0, group[:2]) }, [][]int{{2, 0}})
	checkNewParts(t, func() [][]int { return impl.SplitBy(b, impl.KeyMutual, []int{2, 1, 2, 0, 1}) }, [][]int{{2, 2}, {1, 0, 1}})
	checkNewParts(t, func() [][]int { return impl.RankFrom(b, group[:3], 0) }, [][]int{{1}, {0}, {2}})
	checkNewParts(t, func() [][]int { return impl.RankFrom(b, group[:3], 1) }, [][]int{{2, 0, 1}})
	checkNewParts(t, func() [][]int { return impl.RankFrom(b, group[:1], 0) }, [][]int{{2}})
	checkNewParts(t, func() [][]int { return impl.RankFrom(b, group[:2], math.MaxInt) }, [][]int{{2, 0}})
	checkNewParts(t, func() [][]int { return impl.RankGroups(b) }, [][]int{{1}, {0}, {2}})
	checkNewResults(t, indexCall{func() []int { return impl.Ranking(b) }, []int{1, 0, 2}})
	b.Rules.Ladder = []int{impl.KeyPoints}
	checkNewParts(t, func() [][]int { return impl.RankGroups(b) }, [][]int{{0, 1, 2}})
	if changed() || !slices.Equal(group, []int{2, 0, 1, 9}) {
		t.Errorf("the arguments became %v and %v", b, group)
	}
}
