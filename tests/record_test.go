package tests

import (
	"cmp"
	"math"
	"slices"
	"testing"

	"loop.example/g00834/impl"
)

// threeGames returns a season of three teams with a game of each of three states.
func threeGames() []impl.Game {
	return []impl.Game{open(0, 1), played(1, 2, 0, 1), {Home: 1, Away: 0, State: impl.GmVoid}}
}

// noteOf returns a note that a game was played with these goals.
func noteOf(serial int, games []impl.Game, game int, homeGoals int, awayGoals int) impl.Note {
	return impl.Note{Serial: serial, Game: game, Result: played(games[game].Home, games[game].Away, homeGoals, awayGoals)}
}

// noteIn returns a note that a game is in this state.
func noteIn(serial int, games []impl.Game, game int, state int) impl.Note {
	return impl.Note{Serial: serial, Game: game, Result: impl.Game{Home: games[game].Home, Away: games[game].Away, State: state}}
}

// manyNotes returns valid notes with descending Serials from size down to 1, the games in turn.
func manyNotes(games []impl.Game, size int) []impl.Note {
	var notes []impl.Note
	for serial := size; serial >= 1; serial-- {
		notes = append(notes, noteOf(serial, games, serial%len(games), serial%100, serial%7))
	}
	return notes
}

func TestMaxNotes(t *testing.T) {
	if impl.MaxNotes != 80 {
		t.Errorf("MaxNotes is %d", impl.MaxNotes)
	}
}

func TestNoteOkSerials(t *testing.T) {
	games := threeGames()
	for _, serial := range append(withEdges(-2, 3), 79, 80, 81, 99999, 100000, 100001, 100002, 1<<32+100000) {
		want := serial >= 1 && serial <= 100000
		for game := range games {
			if got := impl.NoteOk(3, games, noteOf(serial, games, game, 1, 0)); got != want {
				t.Errorf("NoteOk of the game %d with the Serial %d = %v", game, serial, got)
			}
			if got := impl.NotesOk(3, games, []impl.Note{noteOf(serial, games, game, 1, 0)}); got != want {
				t.Errorf("NotesOk of the game %d with the Serial %d = %v", game, serial, got)
			}
		}
	}
}

func TestNoteOkGames(t *testing.T) {
	games := fullSeason(8)
	for i := range games {
		for _, game := range withEdges(-2, 62) {
			x := noteOf(1, games, i, 2, 3)
			x.Game = game
			if got := impl.NoteOk(8, games, x); got != (game == i) {
				t.Fatalf("NoteOk of the Result of the game %d for the game %d = %v", i, game, got)
			}
		}
	}
	for _, game := range withEdges(-2, 2) {
		x := impl.Note{Serial: 1, Game: game, Result: played(0, 1, 0, 0)}
		if impl.NoteOk(2, nil, x) || impl.NoteOk(2, []impl.Game{}, x) || impl.NotesOk(2, nil, []impl.Note{x}) {
			t.Errorf("NoteOk for the game %d of no games = true", game)
		}
	}
}

// What lies behind the games in the same memory is no game of the season.
func TestNoteOkBehindTheGames(t *testing.T) {
	games := threeGames()
	for size := range games {
		for game := range games {
			if got := impl.NoteOk(3, games[:size], noteOf(1, games, game, 1, 1)); got != (game < size) {
				t.Errorf("NoteOk for the game %d of %d = %v", game, size, got)
			}
		}
	}
}

func TestNoteOkTeams(t *testing.T) {
	games := threeGames()
	for game, g := range games {
		for _, home := range withEdges(-2, 9) {
			for _, away := range withEdges(-2, 9) {
				for state := 1; state <= 4; state++ {
					x := impl.Note{Serial: 1, Game: game, Result: impl.Game{Home: home, Away: away, State: state}}
					want := home == g.Home && away == g.Away
					if got := impl.NoteOk(3, games, x); got != want {
						t.Fatalf("NoteOk(%v) = %v", x, got)
					}
				}
			}
		}
	}
}

func TestNoteOkGoals(t *testing.T) {
	games := threeGames()
	for _, state := range withEdges(-2, 6) {
		for _, homeGoals := range withEdges(-2, 101) {
			for _, awayGoals := range withEdges(-2, 101) {
				x := noteOf(8, games, 1, homeGoals, awayGoals)
				x.Result.State = state
				want := false
				switch state {
				case 1:
					want = homeGoals >= 0 && homeGoals <= 99 && awayGoals >= 0 && awayGoals <= 99
				case 2, 3, 4:
					want = homeGoals == 0 && awayGoals == 0
				}
				if got := impl.NoteOk(3, games, x); got != want {
					t.Fatalf("NoteOk(%v) = %v", x, got)
				}
			}
		}
	}
}

// A game of any state can be reported and corrected: only the Result may not be open.
func TestNoteOkStates(t *testing.T) {
	for before := range 5 {
		for after := range 5 {
			games := []impl.Game{{Home: 1, Away: 0, State: before}}
			x := noteIn(3, games, 0, after)
			if got := impl.NoteOk(2, games, x); got != (after != 0) {
				t.Errorf("NoteOk of the state %d for a game of the state %d = %v", after, before, got)
			}
			if impl.NoteOk(2, games, impl.Note{Serial: 3, Result: games[0]}) != (before != 0) {
				t.Errorf("NoteOk of a game of the state %d itself is wrong", before)
			}
		}
	}
	if impl.NoteOk(2, []impl.Game{open(0, 1)}, impl.Note{}) {
		t.Error("NoteOk of the zero value = true")
	}
}

func TestNotesTeams(t *testing.T) {
	for teams := 2; teams <= 8; teams++ {
		games := fullSeason(teams)
		notes := manyNotes(games, 60)
		for _, n := range withEdges(-2, 10) {
			want := n >= teams && n <= 8
			if got := impl.NoteOk(n, games, notes[0]); got != want {
				t.Errorf("NoteOk(%d) of games of %d teams = %v", n, teams, got)
			}
			if got := impl.NotesOk(n, games, notes); got != want {
				t.Errorf("NotesOk(%d) of games of %d teams = %v", n, teams, got)
			}
			// Without notes, the season still has to be valid.
			if got := impl.NotesOk(n, games, nil); got != want {
				t.Errorf("NotesOk(%d) of no notes for games of %d teams = %v", n, teams, got)
			}
			checkApplied(t, n, games, nil, want)
			checkApplied(t, n, games, notes, want)
		}
	}
}

// A season without games is valid for every n, and so is it with no notes; there is no game that a note could report.
func TestNotesOfNoGames(t *testing.T) {
	x := impl.Note{Serial: 1, Result: played(0, 1, 1, 0)}
	for _, n := range withEdges(-2, 10) {
		for _, games := range [][]impl.Game{nil, {}, {open(0, 1)}} {
			games = games[:0]
			if !impl.NotesOk(n, games, nil) || !impl.NotesOk(n, games, []impl.Note{}) || impl.NotesOk(n, games, []impl.Note{x}) || impl.NoteOk(n, games, x) {
				t.Errorf("notes of no games with %d teams", n)
			}
			checkApplied(t, n, games, nil, true)
			checkApplied(t, n, games, []impl.Note{x}, false)
		}
	}
}

// checkApplied compares ApplyNotes with plainApply where the notes are valid, and with nothing where they are not.
func checkApplied(t *testing.T, n int, games []impl.Game, notes []impl.Note, valid bool) {
	t.Helper()
	var want []impl.Game
	if valid {
		want = plainApply(games, notes)
	}
	if got, ok := impl.ApplyNotes(n, games, notes); ok != valid || !slices.Equal(got, want) {
		t.Fatalf("ApplyNotes(%d, %v, %v) = %v, %v, want %v, %v", n, games, notes, got, ok, want, valid)
	}
}

// plainApply looks for the greatest Serial of each game: a second way to ApplyNotes for notes that are valid.
func plainApply(games []impl.Game, notes []impl.Note) []impl.Game {
	var results []impl.Game
	for i, g := range games {
		greatest := 0
		for _, x := range notes {
			if x.Game == i && x.Serial > greatest {
				greatest, g = x.Serial, x.Result
			}
		}
		results = append(results, g)
	}
	return results
}

// A season that is not valid makes all notes invalid, those for its other games too, and no notes as well.
func TestNotesOfBrokenSeasons(t *testing.T) {
	whole := threeGames()
	notes := []impl.Note{noteOf(2, whole, 0, 1, 0), noteIn(1, whole, 0, impl.GmHome)}
	seasons := [][]impl.Game{
		append(threeGames(), open(0, 1)), append(threeGames(), played(0, 1, 2, 0)), append(threeGames(), open(2, 2)), append(threeGames(), open(0, 3)),
		append(threeGames(), open(-1, 0)), append(threeGames(), played(2, 0, 100, 0)), append(threeGames(), impl.Game{Home: 2, State: 5}),
		append(threeGames(), impl.Game{Home: 2, HomeGoals: 1}), append(threeGames(), impl.Game{}), slices.Repeat(whole[:1], 61),
	}
	for _, games := range seasons {
		for size := range len(notes) + 1 {
			if impl.NotesOk(3, games, notes[:size]) || impl.NoteOk(3, games, notes[0]) {
				t.Errorf("notes of the season %v are valid", games)
			}
			checkApplied(t, 3, games, notes[:size], false)
		}
	}
	if !impl.NotesOk(3, whole, notes) {
		t.Error("notes of the season without its faults are not valid")
	}
}

func TestNotesOkSizes(t *testing.T) {
	games := fullSeason(8)
	for _, size := range []int{0, 1, 2, 56, 60, 79, 80, 81, 82, 160, 1000, 30000} {
		want := size <= 80
		notes := manyNotes(games, size)
		// Repetitions count, too: the limit is that of the list.
		same := slices.Repeat([]impl.Note{noteOf(5, games, 3, 1, 1)}, size)
		for _, list := range [][]impl.Note{notes, same} {
			if got := impl.NotesOk(8, games, list); got != want {
				t.Errorf("NotesOk of %d notes = %v", size, got)
			}
			checkApplied(t, 8, games, list, want)
		}
	}
}

// Each note has to be valid, wherever it is.
func TestNotesOkAtEachPlace(t *testing.T) {
	games := fullSeason(5)
	whole := manyNotes(games, 80)
	for i, x := range whole {
		wrong := []impl.Note{x, x, x, x, x, x, x, x, x, {}}
		wrong[0].Serial = 0
		wrong[1].Serial = 100001
		wrong[2].Serial = -x.Serial
		wrong[3].Game = -1
		wrong[4].Game = len(games)
		wrong[5].Result = open(x.Result.Home, x.Result.Away)
		wrong[6].Result.Home, wrong[6].Result.Away = x.Result.Away, x.Result.Home
		wrong[7].Result.HomeGoals = 100
		wrong[8].Result.State = 5
		for _, bad := range wrong {
			notes := slices.Clone(whole)
			notes[i] = bad
			if impl.NotesOk(5, games, notes) {
				t.Errorf("NotesOk with %v at %d = true", bad, i)
			}
			checkApplied(t, 5, games, notes, false)
		}
	}
	checkApplied(t, 5, games, whole, true)
}

// differentNotes returns a valid note of the season and notes with its Serial that differ from it.
func differentNotes(games []impl.Game) (impl.Note, []impl.Note) {
	x := noteOf(40, games, 1, 2, 3)
	other := noteOf(40, games, 0, 2, 3)
	list := []impl.Note{other, x, x, x, x, x, x}
	list[1].Game = 0
	list[2].Result.Home = 0
	list[3].Result.Away = 0
	list[4].Result.HomeGoals = 1
	list[5].Result.AwayGoals = 4
	list[6].Result = impl.Game{Home: x.Result.Home, Away: x.Result.Away, State: impl.GmAway}
	return x, list
}

func TestNotesWithOneSerial(t *testing.T) {
	games := threeGames()
	x, others := differentNotes(games)
	between := []impl.Note{noteOf(7, games, 2, 0, 0), noteIn(41, games, 1, impl.GmVoid), noteOf(39, games, 1, 9, 9)}
	for size := range len(between) + 1 {
		for count := range 4 {
			apart := slices.Concat([]impl.Note{x}, between[:size], slices.Repeat([]impl.Note{x}, count))
			if !impl.NotesOk(3, games, apart) {
				t.Errorf("NotesOk(%v) = false", apart)
			}
			checkApplied(t, 3, games, apart, true)
		}
		for _, y := range others {
			for _, notes := range [][]impl.Note{slices.Concat([]impl.Note{x}, between[:size], []impl.Note{y}), slices.Concat([]impl.Note{y}, between[:size], []impl.Note{x})} {
				if impl.NotesOk(3, games, notes) {
					t.Errorf("NotesOk(%v) = true", notes)
				}
				checkApplied(t, 3, games, notes, false)
			}
		}
	}
}

// Two states that give the same goals are different results.
func TestNotesThatDifferInStateOnly(t *testing.T) {
	games := threeGames()
	for a := 1; a <= 4; a++ {
		for b := 1; b <= 4; b++ {
			notes := []impl.Note{noteIn(9, games, 0, a), noteIn(9, games, 0, b)}
			if got := impl.NotesOk(3, games, notes); got != (a == b) {
				t.Errorf("NotesOk of the states %d and %d = %v", a, b, got)
			}
			if got := impl.SameNotes(notes[:1], notes[1:]); got != (a == b) {
				t.Errorf("SameNotes of the states %d and %d = %v", a, b, got)
			}
		}
	}
}

// P2: the games depend on the notes only: each order of them gives the same games.
func TestApplyNotesInEachOrder(t *testing.T) {
	games := threeGames()
	notes := []impl.Note{
		noteOf(3, games, 0, 1, 0), noteIn(100000, games, 0, impl.GmAway), noteOf(4, games, 0, 2, 2), noteIn(1, games, 0, impl.GmHome),
		noteOf(9, games, 2, 4, 5), noteIn(8, games, 2, impl.GmVoid),
	}
	want := []impl.Game{notes[1].Result, games[1], notes[4].Result}
	canon := []impl.Note{notes[3], notes[0], notes[2], notes[5], notes[4], notes[1]}
	for _, order := range ordersOf(len(notes)) {
		var arrived []impl.Note
		for _, i := range order {
			arrived = append(arrived, notes[i])
		}
		if got, ok := impl.ApplyNotes(3, games, arrived); !ok || !slices.Equal(got, want) {
			t.Fatalf("ApplyNotes(%v) = %v, %v, want %v", arrived, got, ok, want)
		}
		if got := impl.CanonNotes(arrived); !impl.SameNotes(got, canon) {
			t.Fatalf("CanonNotes(%v) = %v", arrived, got)
		}
	}
}

// P2: a note that arrives again changes nothing, side by side with the first one and apart from it.
func TestApplyNotesWithRepetitions(t *testing.T) {
	games := threeGames()
	notes := []impl.Note{noteOf(30, games, 1, 1, 0), noteIn(20, games, 1, impl.GmVoid), noteOf(10, games, 0, 0, 0), noteOf(25, games, 0, 7, 0)}
	want := []impl.Game{notes[3].Result, notes[0].Result, games[2]}
	for i, x := range notes {
		for at := range len(notes) + 1 {
			for count := 1; count <= 76; count += 25 {
				again := slices.Insert(slices.Clone(notes), at, slices.Repeat([]impl.Note{x}, count)...)
				if got, ok := impl.ApplyNotes(3, games, again); !ok || !slices.Equal(got, want) {
					t.Errorf("ApplyNotes with the note %d again at %d = %v, %v", i, at, got, ok)
				}
				if got := impl.CanonNotes(again); !slices.Equal(got, []impl.Note{notes[2], notes[1], notes[3], notes[0]}) {
					t.Errorf("CanonNotes with the note %d again at %d = %v", i, at, got)
				}
				if impl.Corrections(again, 0) != 1 || impl.Corrections(again, 1) != 1 || impl.Corrections(again, 2) != 0 {
					t.Errorf("Corrections with the note %d again at %d changed", i, at)
				}
			}
		}
	}
}

// P2: the games that are given do not matter where there are notes, besides their teams.
func TestApplyNotesOverResults(t *testing.T) {
	for before := range 5 {
		games := []impl.Game{{Home: 0, Away: 1, State: before}, {Home: 1, Away: 0, State: before}}
		for after := 1; after <= 4; after++ {
			x := noteIn(6, games, 1, after)
			want := []impl.Game{games[0], x.Result}
			if got, ok := impl.ApplyNotes(2, games, []impl.Note{x}); !ok || !slices.Equal(got, want) {
				t.Errorf("ApplyNotes(%v, %v) = %v, %v", games, x, got, ok)
			}
		}
	}
}

// P2: a later note corrects the earlier ones for its game and no other game, whenever it arrives.
func TestLaterNotesCorrect(t *testing.T) {
	games := fullSeason(4)
	notes := []impl.Note{}
	want := slices.Clone(games)
	for serial := 1; serial <= 40; serial++ {
		x := noteOf(serial, games, serial*5%len(games), serial, 99-serial)
		if serial%3 == 0 {
			x = noteIn(serial, games, serial*7%len(games), 2+serial%2)
		}
		notes = append([]impl.Note{x}, notes...)
		want[x.Game] = x.Result
		got, ok := impl.ApplyNotes(4, games, notes)
		if !ok || !slices.Equal(got, want) {
			t.Fatalf("ApplyNotes with the note %d = %v, %v, want %v", serial, got, ok, want)
		}
		if got := impl.SerialOf(notes, x.Game); got != serial {
			t.Fatalf("SerialOf with the note %d = %d", serial, got)
		}
	}
	for game, g := range games {
		late := slices.DeleteFunc(slices.Clone(notes), func(x impl.Note) bool { return x.Game == game && x.Serial < impl.SerialOf(notes, game) })
		if got, ok := impl.ApplyNotes(4, games, late); !ok || !slices.Equal(got, want) {
			t.Errorf("ApplyNotes without the corrected notes for %v = %v, %v", g, got, ok)
		}
	}
}

// P2: what was known at a time is what its notes say, and later notes do not change it.
func TestWhatWasKnown(t *testing.T) {
	games := threeGames()
	notes := []impl.Note{noteOf(50, games, 0, 3, 1), noteOf(20, games, 2, 1, 1), noteIn(70, games, 2, impl.GmHome), noteOf(10, games, 0, 0, 1), noteIn(30, games, 0, impl.GmVoid)}
	cases := []struct {
		serial int
		want   []impl.Game
	}{
		{math.MinInt, games}, {-1, games}, {0, games}, {9, games},
		{10, []impl.Game{notes[3].Result, games[1], games[2]}}, {19, []impl.Game{notes[3].Result, games[1], games[2]}},
		{20, []impl.Game{notes[3].Result, games[1], notes[1].Result}}, {29, []impl.Game{notes[3].Result, games[1], notes[1].Result}},
		{30, []impl.Game{notes[4].Result, games[1], notes[1].Result}}, {49, []impl.Game{notes[4].Result, games[1], notes[1].Result}},
		{50, []impl.Game{notes[0].Result, games[1], notes[1].Result}}, {69, []impl.Game{notes[0].Result, games[1], notes[1].Result}},
		{70, []impl.Game{notes[0].Result, games[1], notes[2].Result}}, {100000, []impl.Game{notes[0].Result, games[1], notes[2].Result}},
		{math.MaxInt, []impl.Game{notes[0].Result, games[1], notes[2].Result}},
	}
	for _, c := range cases {
		known := impl.UpTo(notes, c.serial)
		if got, ok := impl.ApplyNotes(3, games, known); !ok || !slices.Equal(got, c.want) {
			t.Errorf("what was known at %d = %v, %v, want %v", c.serial, got, ok, c.want)
		}
		if c.serial < math.MaxInt {
			more := append([]impl.Note{{Serial: c.serial + 1, Game: 1, Result: played(1, 2, 5, 5)}}, notes...)
			if got := impl.UpTo(more, c.serial); !slices.Equal(got, known) {
				t.Errorf("UpTo %d with a later note = %v, want %v", c.serial, got, known)
			}
		}
	}
}

// plainCanon sorts the notes: a second way to CanonNotes.
func plainCanon(notes []impl.Note) []impl.Note {
	sorted := slices.Clone(notes)
	slices.SortStableFunc(sorted, func(a impl.Note, b impl.Note) int { return cmp.Compare(a.Serial, b.Serial) })
	return slices.CompactFunc(sorted, func(a impl.Note, b impl.Note) bool { return a.Serial == b.Serial })
}

func TestCanonNotes(t *testing.T) {
	games := threeGames()
	x, others := differentNotes(games)
	low := impl.Note{Serial: math.MinInt, Game: -4, Result: open(9, 9)}
	high := impl.Note{Serial: math.MaxInt, Game: math.MaxInt}
	cases := []struct{ notes, want []impl.Note }{
		{nil, nil}, {[]impl.Note{}, nil}, {[]impl.Note{x}, []impl.Note{x}}, {[]impl.Note{{}}, []impl.Note{{}}},
		{[]impl.Note{{}, {}, {}}, []impl.Note{{}}}, {[]impl.Note{x, x}, []impl.Note{x}}, {[]impl.Note{{}, {Game: 1}}, []impl.Note{{}}},
		{[]impl.Note{high, x, low, {}, high, low}, []impl.Note{low, {}, x, high}},
		{[]impl.Note{{Serial: -1}, {Serial: -2}, {Serial: 1}, {Serial: -1, Game: 2}}, []impl.Note{{Serial: -2}, {Serial: -1}, {Serial: 1}}},
		{[]impl.Note{{Serial: 100001}, {Serial: 100000}}, []impl.Note{{Serial: 100000}, {Serial: 100001}}},
		{[]impl.Note{{Serial: 1 << 32}, {Serial: 0}}, []impl.Note{{Serial: 0}, {Serial: 1 << 32}}},
	}
	for _, c := range cases {
		if got := impl.CanonNotes(c.notes); !slices.Equal(got, c.want) {
			t.Errorf("CanonNotes(%v) = %v, want %v", c.notes, got, c.want)
		}
	}
	for _, y := range others {
		if got := impl.CanonNotes([]impl.Note{x, low, y}); !slices.Equal(got, []impl.Note{low, x}) {
			t.Errorf("CanonNotes with %v first = %v", x, got)
		}
		if got := impl.CanonNotes([]impl.Note{y, x, low}); !slices.Equal(got, []impl.Note{low, y}) {
			t.Errorf("CanonNotes with %v first = %v", y, got)
		}
	}
}

func TestCanonNotesOfManyNotes(t *testing.T) {
	games := fullSeason(8)
	for _, size := range []int{79, 80, 81, 500, 60000} {
		notes := manyNotes(games, size)
		want := slices.Clone(notes)
		slices.Reverse(want)
		if got := impl.CanonNotes(notes); !slices.Equal(got, want) {
			t.Errorf("CanonNotes of %d notes has %d", size, len(got))
		}
		if got := impl.CanonNotes(slices.Concat(notes, want, notes)); !slices.Equal(got, want) {
			t.Errorf("CanonNotes of %d notes three times has %d", size, len(got))
		}
		if got := impl.UpTo(notes, size/2); !slices.Equal(got, notes[len(notes)-size/2:]) {
			t.Errorf("UpTo %d of %d notes has %d", size/2, size, len(got))
		}
		if got := impl.SerialOf(notes, size%len(games)); got != size {
			t.Errorf("SerialOf of %d notes = %d", size, got)
		}
		if got, want := impl.Corrections(notes, 3), (size-3)/len(games); got != want {
			t.Errorf("Corrections of %d notes = %d, want %d", size, got, want)
		}
		if !impl.SameNotes(notes, slices.Clone(notes)) || impl.SameNotes(notes, notes[1:]) || impl.SameNotes(notes, want) {
			t.Errorf("SameNotes of %d notes is wrong", size)
		}
	}
}

func TestSerialOfAndCorrections(t *testing.T) {
	at := func(game int, serials ...int) []impl.Note {
		var notes []impl.Note
		for _, s := range serials {
			notes = append(notes, impl.Note{Serial: s, Game: game})
		}
		return notes
	}
	cases := []struct {
		notes               []impl.Note
		game, serial, count int
	}{
		{nil, 0, 0, 0}, {[]impl.Note{}, 0, 0, 0}, {at(1, 5, 6), 0, 0, 0}, {at(1, 5), 1, 5, 0}, {at(0, 1), 0, 1, 0}, {at(0, 100000), 0, 100000, 0},
		{at(2, 5, 5, 5), 2, 5, 0}, {at(2, 5, 7, 5), 2, 7, 1}, {at(2, 7, 5, 6), 2, 7, 2}, {at(2, 1, 2, 3, 2, 1), 2, 3, 2},
		{at(0, 0), 0, 0, 0}, {at(0, -1), 0, 0, 0}, {at(0, -1, 0), 0, 0, 1}, {at(0, -3, -2, -1), 0, 0, 2}, {at(0, 0, 0), 0, 0, 0}, {at(0, -1, -1), 0, 0, 0}, {at(0, -5, 5), 0, 5, 1},
		{at(3, math.MinInt, math.MaxInt), 3, math.MaxInt, 1}, {at(3, math.MinInt), 3, 0, 0}, {at(3, 100001, 1<<32+1, 1), 3, 1<<32 + 1, 2},
		{at(-1, 4, 3), -1, 4, 1}, {at(-1, 4), 0, 0, 0}, {at(math.MinInt, 4), math.MinInt, 4, 0}, {at(math.MaxInt, 4, 9), math.MaxInt, 9, 1}, {at(1<<32, 4), 0, 0, 0},
		{slices.Concat(at(0, 5), at(1, 9), at(0, 7), at(2, 8)), 0, 7, 1}, {slices.Concat(at(0, 5), at(1, 9), at(0, 7), at(2, 8)), 1, 9, 0}, {slices.Concat(at(1, 6), at(0, 6), at(0, 7)), 0, 7, 1},
		{slices.Concat(at(1, 6), at(0, 6)), 0, 6, 0}, {slices.Concat(at(0, 6), at(1, 6)), 1, 6, 0}, {slices.Concat(at(0, 6), at(1, 7), at(1, 6)), 1, 7, 1},
		{[]impl.Note{{Serial: 4}, {Serial: 4, Result: played(0, 1, 1, 0)}, {Serial: 4, Result: open(1, 0)}}, 0, 4, 0},
	}
	for _, c := range cases {
		if got := impl.SerialOf(c.notes, c.game); got != c.serial {
			t.Errorf("SerialOf(%v, %d) = %d, want %d", c.notes, c.game, got, c.serial)
		}
		if got := impl.Corrections(c.notes, c.game); got != c.count {
			t.Errorf("Corrections(%v, %d) = %d, want %d", c.notes, c.game, got, c.count)
		}
	}
}

func TestUpTo(t *testing.T) {
	games := threeGames()
	a, b, c := noteOf(50, games, 0, 1, 0), noteIn(20, games, 2, impl.GmVoid), noteOf(30, games, 0, 2, 0)
	low, high := impl.Note{Serial: math.MinInt, Game: -1}, impl.Note{Serial: math.MaxInt}
	cases := []struct {
		notes  []impl.Note
		serial int
		want   []impl.Note
	}{
		{nil, 5, nil}, {[]impl.Note{}, math.MaxInt, nil}, {[]impl.Note{a, b, c}, 19, nil}, {[]impl.Note{a, b, c}, 20, []impl.Note{b}}, {[]impl.Note{a, b, c}, 29, []impl.Note{b}},
		{[]impl.Note{a, b, c}, 30, []impl.Note{b, c}}, {[]impl.Note{a, b, c}, 49, []impl.Note{b, c}}, {[]impl.Note{a, b, c}, 50, []impl.Note{a, b, c}},
		{[]impl.Note{a, b, c}, math.MaxInt, []impl.Note{a, b, c}}, {[]impl.Note{a, b, c}, math.MinInt, nil}, {[]impl.Note{a, b, c}, -20, nil}, {[]impl.Note{a, b, c}, 0, nil},
		{[]impl.Note{c, a, b, c, b, a, b}, 30, []impl.Note{c, b, c, b, b}}, {[]impl.Note{c, b, c}, 30, []impl.Note{c, b, c}}, {[]impl.Note{b, b, b}, 20, []impl.Note{b, b, b}},
		{[]impl.Note{high, low, {}}, math.MinInt, []impl.Note{low}}, {[]impl.Note{high, low, {}}, -1, []impl.Note{low}}, {[]impl.Note{high, low, {}}, 0, []impl.Note{low, {}}},
		{[]impl.Note{high, low, {}}, math.MaxInt - 1, []impl.Note{low, {}}}, {[]impl.Note{high, low, {}}, math.MaxInt, []impl.Note{high, low, {}}},
		{[]impl.Note{{Serial: -1}, {Serial: -2}}, -2, []impl.Note{{Serial: -2}}}, {[]impl.Note{{Serial: 1 << 32}, {Serial: 1}}, 1, []impl.Note{{Serial: 1}}},
	}
	for _, c := range cases {
		if got := impl.UpTo(c.notes, c.serial); !slices.Equal(got, c.want) {
			t.Errorf("UpTo(%v, %d) = %v, want %v", c.notes, c.serial, got, c.want)
		}
	}
}

func TestSameNotes(t *testing.T) {
	x := impl.Note{Serial: 3, Game: 1, Result: played(1, 2, 4, 5)}
	whole := []impl.Note{{}, x, {Serial: 9}, x, {Serial: -4, Game: -1, Result: open(7, 7)}}
	if !impl.SameNotes(nil, nil) || !impl.SameNotes(nil, []impl.Note{}) || !impl.SameNotes([]impl.Note{}, nil) || impl.SameNotes(nil, []impl.Note{{}}) || impl.SameNotes([]impl.Note{{}}, nil) {
		t.Error("SameNotes of empty lists is wrong")
	}
	for a := range len(whole) + 1 {
		for b := range len(whole) + 1 {
			if got := impl.SameNotes(whole[:a], slices.Clone(whole[:b])); got != (a == b) {
				t.Errorf("SameNotes of the first %d and the first %d = %v", a, b, got)
			}
		}
	}
	changes := []func(x *impl.Note){
		func(x *impl.Note) { x.Serial++ }, func(x *impl.Note) { x.Game++ }, func(x *impl.Note) { x.Result.Home++ }, func(x *impl.Note) { x.Result.Away++ },
		func(x *impl.Note) { x.Result.HomeGoals++ }, func(x *impl.Note) { x.Result.AwayGoals++ }, func(x *impl.Note) { x.Result.State++ },
		func(x *impl.Note) { x.Serial = -x.Serial - 1 }, func(x *impl.Note) { x.Result.State += 1 << 32 },
		func(x *impl.Note) { x.Result.HomeGoals, x.Result.AwayGoals = x.Result.AwayGoals+1, x.Result.HomeGoals },
	}
	for i := range whole {
		for j, change := range changes {
			other := slices.Clone(whole)
			change(&other[i])
			if impl.SameNotes(whole, other) || impl.SameNotes(other, whole) {
				t.Errorf("SameNotes with the change %d at %d = true", j, i)
			}
		}
	}
	if impl.SameNotes([]impl.Note{x, {}}, []impl.Note{{}, x}) || impl.SameNotes([]impl.Note{x, x}, []impl.Note{x}) {
		t.Error("SameNotes of another order or of repetitions = true")
	}
}

// plainNotesOk compares each two notes: a second way to NotesOk.
func plainNotesOk(n int, games []impl.Game, notes []impl.Note) bool {
	for i, x := range notes {
		for _, y := range notes[:i] {
			if x.Serial == y.Serial && x != y {
				return false
			}
		}
		if !impl.NoteOk(n, games, x) {
			return false
		}
	}
	return plainSeasonOk(n, games)
}

// P9: the functions of the record, compared with second ways for all short lists of notes, valid and not.
func TestNotesAgainstPairs(t *testing.T) {
	games := threeGames()
	pool := []impl.Note{
		noteOf(5, games, 0, 1, 0), noteIn(7, games, 0, impl.GmAway), noteOf(7, games, 0, 1, 0), noteOf(5, games, 1, 3, 3), noteIn(6, games, 1, impl.GmVoid), noteOf(100000, games, 2, 99, 0),
		noteIn(1, games, 2, impl.GmHome), noteOf(0, games, 0, 1, 0), noteOf(-3, games, 1, 1, 0), noteIn(9, games, 0, impl.GmOpen), {Serial: 9, Game: 3, Result: played(0, 1, 1, 0)}, {Serial: 9, Game: -1},
	}
	for _, notes := range listsOver(pool, 4) {
		for n := 2; n <= 3; n++ {
			valid := plainNotesOk(n, games, notes)
			if got := impl.NotesOk(n, games, notes); got != valid {
				t.Fatalf("NotesOk(%d, %v) = %v", n, notes, got)
			}
			checkApplied(t, n, games, notes, valid)
		}
		checkRecord(t, notes)
	}
}

// checkRecord compares what does not depend on the games with a walk over the notes.
func checkRecord(t *testing.T, notes []impl.Note) {
	t.Helper()
	if got, want := impl.CanonNotes(notes), plainCanon(notes); !slices.Equal(got, want) {
		t.Fatalf("CanonNotes(%v) = %v, want %v", notes, got, want)
	}
	for game := -2; game <= 4; game++ {
		serials := []int{}
		for _, x := range notes {
			if x.Game == game {
				serials = append(serials, x.Serial)
			}
		}
		slices.Sort(serials)
		serials = slices.Compact(serials)
		greatest := 0
		if len(serials) > 0 && serials[len(serials)-1] > 0 {
			greatest = serials[len(serials)-1]
		}
		if got := impl.SerialOf(notes, game); got != greatest {
			t.Fatalf("SerialOf(%v, %d) = %d, want %d", notes, game, got, greatest)
		}
		if got := impl.Corrections(notes, game); len(serials) == 0 && got != 0 || len(serials) > 0 && got != len(serials)-1 {
			t.Fatalf("Corrections(%v, %d) = %d", notes, game, got)
		}
	}
	for _, serial := range []int{-4, -3, -1, 0, 1, 4, 5, 6, 7, 9, 99999, 100000} {
		want := slices.DeleteFunc(slices.Clone(notes), func(x impl.Note) bool { return x.Serial > serial })
		if got := impl.UpTo(notes, serial); !slices.Equal(got, want) {
			t.Fatalf("UpTo(%v, %d) = %v, want %v", notes, serial, got, want)
		}
	}
}

// Neither the games and notes nor the spare capacity behind them may change, and what is behind them does not count.
func TestRecordArgumentsStay(t *testing.T) {
	games := append(fullSeason(3), open(0, 1), open(9, 9))
	notes := append(manyNotes(games[:6], 9), noteOf(9, games, 0, 0, 0), noteIn(77, games, 1, impl.GmVoid), impl.Note{Serial: -1})
	gamesBefore, notesBefore := slices.Clone(games), slices.Clone(notes)
	for size := range len(notes) + 1 {
		season, some := games[:6], notes[:size]
		other := slices.Clip(slices.Clone(some))
		applied, ok := impl.ApplyNotes(3, season, some)
		expected, fine := impl.ApplyNotes(3, slices.Clip(slices.Clone(season)), other)
		same := ok == fine && ok == (size <= 9) && slices.Equal(applied, expected) && impl.NotesOk(3, season, some) == ok &&
			slices.Equal(impl.CanonNotes(some), impl.CanonNotes(other)) && slices.Equal(impl.UpTo(some, 5), impl.UpTo(other, 5)) &&
			impl.SerialOf(some, 1) == impl.SerialOf(other, 1) && impl.Corrections(some, 0) == impl.Corrections(other, 0) && impl.SameNotes(some, other)
		if !same {
			t.Errorf("the first %d notes and their copy differ", size)
		}
	}
	if !slices.Equal(games, gamesBefore) || !slices.Equal(notes, notesBefore) {
		t.Errorf("the games became %v, the notes %v", games, notes)
	}
}

// Results are new at each call: a caller may write into them.
func TestRecordResultsAreNew(t *testing.T) {
	games := threeGames()
	notes := []impl.Note{noteOf(4, games, 0, 1, 0), noteOf(6, games, 0, 2, 0), noteIn(9, games, 2, impl.GmAway)}
	other := impl.Note{Serial: 50, Game: 1, Result: played(1, 2, 3, 4)}
	checkNewList(t, func() []impl.Note { return impl.CanonNotes(notes) }, slices.Clone(notes), other)
	checkNewList(t, func() []impl.Note { return impl.UpTo(notes, 8) }, slices.Clone(notes[:2]), other)
	checkNewList(t, func() []impl.Note { return impl.UpTo(notes, 9) }, slices.Clone(notes), other)
	apply := func(size int) func() []impl.Game {
		return func() []impl.Game {
			results, _ := impl.ApplyNotes(3, games, notes[:size])
			return results
		}
	}
	checkNewList(t, apply(3), []impl.Game{notes[1].Result, games[1], notes[2].Result}, other.Result)
	checkNewList(t, apply(0), slices.Clone(games), other.Result)
}
