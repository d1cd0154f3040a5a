package tests

import (
	"math"
	"slices"
	"strings"
	"sync"
	"testing"

	"loop.example/g00834/impl"
)

// clubField returns a valid field whose teams are of these associations.
func clubField(clubs ...int) []impl.Team {
	list := fieldOf(1, 2, 3, 4, 5, 6, 7, 8)[:len(clubs)]
	for i, club := range clubs {
		list[i].Club = club
	}
	return list
}

// eightTeams has four associations with two teams each: 0 and 4, 1 and 5, 2 and 6, 3 and 7.
func eightTeams() []impl.Team { return clubField(0, 1, 2, 3, 0, 1, 2, 3) }

// digitsOf returns the digits of a text as numbers.
func digitsOf(text string) []int {
	var list []int
	for _, c := range text {
		if c >= '0' && c <= '9' {
			list = append(list, int(c-'0'))
		}
	}
	return list
}

// potsOf reads pots, separated by spaces, from a text with one digit for each team; "-" is a pot without teams.
func potsOf(groups int, most int, text string) impl.Pots {
	p := impl.Pots{Groups: groups, Most: most}
	for _, pot := range strings.Fields(text) {
		p.Pots = append(p.Pots, digitsOf(pot))
	}
	return p
}

// areDifferent reports whether no number is in a list twice.
func areDifferent(list []int) bool {
	return len(slices.Compact(slices.Sorted(slices.Values(list)))) == len(list)
}

// plainPots looks at the sorted teams of all pots: a second way to PotsOk.
func plainPots(field []impl.Team, p impl.Pots) bool {
	if !impl.FieldOk(field) || !slices.Contains([]int{1, 2, 3, 4}, p.Groups) || !slices.Contains(daysTo(1, 8), p.Most) || !slices.Contains([]int{1, 2, 3}, len(p.Pots)) {
		return false
	}
	for _, pot := range p.Pots {
		if !slices.Contains(daysTo(1, p.Groups), len(pot)) {
			return false
		}
	}
	teams := slices.Concat(p.Pots...)
	return areDifferent(teams) && slices.Min(teams) >= 0 && slices.Max(teams) < len(field)
}

// plainIsDraw looks at each pot and at each group alone: a second way to IsDraw.
func plainIsDraw(field []impl.Team, p impl.Pots, draw []int) bool {
	if !plainPots(field, p) || len(draw) != len(slices.Concat(p.Pots...)) {
		return false
	}
	teams := map[[2]int]int{}
	rest := draw
	for _, pot := range p.Pots {
		if !areDifferent(rest[:len(pot)]) {
			return false
		}
		for i, team := range pot {
			teams[[2]int{rest[i], field[team].Club}]++
		}
		rest = rest[len(pot):]
	}
	for key, n := range teams {
		if key[0] < 0 || key[0] >= p.Groups || n > p.Most {
			return false
		}
	}
	return true
}

// plainDraws lists all draws in their order, pot by pot.
func plainDraws(field []impl.Team, p impl.Pots) [][]int {
	if !plainPots(field, p) {
		return nil
	}
	draws := [][]int{nil}
	for _, pot := range p.Pots {
		var longer [][]int
		for _, begun := range draws {
			for _, groups := range listsOver(daysTo(0, p.Groups-1), len(pot)) {
				if len(groups) == len(pot) && areDifferent(groups) {
					longer = append(longer, slices.Concat(begun, groups))
				}
			}
		}
		draws = longer
	}
	return slices.DeleteFunc(draws, func(draw []int) bool { return !plainIsDraw(field, p, draw) })
}

// plainGroup puts the teams of all pots side by side with the draw: a second way to GroupOf.
func plainGroup(p impl.Pots, draw []int, group int) []int {
	var teams []int
	for i, team := range slices.Concat(p.Pots...) {
		if i < len(draw) && draw[i] == group {
			teams = append(teams, team)
		}
	}
	return teams
}

// beginning returns the number of lists that begin with a prefix.
func beginning(lists [][]int, prefix []int) int {
	n := 0
	for _, list := range lists {
		if len(list) >= len(prefix) && slices.Equal(list[:len(prefix)], prefix) {
			n++
		}
	}
	return n
}

// plainChances counts the draws that put a team into each group: a second way to ChancesOf.
func plainChances(all [][]int, p impl.Pots, team int) []int {
	at := slices.Index(slices.Concat(p.Pots...), team)
	if at < 0 {
		return nil
	}
	chances := make([]int, p.Groups)
	for _, draw := range all {
		chances[draw[at]]++
	}
	return chances
}

func checkPots(t *testing.T, field []impl.Team, p impl.Pots, want bool) {
	t.Helper()
	if got := impl.PotsOk(field, p); got != want {
		t.Fatalf("PotsOk(%v, %v) = %v, want %v", field, p, got, want)
	}
	if !want {
		checkNoDraws(t, field, p)
	}
}

// checkNoDraws checks what there is where pots are not valid.
func checkNoDraws(t *testing.T, field []impl.Team, p impl.Pots) {
	t.Helper()
	for _, list := range [][]int{nil, {}, {0}, {1}, {-1}, {0, 0}, {0, 1}, {0, 1, 0, 1}, {0, 1, 1, 0}, {0, 1, 2, 0, 1, 2, 0, 1}} {
		checkIsDraw(t, field, p, list, false)
		checkCount(t, field, p, list, 0)
	}
	for _, index := range withEdges(-1, 2) {
		checkNth(t, field, p, index, nil, false)
	}
	for _, team := range withEdges(-1, 8) {
		checkChances(t, field, p, team)
	}
}

// checkIsDraw checks also that a list that is no draw has no index, and a draw the count 1.
func checkIsDraw(t *testing.T, field []impl.Team, p impl.Pots, draw []int, want bool) {
	t.Helper()
	if got := impl.IsDraw(field, p, draw); got != want {
		t.Fatalf("IsDraw(%v, %v, %v) = %v, want %v", field, p, draw, got, want)
	}
	if index := impl.IndexOfDraw(field, p, draw); (index >= 0) != want || index < -1 {
		t.Fatalf("IndexOfDraw(%v, %v, %v) = %d", field, p, draw, index)
	}
	if want && impl.CountDraws(field, p, draw) != 1 {
		t.Fatalf("CountDraws(%v, %v, %v) = %d", field, p, draw, impl.CountDraws(field, p, draw))
	}
}

func checkCount(t *testing.T, field []impl.Team, p impl.Pots, prefix []int, want int) {
	t.Helper()
	if got := impl.CountDraws(field, p, prefix); got != want {
		t.Fatalf("CountDraws(%v, %v, %v) = %d, want %d", field, p, prefix, got, want)
	}
}

func checkNth(t *testing.T, field []impl.Team, p impl.Pots, index int, want []int, ok bool) {
	t.Helper()
	got, found := impl.NthDraw(field, p, index)
	if found != ok || !slices.Equal(got, want) {
		t.Fatalf("NthDraw(%v, %v, %d) = %v, %v, want %v, %v", field, p, index, got, found, want, ok)
	}
}

// checkNumber checks that a draw has an index, and the index the draw.
func checkNumber(t *testing.T, field []impl.Team, p impl.Pots, index int, draw []int) {
	t.Helper()
	checkNth(t, field, p, index, draw, true)
	if !impl.IsDraw(field, p, draw) {
		t.Fatalf("IsDraw(%v, %v, %v) = false", field, p, draw)
	}
	if got := impl.IndexOfDraw(field, p, draw); got != index {
		t.Fatalf("IndexOfDraw(%v, %v, %v) = %d, want %d", field, p, draw, got, index)
	}
}

func checkGroup(t *testing.T, p impl.Pots, draw []int, group int, want ...int) {
	t.Helper()
	if got := impl.GroupOf(p, draw, group); !slices.Equal(got, want) {
		t.Fatalf("GroupOf(%v, %v, %d) = %v, want %v", p, draw, group, got, want)
	}
}

func checkChances(t *testing.T, field []impl.Team, p impl.Pots, team int, want ...int) {
	t.Helper()
	if got := impl.ChancesOf(field, p, team); !slices.Equal(got, want) {
		t.Fatalf("ChancesOf(%v, %v, %d) = %v, want %v", field, p, team, got, want)
	}
}

// checkOutside checks the indices that no draw has.
func checkOutside(t *testing.T, field []impl.Team, p impl.Pots, size int) {
	t.Helper()
	for _, index := range []int{math.MinInt, math.MinInt + 1, -2, -1, size, size + 1, 2*size + 1, 1 << 32, math.MaxInt - 1, math.MaxInt} {
		checkNth(t, field, p, index, nil, false)
	}
}

// checkDrawing compares all functions with the second ways, and returns the number of draws.
func checkDrawing(t *testing.T, field []impl.Team, p impl.Pots) int {
	t.Helper()
	checkPots(t, field, p, plainPots(field, p))
	all := plainDraws(field, p)
	for index, draw := range all {
		checkNumber(t, field, p, index, draw)
	}
	checkOutside(t, field, p, len(all))
	checkPrefixes(t, field, p, all)
	for team := -1; team <= 8; team++ {
		want := plainChances(all, p, team)
		if !plainPots(field, p) {
			want = nil
		}
		checkChances(t, field, p, team, want...)
	}
	return len(all)
}

// checkPrefixes counts from all lists of two numbers, of groups and of others, and from all beginnings of some draws.
func checkPrefixes(t *testing.T, field []impl.Team, p impl.Pots, all [][]int) {
	t.Helper()
	for _, prefix := range listsOver([]int{-1, 0, 1, 2, 3, 4}, 2) {
		checkCount(t, field, p, prefix, beginning(all, prefix))
	}
	for i := 0; i < len(all); i += 1 + len(all)/5 {
		for size := range len(all[i]) + 1 {
			checkCount(t, field, p, all[i][:size], beginning(all, all[i][:size]))
		}
		checkCount(t, field, p, append(slices.Clone(all[i]), 0), 0)
		for group := -1; group <= p.Groups; group++ {
			checkGroup(t, p, all[i], group, plainGroup(p, all[i], group)...)
		}
	}
}

func TestGroupLimits(t *testing.T) {
	if impl.MaxGroups != 4 {
		t.Errorf("MaxGroups = %d", impl.MaxGroups)
	}
}

func TestPotsOk(t *testing.T) {
	const least, greatest = math.MinInt, math.MaxInt
	eight, four := eightTeams(), clubField(0, 0, 1, 1)
	cases := []struct {
		field []impl.Team
		p     impl.Pots
		want  bool
	}{
		{four, impl.Pots{}, false}, {four, potsOf(2, 1, "01 23"), true}, {four, potsOf(2, 1, "32 10"), true}, {four, potsOf(2, 1, "2"), true}, {four, potsOf(4, 8, "3021"), true}, {four, potsOf(1, 1, "0 1 2"), true}, {eight, potsOf(3, 2, "567 012 34"), true}, {eight, potsOf(4, 1, "0123 4567"), true},
		// No pots, and up to four of them.
		{four, potsOf(2, 1, ""), false}, {four, impl.Pots{Pots: [][]int{}, Groups: 2, Most: 1}, false}, {four, potsOf(2, 1, "0"), true}, {four, potsOf(2, 1, "0 1"), true}, {four, potsOf(2, 1, "0 1 2"), true}, {four, potsOf(2, 1, "0 1 2 3"), false}, {eight, potsOf(4, 8, "01 23 45 67"), false},
		// A pot without teams, with one for each group, and with one more.
		{four, potsOf(2, 1, "-"), false}, {four, potsOf(2, 1, "- 01"), false}, {four, potsOf(2, 1, "01 -"), false}, {four, potsOf(2, 1, "01 - 23"), false}, {four, impl.Pots{Pots: [][]int{nil}, Groups: 2, Most: 1}, false},
		{four, potsOf(1, 1, "0"), true}, {four, potsOf(1, 1, "01"), false}, {four, potsOf(2, 1, "012"), false}, {four, potsOf(3, 1, "012"), true}, {four, potsOf(3, 1, "0123"), false}, {eight, potsOf(4, 1, "01234"), false}, {eight, potsOf(4, 1, "567 01234"), false}, {eight, potsOf(2, 1, "0 123"), false}, {eight, potsOf(2, 1, "01 23 456"), false},
		// Teams that do not exist.
		{four, impl.Pots{Pots: [][]int{{0, -1}}, Groups: 2, Most: 1}, false}, {four, potsOf(2, 1, "04"), false}, {four, potsOf(2, 1, "43"), false}, {four, potsOf(2, 1, "01 2 8"), false}, {eight, potsOf(2, 1, "01 2 8"), false}, {eight, potsOf(2, 1, "01 2 7"), true},
		{four, impl.Pots{Pots: [][]int{{0}, {greatest}}, Groups: 2, Most: 1}, false}, {four, impl.Pots{Pots: [][]int{{least}, {0}}, Groups: 2, Most: 1}, false}, {four, impl.Pots{Pots: [][]int{{0, 1}, {1 << 32}}, Groups: 2, Most: 1}, false}, {four, impl.Pots{Pots: [][]int{{0, 1}, {256 + 2}}, Groups: 2, Most: 1}, false},
		// A team that is in two pots, or in one pot twice.
		{four, potsOf(2, 1, "01 12"), false}, {four, potsOf(2, 1, "0 1 0"), false}, {four, potsOf(2, 1, "0 1 1"), false}, {four, potsOf(2, 1, "00"), false}, {four, potsOf(3, 1, "12 303"), false}, {eight, potsOf(4, 8, "7654 3217"), false}, {eight, potsOf(4, 8, "7654 0121"), false},
		// Groups.
		{four, potsOf(-1, 1, "0"), false}, {four, potsOf(0, 1, "0"), false}, {four, potsOf(0, 1, "-"), false}, {four, potsOf(4, 1, "0"), true}, {four, potsOf(5, 1, "0"), false}, {four, potsOf(least, 1, "0"), false}, {four, potsOf(greatest, 1, "0"), false}, {eight, potsOf(5, 8, "01234"), false},
		// Most.
		{four, potsOf(2, -1, "0"), false}, {four, potsOf(2, 0, "0"), false}, {four, potsOf(2, 8, "0"), true}, {four, potsOf(2, 9, "0"), false}, {four, potsOf(2, least, "0"), false}, {four, potsOf(2, greatest, "0"), false}, {four, potsOf(2, 257, "0"), false},
		// Fields.
		{nil, potsOf(2, 1, "01"), false}, {four[:1], potsOf(2, 1, "0"), false}, {four[:2], potsOf(2, 1, "01"), true}, {four[:2], potsOf(2, 1, "0 2"), false}, {clubField(0, 6), potsOf(2, 1, "01"), false}, {clubField(0, -1), potsOf(2, 1, "0"), false},
	}
	for _, c := range cases {
		checkPots(t, c.field, c.p, c.want)
		if plainPots(c.field, c.p) != c.want {
			t.Errorf("plainPots(%v, %v) = %v", c.field, c.p, !c.want)
		}
	}
}

// Pots of which there is no draw at all are valid.
func TestPotsOkWithoutDraws(t *testing.T) {
	same := clubField(3, 3, 3)
	for _, p := range []impl.Pots{potsOf(1, 1, "0 1"), potsOf(1, 2, "0 1 2"), potsOf(2, 1, "0 1 2"), potsOf(2, 1, "01 2")} {
		checkPots(t, same, p, true)
		checkCount(t, same, p, nil, 0)
		checkOutside(t, same, p, 0)
		for _, index := range withEdges(-2, 20) {
			checkNth(t, same, p, index, nil, false)
		}
		for _, list := range listsOver([]int{-1, 0, 1}, 4) {
			checkIsDraw(t, same, p, list, false)
			checkCount(t, same, p, list, 0)
		}
		checkChances(t, same, p, 0, make([]int, p.Groups)...)
		checkChances(t, same, p, 4)
		checkDrawing(t, same, p)
	}
}

func TestPotsOkOfBrokenFields(t *testing.T) {
	for label, field := range brokenFields() {
		for _, p := range []impl.Pots{potsOf(2, 1, "01"), potsOf(3, 8, "0 1 2"), potsOf(4, 1, "2"), {}} {
			if impl.PotsOk(field, p) {
				t.Errorf("%s: PotsOk = true", label)
			}
			checkNoDraws(t, field, p)
		}
	}
}

// All numbers of groups and of teams of one association, with all sizes of up to four pots.
func TestPotsOkSizes(t *testing.T) {
	field := eightTeams()
	for _, sizes := range listsOver([]int{0, 1, 2, 3, 4, 5}, 4) {
		total := 0
		for _, size := range sizes {
			total += size
		}
		if total > 8 {
			continue
		}
		var pots [][]int
		teams := allTeams(8)
		for _, size := range sizes {
			pots = append(pots, teams[:size])
			teams = teams[size:]
		}
		fits := len(sizes) >= 1 && len(sizes) <= 3 && !slices.Contains(sizes, 0)
		for groups := -1; groups <= 6; groups++ {
			p := impl.Pots{Pots: pots, Groups: groups, Most: 1}
			want := fits && groups >= 1 && groups <= 4 && slices.Max(sizes) <= groups
			if impl.PotsOk(field, p) != want || plainPots(field, p) != want {
				t.Fatalf("PotsOk of the pots %v = %v", p, !want)
			}
		}
	}
	for _, x := range withEdges(-9, 12) {
		checkPots(t, field, potsOf(x, 1, "0 7"), x >= 1 && x <= 4)
		checkPots(t, field, potsOf(1, x, "0 7"), x >= 1 && x <= 8)
		checkPots(t, field, potsOf(x, x, "0 7"), x >= 1 && x <= 4)
	}
}

// Each team of the pots is changed, to each other team and to those that do not exist.
func TestPotsOkAtEachTeam(t *testing.T) {
	for n := 3; n <= impl.MaxTeams; n++ {
		field := eightTeams()[:n]
		for at := range n - 1 {
			for _, team := range withEdges(-2, 9) {
				teams := allTeams(n - 1)
				teams[at] = team
				p := impl.Pots{Pots: [][]int{teams[:(n-1)/2], teams[(n-1)/2:]}, Groups: 4, Most: 2}
				checkPots(t, field, p, team == at || team == n-1)
			}
		}
	}
}

// Many teams and many pots are too many, however often a list is among them.
func TestPotsOkOfManyTeams(t *testing.T) {
	field := eightTeams()
	checkPots(t, field, impl.Pots{Pots: make([][]int, 100000), Groups: 4, Most: 1}, false)
	checkPots(t, field, impl.Pots{Pots: [][]int{make([]int, 1<<20)}, Groups: 4, Most: 1}, false)
	checkPots(t, field, impl.Pots{Pots: slices.Repeat([][]int{make([]int, 1<<20)}, 1<<16), Groups: 4, Most: 1}, false)
}

func TestIsDraw(t *testing.T) {
	four := clubField(0, 0, 1, 1)
	cases := []struct {
		field []impl.Team
		p     impl.Pots
		draw  string
		want  bool
	}{
		{four, potsOf(2, 1, "01 23"), "0101", true}, {four, potsOf(2, 1, "01 23"), "0110", true}, {four, potsOf(2, 1, "01 23"), "1001", true}, {four, potsOf(2, 1, "01 23"), "1010", true},
		// An empty one, one that is one element short, and one too long.
		{four, potsOf(2, 1, "01 23"), "", false}, {four, potsOf(2, 1, "01 23"), "010", false}, {four, potsOf(2, 1, "01 23"), "01010", false}, {four, potsOf(2, 1, "0"), "", false}, {four, potsOf(2, 1, "0"), "1", true}, {four, potsOf(2, 1, "0"), "10", false},
		// A group twice in one pot; in two pots it may be.
		{four, potsOf(2, 1, "01 23"), "0001", false}, {four, potsOf(2, 1, "01 23"), "0111", false}, {four, potsOf(2, 8, "01 23"), "1101", false}, {four, potsOf(3, 8, "012"), "010", false}, {four, potsOf(3, 8, "012"), "011", false}, {four, potsOf(3, 8, "012"), "201", true}, {four, potsOf(3, 8, "0 1 2"), "111", true}, {four, potsOf(3, 8, "0 1 2"), "212", true},
		// A group that there is not.
		{four, potsOf(2, 1, "01 23"), "0210", false}, {four, potsOf(2, 1, "01 23"), "0120", false}, {four, potsOf(3, 1, "01 23"), "0220", true}, {four, potsOf(3, 1, "01 23"), "0223", false}, {four, potsOf(4, 1, "0"), "3", true}, {four, potsOf(4, 1, "0"), "4", false}, {four, potsOf(1, 1, "0"), "0", true}, {four, potsOf(1, 1, "0"), "1", false},
		// Two teams of one association in a group, with Most 1 and 2; two associations side by side.
		{four, potsOf(2, 1, "02 13"), "0101", false}, {four, potsOf(2, 2, "02 13"), "0101", true}, {four, potsOf(2, 1, "02 13"), "0110", true}, {four, potsOf(2, 1, "02 31"), "0101", true}, {four, potsOf(2, 1, "02 31"), "0110", false}, {four, potsOf(3, 1, "02 13"), "0102", false}, {four, potsOf(3, 1, "02 13"), "0121", false}, {four, potsOf(3, 1, "02 13"), "0112", true},
		// Three of them.
		{clubField(0, 0, 0), potsOf(2, 2, "0 1 2"), "000", false}, {clubField(0, 0, 0), potsOf(2, 3, "0 1 2"), "000", true}, {clubField(0, 0, 0), potsOf(2, 2, "0 1 2"), "001", true}, {clubField(0, 0, 0), potsOf(2, 2, "0 1 2"), "111", false}, {clubField(0, 0, 0), potsOf(2, 1, "0 1 2"), "011", false}, {clubField(5, 5, 5), potsOf(2, 2, "0 1 2"), "000", false}, {clubField(5, 0, 5), potsOf(2, 2, "0 1 2"), "000", true}, {clubField(5, 0, 5), potsOf(2, 1, "0 1 2"), "000", false}, {clubField(5, 0, 5), potsOf(2, 1, "0 1 2"), "001", true}, {clubField(5, 0, 5), potsOf(2, 1, "0 1 2"), "100", true},
		// A team of the field that is in no pot does not count.
		{clubField(2, 2, 2), potsOf(2, 1, "0"), "0", true}, {clubField(2, 2, 2), potsOf(2, 1, "01"), "10", true}, {clubField(2, 2, 2), potsOf(2, 1, "0 2"), "10", true}, {clubField(2, 2, 2), potsOf(2, 1, "0 2"), "00", false},
		{eightTeams(), potsOf(4, 1, "0123 4567"), "01231230", true}, {eightTeams(), potsOf(4, 1, "0123 4567"), "01231203", false}, {eightTeams(), potsOf(4, 2, "0123 4567"), "01230123", true}, {eightTeams(), potsOf(4, 1, "0123 4567"), "01231234", false}, {eightTeams(), potsOf(4, 1, "0123 4567"), "0123123", false}, {eightTeams(), potsOf(4, 1, "012 345 67"), "01212302", true}, {eightTeams(), potsOf(4, 1, "012 345 67"), "01212301", false}, {eightTeams(), potsOf(4, 1, "012 345 67"), "01212321", false},
		// Pots that are not valid.
		{four, potsOf(2, 1, ""), "", false}, {four, potsOf(2, 1, "-"), "", false}, {four, potsOf(2, 1, "0 -"), "0", false}, {four, potsOf(5, 1, "0"), "0", false}, {four, potsOf(2, 0, "0"), "0", false}, {four, potsOf(2, 9, "0"), "0", false}, {four, potsOf(2, 1, "00"), "01", false}, {four, potsOf(2, 1, "04"), "01", false}, {nil, potsOf(2, 1, "0"), "0", false},
	}
	for _, c := range cases {
		checkIsDraw(t, c.field, c.p, digitsOf(c.draw), c.want)
		if plainIsDraw(c.field, c.p, digitsOf(c.draw)) != c.want {
			t.Errorf("plainIsDraw(%v, %v, %q) = %v", c.field, c.p, c.draw, !c.want)
		}
	}
}

// Each group of a draw is changed, to each other one and to numbers that are no groups.
func TestIsDrawAtEachTeam(t *testing.T) {
	for _, p := range []impl.Pots{potsOf(4, 1, "0123 4567"), potsOf(3, 1, "012 345 67"), potsOf(4, 2, "0426 15 37")} {
		field := eightTeams()
		draw, ok := impl.NthDraw(field, p, impl.CountDraws(field, p, nil)/2)
		if !ok {
			t.Fatalf("the pots %v have no draw", p)
		}
		for at := range draw {
			for _, group := range withEdges(-3, 9) {
				other := slices.Clone(draw)
				other[at] = group
				checkIsDraw(t, field, p, other, plainIsDraw(field, p, other))
				if group < 0 || group >= p.Groups {
					checkIsDraw(t, field, p, other, false)
					checkCount(t, field, p, other[:at+1], 0)
				}
			}
		}
	}
}

func TestCountDraws(t *testing.T) {
	one := func(size int) []impl.Team { return clubField(slices.Repeat([]int{0}, size)...) }
	cases := []struct {
		field []impl.Team
		p     impl.Pots
		want  int
	}{
		// Without associations that matter, each pot has as many draws as it has in one group after the other.
		{one(8), potsOf(1, 8, "0"), 1}, {one(8), potsOf(4, 8, "0"), 4}, {one(8), potsOf(4, 8, "01"), 12}, {one(8), potsOf(4, 8, "0123"), 24}, {one(8), potsOf(4, 8, "0123 4567"), 576}, {one(8), potsOf(4, 8, "012 345 67"), 24 * 24 * 12}, {one(8), potsOf(4, 3, "01 234 567"), 24 * 24 * 12}, {one(8), potsOf(3, 3, "012 345 67"), 216}, {one(8), potsOf(2, 3, "01 23 45"), 8}, {one(8), potsOf(1, 3, "0 1 2"), 1}, {one(8), potsOf(4, 8, "0 1 2"), 64},
		{clubField(0, 1, 2, 3, 4, 5, 0, 1), potsOf(4, 2, "012 345 67"), 6912}, {clubField(0, 1, 2, 3, 4, 5), potsOf(3, 1, "012 345"), 36}, {clubField(0, 1, 2, 3, 4, 5), potsOf(2, 1, "01 23 45"), 8},
		// All of one association.
		{one(8), potsOf(1, 1, "0 1"), 0}, {one(8), potsOf(1, 2, "0 1"), 1}, {one(8), potsOf(1, 2, "0 1 2"), 0}, {one(8), potsOf(4, 1, "0123"), 24}, {one(8), potsOf(4, 1, "01 23"), 24}, {one(8), potsOf(4, 1, "0 1 2"), 24}, {one(8), potsOf(4, 1, "01 2 3"), 24}, {one(8), potsOf(4, 1, "01 23 4"), 0}, {one(8), potsOf(4, 2, "0123 4567"), 576}, {one(8), potsOf(4, 1, "0123 4"), 0}, {one(8), potsOf(2, 2, "0 1 2"), 6}, {one(8), potsOf(2, 2, "01 23 45"), 0},
		// Each group has to be left out by one of the three pots.
		{one(8), potsOf(3, 2, "01 23 45"), 6 * 8}, {one(8), potsOf(3, 3, "01 23 45"), 216},
		// Two teams each: no team of the second pot may stay where it would be in the first one.
		{eightTeams(), potsOf(4, 1, "0123 4567"), 24 * 9}, {eightTeams(), potsOf(4, 1, "3210 5476"), 24 * 9}, {clubField(0, 1, 2, 0, 1, 2), potsOf(3, 1, "012 345"), 6 * 2}, {clubField(0, 1, 0, 1), potsOf(2, 1, "01 23"), 2}, {clubField(0, 0, 1, 1), potsOf(2, 1, "01 23"), 4},
		{clubField(5, 5), potsOf(4, 1, "0 1"), 12}, {clubField(5, 5), potsOf(4, 2, "0 1"), 16}, {clubField(5, 5), potsOf(4, 1, "01"), 12}, {clubField(5, 4), potsOf(4, 1, "0 1"), 16}, {clubField(0, 5), potsOf(4, 1, "0 1"), 16},
		// Pots that are not valid.
		{one(8), impl.Pots{}, 0}, {one(8), potsOf(5, 1, "0"), 0}, {one(8), potsOf(4, 9, "0"), 0}, {one(8), potsOf(4, 1, "00"), 0}, {one(1), potsOf(4, 1, "0"), 0},
	}
	for _, c := range cases {
		checkCount(t, c.field, c.p, nil, c.want)
		checkCount(t, c.field, c.p, []int{}, c.want)
		if got := len(plainDraws(c.field, c.p)); got != c.want {
			t.Errorf("plainDraws(%v, %v) are %d, want %d", c.field, c.p, got, c.want)
		}
	}
}

func TestCountDrawsFromPrefix(t *testing.T) {
	field, p := eightTeams(), potsOf(4, 1, "0123 4567")
	cases := []struct {
		prefix []int
		want   int
	}{
		{nil, 216}, {digitsOf("0"), 54}, {digitsOf("3"), 54}, {digitsOf("21"), 18}, {digitsOf("213"), 9}, {digitsOf("2130"), 9}, {digitsOf("21301"), 3}, {digitsOf("213012"), 1}, {digitsOf("213010"), 1}, {digitsOf("213011"), 0}, {digitsOf("213013"), 1}, {digitsOf("21301302"), 1}, {digitsOf("213013020"), 0}, {digitsOf("2130130200"), 0}, {digitsOf("21301320"), 0},
		{digitsOf("22"), 0}, {digitsOf("212"), 0}, {digitsOf("21302"), 0}, {digitsOf("4"), 0}, {digitsOf("04"), 0}, {[]int{-1}, 0}, {[]int{0, -1}, 0}, {[]int{math.MaxInt}, 0}, {[]int{0, 1, math.MinInt}, 0}, {[]int{256}, 0}, {[]int{1 << 32}, 0}, {[]int{0, 1, 2, 3, 1, 0, 3, 1 << 32}, 0}, {slices.Repeat([]int{0}, 100000), 0}, {[]int{-1, -1, -1, -1, -1, -1, -1, -1}, 0},
	}
	for _, c := range cases {
		checkCount(t, field, p, c.prefix, c.want)
	}
	for _, x := range edgeInts() {
		for size := range 8 {
			checkCount(t, field, p, append(digitsOf("01231032")[:size], x), 0)
		}
		checkCount(t, field, p, []int{0, 1, 2, 3, 1, 0, 3, 2, x}, 0)
	}
}

// P5: the first and the last draws, one by one.
func TestNthDraw(t *testing.T) {
	field, p := eightTeams(), potsOf(4, 1, "0123 4567")
	for index, draw := range map[int]string{0: "01231032", 1: "01231230", 2: "01231302", 3: "01232031", 8: "01233210", 9: "01321023", 53: "03213210", 54: "10230132", 215: "32102301"} {
		checkNumber(t, field, p, index, digitsOf(draw))
	}
	checkOutside(t, field, p, 216)
	four := clubField(0, 0, 1, 1)
	for index, draw := range []string{"0101", "0110", "1001", "1010"} {
		checkNumber(t, four, potsOf(2, 1, "01 23"), index, digitsOf(draw))
	}
	for index, draw := range []string{"00", "01", "10", "11"} {
		checkNumber(t, four, potsOf(2, 2, "0 1"), index, digitsOf(draw))
	}
	for index, draw := range []string{"01", "10"} {
		checkNumber(t, four, potsOf(2, 1, "3 2"), index, digitsOf(draw))
	}
	for _, p := range []impl.Pots{potsOf(1, 1, "3"), potsOf(1, 1, "2 0"), potsOf(1, 2, "1 3 0")} {
		checkNumber(t, four, p, 0, make([]int, len(p.Pots)))
		checkOutside(t, four, p, 1)
	}
	for group := range 4 {
		checkNumber(t, four, potsOf(4, 1, "2"), group, []int{group})
	}
	checkOutside(t, four, potsOf(4, 1, "2"), 4)
}

// Draws follow the order of the pots and of the teams in them, not that of the field.
func TestDrawsInTheOrderOfThePots(t *testing.T) {
	field := clubField(0, 1, 0, 2)
	// The teams 0 and 2 may not be in one group.
	for text, want := range map[string][]string{"01 2": {"011", "100"}, "10 2": {"010", "101"}, "2 01": {"010", "101"}, "2 10": {"001", "110"}, "02 1": {"010", "011", "100", "101"}, "0 3 2": {"001", "011", "100", "110"}, "3 2 0": {"001", "010", "101", "110"}} {
		p := potsOf(2, 1, text)
		for index, draw := range want {
			checkNumber(t, field, p, index, digitsOf(draw))
		}
		checkOutside(t, field, p, len(want))
		checkDrawing(t, field, p)
	}
}

func TestIndexOfDrawOfNone(t *testing.T) {
	field, p := eightTeams(), potsOf(4, 1, "0123 4567")
	for _, draw := range [][]int{nil, {}, {0}, digitsOf("0123103"), digitsOf("012310320"), digitsOf("01231023"), digitsOf("01231034"), digitsOf("44444444"), slices.Repeat([]int{-1}, 8), slices.Repeat([]int{math.MaxInt}, 8), slices.Repeat([]int{math.MinInt}, 8), slices.Repeat([]int{math.MaxInt}, 100000)} {
		if got := impl.IndexOfDraw(field, p, draw); got != -1 {
			t.Errorf("IndexOfDraw(%v) = %d", draw[:min(len(draw), 9)], got)
		}
	}
	for _, x := range withEdges(-5, 12) {
		for at := range 8 {
			draw := digitsOf("01231032")
			draw[at] = x
			if index := impl.IndexOfDraw(field, p, draw); index != -1 && x != digitsOf("01231032")[at] {
				t.Errorf("IndexOfDraw(%v) = %d", draw, index)
			}
		}
	}
}

// P5: each of the most draws that there can be is numbered once.
func TestAllOfTheMostDraws(t *testing.T) {
	cases := []struct {
		clubs []int
		most  int
		want  int
	}{
		{[]int{0, 0, 0, 0, 0, 0, 0, 0}, 3, 6912}, {[]int{0, 1, 2, 3, 4, 5, 0, 1}, 1, 24 * 24 * 7},
		// Each three teams of one association are in one group in 432 of the draws, two such threes in 48.
		{[]int{0, 1, 2, 0, 1, 2, 0, 1}, 2, 6912 - 2*432 + 48}, {[]int{0, 0, 1, 0, 1, 1, 0, 1}, 2, 6912 - 4*432 + 4*48},
	}
	for _, c := range cases {
		field, p := clubField(c.clubs...), potsOf(4, c.most, "012 345 67")
		all := plainDraws(field, p)
		if len(all) != c.want {
			t.Errorf("plainDraws(%v, %v) are %d, want %d", field, p, len(all), c.want)
		}
		checkCount(t, field, p, nil, c.want)
		for index, draw := range all {
			checkNumber(t, field, p, index, draw)
		}
		checkOutside(t, field, p, len(all))
	}
}

func TestGroupOf(t *testing.T) {
	p := potsOf(2, 1, "03 21")
	checkGroup(t, p, digitsOf("0110"), 0, 0, 1)
	checkGroup(t, p, digitsOf("0110"), 1, 3, 2)
	checkGroup(t, p, digitsOf("1001"), 0, 3, 2)
	checkGroup(t, p, digitsOf("0110"), 2)
	checkGroup(t, p, digitsOf("0110"), -1)
	// More numbers than teams, and more teams than numbers.
	checkGroup(t, p, digitsOf("01100000"), 0, 0, 1)
	checkGroup(t, p, digitsOf("011"), 0, 0)
	checkGroup(t, p, digitsOf("011"), 1, 3, 2)
	checkGroup(t, p, digitsOf("01"), 1, 3)
	checkGroup(t, p, digitsOf("0"), 0, 0)
	checkGroup(t, p, digitsOf("0"), 1)
	// The list says what is in a group, also if there is no such one.
	checkGroup(t, p, []int{-1, 2, 9, -1}, -1, 0, 1)
	checkGroup(t, p, []int{-1, 2, 9, -1}, 2, 3)
	checkGroup(t, p, []int{-1, 2, 9, -1}, 9, 2)
	checkGroup(t, p, []int{math.MaxInt, math.MinInt, math.MaxInt, 0}, math.MaxInt, 0, 2)
	checkGroup(t, p, []int{math.MaxInt, math.MinInt, math.MaxInt, 0}, math.MinInt, 3)
	checkGroup(t, p, digitsOf("0000"), 0, 0, 3, 2, 1)
	checkGroup(t, p, digitsOf("0000"), 1<<32)
	// Empty lists.
	for _, draw := range [][]int{nil, {}} {
		for _, group := range withEdges(-2, 5) {
			checkGroup(t, p, draw, group)
			checkGroup(t, impl.Pots{}, draw, group)
			checkGroup(t, impl.Pots{Pots: [][]int{{}, nil}, Groups: 2, Most: 1}, draw, group)
		}
	}
	checkGroup(t, impl.Pots{}, digitsOf("000"), 0)
	checkGroup(t, impl.Pots{Pots: [][]int{{}, nil}}, digitsOf("000"), 0)
	checkGroup(t, potsOf(2, 1, "- 3 - 21 -"), digitsOf("010"), 0, 3, 1)
	// Pots that are not valid, for whatever reason.
	checkGroup(t, potsOf(0, 0, "03 21"), digitsOf("0110"), 1, 3, 2)
	checkGroup(t, potsOf(-1, 99, "9 9 9 9 9"), digitsOf("70707"), 7, 9, 9, 9)
	checkGroup(t, potsOf(2, 1, "0123456"), digitsOf("0101010"), 1, 1, 3, 5)
	checkGroup(t, impl.Pots{Pots: [][]int{{math.MinInt, -1}, {math.MaxInt}}}, digitsOf("555"), 5, math.MinInt, -1, math.MaxInt)
}

// P9: all pots of up to three teams, in up to three pots, with all lists of up to four numbers.
func TestGroupOfAgainstSecondWay(t *testing.T) {
	draws := listsOver([]int{-1, 0, 1}, 4)
	for _, pots := range listsOver([][]int{nil, {2}, {0, 7}, {-1, 3, -1}}, 3) {
		p := impl.Pots{Pots: pots, Groups: len(pots) - 1, Most: 1}
		for _, draw := range draws {
			for group := -2; group <= 2; group++ {
				checkGroup(t, p, draw, group, plainGroup(p, draw, group)...)
			}
		}
	}
}

// Only as much is read as both lists have, however long one of them is.
func TestGroupOfLongLists(t *testing.T) {
	teams, draw := daysTo(0, 69999), slices.Repeat([]int{0, 1, 2}, 30000)
	p := impl.Pots{Pots: [][]int{teams[:3], teams[3:40000], teams[40000:]}}
	for group := range 3 {
		checkGroup(t, p, draw, group, everyDayFrom(group, 3, (70000-group+2)/3)...)
		checkGroup(t, p, draw[:5], group, everyDayFrom(group, 3, (5-group+2)/3)...)
	}
	// All of these pots together would not fit into memory.
	p.Pots = slices.Repeat([][]int{make([]int, 1<<20)}, 1<<20)
	checkGroup(t, p, digitsOf("010"), 0, 0, 0)
	checkGroup(t, p, nil, 0)
}

func TestChancesOf(t *testing.T) {
	field, p := eightTeams(), potsOf(4, 1, "0123 4567")
	for team := range 8 {
		checkChances(t, field, p, team, 54, 54, 54, 54)
	}
	for _, team := range append(edgeInts(), -2, -1, 8, 9) {
		checkChances(t, field, p, team)
	}
	// Teams of the field that are in no pot.
	for team, want := range map[int][]int{0: nil, 1: {6, 6, 6, 6}, 2: nil, 3: nil, 6: nil, 7: nil, 5: {6, 6, 6, 6}, 4: {6, 6, 6, 6}} {
		checkChances(t, field, potsOf(4, 1, "514"), team, want...)
	}
	checkChances(t, field, potsOf(1, 1, "3"), 3, 1)
	checkChances(t, field, potsOf(4, 1, "3"), 3, 1, 1, 1, 1)
	checkChances(t, field, potsOf(3, 1, "3 7"), 7, 2, 2, 2)
	checkChances(t, field, potsOf(3, 2, "3 7"), 7, 3, 3, 3)
	// Where there is no draw, no group has a chance.
	checkChances(t, field, potsOf(1, 1, "3 7"), 7, 0)
	checkChances(t, clubField(2, 2, 2, 2), potsOf(3, 1, "01 23"), 2, 0, 0, 0)
	checkChances(t, clubField(2, 2, 2, 2), potsOf(2, 1, "0 1 2"), 0, 0, 0)
	checkChances(t, clubField(2, 2, 2, 2), potsOf(2, 1, "0 1 2"), 3)
	// Pots that are not valid.
	for _, p := range []impl.Pots{{}, potsOf(0, 1, "0"), potsOf(5, 1, "0"), potsOf(2, 0, "0"), potsOf(2, 9, "0"), potsOf(2, 1, "0 0"), potsOf(2, 1, "0 8"), potsOf(2, 1, "0 -"), potsOf(1, 1, "01"), potsOf(4, 1, "0 1 2 3"), {Pots: [][]int{{0, -1}}, Groups: 2, Most: 1}} {
		for _, team := range withEdges(-2, 9) {
			checkChances(t, field, p, team)
		}
	}
	checkChances(t, nil, potsOf(2, 1, "0"), 0)
	checkChances(t, field[:1], potsOf(2, 1, "0"), 0)
}

// P5: what the chances of a team add up to is the number of draws, and each group has the same chance, as nothing tells groups apart.
func TestChancesAddUp(t *testing.T) {
	for start := range 300 {
		field, p := somePots(start)
		draws := impl.CountDraws(field, p, nil)
		for _, team := range slices.Concat(p.Pots...) {
			total := 0
			chances := impl.ChancesOf(field, p, team)
			for _, chance := range chances {
				total += chance
				if chance != chances[0] {
					t.Fatalf("ChancesOf(%v, %v, %d) = %v", field, p, team, chances)
				}
			}
			if impl.PotsOk(field, p) && (total != draws || len(chances) != p.Groups) {
				t.Fatalf("ChancesOf(%v, %v, %d) = %v of %d draws", field, p, team, chances, draws)
			}
		}
	}
}

// P5 and P9: four teams of each three associations, in all sorts of pots.
func TestDrawsOfFourTeams(t *testing.T) {
	found := map[bool]int{}
	for i, clubs := range listsOver([]int{0, 1, 5}, 4) {
		if len(clubs) < 4 {
			continue
		}
		for _, text := range []string{"01 23", "0213", "0 213", "3 1 02", "2 03 1", "30 2 1", "0 1 2", "1 3", "2"} {
			for groups := 1; groups <= 4; groups++ {
				if most := 1 + i%3; len(text) < 5 || groups < 4 {
					found[checkDrawing(t, clubField(clubs...), potsOf(groups, most, text)) > 0]++
				}
			}
		}
	}
	if found[true] < 500 || found[false] < 500 {
		t.Errorf("pots with and without draws: %v", found)
	}
}

// somePots returns a field and pots of some of its teams; most of them are valid.
func somePots(start int) ([]impl.Team, impl.Pots) {
	next := numbersFrom(start)
	n := 2 + next(7)
	clubs := 1 + next(6)
	field := fieldOf(8, 7, 6, 5, 4, 3, 2, 1)[:n]
	for i := range field {
		field[i].Club = next(clubs)
	}
	p := impl.Pots{Groups: 1 + next(4), Most: 1 + next(3)}
	order := ordersOf(n)[next(2)]
	for range n {
		i, j := next(n), next(n)
		order[i], order[j] = order[j], order[i]
	}
	for range 1 + next(3) {
		size := min(1+next(p.Groups), len(order))
		p.Pots = append(p.Pots, slices.Clone(order[:size]))
		order = order[size:]
	}
	switch next(30) {
	case 0:
		p.Groups += next(4) - 1
	case 1:
		p.Most = []int{-1, 0, 8, 9}[next(4)]
	case 2:
		p.Pots[0][0] = next(10) - 1
	}
	return field, p
}

// P5 and P9: pots of all sizes, valid and others.
func TestManyDrawings(t *testing.T) {
	found, valid := map[bool]int{}, map[bool]int{}
	for start := range 1200 {
		field, p := somePots(start)
		draws := checkDrawing(t, field, p)
		found[draws > 0]++
		valid[impl.PotsOk(field, p)]++
	}
	if min(found[true], found[false], valid[true], valid[false]) < 100 {
		t.Errorf("pots with draws: %v, valid pots: %v", found, valid)
	}
}

// P5: the draws that begin with a prefix are those of the prefixes that are longer by one group.
func TestCountsOfLongerPrefixesAddUp(t *testing.T) {
	for start := range 200 {
		field, p := somePots(start)
		size := len(slices.Concat(p.Pots...))
		next := numbersFrom(start)
		var prefix []int
		for len(prefix) < size {
			total := 0
			for group := -1; group <= impl.MaxGroups; group++ {
				total += impl.CountDraws(field, p, append(prefix, group))
			}
			checkCount(t, field, p, prefix, total)
			prefix = append(prefix, next(max(1, min(4, p.Groups))))
		}
	}
}

// A call returns the same each time, whatever order a map gives its keys in.
func TestDrawsAtEachCall(t *testing.T) {
	field, p := eightTeams(), potsOf(4, 1, "012 345 67")
	all := plainDraws(field, p)
	for range 50 {
		checkCount(t, field, p, nil, len(all))
		checkNumber(t, field, p, len(all)/3, all[len(all)/3])
		checkChances(t, field, p, 6, plainChances(all, p, 6)...)
	}
}

// No argument changes even while a call goes on: calls beside each other read the same lists.
func TestDrawsBesideOtherCalls(t *testing.T) {
	field, p := eightTeams(), potsOf(4, 1, "0123 4567")
	draw := digitsOf("32102301")
	var callers sync.WaitGroup
	for range 16 {
		callers.Go(func() {
			for range 200 {
				index, ok := impl.IndexOfDraw(field, p, draw), impl.IsDraw(field, p, draw)
				last, found := impl.NthDraw(field, p, 215)
				group, chances := impl.GroupOf(p, draw, 3), impl.ChancesOf(field, p, 0)
				if index != 215 || !ok || !found || !slices.Equal(last, draw) || !slices.Equal(group, []int{0, 5}) || !slices.Equal(chances, []int{54, 54, 54, 54}) || impl.CountDraws(field, p, draw[:2]) != 18 {
					t.Errorf("beside other calls, the results are %d, %v, %v, %v, %v", index, ok, last, group, chances)
					return
				}
			}
		})
	}
	callers.Wait()
}

// sparePots returns a field and pots with further elements behind each list, and a function that reports whether any of these has changed.
func sparePots() ([]impl.Team, impl.Pots, func() bool) {
	field := append(clubField(0, 1, 0, 1), impl.Team{Name: "t0"}, impl.Team{Name: "none", Seed: 99})
	teams := []int{0, 1, 3, 2, 0, -1}
	pots := [][]int{teams[0:2], teams[2:4], teams[4:6], nil}
	fieldBefore, teamsBefore, potsBefore := slices.Clone(field), slices.Clone(teams), slices.Clone(pots)
	return field[:4], impl.Pots{Pots: pots[:2], Groups: 2, Most: 1}, func() bool {
		return !slices.Equal(field, fieldBefore) || !slices.Equal(teams, teamsBefore) || !sameParts(pots, potsBefore)
	}
}

// Neither the arguments nor the spare capacity behind them may change, and what is behind them does not count.
func TestDrawArgumentsStay(t *testing.T) {
	field, p, changed := sparePots()
	checkPots(t, field, p, true)
	if draws := checkDrawing(t, field, p); draws != 2 {
		t.Errorf("there are %d draws", draws)
	}
	lists := []int{0, 1, 0, 1, 7, 8, 9}
	before := slices.Clone(lists)
	for size := range len(lists) + 1 {
		list := lists[:size]
		checkCount(t, field, p, list, beginning([][]int{{0, 1, 0, 1}, {1, 0, 1, 0}}, list))
		checkIsDraw(t, field, p, list, size == 4)
		checkGroup(t, p, list, 0, []int{0, 3}[:min(size+1, 4)/2]...)
	}
	p.Pots[0] = p.Pots[0][:1]
	checkDrawing(t, field, p)
	p.Pots[0] = p.Pots[0][:2]
	if changed() || !slices.Equal(lists, before) {
		t.Errorf("the arguments became %v, %v and %v", field, p, lists)
	}
}

// Results are new at each call, also where they are equal to an argument.
func TestDrawResultsAreNew(t *testing.T) {
	field, p, changed := sparePots()
	nth := func(index int) []int {
		draw, _ := impl.NthDraw(field, p, index)
		return draw
	}
	list := []int{0, 0, 0, 0}
	checkNewResults(t,
		indexCall{func() []int { return nth(0) }, []int{0, 1, 0, 1}},
		indexCall{func() []int { return nth(1) }, []int{1, 0, 1, 0}},
		indexCall{func() []int { return impl.GroupOf(p, list, 0) }, []int{0, 1, 3, 2}},
		indexCall{func() []int { return impl.GroupOf(p, list[:2], 0) }, []int{0, 1}},
		indexCall{func() []int { return impl.ChancesOf(field, p, 3) }, []int{1, 1}},
	)
	if changed() || !slices.Equal(list, []int{0, 0, 0, 0}) {
		t.Errorf("the arguments became %v, %v and %v", field, p, list)
	}
}

// A result stays as it is when the arguments change.
func TestDrawResultsStay(t *testing.T) {
	field, p, list := eightTeams(), potsOf(4, 1, "0123 4567"), digitsOf("00001111")
	draw, _ := impl.NthDraw(field, p, 3)
	first, second, chances := impl.GroupOf(p, list, 0), impl.GroupOf(p, list, 1), impl.ChancesOf(field, p, 4)
	clear(field)
	clear(list)
	for i := range p.Pots {
		clear(p.Pots[i])
	}
	if !slices.Equal(draw, digitsOf("01232031")) || !slices.Equal(first, digitsOf("0123")) || !slices.Equal(second, digitsOf("4567")) || !slices.Equal(chances, []int{54, 54, 54, 54}) {
		t.Errorf("after a change of the arguments, the results are %v, %v, %v and %v", draw, first, second, chances)
	}
}
