package tests

import (
	"math"
	"slices"
	"testing"

	"loop.example/g00834/impl"
)

// A plainSplitting is a split of a group into more than one part.
type plainSplitting struct {
	key   int
	group []int
	parts [][]int
}

// plainSplittings returns all splits with more than one part that a ranking makes, whichever teams they are of, each before those of its parts.
func plainSplittings(b impl.Book, group []int, step int) []plainSplitting {
	if len(group) < 2 || step >= len(b.Rules.Ladder) {
		return nil
	}
	key := b.Rules.Ladder[step]
	parts := plainSplit(b, key, group)
	if len(parts) == 1 {
		return plainSplittings(b, group, step+1)
	}
	list := []plainSplitting{{key, group, parts}}
	next := step + 1
	if b.Rules.Again && (key == 5 || key == 6) {
		next = 0
	}
	for _, part := range parts {
		list = append(list, plainSplittings(b, part, next)...)
	}
	return list
}

// plainReason looks for the split of two different teams into different parts, of which there is at most one: a second way to ReasonFor.
func plainReason(b impl.Book, list []plainSplitting, x int, y int) (impl.Reason, bool) {
	for _, s := range list {
		together := slices.ContainsFunc(s.parts, func(part []int) bool { return slices.Contains(part, x) && slices.Contains(part, y) })
		if !together && slices.Contains(s.group, x) && slices.Contains(s.group, y) {
			return impl.Reason{Key: s.key, Group: s.group, First: plainValue(b, s.key, x, s.group), Other: plainValue(b, s.key, y, s.group)}, true
		}
	}
	return impl.Reason{}, false
}

// plainSteps returns the keys of the splits of groups with a team: a second way to StepsOf.
func plainSteps(list []plainSplitting, team int) []int {
	var keys []int
	for _, s := range list {
		if slices.Contains(s.group, team) {
			keys = append(keys, s.key)
		}
	}
	return keys
}

// plainText writes a reason down word for word: a second way to ReasonText for what it accepts.
func plainText(b impl.Book, r impl.Reason) string {
	text := ""
	for name, key := range keyNumbers() {
		if key == r.Key {
			text = name
		}
	}
	text += " " + impl.FormatInt(r.First) + ":" + impl.FormatInt(r.Other)
	if r.Key == 5 || r.Key == 6 {
		text += " "
		for i, team := range r.Group {
			if i > 0 {
				text += "+"
			}
			text += b.Field[team].Name
		}
	}
	return text
}

// equalReasons compares two reasons field by field.
func equalReasons(a impl.Reason, b impl.Reason) bool {
	return a.Key == b.Key && a.First == b.First && a.Other == b.Other && slices.Equal(a.Group, b.Group)
}

// isZero reports whether a reason is the zero value.
func isZero(r impl.Reason) bool { return equalReasons(r, impl.Reason{}) }

// checkReason checks what ReasonFor returns for two teams, and whether StandsAbove agrees.
func checkReason(t *testing.T, b impl.Book, x int, y int, want impl.Reason, ok bool) {
	t.Helper()
	got, separated := impl.ReasonFor(b, x, y)
	if separated != ok || !equalReasons(got, want) {
		t.Fatalf("ReasonFor(%v, %d, %d) = %v, %v, want %v, %v", b, x, y, got, separated, want, ok)
	}
	if above := impl.StandsAbove(b, x, y); above != (ok && want.First > want.Other) {
		t.Fatalf("StandsAbove(%v, %d, %d) = %v with the reason %v", b, x, y, above, want)
	}
}

// checkReasons compares the reasons and steps of all teams of a valid book, and of some that do not exist, with the second ways.
func checkReasons(t *testing.T, b impl.Book) {
	t.Helper()
	n := len(b.Field)
	list := plainSplittings(b, allTeams(n), 0)
	for x := -2; x < n+2; x++ {
		if got, want := impl.StepsOf(b, x), plainSteps(list, x); !slices.Equal(got, want) {
			t.Fatalf("StepsOf(%v, %d) = %v, want %v", b, x, got, want)
		}
		for y := -2; y < n+2; y++ {
			want, ok := plainReason(b, list, x, y)
			checkReason(t, b, x, y, want, ok && x != y)
			if !ok {
				continue
			}
			if got := impl.ReasonText(b, want); got != plainText(b, want) {
				t.Fatalf("ReasonText(%v, %v) = %q, want %q", b, want, got, plainText(b, want))
			}
		}
	}
}

// checkNoReasons checks that every function refuses a book that is not valid.
func checkNoReasons(t *testing.T, label string, b impl.Book) {
	t.Helper()
	for x := -1; x <= 9; x++ {
		if got := impl.StepsOf(b, x); len(got) != 0 {
			t.Errorf("%s: StepsOf(%d) = %v", label, x, got)
		}
		for y := -1; y <= 9; y++ {
			if got, ok := impl.ReasonFor(b, x, y); ok || !isZero(got) {
				t.Errorf("%s: ReasonFor(%d, %d) = %v, %v", label, x, y, got, ok)
			}
			if impl.StandsAbove(b, x, y) {
				t.Errorf("%s: StandsAbove(%d, %d) = true", label, x, y)
			}
		}
	}
	for key := range 10 {
		for _, group := range [][]int{nil, {}, {0}, {0, 1}, {2, 1, 0}, {9}} {
			if got := impl.ReasonText(b, impl.Reason{Key: key, Group: group, First: 3, Other: 1}); got != "" {
				t.Errorf("%s: ReasonText of the key %d and the group %v = %q", label, key, group, got)
			}
		}
	}
}

// rankedBook returns a valid book of three teams that are all ranked.
func rankedBook() impl.Book { return secondWins(impl.UsualRules().Ladder...) }

func TestReasonsOfBrokenFields(t *testing.T) {
	for label, field := range brokenFields() {
		b := rankedBook()
		b.Field = field
		checkNoReasons(t, label, b)
		checkNoReasons(t, label+", no games", impl.Book{Field: field, Rules: impl.UsualRules(), Fair: make([]int, len(field)), Taken: make([]int, len(field))})
	}
	for _, n := range []int{0, 1, 9, 10, 1000} {
		checkNoReasons(t, impl.FormatInt(n)+" teams", bookOf(n, impl.UsualRules()))
	}
	checkNoReasons(t, "zero", impl.Book{})
}

func TestReasonsOfRules(t *testing.T) {
	for i, u := range differentRules() {
		b := rankedBook()
		b.Rules = u
		if impl.RulesOk(u) {
			checkReasons(t, b)
		} else {
			checkNoReasons(t, "rules "+impl.FormatInt(i), b)
		}
	}
}

func TestReasonsOfBrokenSeasons(t *testing.T) {
	for label, g := range map[string]impl.Game{
		"game again": rankedBook().Games[1], "own game": open(2, 2), "team 3": open(2, 3), "team -1": open(-1, 2), "greatest team": open(0, math.MaxInt),
		"goals": played(2, 0, 100, 0), "goals below 0": played(2, 0, 0, -1), "goals of an open game": {Home: 2, Away: 0, HomeGoals: 1}, "state 5": {Home: 2, Away: 0, State: 5}, "state -1": {Home: 2, Away: 0, State: -1},
	} {
		b := rankedBook()
		b.Games = append(slices.Clone(b.Games[:3]), g)
		checkNoReasons(t, label, b)
	}
	checkNoReasons(t, "61 games", bookOf(8, impl.UsualRules(), append(fullSeason(8), fullSeason(8)[:5]...)...))
	checkNoReasons(t, "games of more teams", bookOf(3, impl.UsualRules(), fullSeason(4)...))
}

func TestReasonsOfBrokenPenalties(t *testing.T) {
	for _, list := range [][]int{
		nil, {}, {0}, {0, 0}, {0, 0, 0, 0}, {-1, 0, 0}, {0, 0, -1}, {0, 1001, 0}, {0, 0, 1001}, {math.MinInt, 0, 0}, {0, 0, math.MaxInt}, make([]int, 1000),
	} {
		fair, taken, both := rankedBook(), rankedBook(), rankedBook()
		fair.Fair, taken.Taken = list, list
		both.Fair, both.Taken = list, list
		label := impl.FormatInt(len(list)) + " penalties"
		checkNoReasons(t, "Fair, "+label, fair)
		checkNoReasons(t, "Taken, "+label, taken)
		checkNoReasons(t, "both, "+label, both)
	}
}

// The least and the greatest penalties still give reasons.
func TestReasonsOfPenalties(t *testing.T) {
	b := bookOf(3, ladderRules(impl.KeyPoints, impl.KeyFair))
	b.Fair, b.Taken = []int{1000, 0, 0}, []int{0, 0, 1000}
	checkReason(t, b, 1, 0, impl.Reason{Key: impl.KeyFair, Group: []int{0, 1}, First: 0, Other: -1000}, true)
	checkReason(t, b, 2, 1, impl.Reason{Key: impl.KeyPoints, Group: []int{0, 1, 2}, First: -1000, Other: 0}, true)
	checkReasons(t, b)
}

// A wantedReason is what a book has to say of two teams, and of the steps of the first one.
type wantedReason struct {
	x, y   int
	reason impl.Reason
	steps  []int
	text   string
}

// checkWanted checks reasons, mirrored ones too, steps and texts against what was found by hand.
func checkWanted(t *testing.T, label string, b impl.Book, list ...wantedReason) {
	t.Helper()
	for _, w := range list {
		r := w.reason
		checkReason(t, b, w.x, w.y, r, true)
		checkReason(t, b, w.y, w.x, impl.Reason{Key: r.Key, Group: r.Group, First: r.Other, Other: r.First}, true)
		if got := impl.StepsOf(b, w.x); !slices.Equal(got, w.steps) {
			t.Errorf("%s: StepsOf(%d) = %v, want %v", label, w.x, got, w.steps)
		}
		if got := impl.ReasonText(b, r); got != w.text {
			t.Errorf("%s: ReasonText(%v) = %q, want %q", label, r, got, w.text)
		}
	}
	checkReasons(t, b)
}

// A reason can be found at the first key, at the last one, and at any one between them.
func TestReasonAtEachKey(t *testing.T) {
	b := bookOf(3, ladderRules(allKeys()...), played(0, 1, 4, 0), played(1, 2, 0, 1))
	b.Field = fieldOf(7, 8, 2)
	b.Fair, b.Taken = []int{3, 0, 9}, []int{5, 1, 0}
	all := []int{0, 1, 2}
	values := map[int][]int{
		impl.KeyPoints: {3, -2}, impl.KeyDifference: {1, 4}, impl.KeyScored: {1, 4}, impl.KeyMutualDifference: {1, 4}, impl.KeyFair: {-9, -3}, impl.KeySeed: {-2, -7},
	}
	for key, v := range values {
		other := b
		other.Rules.Ladder = []int{key}
		checkReason(t, other, 2, 0, impl.Reason{Key: key, Group: all, First: v[0], Other: v[1]}, true)
		checkReasons(t, other)
	}
	for _, key := range []int{impl.KeyWins, impl.KeyMutual} {
		other := b
		other.Rules.Ladder = []int{key, impl.KeySeed}
		checkReason(t, other, 2, 0, impl.Reason{Key: impl.KeySeed, Group: []int{0, 2}, First: -2, Other: -7}, true)
		checkReason(t, other, 0, 1, impl.Reason{Key: key, Group: all, First: map[int]int{impl.KeyWins: 1, impl.KeyMutual: 3}[key], Other: 0}, true)
		checkReasons(t, other)
	}
	none := bookOf(8, ladderRules(allKeys()...))
	for x := range 8 {
		for y := range 8 {
			if x != y {
				checkReason(t, none, x, y, impl.Reason{Key: impl.KeySeed, Group: allTeams(8), First: -x - 1, Other: -y - 1}, true)
			}
		}
		if got := impl.StepsOf(none, x); !slices.Equal(got, []int{impl.KeySeed}) {
			t.Errorf("StepsOf(%d) without games = %v", x, got)
		}
	}
}

// Keys that split nothing are no reasons; neither are those behind the one that separates.
func TestReasonsAlongTheLadder(t *testing.T) {
	const points, scored, mutual, seed = impl.KeyPoints, impl.KeyScored, impl.KeyMutual, impl.KeySeed
	b := bookOf(4, ladderRules(points, impl.KeyWins, scored, seed), played(0, 1, 2, 0), played(2, 3, 2, 0), played(3, 1, 1, 1))
	checkWanted(t, "along", b,
		wantedReason{0, 2, impl.Reason{Key: seed, Group: []int{0, 2}, First: -1, Other: -3}, []int{points, seed}, "seed -1:-3"},
		wantedReason{2, 3, impl.Reason{Key: points, Group: []int{0, 1, 2, 3}, First: 3, Other: 1}, []int{points, seed}, "points 3:1"},
		wantedReason{1, 3, impl.Reason{Key: seed, Group: []int{1, 3}, First: -2, Other: -4}, []int{points, seed}, "seed -2:-4"},
	)
	ahead := secondWins(points, mutual, seed)
	ahead.Taken = []int{1, 0, 5}
	checkWanted(t, "mutual of two", ahead,
		wantedReason{1, 2, impl.Reason{Key: seed, Group: []int{1, 2}, First: -2, Other: -3}, []int{points, seed}, "seed -2:-3"},
		wantedReason{1, 0, impl.Reason{Key: points, Group: []int{0, 1, 2}, First: 4, Other: 3}, []int{points, seed}, "points 4:3"},
		wantedReason{0, 2, impl.Reason{Key: points, Group: []int{0, 1, 2}, First: 3, Other: 4}, []int{points}, "points 3:4"},
	)
}

// Behind a mutual key, the group of a reason is the smaller one; with Again, a mutual key may be the reason for it once more.
func TestReasonsBehindMutualKeys(t *testing.T) {
	const points, scored, mutual, differences, seed = impl.KeyPoints, impl.KeyScored, impl.KeyMutual, impl.KeyMutualDifference, impl.KeySeed
	all, first, two := []int{0, 1, 2, 3}, []int{0, 1, 2}, []int{0, 1}
	plain := secondWins(points, mutual, scored, seed)
	again := plain
	again.Rules.Again = true
	checkWanted(t, "split once", plain,
		wantedReason{2, 0, impl.Reason{Key: mutual, Group: first, First: 9, Other: 4}, []int{mutual}, "mutual 9:4 t0+t1+t2"},
		wantedReason{1, 0, impl.Reason{Key: scored, Group: two, First: 5, Other: 1}, []int{mutual, scored}, "scored 5:1"},
	)
	checkWanted(t, "split twice", again,
		wantedReason{2, 1, impl.Reason{Key: mutual, Group: first, First: 9, Other: 4}, []int{mutual}, "mutual 9:4 t0+t1+t2"},
		wantedReason{0, 1, impl.Reason{Key: mutual, Group: two, First: 4, Other: 1}, []int{mutual, mutual}, "mutual 4:1 t0+t1"},
	)
	plain = thirdWins(points, mutual, scored, seed)
	again = plain
	again.Rules.Again = true
	checkWanted(t, "four teams", plain,
		wantedReason{1, 0, impl.Reason{Key: scored, Group: first, First: 7, Other: 4}, []int{mutual, scored}, "scored 7:4"},
		wantedReason{0, 2, impl.Reason{Key: scored, Group: first, First: 4, Other: 3}, []int{mutual, scored}, "scored 4:3"},
		wantedReason{2, 3, impl.Reason{Key: mutual, Group: all, First: 10, Other: 4}, []int{mutual, scored}, "mutual 10:4 t0+t1+t2+t3"},
	)
	checkWanted(t, "four teams again", again,
		wantedReason{2, 0, impl.Reason{Key: mutual, Group: first, First: 9, Other: 4}, []int{mutual, mutual}, "mutual 9:4 t0+t1+t2"},
		wantedReason{0, 1, impl.Reason{Key: mutual, Group: two, First: 4, Other: 1}, []int{mutual, mutual, mutual}, "mutual 4:1 t0+t1"},
		wantedReason{3, 1, impl.Reason{Key: mutual, Group: all, First: 4, Other: 10}, []int{mutual}, "mutual 4:10 t0+t1+t2+t3"},
	)
	plain = circle(points, mutual, differences, seed)
	again = plain
	again.Rules.Again = true
	checkWanted(t, "differences", plain,
		wantedReason{0, 2, impl.Reason{Key: differences, Group: first, First: 1, Other: -2}, []int{differences, seed}, "mutualdifference 1:-2 t0+t1+t2"},
		wantedReason{1, 0, impl.Reason{Key: seed, Group: two, First: -1, Other: -2}, []int{differences, seed}, "seed -1:-2"},
	)
	checkWanted(t, "an earlier key again", again,
		wantedReason{0, 1, impl.Reason{Key: mutual, Group: two, First: 3, Other: 0}, []int{differences, mutual}, "mutual 3:0 t0+t1"},
		wantedReason{2, 1, impl.Reason{Key: differences, Group: first, First: -2, Other: 1}, []int{differences}, "mutualdifference -2:1 t0+t1+t2"},
	)
}

// Teams that stay in the same part have no reason, but those in other parts have.
func TestReasonsOfEqualTeams(t *testing.T) {
	for _, again := range []bool{false, true} {
		b := circle(impl.KeyPoints, impl.KeyMutual)
		b.Rules.Again = again
		for x := range 3 {
			for y := range 3 {
				checkReason(t, b, x, y, impl.Reason{}, false)
			}
			if got := impl.StepsOf(b, x); len(got) != 0 {
				t.Errorf("StepsOf(%d) of equal teams = %v", x, got)
			}
		}
		checkReasons(t, b)
	}
	b := secondWins(impl.KeyPoints, impl.KeyMutual)
	checkReason(t, b, 0, 1, impl.Reason{}, false)
	checkReason(t, b, 1, 0, impl.Reason{}, false)
	checkReason(t, b, 2, 1, impl.Reason{Key: impl.KeyMutual, Group: []int{0, 1, 2}, First: 9, Other: 4}, true)
	b = bookOf(8, ladderRules(impl.KeyPoints), played(6, 7, 1, 0))
	checkReason(t, b, 0, 5, impl.Reason{}, false)
	checkReason(t, b, 6, 7, impl.Reason{Key: impl.KeyPoints, Group: allTeams(8), First: 3, Other: 0}, true)
	checkReason(t, b, 7, 0, impl.Reason{}, false)
	checkReasons(t, b)
}

// A team that does not exist has no reason, no step and no place; nor is there a reason for a team and itself.
func TestReasonsOfNoTeams(t *testing.T) {
	for n := 2; n <= 8; n++ {
		b := bookOf(n, impl.UsualRules(), fullSeason(n)...)
		for _, x := range withEdges(-9, 12) {
			exists := x >= 0 && x < n
			if got := impl.StepsOf(b, x); (len(got) > 0) != exists {
				t.Errorf("StepsOf(%d) of %d teams = %v", x, n, got)
			}
			for _, y := range withEdges(-9, 12) {
				got, ok := impl.ReasonFor(b, x, y)
				if want := exists && y >= 0 && y < n && x != y; ok != want || !want && !isZero(got) {
					t.Errorf("ReasonFor(%d, %d) of %d teams = %v, %v", x, y, n, got, ok)
				}
				if impl.StandsAbove(b, x, y) != (got.First > got.Other) {
					t.Errorf("StandsAbove(%d, %d) of %d teams and the reason %v disagree", x, y, n, got)
				}
			}
		}
		checkReasons(t, b)
	}
}

func TestReasonTextOfKeys(t *testing.T) {
	b := plainBook()
	names := map[int]string{1: "points", 2: "difference", 3: "scored", 4: "wins", 5: "mutual", 6: "mutualdifference", 7: "fair", 8: "seed"}
	for _, key := range oddInts() {
		for _, group := range [][]int{nil, {}, {1}, {2, 0}} {
			want := ""
			if name := names[key]; name != "" {
				want = name + " 3:-1"
			}
			if key == 5 || key == 6 {
				want += map[int]string{0: " ", 1: " t1", 2: " t2+t0"}[len(group)]
			}
			if got := impl.ReasonText(b, impl.Reason{Key: key, Group: group, First: 3, Other: -1}); got != want {
				t.Errorf("ReasonText of the key %d and the group %v = %q, want %q", key, group, got, want)
			}
		}
	}
	if got := impl.ReasonText(b, impl.Reason{}); got != "" {
		t.Errorf("ReasonText of no reason = %q", got)
	}
}

// A text needs the teams of the group even if it does not name them; which ones they are, in which order and how often, does not matter.
func TestReasonTextOfGroups(t *testing.T) {
	b := plainBook()
	b.Field = []impl.Team{{Name: "z", Seed: 8}, {Name: "abcdefgh", Seed: 1}, {Name: "m9", Seed: 4}}
	cases := []struct {
		group []int
		names string
	}{
		{nil, ""}, {[]int{}, ""}, {[]int{0}, "z"}, {[]int{2}, "m9"}, {[]int{0, 1, 2}, "z+abcdefgh+m9"}, {[]int{2, 1, 0}, "m9+abcdefgh+z"}, {[]int{1, 1}, "abcdefgh+abcdefgh"},
		{[]int{0, 2, 0}, "z+m9+z"}, {[]int{0, 1, 2, 0, 1, 2, 0, 1, 2}, "z+abcdefgh+m9+z+abcdefgh+m9+z+abcdefgh+m9"},
	}
	for _, c := range cases {
		for name, key := range keyNumbers() {
			want := name + " 0:0"
			if key == 5 || key == 6 {
				want += " " + c.names
			}
			if got := impl.ReasonText(b, impl.Reason{Key: key, Group: c.group}); got != want {
				t.Errorf("ReasonText of %s and the group %v = %q, want %q", name, c.group, got, want)
			}
		}
	}
	for _, team := range withEdges(-9, 12) {
		for _, group := range [][]int{{team}, {team, 0}, {0, 1, team}, {2, team, 2}} {
			for key := range 10 {
				want := ""
				if r := (impl.Reason{Key: key, Group: group, First: 1, Other: 2}); team >= 0 && team < 3 && key > 0 && key < 9 {
					want = plainText(b, r)
				}
				if got := impl.ReasonText(b, impl.Reason{Key: key, Group: group, First: 1, Other: 2}); got != want {
					t.Errorf("ReasonText of the key %d and the group %v = %q, want %q", key, group, got, want)
				}
			}
		}
	}
}

// The values of a text are those of the reason, whatever the book says.
func TestReasonTextOfValues(t *testing.T) {
	b := plainBook()
	for _, first := range withEdges(-11, 11) {
		for _, other := range []int{0, -1, 7, 10, math.MinInt, math.MaxInt} {
			values := impl.FormatInt(first) + ":" + impl.FormatInt(other)
			if got := impl.ReasonText(b, impl.Reason{Key: impl.KeyWins, Group: []int{1}, First: first, Other: other}); got != "wins "+values {
				t.Errorf("ReasonText of %s = %q", values, got)
			}
			if got := impl.ReasonText(b, impl.Reason{Key: impl.KeyMutualDifference, Group: []int{2, 1}, First: first, Other: other}); got != "mutualdifference "+values+" t2+t1" {
				t.Errorf("ReasonText of mutual %s = %q", values, got)
			}
		}
	}
	if got := impl.ReasonText(b, impl.Reason{Key: 5, First: math.MinInt, Other: math.MaxInt}); got != "mutual -9223372036854775808:9223372036854775807 " {
		t.Errorf("ReasonText of the least and the greatest value = %q", got)
	}
	long := impl.Reason{Key: 6, Group: slices.Repeat([]int{2, 0}, 50000)}
	if got := impl.ReasonText(b, long); len(got) != len("mutualdifference 0:0 ")+3*100000-1 || got[:30] != "mutualdifference 0:0 t2+t0+t2+" {
		t.Errorf("ReasonText of a long group has %d bytes", len(got))
	}
}

// differentReasons returns reasons of which each two differ, many of them in one field, in the length or in the order of a group only.
func differentReasons() []impl.Reason {
	list := []impl.Reason{{}, {Key: 1}, {First: 1}, {Other: 1}, {Key: -1}, {First: -1}, {Other: -1}}
	for _, x := range edgeInts() {
		list = append(list, impl.Reason{Key: x}, impl.Reason{First: x}, impl.Reason{Other: x})
		if x != 1 {
			list = append(list, impl.Reason{Group: []int{x}})
		}
	}
	for _, group := range [][]int{{0}, {0, 0}, {1}, {0, 1}, {1, 0}, {0, 1, 2}, {0, 2, 1}, {2, 1, 0}, {0, 1, 1}, {0, 0, 1}} {
		list = append(list, impl.Reason{Group: group}, impl.Reason{Key: 5, Group: group, First: 3, Other: 4}, impl.Reason{Key: 5, Group: group, First: 4, Other: 3},
			impl.Reason{Key: 6, Group: group, First: 3, Other: 4}, impl.Reason{Key: 5, Group: group, First: 3, Other: 3}, impl.Reason{Key: 5, Group: group, First: 4, Other: 4})
	}
	return list
}

func TestSameReason(t *testing.T) {
	list := differentReasons()
	for i, a := range list {
		for j, b := range list {
			b.Group = slices.Clone(b.Group)
			if got := impl.SameReason(a, b); got != (i == j) {
				t.Errorf("SameReason(%v, %v) = %v", a, b, got)
			}
		}
	}
	for _, a := range [][]int{nil, {}, []int{1, 2}[:0]} {
		for _, b := range [][]int{nil, {}, []int{3}[:0]} {
			x, y := impl.Reason{Key: 5, Group: a, First: 2, Other: -2}, impl.Reason{Key: 5, Group: b, First: 2, Other: -2}
			if !impl.SameReason(x, y) {
				t.Errorf("SameReason(%#v, %#v) = false", x, y)
			}
			y.Group = []int{0}
			if impl.SameReason(x, y) || impl.SameReason(y, x) {
				t.Errorf("SameReason of %#v and a group of the team 0 = true", x)
			}
		}
	}
	long := impl.Reason{Key: 1, Group: make([]int, 100000)}
	other := impl.Reason{Key: 1, Group: make([]int, 100000)}
	if !impl.SameReason(long, other) {
		t.Error("SameReason of equal long groups = false")
	}
	other.Group[99999] = 1
	if impl.SameReason(long, other) {
		t.Error("SameReason of long groups that differ in the end = true")
	}
}

// What ReasonFor returns is the same as itself, and as nothing else that it returns for the book.
func TestSameReasonOfBooks(t *testing.T) {
	for start := range 50 {
		b := someBook(start)
		var list []impl.Reason
		for x := range b.Field {
			for y := range b.Field {
				r, _ := impl.ReasonFor(b, x, y)
				list = append(list, r)
			}
		}
		for _, x := range list {
			for _, y := range list {
				if got := impl.SameReason(x, y); got != equalReasons(x, y) {
					t.Fatalf("SameReason(%v, %v) = %v", x, y, got)
				}
			}
		}
	}
}

// P3 and P9: three games of three teams, each with each kind of result, by ladders of all kinds, Again and the deductions in turn.
func TestReasonsOfThreeTeams(t *testing.T) {
	for i, games := range seasonsOver([]impl.Game{open(0, 1), open(1, 2), open(2, 0)}, 0, 1, 2, 3, 4, 5, 6) {
		for k, ladder := range someLadders() {
			b := bookOf(3, withAgain(ladderRules(ladder...), (i+k)%2 == 0), games...)
			b.Field = fieldOf(3, 1, 2)
			b.Fair = []int{i % 2, 0, i % 3}
			b.Taken = [][]int{{0, 0, 0}, {3, 0, 0}, {1, 3, 0}}[(i+k)%3]
			checkReasons(t, b)
		}
	}
}

// P3 and P9: long seasons of all sizes.
func TestReasonsOfManyBooks(t *testing.T) {
	sizes := map[int]bool{}
	for start := range 400 {
		b := someBook(start)
		checkReasons(t, b)
		sizes[len(b.Field)] = true
	}
	if len(sizes) != 7 {
		t.Errorf("the books have the sizes %v", sizes)
	}
}

// checkSplit checks that a split keeps all teams, in descending order of their values, which the reason states for x and y.
func checkSplit(t *testing.T, b impl.Book, r impl.Reason, x int, y int) {
	t.Helper()
	parts := impl.SplitBy(b, r.Key, r.Group)
	kept := slices.Concat(parts...)
	for i, team := range kept {
		if i > 0 && impl.KeyValue(b, r.Key, kept[i-1], r.Group) < impl.KeyValue(b, r.Key, team, r.Group) {
			t.Fatalf("SplitBy(%v, %d, %v) = %v puts %d behind a lesser value", b, r.Key, r.Group, parts, team)
		}
	}
	slices.Sort(kept)
	if len(parts) < 2 || !slices.Equal(kept, r.Group) || !slices.Contains(kept, x) || !slices.Contains(kept, y) {
		t.Fatalf("SplitBy(%v, %d, %v) = %v does not separate %d and %d", b, r.Key, r.Group, parts, x, y)
	}
	if r.First != impl.KeyValue(b, r.Key, x, r.Group) || r.Other != impl.KeyValue(b, r.Key, y, r.Group) || r.First == r.Other {
		t.Fatalf("the reason %v for %d and %d does not state their values in %v", r, x, y, b)
	}
}

// P3: by decisive rules, of any two teams in a ranking, neighbours too, the first stands above the other one by a key of the rules that explains it.
func TestDecisiveRulesGiveReasons(t *testing.T) {
	ladders := [][]int{{8}, {1, 8}, {5, 8}, {8, 1}, {1, 8, 5}, {6, 5, 1, 8}, {5, 6, 8}, {1, 6, 8}, impl.UsualRules().Ladder, allKeys()}
	for start := range 150 {
		b := someBook(start)
		for _, ladder := range ladders {
			b.Rules.Ladder = ladder
			order := impl.Ranking(b)
			if len(order) != len(b.Field) {
				t.Fatalf("Ranking(%v) = %v", b, order)
			}
			for i, x := range order {
				for _, y := range order[i+1:] {
					r, ok := impl.ReasonFor(b, x, y)
					if !ok || !impl.StandsAbove(b, x, y) || impl.StandsAbove(b, y, x) {
						t.Fatalf("of %v in %v, %d does not stand above %d", order, b, x, y)
					}
					if !slices.Contains(ladder, r.Key) || !slices.Contains(impl.StepsOf(b, x), r.Key) || !slices.Contains(impl.StepsOf(b, y), r.Key) {
						t.Fatalf("the reason %v for %d and %d is not one of the steps in %v", r, x, y, b)
					}
					checkSplit(t, b, r, x, y)
				}
			}
		}
	}
}

// P3: by any rules, one of two teams stands above the other one just as its rank says, and equal ranks have no reason.
func TestReasonsFollowRanks(t *testing.T) {
	equal := 0
	for start := range 400 {
		b := someBook(start)
		for x := range b.Field {
			for y := range b.Field {
				_, ok := impl.ReasonFor(b, x, y)
				if ok != (impl.RankOf(b, x) != impl.RankOf(b, y)) || impl.StandsAbove(b, x, y) != (impl.RankOf(b, x) < impl.RankOf(b, y)) {
					t.Fatalf("the ranks and the reason of %d and %d in %v disagree", x, y, b)
				}
				if !ok && x != y {
					equal++
				}
			}
		}
	}
	if equal == 0 {
		t.Error("no two teams stay equal")
	}
}

// P2 and P3: reasons do not depend on the order of the games.
func TestReasonsDependOnTheGames(t *testing.T) {
	for start := range 100 {
		b := someBook(start)
		other := b
		other.Games = slices.Clone(b.Games)
		slices.Reverse(other.Games)
		for x := range b.Field {
			if !slices.Equal(impl.StepsOf(b, x), impl.StepsOf(other, x)) {
				t.Fatalf("StepsOf(%v, %d) changes with the order of the games", b, x)
			}
			for y := range b.Field {
				r, ok := impl.ReasonFor(b, x, y)
				checkReason(t, other, x, y, r, ok)
			}
		}
	}
}

// Neither the arguments nor the spare capacity behind them may change, and what is behind them does not count.
func TestExplainArgumentsStay(t *testing.T) {
	b, changed := spareBook()
	group := []int{2, 0, 1, 0, 7, -1}
	before := slices.Clone(group)
	checkReasons(t, b)
	for size := range len(group) + 1 {
		for key := range 10 {
			r := impl.Reason{Key: key, Group: group[:size], First: 1, Other: 2}
			text := impl.ReasonText(b, r)
			if size <= 4 && key > 0 && key < 9 && text != plainText(b, r) || size > 4 && text != "" {
				t.Errorf("ReasonText(%v) = %q", r, text)
			}
			if !impl.SameReason(r, impl.Reason{Key: key, Group: slices.Clone(group[:size]), First: 1, Other: 2}) {
				t.Errorf("SameReason(%v) and its copy = false", r)
			}
		}
	}
	if changed() || !slices.Equal(group, before) {
		t.Errorf("the arguments became %v and %v", b, group)
	}
}

// Results are new at each call, and share no memory with the book.
func TestExplainResultsAreNew(t *testing.T) {
	b, changed := spareBook()
	groupOf := func(x int, y int) func() []int {
		return func() []int {
			r, _ := impl.ReasonFor(b, x, y)
			return r.Group
		}
	}
	b.Rules.Ladder = b.Rules.Ladder[:2]
	checkNewResults(t,
		indexCall{groupOf(2, 0), []int{0, 1, 2}},
		indexCall{groupOf(1, 0), []int{0, 1}},
		indexCall{func() []int { return impl.StepsOf(b, 0) }, []int{impl.KeyMutual, impl.KeyMutual}},
		indexCall{func() []int { return impl.StepsOf(b, 2) }, []int{impl.KeyMutual}},
	)
	b.Rules.Ladder = []int{impl.KeySeed, 9, 0}[:1]
	checkNewResults(t,
		indexCall{groupOf(0, 1), []int{0, 1, 2}},
		indexCall{func() []int { return impl.StepsOf(b, 0) }, []int{impl.KeySeed}},
	)
	if changed() {
		t.Errorf("the book became %v", b)
	}
}
