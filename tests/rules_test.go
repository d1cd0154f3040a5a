package tests

import (
	"math"
	"slices"
	"strings"
	"testing"

	"loop.example/g00834/impl"
)

// keyNumbers has the number of each key, as the document states it.
func keyNumbers() map[string]int {
	return map[string]int{
		"points": 1, "difference": 2, "scored": 3, "wins": 4, "mutual": 5, "mutualdifference": 6, "fair": 7, "seed": 8,
	}
}

// oddInts returns numbers around the limits of keys and points, and some that are equal to such numbers in fewer bits.
func oddInts() []int {
	list := []int{math.MinInt, math.MinInt + 1, math.MinInt32, 1<<32 + 1, 1<<32 + 5, 1 << 32, 1<<16 + 8, math.MaxInt32, math.MaxInt - 1, math.MaxInt}
	for n := -260; n <= 270; n++ {
		list = append(list, n)
	}
	return list
}

// ladderRules returns rules whose points are in order, with this ladder.
func ladderRules(ladder ...int) impl.Rules {
	return impl.Rules{Win: 3, Draw: 1, Loss: 0, Ladder: ladder}
}

// allKeys returns all keys, in an order with which the checker finds no fault.
func allKeys() []int { return []int{1, 5, 6, 2, 3, 4, 7, 8} }

func TestKeyConstants(t *testing.T) {
	got := []int{
		impl.KeyPoints, impl.KeyDifference, impl.KeyScored, impl.KeyWins,
		impl.KeyMutual, impl.KeyMutualDifference, impl.KeyFair, impl.KeySeed,
	}
	if !slices.Equal(got, []int{1, 2, 3, 4, 5, 6, 7, 8}) {
		t.Errorf("keys are %v", got)
	}
}

func TestKeyNames(t *testing.T) {
	names := map[int]string{}
	for name, key := range keyNumbers() {
		names[key] = name
	}
	for _, key := range oddInts() {
		if got := impl.KeyName(key); got != names[key] {
			t.Errorf("KeyName(%d) = %q, want %q", key, got, names[key])
		}
		if got := impl.IsMutual(key); got != (key == 5 || key == 6) {
			t.Errorf("IsMutual(%d) = %v", key, got)
		}
	}
}

func TestKeyNamed(t *testing.T) {
	for name, key := range keyNumbers() {
		if got := impl.KeyNamed(name); got != key {
			t.Errorf("KeyNamed(%q) = %d, want %d", name, got, key)
		}
	}
	for _, name := range []string{
		"", " ", "x", "none", "mutual difference", "mutualDifference", "differencemutual", "mutualfair", "point", "goals",
		"1", "8", "0", "\x00", "\xff", "pointsscored", "points,scored", "s\u0435ed", "m\u00fctual", strings.Repeat("wins", 999),
	} {
		if got := impl.KeyNamed(name); got != 0 {
			t.Errorf("KeyNamed(%q) = %d", name, got)
		}
	}
}

// Names that differ from a key's name in one place are no keys.
func TestKeyNamedNearNames(t *testing.T) {
	for name := range keyNumbers() {
		near := []string{strings.ToUpper(name), " " + name, name + " ", name + "\n", "\x00" + name, name + "\x00", name + "s", name + name}
		for i := range name {
			upper := strings.ToUpper(name[i : i+1])
			near = append(near, name[:i], name[i+1:], name[:i]+name[i+1:], name[:i]+upper+name[i+1:])
			for _, letter := range []string{"q", "\xff", " ", "\u017f"} {
				near = append(near, name[:i]+letter+name[i+1:], name[:i]+letter+name[i:])
			}
		}
		for _, other := range near {
			if got := impl.KeyNamed(other); got != 0 && keyNumbers()[other] != got {
				t.Errorf("KeyNamed(%q) = %d", other, got)
			}
		}
	}
}

func TestRulesOkPoints(t *testing.T) {
	numbers := []int{math.MinInt, math.MinInt + 1, -256, 1 << 32, 1<<32 + 1, 256, math.MaxInt - 1, math.MaxInt}
	for n := -2; n <= 13; n++ {
		numbers = append(numbers, n)
	}
	for _, win := range numbers {
		for _, draw := range numbers {
			for _, loss := range numbers {
				for _, again := range []bool{false, true} {
					u := impl.Rules{Win: win, Draw: draw, Loss: loss, Ladder: []int{1, 8}, Again: again}
					want := loss >= 0 && draw >= loss && win >= draw && win <= 10
					if got := impl.RulesOk(u); got != want {
						t.Fatalf("RulesOk(%v) = %v", u, got)
					}
				}
			}
		}
	}
}

// P1: every order of all keys, and each beginning of it, is a ladder.
func TestRulesOkAcceptsLadders(t *testing.T) {
	for _, order := range ordersOf(8) {
		for i := range order {
			order[i]++
		}
		for n := 1; n <= len(order); n++ {
			if !impl.RulesOk(ladderRules(order[:n]...)) {
				t.Fatalf("RulesOk with the ladder %v = false", order[:n])
			}
		}
	}
}

func TestRulesOkRejectsLadders(t *testing.T) {
	ladders := [][]int{
		nil, {}, {0}, {9}, {-1}, {math.MinInt}, {math.MaxInt}, {1, 1}, {8, 8}, {5, 6, 5}, {1, 0}, {1, 9}, {8, -1},
		{1, 2, 3, 4, 5, 6, 7, 8, 1}, {1, 2, 3, 4, 5, 6, 7, 8, 8}, {1, 2, 3, 4, 5, 6, 7, 8, 9}, {0, 1, 2, 3, 4, 5, 6, 7, 8},
		{1, 2, 3, 4, 5, 6, 7, 8, 1, 2, 3, 4, 5, 6, 7, 8}, make([]int, 8), make([]int, 100000), slices.Repeat([]int{1}, 100000),
	}
	for at := range allKeys() {
		for _, key := range []int{math.MinInt, -8, -1, 0, 9, 10, 256 + 4, 1<<32 + 4, math.MaxInt, allKeys()[(at+1)%8], allKeys()[(at+7)%8]} {
			ladder := allKeys()
			ladder[at] = key
			ladders = append(ladders, ladder)
		}
	}
	for _, ladder := range ladders {
		u := ladderRules(ladder...)
		if impl.RulesOk(u) || impl.IsDecisive(u) || impl.FaultOf(u) != "invalid" {
			t.Errorf("the ladder %v: RulesOk %v, IsDecisive %v, FaultOf %q", ladder[:min(len(ladder), 20)], impl.RulesOk(u), impl.IsDecisive(u), impl.FaultOf(u))
		}
	}
}

// plainLadder compares each two keys: a second way to the valid ladders that are short enough.
func plainLadder(ladder []int) bool {
	for i, key := range ladder {
		for _, other := range ladder[:i] {
			if key == other {
				return false
			}
		}
		if key < 1 || key > 8 {
			return false
		}
	}
	return len(ladder) > 0
}

// plainFaults returns all answers of FaultOf that apply, in the listed order.
func plainFaults(u impl.Rules) []string {
	if u.Loss < 0 || u.Draw < u.Loss || u.Win < u.Draw || u.Win > 10 || !plainLadder(u.Ladder) {
		return []string{"invalid"}
	}
	var faults []string
	if u.Win == u.Loss {
		faults = append(faults, "pointless")
	}
	seed, points, late := false, false, false
	early := false
	for _, key := range u.Ladder {
		late = late || seed
		early = early || !points && (key == 5 || key == 6)
		seed = seed || key == 8
		points = points || key == 1
	}
	if !seed {
		faults = append(faults, "undecided")
	}
	if late {
		faults = append(faults, "dead")
	}
	if early || !points {
		faults = append(faults, "early")
	}
	return append(faults, "none")
}

// P1: the checker finds the first fault of each ladder of up to four numbers, with points of each kind.
func TestFaultsOfShortLadders(t *testing.T) {
	points := [][3]int{{3, 1, 0}, {2, 1, 0}, {10, 10, 9}, {1, 0, 0}, {0, 0, 0}, {10, 10, 10}, {4, 4, 4}, {11, 1, 0}, {3, 1, -1}, {1, 2, 0}, {3, 0, 1}}
	counts := map[string]int{}
	for _, ladder := range listsOver([]int{0, 1, 2, 3, 4, 5, 6, 7, 8, 9}, 4) {
		for i, p := range points {
			u := impl.Rules{Win: p[0], Draw: p[1], Loss: p[2], Ladder: ladder, Again: i%2 == 0}
			faults := plainFaults(u)
			counts[faults[0]]++
			if got := impl.FaultOf(u); got != faults[0] {
				t.Fatalf("FaultOf(%v) = %q, want %q", u, got, faults[0])
			}
			ok := faults[0] != "invalid"
			if got := impl.RulesOk(u); got != ok {
				t.Fatalf("RulesOk(%v) = %v", u, got)
			}
			if got := impl.IsDecisive(u); got != (ok && !slices.Contains(faults, "undecided")) {
				t.Fatalf("IsDecisive(%v) = %v", u, got)
			}
		}
	}
	if len(counts) != 6 {
		t.Errorf("the ladders have the faults %v only", counts)
	}
}

// The same for all orders of all keys.
func TestFaultsOfLongLadders(t *testing.T) {
	for _, order := range ordersOf(8) {
		for i := range order {
			order[i]++
		}
		u := ladderRules(order...)
		if got, want := impl.FaultOf(u), plainFaults(u)[0]; got != want {
			t.Fatalf("FaultOf(%v) = %q, want %q", u, got, want)
		}
		if !impl.IsDecisive(u) {
			t.Fatalf("IsDecisive(%v) = false", u)
		}
	}
}

// P1: each fault alone, and those that come together, where the first one counts.
func TestFaultOf(t *testing.T) {
	cases := []struct {
		u    impl.Rules
		want string
	}{
		{impl.UsualRules(), "none"},
		{ladderRules(1, 8), "none"},
		{ladderRules(2, 1, 5, 8), "none"},
		{ladderRules(allKeys()...), "none"},
		{impl.Rules{Win: 1, Ladder: []int{1, 8}}, "none"},
		{impl.Rules{Win: 10, Draw: 10, Loss: 9, Ladder: []int{1, 8}}, "none"},

		{impl.Rules{}, "invalid"},
		{impl.Rules{Win: 3, Draw: 1}, "invalid"},
		{impl.Rules{Win: 11, Draw: 1, Ladder: []int{1, 8}}, "invalid"},
		{impl.Rules{Win: 3, Draw: 1, Loss: -1, Ladder: []int{1, 8}}, "invalid"},
		{impl.Rules{Win: 1, Draw: 2, Ladder: []int{1, 8}}, "invalid"},
		{impl.Rules{Win: 3, Draw: 0, Loss: 1, Ladder: []int{1, 8}}, "invalid"},
		{impl.Rules{Win: 3, Draw: 3, Loss: 3, Ladder: []int{1, 8}}, "pointless"},
		{ladderRules(1), "undecided"},
		{ladderRules(1, 5, 6, 2, 3, 4, 7), "undecided"},
		{ladderRules(1, 8, 2), "dead"},
		{ladderRules(5, 1, 8), "early"},
		{ladderRules(2, 6, 1, 8), "early"},
		{ladderRules(8), "early"},
		{ladderRules(2, 3, 8), "early"},

		{impl.Rules{Win: 11, Draw: 11, Loss: 11, Ladder: []int{8, 5}}, "invalid"},
		{impl.Rules{Win: -1, Draw: -1, Loss: -1, Ladder: []int{1, 8}}, "invalid"},
		{impl.Rules{Win: 2, Draw: 2, Loss: 2, Ladder: []int{8, 5, 8}}, "invalid"},
		{impl.Rules{Ladder: []int{5}}, "pointless"},
		{impl.Rules{Ladder: []int{8}}, "pointless"},
		{impl.Rules{Win: 10, Draw: 10, Loss: 10, Ladder: []int{8, 5, 1}}, "pointless"},
		{ladderRules(5), "undecided"},
		{ladderRules(6, 1), "undecided"},
		{ladderRules(2), "undecided"},
		{ladderRules(8, 1), "dead"},
		{ladderRules(5, 8, 1), "dead"},
		{ladderRules(8, 5), "dead"},
		{ladderRules(8, 2, 3), "dead"},
	}
	for _, c := range cases {
		for _, again := range []bool{false, true} {
			c.u.Again = again
			if got := impl.FaultOf(c.u); got != c.want {
				t.Errorf("FaultOf(%v) = %q, want %q", c.u, got, c.want)
			}
		}
	}
}

func TestUsualRules(t *testing.T) {
	u := impl.UsualRules()
	if u.Win != 3 || u.Draw != 1 || u.Loss != 0 || !u.Again || !slices.Equal(u.Ladder, []int{1, 5, 6, 2, 3, 8}) {
		t.Errorf("UsualRules() = %v", u)
	}
	if !impl.RulesOk(u) || !impl.IsDecisive(u) || impl.FaultOf(u) != "none" {
		t.Errorf("UsualRules() does not pass the checker: %q", impl.FaultOf(u))
	}
}

// A caller may write into the usual rules and behind them.
func TestUsualRulesAreNew(t *testing.T) {
	first := impl.UsualRules()
	other := impl.UsualRules()
	clear(first.Ladder)
	_ = append(first.Ladder, 77)
	want := []int{1, 5, 6, 2, 3, 8}
	if !slices.Equal(other.Ladder, want) || !slices.Equal(impl.UsualRules().Ladder, want) {
		t.Errorf("UsualRules() after a change = %v and %v", other, impl.UsualRules())
	}
}

// differentRules returns rule books, valid and not, each two of which differ, many of them in one place only.
func differentRules() []impl.Rules {
	list := []impl.Rules{
		{}, {Again: true}, {Win: 1}, {Draw: 1}, {Loss: 1}, {Win: -1}, {Win: math.MinInt}, {Win: math.MaxInt}, {Loss: math.MaxInt}, {Draw: 1 << 32},
		{Win: 3, Draw: 1, Ladder: []int{1, 8}}, {Win: 3, Draw: 1, Ladder: []int{1, 8}, Again: true}, {Win: 1, Draw: 3, Ladder: []int{1, 8}},
		{Win: 2, Draw: 1, Ladder: []int{1, 8}}, {Win: 3, Draw: 0, Ladder: []int{1, 8}}, {Win: 3, Draw: 1, Loss: 1, Ladder: []int{1, 8}},
		{Win: 3, Loss: 1, Ladder: []int{1, 8}}, {Win: 1, Draw: 3, Loss: 0, Ladder: []int{8, 1}},
	}
	for _, ladder := range [][]int{
		nil, {0}, {1}, {8}, {9}, {-1}, {8, 1}, {1, 1}, {1, 8, 8}, {1, 8, 0}, {0, 1, 8}, {1, 0, 8}, {math.MinInt, 8}, {1, math.MaxInt}, {1<<32 + 1, 8},
		allKeys(), allKeys()[:7], append(allKeys(), 8), append(allKeys(), 9), make([]int, 9),
	} {
		list = append(list, ladderRules(ladder...))
	}
	for at := range allKeys() {
		ladder := allKeys()
		ladder[at] = 9
		list = append(list, ladderRules(ladder...))
	}
	return list
}

func TestSameRules(t *testing.T) {
	list := differentRules()
	for i, a := range list {
		for j, b := range list {
			b.Ladder = slices.Clone(b.Ladder)
			if got := impl.SameRules(a, b); got != (i == j) {
				t.Errorf("SameRules(%v, %v) = %v", a, b, got)
			}
		}
	}
}

func TestSameRulesOfNoKeys(t *testing.T) {
	none := impl.Rules{Win: 3, Draw: 1, Again: true}
	empty := impl.Rules{Win: 3, Draw: 1, Again: true, Ladder: []int{}}
	spare := impl.Rules{Win: 3, Draw: 1, Again: true, Ladder: []int{8, 1}[:0]}
	for _, a := range []impl.Rules{none, empty, spare} {
		for _, b := range []impl.Rules{none, empty, spare} {
			if !impl.SameRules(a, b) {
				t.Errorf("SameRules(%#v, %#v) = false", a, b)
			}
		}
		if impl.SameRules(a, impl.Rules{Win: 3, Draw: 1, Again: true, Ladder: []int{0}}) {
			t.Errorf("SameRules of %#v and a ladder with 0 = true", a)
		}
	}
}

// What is behind a ladder in its memory does not count, and neither it nor the ladder changes.
func TestRulesArgumentsStay(t *testing.T) {
	memory := append(allKeys(), 9, 0, -1)
	before := slices.Clone(memory)
	for n := range len(memory) + 1 {
		u := ladderRules(memory[:n]...)
		other := ladderRules(slices.Clone(memory[:n])...)
		if impl.RulesOk(u) != impl.RulesOk(other) || impl.FaultOf(u) != impl.FaultOf(other) || impl.IsDecisive(u) != impl.IsDecisive(other) {
			t.Errorf("the ladder %v and its copy differ", memory[:n])
		}
		if !impl.SameRules(u, other) || !impl.SameRules(other, u) {
			t.Errorf("SameRules of %v and its copy = false", u)
		}
	}
	if !slices.Equal(memory, before) {
		t.Errorf("the ladder became %v", memory)
	}
}
