package tests

import (
	"math"
	"slices"
	"strings"
	"testing"

	"loop.example/g00834/impl"
)

// fieldOf returns a valid field with these seeds, the teams spread over all associations.
func fieldOf(seeds ...int) []impl.Team {
	var list []impl.Team
	for i, s := range seeds {
		list = append(list, impl.Team{Name: "t" + impl.FormatInt(i), Club: i % impl.MaxClubs, Seed: s})
	}
	return list
}

// changed returns a copy of the field in which one team is another one.
func changed(list []impl.Team, at int, t impl.Team) []impl.Team {
	list = slices.Clone(list)
	list[at] = t
	return list
}

// brokenFields returns lists that are not valid, each for one reason.
func brokenFields() map[string][]impl.Team {
	whole := fieldOf(3, 1, 2)
	return map[string][]impl.Team{
		"nil":               nil,
		"empty":             {},
		"one team":          fieldOf(1),
		"nine teams":        fieldOf(1, 2, 3, 4, 5, 6, 7, 8, 9),
		"nine, equal seeds": fieldOf(1, 2, 3, 4, 5, 6, 7, 8, 8),
		"equal names":       changed(whole, 2, impl.Team{Name: "t0", Club: 2, Seed: 2}),
		"equal seeds":       changed(whole, 2, impl.Team{Name: "t2", Club: 2, Seed: 3}),
		"equal teams":       changed(whole, 2, whole[0]),
		"neighbours equal":  changed(whole, 1, whole[0]),
		"club -1":           changed(whole, 1, impl.Team{Name: "t1", Club: -1, Seed: 1}),
		"club MaxClubs":     changed(whole, 1, impl.Team{Name: "t1", Club: impl.MaxClubs, Seed: 1}),
		"least club":        changed(whole, 0, impl.Team{Name: "t0", Club: math.MinInt, Seed: 3}),
		"greatest club":     changed(whole, 2, impl.Team{Name: "t2", Club: math.MaxInt, Seed: 2}),
		"seed 0":            changed(whole, 1, impl.Team{Name: "t1", Club: 1, Seed: 0}),
		"seed MaxTeams + 1": changed(whole, 1, impl.Team{Name: "t1", Club: 1, Seed: impl.MaxTeams + 1}),
		"least seed":        changed(whole, 0, impl.Team{Name: "t0", Seed: math.MinInt}),
		"greatest seed":     changed(whole, 2, impl.Team{Name: "t2", Club: 2, Seed: math.MaxInt}),
		"empty name":        changed(whole, 0, impl.Team{Name: "", Seed: 3}),
		"name of nine":      changed(whole, 1, impl.Team{Name: "abcdefghi", Club: 1, Seed: 1}),
		"name with a digit": changed(whole, 2, impl.Team{Name: "2t", Club: 2, Seed: 2}),
		"zero teams":        make([]impl.Team, 3),
	}
}

func TestEntryLimits(t *testing.T) {
	if impl.MaxTeams != 8 || impl.MaxClubs != 6 {
		t.Errorf("limits are %d and %d", impl.MaxTeams, impl.MaxClubs)
	}
}

func TestTeamOk(t *testing.T) {
	numbers := []int{math.MinInt, math.MinInt + 1, math.MinInt32, -256, -8, -2, -1, 256, 257, 1 << 32, 1<<32 + 1, math.MaxInt - 1, math.MaxInt}
	for n := range 12 {
		numbers = append(numbers, n)
	}
	for _, club := range numbers {
		for _, seed := range numbers {
			want := club >= 0 && club <= 5 && seed >= 1 && seed <= 8
			if got := impl.TeamOk(impl.Team{Name: "a", Club: club, Seed: seed}); got != want {
				t.Errorf("TeamOk with the club %d and the seed %d = %v", club, seed, got)
			}
		}
	}
	for _, name := range []string{"a", "z9", "abcdefgh", "a1234567"} {
		if !impl.TeamOk(impl.Team{Name: name, Club: 5, Seed: 8}) {
			t.Errorf("TeamOk with the name %q = false", name)
		}
	}
	for _, name := range []string{"", "1a", "A", "aB", "a b", " a", "abcdefghi", "a\n", "a\x00", "\xff", "\u00e9", "a-b", strings.Repeat("a", 999)} {
		if impl.TeamOk(impl.Team{Name: name, Club: 0, Seed: 1}) {
			t.Errorf("TeamOk with the name %q = true", name)
		}
	}
	if impl.TeamOk(impl.Team{}) {
		t.Error("TeamOk of the zero value = true")
	}
}

// P1: the fields that are valid, from two teams to MaxTeams.
func TestFieldOkAccepts(t *testing.T) {
	seeds := []int{8, 1, 7, 2, 6, 3, 5, 4}
	for n := 2; n <= 8; n++ {
		if !impl.FieldOk(fieldOf(seeds[:n]...)) {
			t.Errorf("FieldOk of %d teams = false", n)
		}
	}
	sameClub := []impl.Team{{Name: "a", Club: 5, Seed: 8}, {Name: "b", Club: 5, Seed: 1}, {Name: "abcdefgh", Club: 5, Seed: 4}}
	if !impl.FieldOk(sameClub) {
		t.Error("FieldOk of teams of one association = false")
	}
	alike := []impl.Team{{Name: "a", Seed: 1}, {Name: "aa", Seed: 2}, {Name: "a1", Seed: 3}, {Name: "a2", Seed: 4}}
	if !impl.FieldOk(alike) {
		t.Error("FieldOk of names that begin alike = false")
	}
}

// P1: the fields that are not valid, and what asks for a valid one.
func TestBrokenFields(t *testing.T) {
	for label, list := range brokenFields() {
		if impl.FieldOk(list) {
			t.Errorf("%s: FieldOk = true", label)
		}
		if got := impl.SeedOrder(list); len(got) != 0 {
			t.Errorf("%s: SeedOrder = %v", label, got)
		}
		if got := impl.ClubsOf(list); got != 0 {
			t.Errorf("%s: ClubsOf = %d", label, got)
		}
		for _, club := range []int{-1, 0, 1, 2, 5, 6, math.MinInt, math.MaxInt} {
			if got := impl.OfClub(list, club); len(got) != 0 {
				t.Errorf("%s: OfClub %d = %v", label, club, got)
			}
		}
	}
}

// Each place of a field counts: the first and the last team are checked as the others are.
func TestFieldOkAtEachPlace(t *testing.T) {
	whole := fieldOf(1, 2, 3, 4, 5, 6, 7, 8)
	for i := range whole {
		for _, bad := range []impl.Team{
			{Name: "", Club: 0, Seed: i + 1}, {Name: "x", Club: -1, Seed: i + 1}, {Name: "x", Club: 6, Seed: i + 1},
			{Name: "x", Club: 0, Seed: 0}, {Name: "x", Club: 0, Seed: 9},
		} {
			if impl.FieldOk(changed(whole, i, bad)) {
				t.Errorf("FieldOk with %v at %d = true", bad, i)
			}
		}
		for j := range whole {
			if j == i {
				continue
			}
			if impl.FieldOk(changed(whole, i, impl.Team{Name: whole[j].Name, Seed: i + 1})) {
				t.Errorf("FieldOk with the name of %d at %d = true", j, i)
			}
			if impl.FieldOk(changed(whole, i, impl.Team{Name: "x", Seed: j + 1})) {
				t.Errorf("FieldOk with the seed of %d at %d = true", j, i)
			}
		}
	}
}

// listsOver returns all lists of at most size elements of pool.
func listsOver[T any](pool []T, size int) [][]T {
	lists := [][]T{nil}
	last := lists
	for range size {
		var next [][]T
		for _, l := range last {
			for _, x := range pool {
				next = append(next, append(slices.Clone(l), x))
			}
		}
		lists = append(lists, next...)
		last = next
	}
	return lists
}

// plainFieldOk compares each two teams: a second way to FieldOk for lists that are short enough.
func plainFieldOk(list []impl.Team) bool {
	for i, a := range list {
		for _, b := range list[:i] {
			if a.Name == b.Name || a.Seed == b.Seed {
				return false
			}
		}
		if !impl.TeamOk(a) {
			return false
		}
	}
	return len(list) >= 2
}

func TestFieldsAgainstPairs(t *testing.T) {
	pool := []impl.Team{
		{Name: "a", Club: 0, Seed: 1}, {Name: "a", Club: 1, Seed: 2}, {Name: "b", Club: 1, Seed: 1}, {Name: "b", Club: 0, Seed: 3},
		{Name: "c", Club: 5, Seed: 8}, {Name: "d", Club: 1, Seed: 4}, {Name: "e", Club: 6, Seed: 5}, {Name: "f", Club: 0, Seed: 9},
	}
	for _, list := range listsOver(pool, 4) {
		ok := plainFieldOk(list)
		if impl.FieldOk(list) != ok {
			t.Fatalf("FieldOk(%v) = %v", list, !ok)
		}
		checkSeedOrder(t, list, ok)
		checkClubs(t, list, ok)
		checkNames(t, list)
	}
}

func checkSeedOrder(t *testing.T, list []impl.Team, ok bool) {
	t.Helper()
	var want []int
	for seed := 1; ok && seed <= 8; seed++ {
		for i, x := range list {
			if x.Seed == seed {
				want = append(want, i)
			}
		}
	}
	if got := impl.SeedOrder(list); !slices.Equal(got, want) {
		t.Fatalf("SeedOrder(%v) = %v, want %v", list, got, want)
	}
}

func checkClubs(t *testing.T, list []impl.Team, ok bool) {
	t.Helper()
	count := 0
	for club := -1; club <= 7; club++ {
		var want []int
		for i, x := range list {
			if ok && x.Club == club {
				want = append(want, i)
			}
		}
		if len(want) > 0 {
			count++
		}
		if got := impl.OfClub(list, club); !slices.Equal(got, want) {
			t.Fatalf("OfClub(%v, %d) = %v, want %v", list, club, got, want)
		}
	}
	if got := impl.ClubsOf(list); got != count {
		t.Fatalf("ClubsOf(%v) = %d, want %d", list, got, count)
	}
}

func checkNames(t *testing.T, list []impl.Team) {
	t.Helper()
	for _, name := range []string{"a", "b", "c", "d", "e", "f", "g", ""} {
		want := slices.IndexFunc(list, func(x impl.Team) bool { return x.Name == name })
		if got := impl.TeamNamed(list, name); got != want {
			t.Fatalf("TeamNamed(%v, %q) = %d, want %d", list, name, got, want)
		}
	}
}

func TestTeamNamed(t *testing.T) {
	list := []impl.Team{
		{Name: "b", Club: 3, Seed: 2}, {Name: "a", Club: 1, Seed: 1}, {Name: "b", Club: 3, Seed: 2}, {Name: "a"},
		{Name: "", Seed: -4}, {Name: "B", Club: 99}, {Name: "a", Club: 1, Seed: 1}, {Name: "b\x00"}, {Name: "\xff"}, {Name: ""},
	}
	cases := []struct {
		name string
		want int
	}{
		{"b", 0}, {"a", 1}, {"", 4}, {"B", 5}, {"b\x00", 7}, {"\xff", 8}, {"\xfe", -1}, {"\ufffd", -1}, {"A", -1}, {"aa", -1}, {" a", -1}, {"a ", -1},
	}
	for _, c := range cases {
		if got := impl.TeamNamed(list, c.name); got != c.want {
			t.Errorf("TeamNamed(list, %q) = %d, want %d", c.name, got, c.want)
		}
	}
	for _, name := range []string{"", "a"} {
		if impl.TeamNamed(nil, name) != -1 || impl.TeamNamed([]impl.Team{}, name) != -1 {
			t.Errorf("TeamNamed of no teams, %q, is not -1", name)
		}
	}
	if impl.TeamNamed([]impl.Team{{}}, "") != 0 || impl.TeamNamed([]impl.Team{{}}, "a") != -1 {
		t.Error("TeamNamed of the zero team")
	}
}

// The first of many different teams with one name is found each time, whatever order a map gives them in.
func TestTeamNamedFirstOfMany(t *testing.T) {
	list := []impl.Team{{Name: "other"}}
	for i := range 500 {
		list = append(list, impl.Team{Name: "same", Club: 250 - i, Seed: i})
	}
	list = append(list, impl.Team{Name: "last"}, impl.Team{Name: "other"}, impl.Team{Name: "same", Club: 250})
	for range 50 {
		if got := impl.TeamNamed(list, "same"); got != 1 {
			t.Fatalf("TeamNamed of 500 equal names = %d", got)
		}
		if impl.TeamNamed(list, "other") != 0 || impl.TeamNamed(list, "last") != 501 || impl.TeamNamed(list, "none") != -1 {
			t.Fatal("TeamNamed beside 500 equal names")
		}
	}
}

// ordersOf returns all orders of the numbers from 0 up to n.
func ordersOf(n int) [][]int {
	if n == 0 {
		return [][]int{{}}
	}
	var all [][]int
	for _, shorter := range ordersOf(n - 1) {
		for at := range n {
			all = append(all, slices.Insert(slices.Clone(shorter), at, n-1))
		}
	}
	return all
}

func TestSeedOrderOfEachOrder(t *testing.T) {
	for _, order := range ordersOf(impl.MaxTeams) {
		list := make([]impl.Team, impl.MaxTeams)
		for i, at := range order {
			list[at] = impl.Team{Name: "n" + impl.FormatInt(9-at), Club: at % 3, Seed: i + 1}
		}
		if got := impl.SeedOrder(list); !slices.Equal(got, order) {
			t.Fatalf("SeedOrder(%v) = %v, want %v", list, got, order)
		}
	}
}

func TestSeedOrderWithGaps(t *testing.T) {
	cases := []struct {
		seeds []int
		want  []int
	}{
		{[]int{8, 1}, []int{1, 0}}, {[]int{1, 8}, []int{0, 1}}, {[]int{5, 7, 3}, []int{2, 0, 1}}, {[]int{2, 8, 6, 4}, []int{0, 3, 2, 1}},
	}
	for _, c := range cases {
		if got := impl.SeedOrder(fieldOf(c.seeds...)); !slices.Equal(got, c.want) {
			t.Errorf("SeedOrder of the seeds %v = %v, want %v", c.seeds, got, c.want)
		}
	}
}

func TestClubs(t *testing.T) {
	list := fieldOf(8, 7, 6, 5, 4, 3, 2, 1)
	want := [][]int{{0, 6}, {1, 7}, {2}, {3}, {4}, {5}}
	for club := range want {
		if got := impl.OfClub(list, club); !slices.Equal(got, want[club]) {
			t.Errorf("OfClub %d = %v, want %v", club, got, want[club])
		}
	}
	for _, club := range []int{math.MinInt, -1, 6, 7, 256, 1 << 32, math.MaxInt} {
		if got := impl.OfClub(list, club); len(got) != 0 {
			t.Errorf("OfClub %d = %v", club, got)
		}
	}
	if got := impl.ClubsOf(list); got != 6 {
		t.Errorf("ClubsOf eight teams = %d", got)
	}
	one := []impl.Team{{Name: "a", Club: 5, Seed: 2}, {Name: "b", Club: 5, Seed: 1}}
	if impl.ClubsOf(one) != 1 || !slices.Equal(impl.OfClub(one, 5), []int{0, 1}) || len(impl.OfClub(one, 0)) != 0 {
		t.Error("one association")
	}
}

func TestIsOrderAccepts(t *testing.T) {
	for n := range impl.MaxTeams + 1 {
		for _, order := range ordersOf(n) {
			if !impl.IsOrder(n, order) {
				t.Fatalf("IsOrder(%d, %v) = false", n, order)
			}
		}
	}
	if !impl.IsOrder(0, nil) {
		t.Error("IsOrder(0, nil) = false")
	}
}

func TestIsOrderRejects(t *testing.T) {
	all := []int{7, 0, 6, 1, 5, 2, 4, 3}
	cases := []struct {
		n     int
		order []int
	}{
		{-1, nil}, {-1, []int{}}, {-1, []int{-1}}, {-1, []int{0}}, {math.MinInt, nil}, {math.MaxInt, nil}, {math.MaxInt, all},
		{9, nil}, {9, []int{8, 7, 6, 5, 4, 3, 2, 1, 0}}, {10, []int{0, 1, 2, 3, 4, 5, 6, 7, 8, 9}}, {9, all},
		{0, []int{0}}, {0, []int{-1}}, {0, []int{7}}, {1, nil}, {1, []int{1}}, {1, []int{-1}}, {1, []int{0, 0}}, {1, []int{0, 1}},
		{2, []int{1, 2}}, {2, []int{0}}, {2, []int{0, 1, 2}}, {2, []int{0, 1, 5}}, {2, []int{-1, 0, 1}}, {2, []int{0, 1, 1}}, {3, []int{0, 1, 1}},
		{3, []int{0, 1, math.MaxInt}}, {3, []int{math.MinInt, 1, 2}}, {3, []int{0, 1, 1 << 32}}, {3, []int{0, 1, -2}},
		{8, all[:7]}, {8, append(slices.Clone(all), 8)}, {8, append(slices.Clone(all), 0)}, {7, all},
	}
	for _, c := range cases {
		if impl.IsOrder(c.n, c.order) {
			t.Errorf("IsOrder(%d, %v) = true", c.n, c.order)
		}
	}
	for at := range all {
		for _, x := range []int{-1, 8, 9, 64, math.MinInt, math.MaxInt, all[(at+1)%8]} {
			order := slices.Clone(all)
			order[at] = x
			if impl.IsOrder(8, order) {
				t.Errorf("IsOrder(8, %v) = true", order)
			}
		}
	}
}

func TestIsOrderAgainstOrders(t *testing.T) {
	for n := -1; n <= 4; n++ {
		var orders [][]int
		if n >= 0 {
			orders = ordersOf(n)
		}
		for _, l := range listsOver([]int{-1, 0, 1, 2, 3, 4, 5}, 5) {
			want := slices.ContainsFunc(orders, func(o []int) bool { return slices.Equal(o, l) })
			if impl.IsOrder(n, l) != want {
				t.Fatalf("IsOrder(%d, %v) = %v", n, l, !want)
			}
		}
	}
}

func TestPlaceOf(t *testing.T) {
	cases := []struct {
		order []int
		team  int
		want  int
	}{
		{nil, 0, -1}, {[]int{}, 0, -1}, {nil, -1, -1}, {[]int{0}, 0, 0}, {[]int{0}, 1, -1},
		{[]int{4, 7}, 7, 1}, {[]int{4, 7}, 4, 0}, {[]int{4, 7}, 1, -1}, {[]int{4, 7}, -1, -1},
		{[]int{3, 5, 3, 5, 5}, 5, 1}, {[]int{3, 5, 3}, 3, 0}, {[]int{2, 2, 2}, 2, 0}, {[]int{1, 2, 3, 3}, 3, 2},
		{[]int{-1, -1}, -1, 0}, {[]int{5, -7, 900}, -7, 1}, {[]int{5, -7, 900}, 900, 2},
		{[]int{math.MaxInt, math.MinInt}, math.MinInt, 1}, {[]int{math.MaxInt, math.MinInt}, math.MaxInt, 0},
		{[]int{math.MinInt, 1 << 32}, 0, -1}, {[]int{9, 8, 7, 6, 5, 4, 3, 2, 1, 0}, 0, 9},
	}
	for _, c := range cases {
		if got := impl.PlaceOf(c.order, c.team); got != c.want {
			t.Errorf("PlaceOf(%v, %d) = %d, want %d", c.order, c.team, got, c.want)
		}
	}
}

// Neither the teams nor the spare capacity behind them may change.
func TestEntryArgumentsStay(t *testing.T) {
	whole := fieldOf(8, 7, 6, 5, 4, 3, 2, 1)
	before := slices.Clone(whole)
	for n := range len(whole) + 1 {
		list := whole[:n]
		impl.FieldOk(list)
		impl.TeamNamed(list, "t1")
		impl.SeedOrder(list)
		impl.OfClub(list, 1)
		impl.ClubsOf(list)
	}
	if !slices.Equal(whole, before) {
		t.Errorf("the field became %v", whole)
	}
	order := []int{2, 0, 1, 9, 9}
	impl.IsOrder(3, order[:3])
	impl.IsOrder(4, order[:3])
	impl.PlaceOf(order[:3], 9)
	if !slices.Equal(order, []int{2, 0, 1, 9, 9}) {
		t.Errorf("the order became %v", order)
	}
}

// An indexCall is a call that returns a list of indices, and what it has to return.
type indexCall struct {
	call func() []int
	want []int
}

// checkNewResults does what checkNewList does for each call.
func checkNewResults(t *testing.T, calls ...indexCall) {
	t.Helper()
	for _, c := range calls {
		checkNewList(t, c.call, c.want, 77)
	}
}

// checkNewList writes into a result of the call and behind it, which no other result may show.
func checkNewList[T comparable](t *testing.T, call func() []T, want []T, written T) {
	t.Helper()
	first := call()
	other := call()
	clear(first)
	_ = append(first, written)
	if !slices.Equal(other, want) || !slices.Equal(call(), want) {
		t.Errorf("after a change of its result, a call returns %v, want %v", call(), want)
	}
}

// Results are new at each call: a caller may write into them.
func TestEntryResultsAreNew(t *testing.T) {
	list := fieldOf(2, 3, 1)
	list[2].Club = 0
	checkNewResults(t,
		indexCall{func() []int { return impl.SeedOrder(list) }, []int{2, 0, 1}},
		indexCall{func() []int { return impl.OfClub(list, 0) }, []int{0, 2}},
	)
}
