package tests

import (
	"math"
	"slices"
	"sync"
	"testing"

	"loop.example/g00834/impl"
)

// lineMap returns the map of teams that live on one road, at these kilometres.
func lineMap(places ...int) impl.Map {
	m := impl.Map{Size: len(places)}
	for _, a := range places {
		for _, b := range places {
			m.Km = append(m.Km, max(a-b, b-a))
		}
	}
	return m
}

// evenMap returns a map of n teams with the same distance between each two of them.
func evenMap(n int, km int) impl.Map {
	m := impl.Map{Size: n, Km: make([]int, n*n)}
	for at := range m.Km {
		if at/n != at%n {
			m.Km[at] = km
		}
	}
	return m
}

// townMap has four teams without a road in common: 0 and 1 are near each other, 3 is far from all of them.
func townMap() impl.Map {
	return impl.Map{Size: 4, Km: []int{
		0, 3, 20, 50,
		3, 0, 18, 49,
		20, 18, 0, 37,
		50, 49, 37, 0,
	}}
}

// withKm returns a map that has another distance at one place, in one direction only.
func withKm(m impl.Map, a int, b int, km int) impl.Map {
	m.Km = slices.Clone(m.Km)
	m.Km[a*m.Size+b] = km
	return m
}

// withRoad returns a map that has another distance between two teams, in both directions.
func withRoad(m impl.Map, a int, b int, km int) impl.Map {
	return withKm(withKm(m, a, b, km), b, a, km)
}

// shortest returns the distances of the shortest ways over any number of teams.
func shortest(m impl.Map) []int {
	km := slices.Clone(m.Km)
	for third := range m.Size {
		for a := range m.Size {
			for b := range m.Size {
				km[a*m.Size+b] = min(km[a*m.Size+b], km[a*m.Size+third]+km[third*m.Size+b])
			}
		}
	}
	return km
}

// plainMap compares the distances with those of the shortest ways: a second way to MapOk.
func plainMap(m impl.Map) bool {
	if m.Size < 2 || m.Size > 8 || len(m.Km) != m.Size*m.Size {
		return false
	}
	for _, km := range m.Km {
		if km < 0 || km > 5000 {
			return false
		}
	}
	for a, row := 0, m.Km; a < m.Size; a, row = a+1, row[m.Size:] {
		var column []int
		for at := a; at < len(m.Km); at += m.Size {
			column = append(column, m.Km[at])
		}
		if row[a] != 0 || !slices.Equal(row[:m.Size], column) {
			return false
		}
	}
	return slices.Equal(m.Km, shortest(m))
}

// plainDistance takes the distance from a row: a second way to DistanceOf.
func plainDistance(m impl.Map, a int, b int) int {
	if !plainMap(m) || min(a, b) < 0 || max(a, b) >= m.Size {
		return -1
	}
	return slices.Collect(slices.Chunk(m.Km, m.Size))[a][b]
}

// plainTrip lists the places of a team first, without its byes, and adds the distances then: a second way to TripOf.
func plainTrip(m impl.Map, rounds [][]impl.Pair, team int) int {
	if !plainMap(m) || !plainSchedule(m.Size, rounds) || team < 0 || team >= m.Size {
		return -1
	}
	places := []int{team}
	for r, venue := range plainVenues(rounds, team) {
		switch venue {
		case 1:
			places = append(places, team)
		case 2:
			teams := teamsIn(rounds[r])
			places = append(places, teams[slices.Index(teams, team)-1])
		}
	}
	km := 0
	for i, place := range places {
		km += plainDistance(m, place, places[(i+1)%len(places)])
	}
	return km
}

// plainTravel adds the trips of all teams: a second way to TotalTravel.
func plainTravel(m impl.Map, rounds [][]impl.Pair) int {
	if !plainMap(m) || !plainSchedule(m.Size, rounds) {
		return -1
	}
	total := 0
	for team := range m.Size {
		total += plainTrip(m, rounds, team)
	}
	return total
}

// plainFloor goes through the games of each team: a second way to TravelFloor.
func plainFloor(m impl.Map, rounds [][]impl.Pair) int {
	if !plainMap(m) || !plainSchedule(m.Size, rounds) {
		return -1
	}
	total := 0
	for team := range m.Size {
		ways := []int{0}
		for _, p := range slices.Concat(rounds...) {
			if p.Away == team {
				ways = append(ways, plainDistance(m, p.Home, team), plainDistance(m, team, p.Home))
			}
		}
		total += 2 * slices.Max(ways)
	}
	return total
}

// plainReorder compares the sorted order with the numbers of the rounds: a second way to ReorderRounds.
func plainReorder(rounds [][]impl.Pair, order []int) ([][]impl.Pair, bool) {
	if !slices.Equal(slices.Sorted(slices.Values(order)), daysTo(0, len(rounds)-1)) {
		return nil, false
	}
	var other [][]impl.Pair
	for _, r := range order {
		other = append(other, rounds[r])
	}
	return other, true
}

// plainBest looks at all orders, the greatest one first: a second way to BestOrder.
func plainBest(m impl.Map, rounds [][]impl.Pair) ([]int, int, bool) {
	if !plainMap(m) || !plainSchedule(m.Size, rounds) || len(rounds) > 5 {
		return nil, 0, false
	}
	all := ordersOf(len(rounds))
	slices.SortFunc(all, func(a []int, b []int) int { return slices.Compare(b, a) })
	best, least := all[0], math.MaxInt
	for _, order := range all {
		other, _ := plainReorder(rounds, order)
		if km := plainTravel(m, other); km <= least {
			best, least = order, km
		}
	}
	return best, least, true
}

// checkMap compares MapOk, and DistanceOf for all teams.
func checkMap(t *testing.T, m impl.Map, want bool) {
	t.Helper()
	if got := impl.MapOk(m); got != want {
		t.Fatalf("MapOk(%v) = %v, want %v", m, got, want)
	}
	if !want && (impl.DistanceOf(m, 0, 1) != -1 || impl.DistanceOf(m, 0, 0) != -1) {
		t.Fatalf("DistanceOf on the map %v is not -1", m)
	}
}

// checkNoTravel checks that a map or rounds are not valid for any of the functions that travel.
func checkNoTravel(t *testing.T, m impl.Map, rounds [][]impl.Pair) {
	t.Helper()
	for _, team := range withEdges(-2, 9) {
		checkTrip(t, m, rounds, team, -1)
	}
	checkTravel(t, m, rounds, -1, -1)
	checkBestOrder(t, m, rounds, nil, 0, false)
}

func checkTrip(t *testing.T, m impl.Map, rounds [][]impl.Pair, team int, want int) {
	t.Helper()
	if got := impl.TripOf(m, rounds, team); got != want {
		t.Fatalf("TripOf(%v, %v, %d) = %d, want %d", m, rounds, team, got, want)
	}
}

// checkTravel compares TotalTravel and TravelFloor.
func checkTravel(t *testing.T, m impl.Map, rounds [][]impl.Pair, travel int, floor int) {
	t.Helper()
	if got := impl.TotalTravel(m, rounds); got != travel {
		t.Fatalf("TotalTravel(%v, %v) = %d, want %d", m, rounds, got, travel)
	}
	if got := impl.TravelFloor(m, rounds); got != floor {
		t.Fatalf("TravelFloor(%v, %v) = %d, want %d", m, rounds, got, floor)
	}
}

func checkReorder(t *testing.T, rounds [][]impl.Pair, order []int, want [][]impl.Pair, ok bool) {
	t.Helper()
	got, fine := impl.ReorderRounds(rounds, order)
	if fine != ok || !sameRounds(got, want) {
		t.Fatalf("ReorderRounds(%v, %v) = %v, %v, want %v, %v", rounds, order, got, fine, want, ok)
	}
}

func checkBestOrder(t *testing.T, m impl.Map, rounds [][]impl.Pair, want []int, length int, ok bool) {
	t.Helper()
	got, km, fine := impl.BestOrder(m, rounds)
	if fine != ok || km != length || !slices.Equal(got, want) {
		t.Fatalf("BestOrder(%v, %v) = %v, %d, %v, want %v, %d, %v", m, rounds, got, km, fine, want, length, ok)
	}
}

// checkJourney compares the functions of a map and rounds with the second ways.
func checkJourney(t *testing.T, m impl.Map, rounds [][]impl.Pair) {
	t.Helper()
	checkMap(t, m, plainMap(m))
	for team := -1; team <= 8; team++ {
		checkTrip(t, m, rounds, team, plainTrip(m, rounds, team))
	}
	checkTravel(t, m, rounds, plainTravel(m, rounds), plainFloor(m, rounds))
	order, km, ok := plainBest(m, rounds)
	checkBestOrder(t, m, rounds, order, km, ok)
}

func TestMapOk(t *testing.T) {
	const least, greatest = math.MinInt, math.MaxInt
	cases := []struct {
		m    impl.Map
		want bool
	}{
		{impl.Map{}, false}, {impl.Map{Size: 2}, false}, {impl.Map{Size: 2, Km: []int{}}, false}, {townMap(), true}, {lineMap(0, 10, 20), true}, {lineMap(20, 0, 10, 5000, 1), true},
		{impl.Map{Size: 2, Km: []int{0, 7, 7, 0}}, true}, {impl.Map{Size: 2, Km: []int{0, 0, 0, 0}}, true}, {impl.Map{Size: 2, Km: []int{0, 5000, 5000, 0}}, true}, {impl.Map{Size: 2, Km: []int{0, 5001, 5001, 0}}, false},
		{impl.Map{Size: 2, Km: []int{0, 1, 2, 0}}, false}, {impl.Map{Size: 2, Km: []int{0, 2, 1, 0}}, false}, {impl.Map{Size: 2, Km: []int{1, 2, 2, 0}}, false}, {impl.Map{Size: 2, Km: []int{0, 2, 2, 1}}, false}, {impl.Map{Size: 2, Km: []int{1, 1, 1, 1}}, false},
		{impl.Map{Size: 2, Km: []int{0, -1, -1, 0}}, false}, {impl.Map{Size: 2, Km: []int{0, greatest, greatest, 0}}, false}, {impl.Map{Size: 2, Km: []int{0, least, least, 0}}, false}, {impl.Map{Size: 2, Km: []int{0, 1 << 32, 1 << 32, 0}}, false},
		{impl.Map{Size: 2, Km: []int{0, 7, 7}}, false}, {impl.Map{Size: 2, Km: []int{0, 7, 7, 0, 0}}, false}, {impl.Map{Size: 2, Km: []int{0, 7, 7, 0, 1, 2}[:4]}, true},
		{impl.Map{Size: 3, Km: []int{0, 7, 7, 0}}, false}, {impl.Map{Size: 4, Km: make([]int, 9)}, false}, {impl.Map{Size: 3, Km: make([]int, 16)}, false},
		{impl.Map{Size: 1, Km: []int{0}}, false}, {impl.Map{Size: -1, Km: []int{0}}, false}, {impl.Map{Size: -2, Km: []int{0, 7, 7, 0}}, false}, {impl.Map{Size: 9, Km: make([]int, 81)}, false}, {impl.Map{Size: 8, Km: make([]int, 64)}, true},
		// The square of these numbers wraps around to 0 or 1.
		{impl.Map{Size: 1 << 32}, false}, {impl.Map{Size: least}, false}, {impl.Map{Size: -1 << 32}, false}, {impl.Map{Size: greatest, Km: []int{0}}, false}, {impl.Map{Size: least + 1, Km: []int{0}}, false},
		// The way from 0 to 2 may be as long as the one over 1, but no longer.
		{impl.Map{Size: 3, Km: []int{0, 10, 20, 10, 0, 10, 20, 10, 0}}, true}, {impl.Map{Size: 3, Km: []int{0, 10, 21, 10, 0, 10, 21, 10, 0}}, false}, {impl.Map{Size: 3, Km: []int{0, 10, 19, 10, 0, 10, 19, 10, 0}}, true},
		{impl.Map{Size: 3, Km: []int{0, 2500, 5000, 2500, 0, 2500, 5000, 2500, 0}}, true}, {impl.Map{Size: 3, Km: []int{0, 2500, 5000, 2500, 0, 2499, 5000, 2499, 0}}, false},
		// Two teams at one place are equally far from a third one.
		{impl.Map{Size: 3, Km: []int{0, 0, 9, 0, 0, 9, 9, 9, 0}}, true}, {impl.Map{Size: 3, Km: []int{0, 0, 9, 0, 0, 8, 9, 8, 0}}, false},
	}
	for _, c := range cases {
		checkMap(t, c.m, c.want)
		if plainMap(c.m) != c.want {
			t.Errorf("plainMap(%v) = %v", c.m, !c.want)
		}
	}
}

// Every size with every length of the list of distances; all of these distances are 0.
func TestMapOkSizes(t *testing.T) {
	for _, size := range withEdges(-9, 10) {
		for length := range 102 {
			want := size >= 2 && size <= 8 && length == size*size
			checkMap(t, impl.Map{Size: size, Km: make([]int, length)}, want)
		}
	}
	checkMap(t, impl.Map{Size: 8, Km: make([]int, 100000)}, false)
	checkMap(t, impl.Map{Size: 300, Km: make([]int, 90000)}, false)
}

// Each distance of a map that is valid is changed, to the edges of what there may be.
func TestMapOkAtEachDistance(t *testing.T) {
	for size := 2; size <= impl.MaxTeams; size++ {
		m := evenMap(size, 4000)
		checkMap(t, m, true)
		for a := range size {
			for b := range size {
				for _, km := range withEdges(-1, 2) {
					checkMap(t, withKm(m, a, b, km), a == b && km == 0)
				}
				for _, km := range []int{-1, 0, 1, 3999, 4000, 4001, 4999, 5000, 5001, math.MaxInt, math.MinInt} {
					one, both := withKm(m, a, b, km), withRoad(m, a, b, km)
					if a == b {
						checkMap(t, one, km == 0)
						continue
					}
					checkMap(t, one, km == 4000)
					// A distance of 0 to one team makes both of them equally far from each other one, which they are.
					checkMap(t, both, km >= 0 && km <= 5000)
				}
			}
		}
	}
}

// Each distance of a map is as great as the way over each third team, or greater by 1.
func TestMapOkOverEachThirdTeam(t *testing.T) {
	for size := 3; size <= impl.MaxTeams; size++ {
		for a := range size {
			for b := range size {
				for third := range size {
					if a == b || a == third || b == third {
						continue
					}
					m := withRoad(withRoad(evenMap(size, 1500), a, third, 1000), third, b, 1200)
					for km, want := range map[int]bool{2200: true, 2201: false, 2199: true, 200: true, 199: false, 201: true} {
						checkMap(t, withRoad(m, a, b, km), want)
					}
				}
			}
		}
	}
}

// P9: all maps of two and three teams over small numbers, and all symmetric ones of four teams.
func TestMapOkAgainstSecondWay(t *testing.T) {
	found := map[bool]int{}
	check := func(m impl.Map) {
		found[plainMap(m)]++
		checkMap(t, m, plainMap(m))
	}
	for _, km := range listsOver([]int{-1, 0, 1, 2, 5000, 5001}, 5) {
		check(impl.Map{Size: 2, Km: km})
	}
	for _, km := range listsOver([]int{0, 1, 2}, 6) {
		if len(km) == 6 {
			check(impl.Map{Size: 3, Km: []int{0, km[0], km[1], km[2], 0, km[3], km[4], km[5], 0}})
		}
	}
	for _, km := range listsOver([]int{0, 1, 2, 3}, 6) {
		if len(km) == 6 {
			check(impl.Map{Size: 4, Km: []int{0, km[0], km[1], km[2], km[0], 0, km[3], km[4], km[1], km[3], 0, km[5], km[2], km[4], km[5], 0}})
		}
	}
	if found[true] < 500 || found[false] < 500 {
		t.Errorf("%d maps are valid and %d are not", found[true], found[false])
	}
}

func TestDistanceOf(t *testing.T) {
	rows := [][]int{{0, 3, 20, 50}, {3, 0, 18, 49}, {20, 18, 0, 37}, {50, 49, 37, 0}}
	for _, a := range withEdges(-2, 6) {
		for _, b := range withEdges(-2, 6) {
			want := -1
			if a >= 0 && a < 4 && b >= 0 && b < 4 {
				want = rows[a][b]
			}
			if got := impl.DistanceOf(townMap(), a, b); got != want {
				t.Errorf("DistanceOf(%d, %d) = %d, want %d", a, b, got, want)
			}
			if impl.DistanceOf(withKm(townMap(), 3, 2, 38), a, b) != -1 || impl.DistanceOf(impl.Map{}, a, b) != -1 || impl.DistanceOf(impl.Map{Size: 4}, a, b) != -1 {
				t.Errorf("DistanceOf(%d, %d) on a map that is not valid is not -1", a, b)
			}
		}
	}
}

func TestDistanceOfEachSize(t *testing.T) {
	places := []int{700, 0, 5000, 33, 33, 2000, 4999, 1}
	for size := range len(places) + 1 {
		for a := -1; a <= size; a++ {
			for b := -1; b <= size; b++ {
				want := -1
				if size >= 2 && a >= 0 && b >= 0 && a < size && b < size {
					want = max(places[a]-places[b], places[b]-places[a])
				}
				if got := impl.DistanceOf(lineMap(places[:size]...), a, b); got != want {
					t.Errorf("DistanceOf(%d, %d) of %d teams = %d, want %d", a, b, size, got, want)
				}
			}
		}
	}
}

// The trips of the team 0 on the townMap, with its ways of 3, 20 and 50.
func TestTripOf(t *testing.T) {
	cases := []struct {
		rounds string
		want   int
	}{
		{"01", 0}, {"10", 6}, {"20", 40}, {"30", 100}, {"12", 0}, {"23", 0}, {"", 0},
		// Only at home, and only away.
		{"01, 02, 03", 0}, {"01 23, 02 31, 03 12, 01 23", 0}, {"10, 20, 30", 3 + 18 + 37 + 50}, {"30, 10, 20", 50 + 49 + 18 + 20}, {"10, 10, 10", 6}, {"10, 20, 10", 3 + 18 + 18 + 3}, {"23 10, 31 20", 3 + 18 + 20},
		// At home between two games away, the team is at home in between.
		{"10, 01, 10", 12}, {"10, 02, 20", 6 + 40}, {"10, 20, 03, 30", 3 + 18 + 20 + 100}, {"01, 10", 6}, {"10, 01", 6}, {"02, 20, 02", 40}, {"01, 02, 30, 03", 100},
		// In a bye it stays where it is: between two games, at the beginning and at the end.
		{"10, 23, 10", 6}, {"10, , 20", 3 + 18 + 20}, {"10, 23, 20", 3 + 18 + 20}, {"20, 13, , 10", 20 + 18 + 3}, {", 10", 6}, {"23, 10", 6}, {"10, ", 6}, {"10, 23", 6}, {"10, 23, , 23", 6}, {"20, , , 02, , 20, ", 80}, {"01, , 30", 100}, {"30, , 01", 100}, {", , ", 0},
		// Where the opponents travel does not matter.
		{"10 32, 20 31", 3 + 18 + 20}, {"23 10, 13 20", 3 + 18 + 20}, {"32 01, 31 02, 21 03", 0},
	}
	for _, c := range cases {
		checkTrip(t, townMap(), roundsOf(c.rounds), 0, c.want)
		if got := plainTrip(townMap(), roundsOf(c.rounds), 0); got != c.want {
			t.Errorf("plainTrip(%q) = %d", c.rounds, got)
		}
	}
	for _, m := range []impl.Map{townMap(), evenMap(2, 9), evenMap(8, 5000)} {
		for _, team := range withEdges(-2, 9) {
			for _, rounds := range [][][]impl.Pair{nil, {}, {nil}, {nil, {}}, make([][]impl.Pair, 14)} {
				want := -1
				if team >= 0 && team < m.Size {
					want = 0
				}
				checkTrip(t, m, rounds, team, want)
			}
		}
	}
}

// Every team has its own trip, in the same rounds.
func TestTripOfEachTeam(t *testing.T) {
	rounds := roundsOf("30 12, 13 20, 32 01")
	for team, want := range map[int]int{0: 50 + 37 + 20, 1: 6, 2: 18 + 18 + 37 + 37, 3: 98, -1: -1, 4: -1, math.MinInt: -1, math.MaxInt: -1, 1 << 32: -1, 256: -1} {
		checkTrip(t, townMap(), rounds, team, want)
	}
	// The team 3 never plays, but it exists.
	for team, want := range []int{6, 36, 40, 0, -1} {
		checkTrip(t, townMap(), roundsOf("10, 21, 02"), team, want)
	}
	for team, want := range []int{-1, -1, -1, -1} {
		checkTrip(t, lineMap(0, 10, 20), rounds, team, want)
	}
}

func TestNoTravel(t *testing.T) {
	valid := roundsOf("30 12, 13 20, 32 01")
	for _, rounds := range [][][]impl.Pair{valid, nil, {nil, nil}, valid[:1]} {
		for _, m := range []impl.Map{
			{}, {Size: 4}, {Km: townMap().Km}, {Size: 3, Km: townMap().Km}, {Size: 5, Km: townMap().Km}, {Size: -4, Km: townMap().Km}, {Size: 4, Km: townMap().Km[:15]}, {Size: 4, Km: append(townMap().Km, 0)}, {Size: 9, Km: make([]int, 81)}, {Size: 1, Km: make([]int, 1)}, {Size: 1 << 32}, {Size: math.MinInt}, {Size: math.MaxInt, Km: []int{0}},
			withKm(townMap(), 2, 2, 1), withKm(townMap(), 0, 1, 4), withRoad(townMap(), 0, 3, 53), withRoad(townMap(), 0, 1, -1), evenMap(4, 5001), evenMap(4, math.MaxInt), evenMap(4, math.MinInt),
		} {
			checkNoTravel(t, m, rounds)
		}
	}
	for _, text := range []string{"00", "01 12", "01 10", "01 01", "04", "40", "01, 44", "01, 12, 23 34", "30 12, 13 20, 32 02", "01 23 13", ", , 77"} {
		checkNoTravel(t, townMap(), roundsOf(text))
	}
	for _, x := range withEdges(4, 9) {
		checkNoTravel(t, townMap(), [][]impl.Pair{pairsOf(x, 0)})
		checkNoTravel(t, townMap(), [][]impl.Pair{{}, pairsOf(1, 2), pairsOf(0, x)})
		checkNoTravel(t, townMap(), [][]impl.Pair{pairsOf(x, x)})
	}
	checkNoTravel(t, townMap(), [][]impl.Pair{pairsOf(-1, 0)})
	checkNoTravel(t, townMap(), slices.Repeat(valid, 5))
	checkNoTravel(t, townMap(), make([][]impl.Pair, 15))
	checkNoTravel(t, townMap(), make([][]impl.Pair, 100000))
	checkNoTravel(t, townMap(), [][]impl.Pair{slices.Repeat(pairsOf(0, 1), 100000)})
	// Rounds of four teams are none of three, also where the team 3 is the only one too many.
	checkNoTravel(t, lineMap(0, 10, 20), valid)
	checkNoTravel(t, lineMap(0, 10, 20), roundsOf("01, 12, 30"))
}

func TestTotalTravel(t *testing.T) {
	cases := []struct {
		m      impl.Map
		rounds string
		travel int
		floor  int
	}{
		{townMap(), "", 0, 0}, {townMap(), ", , ", 0, 0}, {townMap(), "01", 6, 6}, {townMap(), "10", 6, 6}, {townMap(), "01, 10", 12, 12}, {townMap(), "01 23", 6 + 74, 6 + 74}, {townMap(), "03 21", 100 + 36, 100 + 36},
		{townMap(), "30 12, 13 20, 32 01", 107 + 6 + 110 + 98, 100 + 6 + 74 + 98},
		// The floor has the way to the team that is farthest away, also if it is not the last one, and only once.
		{townMap(), "30, 10", 50 + 49 + 3, 100}, {townMap(), "10, 30", 3 + 49 + 50, 100}, {townMap(), "30, 03, 30", 300, 200}, {townMap(), "10, 20, 10", 42, 40}, {townMap(), "20, 01, 20", 80 + 6, 40 + 6},
		// At home, a team has no way, however far its guests come from.
		{townMap(), "03, 01, 02", 100 + 6 + 40, 146}, {townMap(), "30, 13", 100 + 98, 198}, {townMap(), "12, 12, 12", 36, 36},
		{lineMap(0, 10, 20), "12, 20, 01", 80, 80}, {lineMap(0, 10, 20), "12, 20, 01, 21, 02, 10", 160, 100}, {lineMap(0, 0, 0), "12, 20, 01", 0, 0}, {lineMap(0, 5000), "01, 10, 01, 10", 40000, 20000}, {lineMap(0, 5000), "01, 01, 01, 10", 20000, 20000},
		{evenMap(8, 5000), "10 32 54 76", 40000, 40000}, {evenMap(8, 1), "01 23, 45 67, 02 13", 11, 10},
	}
	for _, c := range cases {
		checkTravel(t, c.m, roundsOf(c.rounds), c.travel, c.floor)
		if plainTravel(c.m, roundsOf(c.rounds)) != c.travel || plainFloor(c.m, roundsOf(c.rounds)) != c.floor {
			t.Errorf("the second ways differ for %q", c.rounds)
		}
	}
	for _, m := range []impl.Map{townMap(), evenMap(2, 9), evenMap(8, 5000)} {
		checkTravel(t, m, nil, 0, 0)
		checkTravel(t, m, [][]impl.Pair{}, 0, 0)
		checkTravel(t, m, make([][]impl.Pair, 14), 0, 0)
	}
}

// The teams of a double round robin with equal distances travel once for each game away, less 1 for each one that follows another one.
func TestTotalTravelOfRoundRobins(t *testing.T) {
	for n := 2; n <= impl.MaxTeams; n++ {
		for _, rounds := range [][][]impl.Pair{impl.CircleRounds(n), impl.MirrorRounds(impl.CircleRounds(n))} {
			travel, guests := 0, map[int]bool{}
			for team := range n {
				away := false
				for _, venue := range impl.VenuesOf(rounds, team) {
					if venue == 2 {
						guests[team] = true
						travel++
					}
					// The way home is one before each game at home, and one at the end.
					if venue == 1 && away {
						travel++
					}
					away = venue == 2 || venue == 0 && away
				}
				if away {
					travel++
				}
			}
			checkTravel(t, evenMap(n, 1000), rounds, 1000*travel, 2000*len(guests))
			checkTravel(t, evenMap(n, 0), rounds, 0, 0)
			checkJourney(t, lineMap([]int{3, 5000, 17, 0, 999, 17, 2500, 1}[:n]...), rounds)
		}
	}
}

func TestTravelOfManyRounds(t *testing.T) {
	for size := range 20 {
		for n := 2; n <= impl.MaxTeams; n++ {
			away, both := slices.Repeat(roundsOf("01"), size), [][]impl.Pair{}
			for r := range size {
				both = append(both, roundsOf("01, 10")[r%2])
			}
			if size > 14 {
				checkNoTravel(t, evenMap(n, 5000), away)
				checkNoTravel(t, evenMap(n, 5000), both)
				continue
			}
			checkTravel(t, evenMap(n, 5000), away, 10000*min(size, 1), 10000*min(size, 1))
			checkTravel(t, evenMap(n, 5000), both, 10000*size, 10000*min(size, 2))
			checkTrip(t, evenMap(n, 5000), both, 1, 10000*((size+1)/2))
		}
	}
}

func TestReorderRounds(t *testing.T) {
	const least, greatest = math.MinInt, math.MaxInt
	cases := []struct {
		rounds string
		order  []int
		want   string
		ok     bool
	}{
		{"12, 20, 01", []int{0, 1, 2}, "12, 20, 01", true}, {"12, 20, 01", []int{2, 0, 1}, "01, 12, 20", true}, {"12, 20, 01", []int{1, 2, 0}, "20, 01, 12", true}, {"12, 20, 01", []int{2, 1, 0}, "01, 20, 12", true},
		{"12", []int{0}, "12", true}, {"12 30", []int{0}, "12 30", true}, {"", []int{0}, "", true}, {", 01 23, ", []int{1, 0, 2}, "01 23, , ", true}, {", 01 23, ", []int{0, 2, 1}, ", , 01 23", true}, {", ", []int{1, 0}, ", ", true},
		// Too short, too long, twice the same one, and none of the indices.
		{"12, 20, 01", nil, "", false}, {"12, 20, 01", []int{}, "", false}, {"12, 20, 01", []int{2, 0}, "", false}, {"12, 20, 01", []int{2, 0, 1, 0}, "", false}, {"12, 20, 01", []int{2, 0, 1, 3}, "", false}, {"12, 20, 01", []int{2, 0, 1}[:2], "", false},
		{"12, 20, 01", []int{2, 0, 0}, "", false}, {"12, 20, 01", []int{0, 1, 0}, "", false}, {"12, 20, 01", []int{2, 2, 2}, "", false}, {"12, 20, 01", []int{1, 1, 0}, "", false}, {"12, 20, 01", []int{1, 2, 3}, "", false}, {"12, 20, 01", []int{-1, 0, 1}, "", false}, {"12, 20, 01", []int{0, 1, -1}, "", false}, {"12, 20, 01", []int{0, 1, 3}, "", false},
		{"12, 20, 01", []int{least, 0, 1}, "", false}, {"12, 20, 01", []int{0, 1, greatest}, "", false}, {"12, 20, 01", []int{0, 1, 1<<32 + 2}, "", false}, {"12, 20, 01", []int{0, 1, 258}, "", false}, {"12", []int{1}, "", false}, {"12", []int{-1}, "", false}, {"12", []int{0, 0}, "", false}, {"12", nil, "", false},
		// Rounds that are no schedule, and rounds that are equal.
		{"00, 01 12, 99", []int{2, 0, 1}, "99, 00, 01 12", true}, {"01 01 01, 10", []int{1, 0}, "10, 01 01 01", true}, {"01, 01", []int{1, 0}, "01, 01", true}, {"01, 01", []int{0, 0}, "", false}, {"01, 01", []int{1, 1}, "", false},
	}
	for _, c := range cases {
		want := roundsOf(c.want)
		if !c.ok {
			want = nil
		}
		checkReorder(t, roundsOf(c.rounds), c.order, want, c.ok)
	}
	odd := [][]impl.Pair{pairsOf(least, greatest), pairsOf(-1, -1, 0, 0, -1, -1), nil}
	checkReorder(t, odd, []int{2, 1, 0}, [][]impl.Pair{nil, pairsOf(-1, -1, 0, 0, -1, -1), pairsOf(least, greatest)}, true)
	for _, rounds := range [][][]impl.Pair{nil, {}} {
		checkReorder(t, rounds, nil, nil, true)
		checkReorder(t, rounds, []int{}, nil, true)
		for _, x := range withEdges(-2, 3) {
			checkReorder(t, rounds, []int{x}, nil, false)
		}
	}
}

// P9: up to four rounds with every list of up to five numbers from -1 to the number of rounds.
func TestReorderRoundsAgainstSecondWay(t *testing.T) {
	rounds := roundsOf("01 23, 12, , 20 13")
	for size := range len(rounds) + 1 {
		done := 0
		for _, order := range listsOver(daysTo(-1, size), 5) {
			want, ok := plainReorder(rounds[:size], order)
			checkReorder(t, rounds[:size], order, want, ok)
			if ok {
				done++
			}
		}
		if done != len(ordersOf(size)) {
			t.Errorf("%d rounds have %d orders", size, done)
		}
	}
}

// There may be more rounds than teams, and more than a schedule has.
func TestReorderManyRounds(t *testing.T) {
	for _, size := range []int{7, 8, 9, 10, 13, 14, 15, 16, 63, 64, 65, 100, 255, 256, 257, 1000, 70000} {
		var rounds, want [][]impl.Pair
		for r := range size {
			rounds = append(rounds, pairsOf(r, -r, size, r))
			want = append(want, pairsOf(size-1-r, r+1-size, size, size-1-r))
		}
		order := daysTo(0, size-1)
		checkReorder(t, rounds, order, rounds, true)
		slices.Reverse(order)
		checkReorder(t, rounds, order, want, true)
		checkReorder(t, rounds, order[1:], nil, false)
		checkReorder(t, rounds, append(order, size), nil, false)
		checkReorder(t, rounds, append(order, 0), nil, false)
		for _, at := range []int{0, 1, size / 2, size - 1} {
			for _, x := range []int{-1, size, order[size-1-at] + 1, math.MinInt, math.MaxInt} {
				if wrong := slices.Clone(order); wrong[at] != x {
					wrong[at] = x
					checkReorder(t, rounds, wrong, nil, false)
				}
			}
		}
	}
}

func TestBestOrder(t *testing.T) {
	cases := []struct {
		m      impl.Map
		rounds string
		want   []int
		km     int
	}{
		{townMap(), "01", []int{0}, 6}, {townMap(), "", []int{0}, 0}, {lineMap(0, 10, 20), "12, 20, 01", []int{0, 1, 2}, 80},
		// Going to 1 and back costs 6 each time, but nothing more if the games are one after the other.
		{townMap(), "10, 01, 10", []int{0, 2, 1}, 12}, {townMap(), "01, 10, 01", []int{0, 2, 1}, 12}, {townMap(), "10, 02, 10, 20", []int{0, 2, 3, 1}, 3 + 18 + 20 + 40}, {townMap(), "10, 01, 01, 10, 10", []int{0, 3, 4, 1, 2}, 12},
		// The team 0 visits its neighbour on the way.
		{townMap(), "30, 10, 20", []int{0, 2, 1}, 50 + 37 + 18 + 3}, {townMap(), "20, 30, 10", []int{1, 0, 2}, 108}, {townMap(), "30, 20, 10", []int{0, 1, 2}, 108}, {townMap(), "10, 30, 20", []int{0, 2, 1}, 108},
		// A bye is no way home.
		{townMap(), "10, 23, 10", []int{0, 1, 2}, 6 + 74}, {townMap(), "10, , 01, , 10", []int{0, 1, 3, 4, 2}, 12},
		// All orders are equal, so the first one is the best one.
		{lineMap(0, 0, 0, 0), "30 12, 13 20, 32 01", []int{0, 1, 2}, 0}, {townMap(), ", , , , ", []int{0, 1, 2, 3, 4}, 0}, {townMap(), "01, 01, 01, 01, 01", []int{0, 1, 2, 3, 4}, 6}, {townMap(), "01, 23", []int{0, 1}, 80}, {townMap(), "10, 01", []int{0, 1}, 12}, {evenMap(4, 5000), "10, 20, 30", []int{0, 1, 2}, 20000},
		// Of five rounds, the one at home is best at the end.
		{lineMap(0, 100, 200, 300, 400), "10, 20, 30, 40, 01", []int{0, 1, 2, 3, 4}, 800 + 200}, {lineMap(0, 100, 200, 300, 400), "10, 30, 02, 40, 20", []int{0, 1, 3, 4, 2}, 800 + 400},
	}
	for _, c := range cases {
		checkBestOrder(t, c.m, roundsOf(c.rounds), c.want, c.km, true)
		if order, km, _ := plainBest(c.m, roundsOf(c.rounds)); km != c.km || !slices.Equal(order, c.want) {
			t.Errorf("plainBest(%q) = %v, %d", c.rounds, order, km)
		}
	}
}

// There are at most five rounds, also where all orders of more rounds are equal; no rounds have an order without elements.
func TestBestOrderSizes(t *testing.T) {
	for _, m := range []impl.Map{townMap(), lineMap(0, 9), evenMap(8, 5000)} {
		for size := range 20 {
			for _, text := range []string{"", "01"} {
				rounds := slices.Repeat(roundsOf(text), size)
				if size > 5 {
					checkBestOrder(t, m, rounds, nil, 0, false)
				} else {
					checkBestOrder(t, m, rounds, daysTo(0, size-1), impl.TotalTravel(m, rounds), true)
				}
			}
		}
		checkBestOrder(t, m, nil, nil, 0, true)
		checkBestOrder(t, m, [][]impl.Pair{}, []int{}, 0, true)
	}
	for n := 2; n <= impl.MaxTeams; n++ {
		for _, rounds := range [][][]impl.Pair{impl.CircleRounds(n), impl.MirrorRounds(impl.CircleRounds(n))} {
			if _, _, ok := impl.BestOrder(evenMap(n, 7), rounds); ok != (len(rounds) <= 5) {
				t.Errorf("BestOrder of %d rounds = %v", len(rounds), ok)
			}
			checkJourney(t, evenMap(n, 7), rounds[:min(5, len(rounds))])
		}
	}
}

// The rounds of one best order, given in each order; the same way in the other direction is as short.
func TestBestOrderOfEachRound(t *testing.T) {
	m := lineMap(0, 1000, 1010, 1020, 1030)
	for _, order := range ordersOf(5) {
		// In the order 1, 2, 3, 4, the team 0 goes along the road; the game at home is best at one of the ends.
		sorted := roundsOf("10, 20, 30, 40, 01")
		rounds := make([][]impl.Pair, len(order))
		for i, r := range order {
			rounds[r] = sorted[i]
		}
		checkJourney(t, m, rounds)
		best, km, ok := impl.BestOrder(m, rounds)
		if !ok || km != 2060+2000 || best[0] > best[4] {
			t.Fatalf("BestOrder(%v) = %v, %d, %v", rounds, best, km, ok)
		}
	}
}

// checkOrders checks that no order has less travel than the best one, that none of the lesser ones has as little, and that none has less than the floor; it returns the number of the best ones.
func checkOrders(t *testing.T, m impl.Map, rounds [][]impl.Pair) int {
	t.Helper()
	best, km, ok := impl.BestOrder(m, rounds)
	if !ok || !impl.IsOrder(len(rounds), best) {
		t.Fatalf("BestOrder(%v, %v) = %v, %v", m, rounds, best, ok)
	}
	floor, found := impl.TravelFloor(m, rounds), 0
	for _, order := range ordersOf(len(rounds)) {
		other, ok := impl.ReorderRounds(rounds, order)
		travel := impl.TotalTravel(m, other)
		if !ok || travel < km || travel < floor || impl.TravelFloor(m, other) != floor {
			t.Fatalf("on %v, the order %v of %v has the travel %d, the best one %v %d, the floor is %d", m, order, rounds, travel, best, km, floor)
		}
		if travel != km {
			continue
		}
		found++
		if slices.Compare(order, best) < 0 {
			t.Fatalf("on %v, the order %v of %v is less than %v", m, order, rounds, best)
		}
	}
	if found == 0 {
		t.Fatalf("on %v, no order of %v has the travel %d", m, rounds, km)
	}
	return found
}

// P4: all lists of up to four rounds of three teams with one pair each or none, on four maps.
func TestBestOrderOfThreeTeams(t *testing.T) {
	pool := [][]impl.Pair{nil}
	for _, p := range pairsOf(0, 1, 1, 0, 0, 2, 2, 0, 1, 2, 2, 1) {
		pool = append(pool, []impl.Pair{p})
	}
	maps := []impl.Map{lineMap(0, 10, 20), lineMap(0, 0, 5000), evenMap(3, 1), {Size: 3, Km: []int{0, 7, 5, 7, 0, 4, 5, 4, 0}}}
	for i, rounds := range listsOver(pool, 4) {
		checkJourney(t, maps[i%4], rounds)
		checkOrders(t, maps[i%4], rounds)
	}
}

// someMap returns a map of n teams with the shortest ways of random roads; some of the distances are changed, so that a few of the maps are not valid.
func someMap(start int, n int) impl.Map {
	next := numbersFrom(start)
	greatest := []int{3, 40, 5000, 5003}[next(4)]
	m := evenMap(n, greatest)
	for a := range n {
		for b := range a {
			m = withRoad(m, a, b, next(greatest+1))
		}
	}
	m.Km = shortest(m)
	if next(5) == 0 {
		a, b := next(n), next(n)
		km := impl.DistanceOf(m, a, b) + next(3) - 1
		m = withKm(m, a, b, km)
		if next(2) == 0 {
			m = withKm(m, b, a, km)
		}
	}
	if next(60) == 0 {
		m.Size += next(3) - 1
	}
	return m
}

// P4 and P9: maps of all sizes with up to 16 rounds, valid and others.
func TestManyJourneys(t *testing.T) {
	travels, bests := map[bool]int{}, map[bool]int{}
	for start := range 3000 {
		n, rounds := someRounds(start)
		m := someMap(start, n)
		if start%2 == 0 {
			rounds = rounds[:min(len(rounds), start/2%6)]
		}
		checkJourney(t, m, rounds)
		_, _, ok := impl.BestOrder(m, rounds)
		bests[ok]++
		travels[impl.TotalTravel(m, rounds) >= 0]++
	}
	if min(travels[true], travels[false], bests[true], bests[false]) < 500 {
		t.Errorf("journeys: %v, with a best order: %v", travels, bests)
	}
}

// P4: no order of up to five rounds of a round robin has less travel than the best one; there are those with one best order and its reverse, and those with others.
func TestBestOrderOfRoundRobins(t *testing.T) {
	found := map[bool]int{}
	for start := range 400 {
		next := numbersFrom(start)
		n := 2 + next(7)
		m := someMap(start, n)
		if !impl.MapOk(m) {
			continue
		}
		rounds := turned(impl.MirrorRounds(impl.CircleRounds(n)), start)
		rounds = rounds[:min(len(rounds), 3+next(3))]
		found[checkOrders(t, m, rounds) > 2]++
	}
	if found[true] < 50 || found[false] < 50 {
		t.Errorf("%d of the round robins have more than two best orders and %d have two", found[true], found[false])
	}
}

// P4: no order of a whole round robin has less travel than the floor.
func TestTravelFloor(t *testing.T) {
	for start := range 300 {
		next := numbersFrom(start)
		n := 2 + next(7)
		m, rounds := someMap(start, n), impl.MirrorRounds(impl.CircleRounds(n))
		if !impl.MapOk(m) {
			continue
		}
		floor := impl.TravelFloor(m, rounds)
		for other := range 10 {
			if got := turned(rounds, other); impl.TravelFloor(m, got) != floor || impl.TotalTravel(m, got) < floor {
				t.Fatalf("on %v, the travel of %v is %d, its floor %d, that of %v is %d", m, got, impl.TotalTravel(m, got), impl.TravelFloor(m, got), rounds, floor)
			}
		}
	}
}

// The goroutines of a call have no influence on what it returns, also when many calls go on at the same time.
func TestBestOrderAtEachCall(t *testing.T) {
	m := townMap()
	rounds := roundsOf("30 12, 13 20, 32 01, 03 21, 31 02")
	want, length, _ := plainBest(m, rounds)
	even := slices.Repeat(roundsOf("10"), 5)
	for range 300 {
		checkBestOrder(t, m, rounds, want, length, true)
		checkBestOrder(t, m, even, []int{0, 1, 2, 3, 4}, 6, true)
	}
	var callers sync.WaitGroup
	for range 16 {
		callers.Go(func() {
			for range 30 {
				order, km, ok := impl.BestOrder(m, rounds)
				if !ok || km != length || !slices.Equal(order, want) {
					t.Errorf("beside other calls, BestOrder = %v, %d, %v, want %v, %d", order, km, ok, want, length)
				}
			}
		})
	}
	callers.Wait()
}

// Neither the arguments nor the spare capacity behind them may change, and what is behind them does not count.
func TestTravelArgumentsStay(t *testing.T) {
	rounds, changed := spareRounds()
	km := append(townMap().Km, 9, -9)
	order := []int{3, 1, 0, 2, 9, 0}
	kmBefore, orderBefore := slices.Clone(km), slices.Clone(order)
	m := impl.Map{Size: 4, Km: km[:16]}
	for size := range len(rounds) + 1 {
		checkJourney(t, m, rounds[:size])
	}
	checkTravel(t, m, rounds, 107+6+110+98, 100+6+74+98)
	checkReorder(t, rounds, order[:4], roundsOf("32 01, 13 20, 30 12, "), true)
	checkReorder(t, rounds, order[:5], nil, false)
	checkReorder(t, rounds[:3], order[:4], nil, false)
	if checkOrders(t, m, rounds) < 1 || impl.DistanceOf(m, 3, 3) != 0 {
		t.Error("the map is not valid")
	}
	if changed() || !slices.Equal(km, kmBefore) || !slices.Equal(order, orderBefore) {
		t.Errorf("the arguments became %v, %v and %v", km, rounds, order)
	}
}

// Results are new at each call; no two rounds of one share memory, nor does a round with those that were given, even if these share memory themselves.
func TestTravelResultsAreNew(t *testing.T) {
	rounds, changed := spareRounds()
	reordered := func(rounds [][]impl.Pair, order ...int) func() [][]impl.Pair {
		return func() [][]impl.Pair {
			other, _ := impl.ReorderRounds(rounds, order)
			return other
		}
	}
	checkNewRounds(t, reordered(rounds, 3, 1, 0, 2), roundsOf("32 01, 13 20, 30 12, "))
	checkNewRounds(t, reordered(rounds, 0, 1, 2, 3), roundsOf("30 12, 13 20, , 32 01"))
	one := pairsOf(0, 1, 3, 2)
	same := [][]impl.Pair{one, one, one[:1], one[1:], one[:0]}
	checkNewRounds(t, reordered(same, 4, 3, 2, 1, 0), roundsOf(", 32, 01, 01 32, 01 32"))
	best := func(m impl.Map, rounds [][]impl.Pair) []int {
		order, _, _ := impl.BestOrder(m, rounds)
		return order
	}
	checkNewResults(t,
		indexCall{func() []int { return best(townMap(), roundsOf("30, 10, 20")) }, []int{0, 2, 1}},
		indexCall{func() []int { return best(townMap(), roundsOf("01")) }, []int{0}},
		indexCall{func() []int { return best(townMap(), nil) }, nil},
	)
	if changed() || !slices.Equal(one, pairsOf(0, 1, 3, 2)) {
		t.Errorf("the rounds became %v and %v", rounds, one)
	}
}

// A result stays as it is when the arguments change right after the call.
func TestTravelResultsStay(t *testing.T) {
	for range 50 {
		m, rounds, order := townMap(), roundsOf("30, 10, 20"), []int{2, 0, 1}
		other, _ := impl.ReorderRounds(rounds, order)
		best, km, _ := impl.BestOrder(m, rounds)
		clear(m.Km)
		clear(order)
		for r := range rounds {
			clear(rounds[r])
			rounds[r] = nil
		}
		if !sameRounds(other, roundsOf("20, 30, 10")) || !slices.Equal(best, []int{0, 2, 1}) || km != 108 {
			t.Errorf("after a change of the arguments, the results are %v, %v and %d", other, best, km)
		}
	}
}
