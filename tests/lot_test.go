package tests

import (
	"math"
	"runtime"
	"slices"
	"strconv"
	"strings"
	"sync"
	"testing"
	"time"

	"loop.example/g00834/impl"
)

// plainLot joins the rules of the two halves of a text, each of them a factor and a number that is added: a second way to LotOf.
func plainLot(text string) int {
	factor, added := lotRule(text)
	return (factor*17 + added) % 1000003
}

func lotRule(text string) (int, int) {
	if text == "" {
		return 1, 0
	}
	if len(text) == 1 {
		return 257, int(text[0]) + 1
	}
	half := len(text) / 2
	factor, added := lotRule(text[:half])
	nextFactor, nextAdded := lotRule(text[half:])
	return factor * nextFactor % 1000003, (nextFactor*added + nextAdded) % 1000003
}

// plainLotFor takes the void lots from the end of all lots: a second way to LotFor.
func plainLotFor(text string, n int) (int, bool) {
	if n < 1 || n > 1000003 || plainLot(text) >= 1000003-1000003%n {
		return 0, false
	}
	return plainLot(text) % n, true
}

// textWithLot returns a text that begins with start, has three bytes more, and has this lot.
func textWithLot(start string, lot int) string {
	const digits = 257 * 257 * 257
	rest := (lot - plainLot(start)*digits%1000003 + 1000003) % 1000003
	for x := rest; x < digits; x += 1000003 {
		// A byte is added with 1 to its number, so no digit is 0.
		if a, b, c := x/(257*257), x/257%257, x%257; a > 0 && b > 0 && c > 0 {
			return start + string([]byte{byte(a - 1), byte(b - 1), byte(c - 1)})
		}
	}
	panic("no text with this lot")
}

// plainPublic tries all texts on the list of all draws: a second way to PublicDraw.
func plainPublic(all [][]int, text string) ([]int, int) {
	for used := 1; used <= 5; used++ {
		if index, ok := plainLotFor(text+strings.Repeat("+", used-1), len(all)); ok {
			return all[index], used
		}
	}
	return nil, 0
}

// plainShuffle takes the number j out and puts it where i was, and the other way round: a second way to ShuffleBy.
func plainShuffle(text string, n int) []int {
	if n < 0 || n > 8 {
		return nil
	}
	order := allTeams(n)
	for i := n - 1; i > 0; i-- {
		j := plainLot(text+strconv.Itoa(i)) % (i + 1)
		last, taken := order[i], order[j]
		order = slices.Replace(order, i, i+1, taken)
		order = slices.Replace(order, j, j+1, last)
	}
	return order
}

// short returns so much of a text as a message can show.
func short(text string) string { return text[:min(len(text), 20)] }

func checkLot(t *testing.T, text string, want int) {
	t.Helper()
	if got := impl.LotOf(text); got != want {
		t.Fatalf("LotOf(%q) = %d, want %d", short(text), got, want)
	}
}

func checkLotFor(t *testing.T, text string, n int, want int, ok bool) {
	t.Helper()
	if got, found := impl.LotFor(text, n); got != want || found != ok {
		t.Fatalf("LotFor(%q, %d) = %d, %v, want %d, %v", short(text), n, got, found, want, ok)
	}
}

func checkLots(t *testing.T, n int, per int, void int) {
	t.Helper()
	if got := impl.LotsPerResult(n); got != per {
		t.Fatalf("LotsPerResult(%d) = %d, want %d", n, got, per)
	}
	if got := impl.VoidLots(n); got != void {
		t.Fatalf("VoidLots(%d) = %d, want %d", n, got, void)
	}
}

// checkPublic checks also that the draw, and no empty one, is the public draw.
func checkPublic(t *testing.T, field []impl.Team, p impl.Pots, text string, want []int, used int) {
	t.Helper()
	got, n := impl.PublicDraw(field, p, text)
	if !slices.Equal(got, want) || n != used {
		t.Fatalf("PublicDraw(%v, %v, %q) = %v, %d, want %v, %d", field, p, short(text), got, n, want, used)
	}
	checkIsPublic(t, field, p, text, want, len(want) > 0)
	checkIsPublic(t, field, p, text, nil, false)
	checkIsPublic(t, field, p, text, []int{}, false)
}

func checkIsPublic(t *testing.T, field []impl.Team, p impl.Pots, text string, draw []int, want bool) {
	t.Helper()
	if got := impl.IsPublicDraw(field, p, text, draw); got != want {
		t.Fatalf("IsPublicDraw(%v, %v, %q, %v) = %v, want %v", field, p, short(text), draw, got, want)
	}
}

func checkShuffle(t *testing.T, text string, n int, want ...int) {
	t.Helper()
	got := impl.ShuffleBy(text, n)
	if !slices.Equal(got, want) {
		t.Fatalf("ShuffleBy(%q, %d) = %v, want %v", short(text), n, got, want)
	}
	if inRange := n >= 0 && n <= 8; inRange && !impl.IsOrder(n, got) || !inRange && got != nil {
		t.Fatalf("ShuffleBy(%q, %d) = %v", short(text), n, got)
	}
}

func TestLotSpace(t *testing.T) {
	if impl.LotSpace != 1000003 {
		t.Errorf("LotSpace = %d", impl.LotSpace)
	}
}

func TestLotOf(t *testing.T) {
	cases := []struct {
		text string
		want int
	}{
		{"", 17}, {"a", 257*17 + 97 + 1}, {"+", 257*17 + 43 + 1}, {"0", 257*17 + 48 + 1}, {" ", 257*17 + 32 + 1}, {"\n", 257*17 + 10 + 1},
		// The least and the greatest byte, and one that is no whole rune.
		{"\x00", 4370}, {"\x01", 4371}, {"\x7f", 4497}, {"\x80", 4498}, {"\xfe", 4624}, {"\xff", 4625},
		{"\x00\x00", 123088}, {"ab", 148115}, {"ba", 148371}, {"\x00a", 257*4370 + 98 - 1000003}, {"a\x00", 257*4467 + 1 - 1000003}, {"\xff\xff", 257*4625 + 256 - 1000003}, {"\x80\xff", 257*4498 + 256 - 1000003},
		// A rune of two bytes counts as these, also where it is not whole.
		{"é", 173372}, {"\xc3", 4565}, {"\xa9", 4539}, {"\xa9\xc3", 4539*257 + 196 - 1000003}, {"\ufffd", 257*(257*4609+192-1000003)%1000003 + 190},
	}
	for _, c := range cases {
		checkLot(t, c.text, c.want)
		if plainLot(c.text) != c.want {
			t.Errorf("plainLot(%q) = %d", c.text, plainLot(c.text))
		}
	}
}

// P9: all texts of up to two bytes, and those of up to six bytes over a few of them.
func TestLotOfShortTexts(t *testing.T) {
	bytes := make([]string, 256)
	for i := range bytes {
		bytes[i] = everyByte()[i : i+1]
	}
	for _, text := range wordsOver(bytes, 2) {
		checkLot(t, text, plainLot(text))
	}
	for _, text := range wordsOver([]string{"\x00", "a", "\x80", "é", "\xff"}, 6) {
		checkLot(t, text, plainLot(text))
	}
}

func TestLotOfLongTexts(t *testing.T) {
	for _, piece := range []string{"\x00", "\xff", "a", "+", "é", "lot ", everyByte()} {
		for _, times := range []int{7, 8, 9, 63, 64, 255, 1000, 1003, 70000} {
			text := strings.Repeat(piece, times)
			checkLot(t, text, plainLot(text))
			checkLot(t, text[1:], plainLot(text[1:]))
		}
	}
	long := strings.Repeat(everyByte(), 1<<16)
	checkLot(t, long, plainLot(long))
	checkLotFor(t, long, impl.LotSpace, plainLot(long), true)
}

// P5: each lot is that of a text, also of one that begins as any other text does.
func TestLotOfEachLot(t *testing.T) {
	for lot := range impl.LotSpace {
		if got := impl.LotOf(textWithLot("", lot)); got != lot {
			t.Fatalf("LotOf(%q) = %d, want %d", textWithLot("", lot), got, lot)
		}
	}
	for _, lot := range []int{0, 1, 999999, 1000000, 1000001, 1000002} {
		for _, start := range []string{"", "final", "\xff\x80\x00", strings.Repeat("é", 1000)} {
			checkLot(t, textWithLot(start, lot), lot)
		}
	}
}

func TestLotFor(t *testing.T) {
	cases := []struct {
		text string
		n    int
		want int
		ok   bool
	}{
		{"a", 5, 2, true}, {"a", 1, 0, true}, {"a", 2, 1, true}, {"a", 3, 0, true}, {"a", 10, 7, true}, {"a", 1000, 467, true}, {"a", 4467, 0, true}, {"a", 4468, 4467, true}, {"a", 4466, 1, true}, {"a", 600000, 4467, true}, {"a", 1000002, 4467, true}, {"a", 1000003, 4467, true}, {"a", 1000004, 0, false}, {"a", 0, 0, false}, {"a", -1, 0, false}, {"a", -5, 0, false},
		{"", 1, 0, true}, {"", 2, 1, true}, {"", 17, 0, true}, {"", 18, 17, true}, {"", 16, 1, true}, {"", 1000003, 17, true}, {"", 0, 0, false},
		// 1000003 is 333334 times 3 and 1.
		{textWithLot("", 1000001), 3, 2, true}, {textWithLot("", 1000002), 3, 0, false}, {textWithLot("", 1000002), 1, 0, true}, {textWithLot("", 1000001), 2, 1, true}, {textWithLot("", 1000002), 2, 0, false},
		{textWithLot("", 0), 1000002, 0, true}, {textWithLot("", 1000001), 1000002, 1000001, true}, {textWithLot("", 1000002), 1000002, 0, false}, {textWithLot("", 1000002), 1000003, 1000002, true}, {textWithLot("", 0), 1000003, 0, true}, {textWithLot("", 1000002), 1000004, 0, false}, {textWithLot("", 0), 1000004, 0, false},
		// More than a half of the lots are needed, so each result has one only.
		{textWithLot("", 500001), 500002, 500001, true}, {textWithLot("", 500002), 500002, 0, false}, {textWithLot("", 500003), 500002, 0, false}, {textWithLot("", 1000001), 500001, 500000, true}, {textWithLot("", 1000002), 500001, 0, false}, {textWithLot("", 599999), 600000, 599999, true}, {textWithLot("", 600000), 600000, 0, false}, {textWithLot("", 600001), 600000, 0, false},
	}
	for _, c := range cases {
		checkLotFor(t, c.text, c.n, c.want, c.ok)
		if want, ok := plainLotFor(c.text, c.n); want != c.want || ok != c.ok {
			t.Errorf("plainLotFor(%q, %d) = %d, %v", c.text, c.n, want, ok)
		}
	}
}

func TestLotForOutside(t *testing.T) {
	for _, text := range []string{"", "a", "\x00", "\xff\xfe", textWithLot("", 0), textWithLot("", 1000002), strings.Repeat("b", 100000)} {
		for _, n := range []int{math.MinInt, math.MinInt + 1, math.MinInt32, -1000003, -5, -2, -1, 0, 1000004, 1000005, 2000006, 1 << 32, 1<<32 + 5, math.MaxInt - 1, math.MaxInt} {
			checkLotFor(t, text, n, 0, false)
			checkLots(t, n, 0, 0)
		}
		checkLotFor(t, text, 1000003, plainLot(text), true)
		checkLotFor(t, text, 1, 0, true)
	}
}

// The lots just below the first void one, at it and above it.
func TestLotForAtTheVoidLots(t *testing.T) {
	list := slices.Concat(daysTo(1, 300), everyDayFrom(301, 7919, 120), []int{499999, 500000, 500001, 500002, 500003, 999999, 1000000, 1000001, 1000002, 1000003})
	for _, n := range list {
		first := n * (1000003 / n)
		for _, lot := range []int{0, n - 1, first - n, max(0, first-2), first - 1} {
			checkLotFor(t, textWithLot("", lot), n, lot%n, true)
		}
		for _, lot := range []int{first, first + 1, (first + 1000002) / 2, 1000001, 1000002} {
			if lot >= first && lot < 1000003 {
				checkLotFor(t, textWithLot("", lot), n, 0, false)
			}
		}
	}
}

// P5: each result belongs to as many lots as LotsPerResult says, and the others are void.
func TestEachResultHasTheSameLots(t *testing.T) {
	texts := make([]string, impl.LotSpace)
	for lot := range texts {
		texts[lot] = textWithLot("", lot)
	}
	for _, n := range []int{1, 2, 3, 5, 7, 24, 6912, 333334, 500001, 500002, 600000, 1000001, 1000002, 1000003} {
		lots, void := make([]int, n), 0
		for _, text := range texts {
			if result, ok := impl.LotFor(text, n); ok {
				lots[result]++
			} else {
				void++
			}
		}
		if per := impl.LotsPerResult(n); slices.Min(lots) != per || slices.Max(lots) != per || per < 1 {
			t.Errorf("%d results have from %d to %d lots each, LotsPerResult is %d", n, slices.Min(lots), slices.Max(lots), per)
		}
		if void != impl.VoidLots(n) {
			t.Errorf("for %d results there are %d void lots, VoidLots is %d", n, void, impl.VoidLots(n))
		}
	}
}

func TestLotsPerResult(t *testing.T) {
	for _, c := range [][3]int{{1, 1000003, 0}, {2, 500001, 1}, {3, 333334, 1}, {4, 250000, 3}, {5, 200000, 3}, {10, 100000, 3}, {6912, 144, 4675}, {1000, 1000, 3}, {500001, 2, 1}, {500002, 1, 500001}, {600000, 1, 400003}, {1000001, 1, 2}, {1000002, 1, 1}, {1000003, 1, 0}, {1000004, 0, 0}, {0, 0, 0}, {-1, 0, 0}, {-2, 0, 0}, {-1000003, 0, 0}, {2000006, 0, 0}, {math.MinInt, 0, 0}, {math.MaxInt, 0, 0}} {
		checkLots(t, c[0], c[1], c[2])
	}
	for _, n := range edgeInts() {
		if n < 1 || n > 1000003 {
			checkLots(t, n, 0, 0)
		}
	}
}

// P9: for all numbers of results that there can be, all lots are those of the results and the void ones.
func TestAllLots(t *testing.T) {
	for n := -10; n <= 1000013; n++ {
		per, void := impl.LotsPerResult(n), impl.VoidLots(n)
		if n < 1 || n > 1000003 {
			checkLots(t, n, 0, 0)
		} else if per*n+void != 1000003 || void < 0 || void >= n || (void == 0) != (n == 1 || n == 1000003) {
			t.Fatalf("for %d results there are %d lots each, and %d void ones", n, per, void)
		}
	}
}

func TestPublicDraw(t *testing.T) {
	four, eight := clubField(0, 0, 1, 1), eightTeams()
	two, large := potsOf(2, 1, "01 23"), potsOf(4, 8, "012 345 67")
	cases := []struct {
		field []impl.Team
		p     impl.Pots
		text  string
		draw  string
		used  int
	}{
		// The four draws are 0101, 0110, 1001 and 1010; the lot of "a" is 4467, that of the empty text 17.
		{four, two, "a", "1010", 1}, {four, two, "", "0110", 1}, {four, two, "\x00", "1001", 1}, {four, two, "\x7f", "0110", 1}, {four, two, "\x80", "1001", 1}, {four, two, "\xff", "0110", 1}, {four, two, "é", "0101", 1}, {four, two, "\xc3", "0110", 1}, {four, two, "+", "0110", 1}, {four, two, "a+", "0101", 1},
		{four, two, textWithLot("", 0), "0101", 1}, {four, two, textWithLot("final", 3), "1010", 1}, {four, two, textWithLot("final", 999998), "1001", 1}, {four, two, textWithLot("", 999999), "1010", 1},
		// The lots of the second texts are 999276, 999533 and 999790.
		{four, two, textWithLot("", 1000000), "0101", 2}, {four, two, textWithLot("\xff\x00", 1000001), "0110", 2}, {four, two, textWithLot("final", 1000002), "1001", 2},
		// Of 6912 draws, the void lots begin with 995328: the third text has the lot 945306.
		{eight, large, textWithLot("", 995327), "32132132", 1}, {eight, large, textWithLot("", 0), "01201201", 1}, {eight, large, textWithLot("", 995328), "20130232", 2}, {eight, large, textWithLot("", 1000002), "30110320", 3}, {eight, large, textWithLot("+", 999790), "30110320", 2}, {eight, large, textWithLot("+", 945306), "30110320", 1},
		// One draw only: no lot is void.
		{four, potsOf(1, 1, "0 2"), "", "00", 1}, {four, potsOf(1, 1, "3"), "a", "0", 1}, {four, potsOf(1, 2, "3 0 1"), textWithLot("", 1000002), "000", 1}, {four, potsOf(1, 1, "3"), textWithLot("", 0), "0", 1},
		// No draw, and pots that are not valid.
		{four, potsOf(1, 1, "0 1"), "", "", 0}, {four, potsOf(2, 1, "0 1 2 3"), "a", "", 0}, {clubField(3, 3, 3), potsOf(2, 1, "0 1 2"), "a", "", 0}, {clubField(3, 3, 3), potsOf(2, 1, "0 1 2"), textWithLot("", 1000002), "", 0}, {four, impl.Pots{}, "", "", 0}, {four, potsOf(2, 1, "-"), "a", "", 0}, {four, potsOf(5, 1, "0"), "a", "", 0}, {four, potsOf(2, 0, "0"), "a", "", 0}, {four, potsOf(2, 9, "0"), "a", "", 0}, {four, potsOf(2, 1, "00"), "a", "", 0}, {four, potsOf(2, 1, "04"), "a", "", 0}, {four[:1], potsOf(2, 1, "0"), "a", "", 0}, {nil, two, "a", "", 0}, {nil, impl.Pots{}, "", "", 0},
	}
	for _, c := range cases {
		checkPublic(t, c.field, c.p, c.text, digitsOf(c.draw), c.used)
		if draw, used := plainPublic(plainDraws(c.field, c.p), c.text); !slices.Equal(draw, digitsOf(c.draw)) || used != c.used {
			t.Errorf("plainPublic(%v, %v, %q) = %v, %d", c.field, c.p, c.text, draw, used)
		}
	}
}

func TestPublicDrawOfBrokenFields(t *testing.T) {
	for label, field := range brokenFields() {
		for _, p := range []impl.Pots{potsOf(2, 1, "01"), potsOf(3, 8, "0 1 2"), potsOf(4, 1, "2"), {}} {
			for _, text := range []string{"", "a", textWithLot("", 1000002)} {
				if draw, used := impl.PublicDraw(field, p, text); draw != nil || used != 0 {
					t.Errorf("%s: PublicDraw = %v, %d", label, draw, used)
				}
				for _, draw := range [][]int{nil, {}, {0}, {0, 1}, {0, 0, 0}} {
					checkIsPublic(t, field, p, text, draw, false)
				}
			}
		}
	}
}

// publicLots returns lots at all places that matter for a number of draws.
func publicLots(draws int) []int {
	first := draws * impl.LotsPerResult(draws)
	list := []int{0, 1, draws - 1, draws, first - draws, first - 2, first - 1, first, first + 1, (first + 1000002) / 2, 1000001, 1000002}
	return slices.DeleteFunc(list, func(lot int) bool { return lot < 0 || lot > 1000002 })
}

// P5 and P9: pots of all sizes, valid and others, with texts that are void and others.
func TestManyPublicDraws(t *testing.T) {
	found := map[int]int{}
	for start := range 600 {
		field, p := somePots(start)
		all := plainDraws(field, p)
		for _, lot := range publicLots(len(all)) {
			for _, text := range []string{textWithLot("", lot), textWithLot("draw \xff", lot)} {
				want, used := plainPublic(all, text)
				checkPublic(t, field, p, text, want, used)
				found[used]++
				if used > 1 {
					// The text that counts gives the same draw when it is taken itself.
					checkPublic(t, field, p, text+strings.Repeat("+", used-1), want, 1)
				}
			}
		}
		for _, text := range []string{"", "a", "+", "final of " + impl.FormatInt(start)} {
			want, used := plainPublic(all, text)
			checkPublic(t, field, p, text, want, used)
		}
	}
	if min(found[0], found[1], found[2]) < 1000 || found[3] == 0 {
		t.Errorf("texts used: %v", found)
	}
}

// P5: a void text gives no draw itself; of the greatest number of draws, a third text is needed where the second one is void as well.
func TestPublicDrawsOfVoidTexts(t *testing.T) {
	field, p := clubField(0, 0, 0, 0, 0, 0, 0, 0), potsOf(4, 3, "012 345 67")
	all := plainDraws(field, p)
	found := map[int]int{}
	for lot := 995328; lot < impl.LotSpace; lot++ {
		text := textWithLot("", lot)
		want, used := plainPublic(all, text)
		checkPublic(t, field, p, text, want, used)
		found[used]++
	}
	if found[2] != 4639 || found[3] != 36 || len(found) != 2 {
		t.Errorf("texts used: %v", found)
	}
}

// P5: with lots in a row, each draw is the public draw of one text after the other.
func TestPublicDrawOfEachDraw(t *testing.T) {
	for _, p := range []impl.Pots{potsOf(4, 1, "0123 4567"), potsOf(3, 2, "567 012"), potsOf(2, 1, "0 5 2")} {
		field := eightTeams()
		all := plainDraws(field, p)
		for _, first := range []int{0, 7 * len(all), len(all) * (impl.LotsPerResult(len(all)) - 1)} {
			for index, draw := range all {
				checkPublic(t, field, p, textWithLot("cup", first+index), draw, 1)
			}
		}
	}
}

// P5: of four draws, each one has as many lots as LotsPerResult says, whatever the first text is.
func TestPublicDrawsHaveTheSameLots(t *testing.T) {
	field, p := clubField(0, 0, 1, 1), potsOf(2, 1, "01 23")
	found := map[string]int{}
	for lot := 0; lot < impl.LotSpace; lot += 1000 {
		for more := range 4 {
			draw, used := impl.PublicDraw(field, p, textWithLot("", min(lot+more, 1000002)))
			found[impl.FormatInt(used)+" "+impl.FormatInt(impl.IndexOfDraw(field, p, draw))]++
		}
	}
	want := map[string]int{"1 0": 1000, "1 1": 1000, "1 2": 1000, "1 3": 1000, "2 0": 1, "2 1": 1, "2 2": 2}
	for key, n := range want {
		if found[key] != n || len(found) != len(want) {
			t.Fatalf("texts used and draws: %v, want %v", found, want)
		}
	}
}

func TestPublicDrawOfLongTexts(t *testing.T) {
	field, p := eightTeams(), potsOf(4, 8, "012 345 67")
	all := plainDraws(field, p)
	start := strings.Repeat("public ", 200000)
	for _, lot := range publicLots(len(all)) {
		text := textWithLot(start, lot)
		want, used := plainPublic(all, text)
		checkPublic(t, field, p, text, want, used)
	}
	checkPublic(t, field, impl.Pots{}, start, nil, 0)
}

func TestIsPublicDraw(t *testing.T) {
	field, p := clubField(0, 0, 1, 1), potsOf(2, 1, "01 23")
	void := textWithLot("", 1000000)
	cases := []struct {
		text string
		draw string
		want bool
	}{
		{"a", "1010", true}, {"a", "0101", false}, {"a", "0110", false}, {"a", "1001", false}, {"a", "", false},
		{"", "0110", true}, {"", "1010", false}, {"", "", false},
		// Of a void text, the next one gives the draw.
		{void, "0101", true}, {void, "0110", false}, {void, "1001", false}, {void, "1010", false}, {void + "+", "0101", true}, {void, "", false},
		// Lists that are no draws.
		{"a", "1", false}, {"a", "101", false}, {"a", "10100", false}, {"a", "10101010", false}, {"a", "1011", false}, {"a", "1100", false}, {"a", "1012", false}, {"a", "2020", false}, {"a", "0000", false}, {"", "0", false}, {"", "011", false}, {"", "01100", false},
	}
	for _, c := range cases {
		checkIsPublic(t, field, p, c.text, digitsOf(c.draw), c.want)
	}
	for _, draw := range [][]int{{-1}, {1, 0, 1, -1}, {-1, 0, 1, 0}, {1, 0, 1, math.MaxInt}, {1 << 32, 0, 1, 0}, {257, 256, 257, 256}, {math.MinInt, 0, 0, 0}, make([]int, 100000)} {
		checkIsPublic(t, field, p, "a", draw, false)
	}
	// Pots that are not valid, and those of which there is no draw.
	for _, p := range []impl.Pots{{}, potsOf(2, 1, "01 23 -"), potsOf(5, 1, "01 23"), potsOf(2, 9, "01 23"), potsOf(2, 1, "01 13"), potsOf(2, 1, "01 24"), potsOf(1, 1, "0 1"), {Pots: [][]int{{0, 1}, {2, -1}}, Groups: 2, Most: 1}} {
		for _, draw := range []string{"", "0", "00", "01", "10", "1010", "0101"} {
			checkIsPublic(t, field, p, "a", digitsOf(draw), false)
		}
		checkIsPublic(t, nil, p, "a", nil, false)
	}
}

// Only one of all draws is the public one, and each change of it is another one or none.
func TestIsPublicDrawOfAllDraws(t *testing.T) {
	for start := range 60 {
		field, p := somePots(start)
		all := plainDraws(field, p)
		text := textWithLot("", publicLots(max(1, len(all)))[start%9])
		public, _ := plainPublic(all, text)
		for i := 0; i < len(all); i += 1 + len(all)/200 {
			checkIsPublic(t, field, p, text, all[i], slices.Equal(all[i], public))
		}
		for at := range public {
			for _, group := range withEdges(-2, 5) {
				draw := slices.Clone(public)
				draw[at] = group
				checkIsPublic(t, field, p, text, draw, slices.Equal(draw, public))
			}
			checkIsPublic(t, field, p, text, public[:at], false)
			checkIsPublic(t, field, p, text, slices.Insert(slices.Clone(public), at, public[at]), false)
		}
	}
}

func TestShuffleBy(t *testing.T) {
	// The lots of "1", "2" and "3" are 4419, 4420 and 4421, those of "x1" and "x2" 153977 and 153978, those of "y1" and "y2" 154234 and 154235.
	checkShuffle(t, "", 0)
	checkShuffle(t, "", 1, 0)
	checkShuffle(t, "", 2, 0, 1)
	checkShuffle(t, "", 3, 0, 2, 1)
	checkShuffle(t, "", 4, 0, 2, 3, 1)
	checkShuffle(t, "x", 0)
	checkShuffle(t, "x", 1, 0)
	checkShuffle(t, "x", 2, 0, 1)
	checkShuffle(t, "x", 3, 2, 1, 0)
	checkShuffle(t, "y", 1, 0)
	checkShuffle(t, "y", 2, 1, 0)
	checkShuffle(t, "y", 3, 1, 0, 2)
	for _, text := range []string{"", "x", "\x80\xff", strings.Repeat("y", 100000)} {
		for _, n := range append(edgeInts(), -3, -2, -1, 9, 10, 100) {
			checkShuffle(t, text, n)
		}
		checkShuffle(t, text, 0)
		checkShuffle(t, text, 1, 0)
		checkShuffle(t, text, 8, plainShuffle(text, 8)...)
	}
}

// P9: all texts of up to two bytes, and long ones, for all numbers.
func TestManyShuffles(t *testing.T) {
	texts := wordsOver([]string{"\x00", "1", "a", "é", "\x80", "\xff"}, 3)
	for i := range 256 {
		texts = append(texts, everyByte()[i:i+1], everyByte()[:i], strings.Repeat(everyByte(), i/2))
	}
	for _, text := range texts {
		for n := -1; n <= 9; n++ {
			checkShuffle(t, text, n, plainShuffle(text, n)...)
		}
	}
}

// P5: whoever has the field, the pots and the text gets the same draw, also beside other calls.
func TestPublicDrawsBesideOtherCalls(t *testing.T) {
	field, p, void := eightTeams(), potsOf(4, 8, "012 345 67"), textWithLot("", 1000002)
	var callers sync.WaitGroup
	for range 16 {
		callers.Go(func() {
			for range 20 {
				draw, used := impl.PublicDraw(field, p, void)
				same := impl.IsPublicDraw(field, p, void, draw)
				order := impl.ShuffleBy(void, 8)
				if !slices.Equal(draw, digitsOf("30110320")) || used != 3 || !same || !slices.Equal(order, plainShuffle(void, 8)) {
					t.Errorf("beside other calls, the results are %v, %d, %v and %v", draw, used, same, order)
					return
				}
			}
		})
	}
	callers.Wait()
}

// No goroutine is left waiting, however many of the texts are used.
func TestPublicDrawsLeaveNothing(t *testing.T) {
	before := runtime.NumGoroutine()
	field, p, large := eightTeams(), potsOf(2, 1, "01 23"), potsOf(4, 8, "012 345 67")
	for _, text := range []string{"", "a", textWithLot("", 1000000), textWithLot("", 1000002)} {
		for range 20 {
			for _, p := range []impl.Pots{p, large, potsOf(1, 1, "0"), potsOf(1, 1, "0 4"), {}} {
				draw, _ := impl.PublicDraw(field, p, text)
				impl.IsPublicDraw(field, p, text, draw)
			}
		}
	}
	// A goroutine that has closed its channel may need a moment to end.
	for range 1000 {
		if runtime.NumGoroutine() <= before {
			return
		}
		time.Sleep(time.Millisecond)
	}
	t.Errorf("there were %d goroutines, and there are %d", before, runtime.NumGoroutine())
}

// Neither the arguments nor the spare capacity behind them may change, and what is behind them does not count.
func TestLotArgumentsStay(t *testing.T) {
	field, p, changed := sparePots()
	void := textWithLot("", 1000002)
	list := []int{1, 0, 1, 0, 1, 7, 8}
	before := slices.Clone(list)
	// There are two draws, and the second text has the lot 999790.
	checkPublic(t, field, p, "a", []int{1, 0, 1, 0}, 1)
	checkPublic(t, field, p, void, []int{0, 1, 0, 1}, 2)
	for size := range len(list) + 1 {
		checkIsPublic(t, field, p, "a", list[:size], size == 4)
		checkIsPublic(t, field, p, void, list[:size], false)
	}
	checkIsPublic(t, field, p, void, list[1:5], true)
	if changed() || !slices.Equal(list, before) || void != textWithLot("", 1000002) {
		t.Errorf("the arguments became %v, %v, %v and %q", field, p, list, void)
	}
}

// Results are new at each call.
func TestLotResultsAreNew(t *testing.T) {
	field, p, changed := sparePots()
	public := func(text string) []int {
		draw, _ := impl.PublicDraw(field, p, text)
		return draw
	}
	checkNewResults(t,
		indexCall{func() []int { return public("a") }, []int{1, 0, 1, 0}},
		indexCall{func() []int { return public(textWithLot("", 1000002)) }, []int{0, 1, 0, 1}},
		indexCall{func() []int { return impl.ShuffleBy("x", 1) }, []int{0}},
		indexCall{func() []int { return impl.ShuffleBy("x", 3) }, []int{2, 1, 0}},
	)
	if changed() {
		t.Errorf("the arguments became %v and %v", field, p)
	}
}

// A result stays as it is when the arguments change.
func TestPublicDrawStays(t *testing.T) {
	field, p := eightTeams(), potsOf(4, 8, "012 345 67")
	draw, used := impl.PublicDraw(field, p, textWithLot("", 1000002))
	clear(field)
	for i := range p.Pots {
		clear(p.Pots[i])
	}
	if !slices.Equal(draw, digitsOf("30110320")) || used != 3 {
		t.Errorf("after a change of the arguments, the result is %v, %d", draw, used)
	}
}
