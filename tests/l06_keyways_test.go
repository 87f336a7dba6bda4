package tests

import (
	"slices"
	"strings"
	"testing"

	"loop.example/g00947/impl"
)

const (
	profiles    = int64(4096)
	fullProfile = profiles - 1
)

// badProfiles are no profiles. Some of them are ones in their lowest bits.
var badProfiles = []int64{-1, 4096, -2, -7, -4095, -4096, 4097, 8191, 65535, 65536, 65541, -65531, 1 << 32, 1<<32 + 7, 1 << 62, smallest, smallest + 7, largest, largest - 7}

// edgeProfiles have no bit, one bit, all but one, or all of them.
func edgeProfiles() []int64 {
	edges := []int64{0, fullProfile}
	for bit := range 12 {
		edges = append(edges, 1<<bit, fullProfile-1<<bit)
	}
	return edges
}

// someProfiles are the edge profiles and others.
func someProfiles() []int64 {
	some := append(edgeProfiles(), 3, 5, 6, 7, 13, 0x555, 0xaaa, 0x00f, 0x0f0, 0xf00, 0x7e0, 0xc03)
	s := sequence(6)
	for range 40 {
		some = append(some, s.below(profiles))
	}
	return some
}

// expectedBits returns the bits of a profile, the lowest one first.
func expectedBits(profile int64) [12]bool {
	var bits [12]bool
	for place := range bits {
		bits[place] = profile%2 == 1
		profile /= 2
	}
	return bits
}

func expectedCount(profile int64) int64 {
	count := int64(0)
	for _, bit := range expectedBits(profile) {
		if bit {
			count++
		}
	}
	return count
}

// expectedEnters looks for a field that is filled and not open.
func expectedEnters(blank, way int64) bool {
	open := expectedBits(way)
	for place, filled := range expectedBits(blank) {
		if filled && !open[place] {
			return false
		}
	}
	return true
}

func expectedWays(blank int64, ways []int64) []int64 {
	var entered []int64
	for i, way := range ways {
		if expectedEnters(blank, way) {
			entered = append(entered, int64(i))
		}
	}
	return entered
}

func expectedProfileText(profile int64) string {
	text := ""
	for _, bit := range expectedBits(profile) {
		if bit {
			text = "#" + text
		} else {
			text = "." + text
		}
	}
	return text
}

// wantedOf returns the indices whose bits a number has.
func wantedOf(n int, ways []int64) []int64 {
	var wanted []int64
	for i := range ways {
		if n>>i&1 == 1 {
			wanted = append(wanted, int64(i))
		}
	}
	return wanted
}

// wayLists have from none to MaxWays keyways, some of them several times.
func wayLists() [][]int64 {
	lists := [][]int64{
		nil, {}, {0}, {fullProfile}, {1}, {1 << 11}, {7}, {4094}, {2047},
		{7, 13}, {13, 7}, {7, 3}, {3, 7}, {7, 7}, {0, 0}, {0, fullProfile}, {fullProfile, 0}, {1, 1 << 11},
		{7, 13, 7}, {5, 6, 3}, {1, 2, 4, 8}, {15, 14, 13, 11, 7},
		filled(8, 0), filled(8, fullProfile), filled(8, 5),
		{1, 2, 4, 8, 16, 32, 64, 128}, {16, 32, 64, 128, 256, 512, 1024, 2048},
		{4094, 4093, 4091, 4087, 4079, 4063, 4031, 3967}, {4079, 4063, 4031, 3967, 3839, 3583, 3071, 2047},
		{1, 3, 7, 15, 31, 63, 127, 255}, {4095, 4094, 4092, 4088, 4080, 4064, 4032, 3968},
		{0, 4095, 1, 2048, 4094, 2047, 0, 4095},
	}
	s := sequence(66)
	for count := range int64(9) {
		for range 3 {
			// Keyways with many open fields have blanks in common.
			ways := make([]int64, count)
			for i := range ways {
				ways[i] = s.below(profiles) | s.below(profiles)
			}
			lists = append(lists, ways)
		}
	}
	return lists
}

func TestConstantsOfKeyways(t *testing.T) {
	if impl.ProfileBits != 12 || impl.MaxWays != 8 {
		t.Errorf("constants are %d, %d", impl.ProfileBits, impl.MaxWays)
	}
}

func TestEntersWay(t *testing.T) {
	cases := []struct {
		blank, way int64
		want       bool
	}{
		{5, 7, true}, {7, 5, false}, {5, 5, true}, {5, 10, false}, {5, 4, false}, {4, 5, true}, {8, 7, false}, {6, 13, false}, {12, 13, true},
		// A greater number may enter a smaller one, but not the other way round.
		{2048, 4095, true}, {2048, 2047, false}, {2047, 2048, false}, {2047, 4094, false}, {2046, 4094, true},
		// No field, and all of them.
		{0, 0, true}, {0, 1, true}, {0, fullProfile, true}, {fullProfile, fullProfile, true}, {fullProfile, 0, false}, {1, 0, false}, {2048, 0, false},
		// The lowest and the highest bit, and all but these.
		{1, 1, true}, {1, 4094, false}, {1, 4095, true}, {2048, 2048, true}, {2049, 2048, false}, {2049, 1, false}, {2049, 2049, true},
		{4094, fullProfile, true}, {fullProfile, 4094, false}, {2047, fullProfile, true}, {fullProfile, 2047, false},
	}
	for _, c := range cases {
		if got, code := impl.EntersWay(c.blank, c.way); got != c.want || code != impl.ErrNone {
			t.Errorf("EntersWay(%d, %d) = %v, %d", c.blank, c.way, got, code)
		}
	}
}

func TestEntersWayForManyProfiles(t *testing.T) {
	for _, some := range someProfiles() {
		for other := range profiles {
			if got, code := impl.EntersWay(some, other); got != expectedEnters(some, other) || code != impl.ErrNone {
				t.Fatalf("EntersWay(%d, %d) = %v, %d", some, other, got, code)
			}
			if got, code := impl.EntersWay(other, some); got != expectedEnters(other, some) || code != impl.ErrNone {
				t.Fatalf("EntersWay(%d, %d) = %v, %d", other, some, got, code)
			}
		}
	}
}

func TestWaysOf(t *testing.T) {
	cases := []struct {
		blank int64
		ways  []int64
		want  []int64
	}{
		{5, []int64{7, 4, 5}, []int64{0, 2}},
		// No keyways, and one.
		{0, nil, nil}, {fullProfile, []int64{}, nil}, {5, []int64{7}, []int64{0}}, {5, []int64{6}, nil}, {0, []int64{0}, []int64{0}},
		// No keyway is entered, one of them, and all of them.
		{8, []int64{7, 4, 5}, nil}, {fullProfile, []int64{4094, 2047, 0}, nil}, {4, []int64{3, 4, 11}, []int64{1}}, {4, []int64{7, 4, 5}, []int64{0, 1, 2}},
		{0, []int64{7, 0, 4095, 2048}, []int64{0, 1, 2, 3}}, {fullProfile, []int64{4095, 4094, 4095}, []int64{0, 2}},
		// The first one and the last one alone, also of MaxWays.
		{1, []int64{1, 2, 4, 8, 16, 32, 64, 128}, []int64{0}}, {128, []int64{1, 2, 4, 8, 16, 32, 64, 128}, []int64{7}},
		{0, []int64{1, 2, 4, 8, 16, 32, 64, 128}, []int64{0, 1, 2, 3, 4, 5, 6, 7}}, {2048, filled(8, 2047), nil},
		{256, []int64{1, 2, 4, 8, 16, 32, 64, 128}, nil},
		// The same keyway several times.
		{5, []int64{7, 7, 6, 7}, []int64{0, 1, 3}}, {5, filled(8, 5), []int64{0, 1, 2, 3, 4, 5, 6, 7}},
	}
	for _, c := range cases {
		given := roomy(c.ways)
		if got, code := impl.WaysOf(c.blank, given); !slices.Equal(got, c.want) || code != impl.ErrNone {
			t.Errorf("WaysOf(%d, %v) = %v, %d, want %v", c.blank, c.ways, got, code, c.want)
		}
		checkKept(t, "WaysOf", given, c.ways)
	}
}

func TestWaysOfManyBlanks(t *testing.T) {
	for _, ways := range wayLists() {
		for blank := range profiles {
			if got, code := impl.WaysOf(blank, ways); !slices.Equal(got, expectedWays(blank, ways)) || code != impl.ErrNone {
				t.Fatalf("WaysOf(%d, %v) = %v, %d", blank, ways, got, code)
			}
		}
	}
}

// P6: a blank with one field less enters all keyways that the blank enters, and so, step by step,
// does every blank that fills less.
func TestP6LessEntersWhatMoreEnters(t *testing.T) {
	for _, ways := range append(wayLists(), edgeProfiles()[:8], edgeProfiles()[8:16], edgeProfiles()[16:24]) {
		for more := range profiles {
			entered, code := impl.WaysOf(more, ways)
			if code != impl.ErrNone {
				t.Fatalf("WaysOf(%d, %v) = %v, %d", more, ways, entered, code)
			}
			for bit := range 12 {
				less := more &^ (1 << bit)
				for _, i := range entered {
					if enters, code := impl.EntersWay(less, ways[i]); !enters || code != impl.ErrNone {
						t.Fatalf("EntersWay(%d, %d) = %v, %d, but %d enters", less, ways[i], enters, code, more)
					}
				}
			}
		}
	}
}

// P6 for any two blanks, not only for those that differ by one field, and all indices at once.
func TestP6LessEntersAllIndicesOfMore(t *testing.T) {
	s := sequence(67)
	for _, ways := range wayLists() {
		for range 2000 {
			more := s.below(profiles) & s.below(profiles)
			less := more & s.below(profiles)
			entered, _ := impl.WaysOf(more, ways)
			got, code := impl.WaysOf(less, ways)
			for _, i := range entered {
				if !slices.Contains(got, i) || code != impl.ErrNone {
					t.Fatalf("WaysOf(%d, %v) = %v, %d, but %v for %d", less, ways, got, code, entered, more)
				}
			}
		}
	}
}

// P6: what a keyway lets in is not nothing: the promise would hold if nothing entered anything.
func TestP6EachProfileEntersItself(t *testing.T) {
	for profile := range profiles {
		for _, way := range []int64{profile, fullProfile} {
			if got, code := impl.EntersWay(profile, way); !got || code != impl.ErrNone {
				t.Errorf("EntersWay(%d, %d) = %v, %d", profile, way, got, code)
			}
		}
	}
}

func TestCommonWay(t *testing.T) {
	cases := []struct {
		ways []int64
		want int64
	}{
		{[]int64{7, 13}, 5}, {nil, 4095}, {[]int64{}, 4095}, {[]int64{0}, 0}, {[]int64{4095}, 4095}, {[]int64{5}, 5}, {[]int64{2048}, 2048},
		{[]int64{5, 10}, 0}, {[]int64{5, 5, 5}, 5}, {filled(8, 4095), 4095}, {filled(8, 2049), 2049},
		{[]int64{4094, 2047}, 2046}, {[]int64{4095, 1}, 1}, {[]int64{2048, 4095}, 2048},
		{[]int64{4094, 4093, 4091, 4087, 4079, 4063, 4031, 3967}, 0xf00}, {append(filled(7, 4095), 0), 0}, {append([]int64{0}, filled(7, 4095)...), 0},
	}
	for _, c := range cases {
		given := roomy(c.ways)
		if got, code := impl.CommonWay(given); got != c.want || code != impl.ErrNone {
			t.Errorf("CommonWay(%v) = %d, %d, want %d", c.ways, got, code, c.want)
		}
		checkKept(t, "CommonWay", given, c.ways)
	}
}

// The common way enters all keyways, and of all other blanks that do so, none is greater.
func TestCommonWayIsTheGreatestBlank(t *testing.T) {
	for _, ways := range wayLists() {
		want := int64(-1)
		for blank := range profiles {
			if len(expectedWays(blank, ways)) == len(ways) {
				want = blank
			}
		}
		if got, code := impl.CommonWay(ways); got != want || code != impl.ErrNone {
			t.Errorf("CommonWay(%v) = %d, %d, want %d", ways, got, code, want)
		}
	}
}

func TestCountBlanks(t *testing.T) {
	for way, want := range map[int64]int64{0: 1, 1: 2, 2: 2, 3: 4, 5: 4, 7: 8, 15: 16, 16: 2, 255: 256, 2048: 2, 2049: 4, 2047: 2048, 4094: 2048, 4080: 256, 4095: 4096} {
		if got, code := impl.CountBlanks(way); got != want || code != impl.ErrNone {
			t.Errorf("CountBlanks(%d) = %d, %d, want %d", way, got, code, want)
		}
	}
	for way := range profiles {
		if got, code := impl.CountBlanks(way); got != 1<<expectedCount(way) || code != impl.ErrNone {
			t.Errorf("CountBlanks(%d) = %d, %d", way, got, code)
		}
	}
	for _, way := range someProfiles() {
		want := int64(0)
		for blank := range profiles {
			if expectedEnters(blank, way) {
				want++
			}
		}
		if got, code := impl.CountBlanks(way); got != want || code != impl.ErrNone {
			t.Errorf("CountBlanks(%d) = %d, %d, want %d", way, got, code, want)
		}
	}
}

// checkExact compares the results for the keyways wanted; count 0 stands for no blank at all.
func checkExact(t *testing.T, ways, wanted []int64, blank, count int64) {
	t.Helper()
	wantCode := int64(impl.ErrNone)
	if count == 0 {
		wantCode = impl.ErrNotFound
	}
	givenWays, givenWanted := roomy(ways), roomy(wanted)
	if got, code := impl.ExactBlank(givenWays, givenWanted); got != blank || code != wantCode {
		t.Errorf("ExactBlank(%v, %v) = %d, %d, want %d, %d", ways, wanted, got, code, blank, wantCode)
	}
	if got, code := impl.CountExact(givenWays, givenWanted); got != count || code != impl.ErrNone {
		t.Errorf("CountExact(%v, %v) = %d, %d, want %d", ways, wanted, got, code, count)
	}
	checkKept(t, "ExactBlank or CountExact", givenWays, ways)
	checkKept(t, "ExactBlank or CountExact", givenWanted, wanted)
}

func TestExactBlankAndCountExact(t *testing.T) {
	doublings := []int64{1, 2, 4, 8, 16, 32, 64, 128}
	cases := []struct {
		ways, wanted []int64
		blank, count int64
	}{
		{[]int64{7, 13}, []int64{0}, 2, 4}, {[]int64{7, 13}, []int64{1}, 8, 4}, {[]int64{7, 13}, []int64{0, 1}, 0, 4}, {[]int64{7, 13}, nil, 10, 4096 - 12},
		// No keyways.
		{nil, nil, 0, 4096}, {[]int64{}, []int64{}, 0, 4096},
		// One keyway, wanted or not.
		{[]int64{0}, []int64{0}, 0, 1}, {[]int64{0}, nil, 1, 4095}, {[]int64{4095}, []int64{0}, 0, 4096}, {[]int64{4095}, nil, 0, 0},
		{[]int64{4094}, nil, 1, 2048}, {[]int64{2047}, nil, 2048, 2048}, {[]int64{2048}, nil, 1, 4094},
		// Whatever enters a wanted keyway enters another one, too.
		{[]int64{7, 3}, []int64{1}, 0, 0}, {[]int64{7, 3}, []int64{0}, 4, 4}, {[]int64{3, 7}, []int64{0}, 0, 0}, {[]int64{0, 5}, []int64{0}, 0, 0}, {[]int64{5, 4095}, []int64{0}, 0, 0},
		{[]int64{5, 4095}, nil, 0, 0}, {[]int64{4095, 5}, []int64{0}, 2, 4092},
		// Only what enters a third one enters two that are wanted.
		{[]int64{6, 3, 2}, []int64{0, 1}, 0, 0}, {[]int64{6, 3, 1}, []int64{0, 1}, 2, 1}, {[]int64{6, 3, 0}, []int64{0, 1}, 2, 1}, {[]int64{6, 3, 2, 2}, []int64{2, 3}, 0, 0},
		// The same keyway several times: all of its indices or none.
		{[]int64{5, 5}, []int64{0}, 0, 0}, {[]int64{5, 5}, []int64{1}, 0, 0}, {[]int64{5, 5}, []int64{0, 1}, 0, 4}, {[]int64{5, 5}, nil, 2, 4092},
		{[]int64{7, 13, 7}, []int64{0, 2}, 2, 4}, {[]int64{7, 13, 7}, []int64{0, 1}, 0, 0}, {filled(8, 1), []int64{0, 1, 2, 3, 4, 5, 6, 7}, 0, 2}, {filled(8, 1), []int64{0, 1, 2, 3, 4, 5, 6}, 0, 0},
		// MaxWays: all of them, none, the first one or the last one alone.
		{doublings, []int64{0, 1, 2, 3, 4, 5, 6, 7}, 0, 1}, {doublings, nil, 3, 4096 - 9}, {doublings, []int64{0}, 1, 1}, {doublings, []int64{7}, 128, 1}, {doublings, []int64{3}, 8, 1}, {doublings, []int64{0, 7}, 0, 0},
		// The least blank is not always the one with the lowest fields of a wanted keyway.
		{[]int64{3072, 1024}, []int64{0}, 2048, 2}, {[]int64{4095, 4094, 2047}, []int64{0}, 2049, 1024}, {[]int64{4095, 2047, 4094}, []int64{0, 2}, 2048, 1024},
		{[]int64{4094, 4093, 4091, 4087, 4079, 4063, 4031, 3967}, nil, 255, 16},
	}
	for _, c := range cases {
		checkExact(t, c.ways, c.wanted, c.blank, c.count)
	}
}

// Each blank enters exactly one choice of keyways: all blanks are sorted by what they enter.
func TestExactBlanksOfAllChoices(t *testing.T) {
	for _, ways := range wayLists() {
		least, count := map[int]int64{}, map[int]int64{}
		for blank := range profiles {
			choice := 0
			for _, i := range expectedWays(blank, ways) {
				choice |= 1 << i
			}
			if count[choice] == 0 {
				least[choice] = blank
			}
			count[choice]++
		}
		sum := int64(0)
		for choice := range 1 << len(ways) {
			wanted := wantedOf(choice, ways)
			checkExact(t, ways, wanted, least[choice], count[choice])
			got, _ := impl.CountExact(ways, wanted)
			sum += got
		}
		if sum != profiles {
			t.Errorf("CountExact of all choices of %v adds up to %d", ways, sum)
		}
	}
}

func TestProfileText(t *testing.T) {
	for profile, want := range map[int64]string{
		0: "............", 4095: "############", 1: "...........#", 2048: "#...........", 4094: "###########.", 2047: ".###########",
		5: ".........#.#", 7: ".........###", 2: "..........#.", 1024: ".#..........", 0x555: ".#.#.#.#.#.#", 0xaaa: "#.#.#.#.#.#.", 0xf00: "####........", 0x00f: "........####",
	} {
		if got, code := impl.ProfileText(profile); got != want || code != impl.ErrNone {
			t.Errorf("ProfileText(%d) = %q, %d, want %q", profile, got, code, want)
		}
		if got, code := impl.ReadProfile(want); got != profile || code != impl.ErrNone {
			t.Errorf("ReadProfile(%q) = %d, %d, want %d", want, got, code, profile)
		}
	}
}

// P1: a profile is recovered from its text.
func TestP1ProfileIsRecoveredFromText(t *testing.T) {
	for profile := range profiles {
		text, code := impl.ProfileText(profile)
		if text != expectedProfileText(profile) || code != impl.ErrNone {
			t.Errorf("ProfileText(%d) = %q, %d", profile, text, code)
		}
		if got, code := impl.ReadProfile(text); got != profile || code != impl.ErrNone {
			t.Errorf("ReadProfile(%q) = %d, %d, want %d", text, got, code, profile)
		}
	}
}

func checkNoProfile(t *testing.T, s string) {
	t.Helper()
	if got, code := impl.ReadProfile(s); got != 0 || code != impl.ErrSyntax {
		t.Errorf("ReadProfile(%.60q) = %d, %d", s, got, code)
	}
}

func TestReadProfileOfNoProfile(t *testing.T) {
	for _, s := range []string{
		"", ".", "#", " ", "0", "5", "4095", "-", "\x00", "\n",
		// One character too few or too many.
		"...........", "###########", ".........#.", ".............", "#############", ".........#.#.", "..........#.#",
		// Blanks and newlines.
		".........#.#\n", "\n.........#.#", ".........#.# ", " .........#.#", "\n........#.#", "........#.#\n", " ........#.#", "........#.# ", "......  ..#.#", ".... . ...#.#", "            ",
		// Other characters in place of one of the two.
		"000000000101", "111111111111", "oooooooooXoX", ".........x.#", "*........#.#", "_________#_#", "---------#-#", ".........+.#", "........,#.#", ".....:...#.#", "............\x00", "\x00...........",
		".........\".#", ".........$.#", "........./.#", ".........-.#", "\x23\xa3..........", "\x2e\xae..........",
		// Characters of several bytes, as 12 characters and as 12 bytes.
		".........\u00a3.#", ".........#.\u00a3", ".........#\u00a3", "\uff03........#.#", "\uff03......#.#", "............\uff03", ".........\uff03", "\u2026\u2026\u2026\u2026", "\u00b7...........", "\u00b7..........",
		"\uff0e\uff0e\uff0e\uff0e\uff0e\uff0e\uff0e\uff0e\uff0e\uff0e\uff0e\uff0e", "........\U0001f511", "........\U0001f511...", ".........#.#\u0301", "\ufeff.........#.#", "\ufeff.........", "...........\xff",
		// Two texts, and long ones.
		".........#.#.........#.#", ".........#.# .........#.#", strings.Repeat("#", 64), strings.Repeat(".", 1000000), strings.Repeat("#", 1000000),
	} {
		checkNoProfile(t, s)
	}
}

// P1: no other text is read, neither one that is shorter or longer nor one with another byte.
func TestP1OnlyTextsOfProfilesAreRead(t *testing.T) {
	texts := []string{""}
	for length := range 14 {
		for _, s := range texts {
			if length != 12 {
				checkNoProfile(t, s)
			}
		}
		var longer []string
		for _, s := range texts {
			longer = append(longer, s+".", s+"#")
		}
		texts = longer
	}
	for _, profile := range someProfiles() {
		text := expectedProfileText(profile)
		for place := range 12 {
			for b := range 256 {
				if b != '#' && b != '.' {
					checkNoProfile(t, text[:place]+string([]byte{byte(b)})+text[place+1:])
				}
				checkNoProfile(t, text[:place]+string([]byte{byte(b)})+text[place:])
			}
		}
	}
}

func TestKeywaysRejectProfiles(t *testing.T) {
	for _, bad := range badProfiles {
		for _, good := range []int64{0, 5, 2048, fullProfile, bad} {
			if got, code := impl.EntersWay(bad, good); got || code != impl.ErrRange {
				t.Errorf("EntersWay(%d, %d) = %v, %d", bad, good, got, code)
			}
			if got, code := impl.EntersWay(good, bad); got || code != impl.ErrRange {
				t.Errorf("EntersWay(%d, %d) = %v, %d", good, bad, got, code)
			}
		}
		for _, ways := range [][]int64{nil, {}, {0}, {5, 7}, filled(8, fullProfile), filled(9, 5), {bad}} {
			if got, code := impl.WaysOf(bad, ways); len(got) != 0 || code != impl.ErrRange {
				t.Errorf("WaysOf(%d, %v) = %v, %d", bad, ways, got, code)
			}
		}
		if got, code := impl.CountBlanks(bad); got != 0 || code != impl.ErrRange {
			t.Errorf("CountBlanks(%d) = %d, %d", bad, got, code)
		}
		if got, code := impl.ProfileText(bad); got != "" || code != impl.ErrRange {
			t.Errorf("ProfileText(%d) = %q, %d", bad, got, code)
		}
	}
}

// checkRange fails unless all functions of several keyways reject them or the indices wanted.
func checkRange(t *testing.T, ways, wanted []int64) {
	t.Helper()
	givenWays, givenWanted := roomy(ways), roomy(wanted)
	if got, code := impl.ExactBlank(givenWays, givenWanted); got != 0 || code != impl.ErrRange {
		t.Errorf("ExactBlank(%v, %v) = %d, %d", ways, wanted, got, code)
	}
	if got, code := impl.CountExact(givenWays, givenWanted); got != 0 || code != impl.ErrRange {
		t.Errorf("CountExact(%v, %v) = %d, %d", ways, wanted, got, code)
	}
	checkKept(t, "ExactBlank or CountExact", givenWays, ways)
	checkKept(t, "ExactBlank or CountExact", givenWanted, wanted)
}

func TestKeywaysRejectLists(t *testing.T) {
	// More than MaxWays, though all of them are profiles.
	lists := [][]int64{filled(9, 0), filled(9, 5), filled(9, fullProfile), filled(16, 7), filled(100, 7), filled(101, 7), filled(1000, 0), {1, 2, 4, 8, 16, 32, 64, 128, 256}}
	// One that is none, at each place of lists of each length.
	for _, bad := range badProfiles {
		for count := 1; count <= 9; count++ {
			for place := range count {
				ways := filled(count, 7)
				ways[place] = bad
				lists = append(lists, ways)
			}
		}
		lists = append(lists, filled(8, bad))
	}
	for _, ways := range lists {
		given := roomy(ways)
		for _, blank := range []int64{0, 5, fullProfile} {
			if got, code := impl.WaysOf(blank, given); len(got) != 0 || code != impl.ErrRange {
				t.Errorf("WaysOf(%d, %v) = %v, %d", blank, ways, got, code)
			}
		}
		if got, code := impl.CommonWay(given); got != 0 || code != impl.ErrRange {
			t.Errorf("CommonWay(%v) = %d, %d", ways, got, code)
		}
		checkKept(t, "WaysOf or CommonWay", given, ways)
		// Also where no blank would be found, and beside indices that are none.
		for _, wanted := range [][]int64{nil, {}, {0}, {int64(len(ways)) - 1}, {0, 1}, {8}, {-1}, {1, 0}} {
			checkRange(t, ways, wanted)
		}
	}
}

func TestKeywaysRejectWanted(t *testing.T) {
	for _, ways := range [][]int64{nil, {}, {0}, {7}, {7, 13}, {7, 3}, {5, 5, 5}, {4095, 1}, filled(8, 5), {1, 2, 4, 8, 16, 32, 64, 128}} {
		n := int64(len(ways))
		all := wantedOf(1<<len(ways)-1, ways)
		for _, wanted := range [][]int64{
			// Indices below 0 and from the number of keyways on, alone or beside all others.
			{-1}, {n}, {n + 1}, {-n}, {8}, {64}, {smallest}, {largest}, {1 << 32}, {-1, n}, {smallest, largest},
			append([]int64{-1}, all...), append(slices.Clone(all), n), append(slices.Clone(all), largest), append([]int64{smallest}, all...),
			// Indices several times, or in another order.
			{0, 0}, {n - 1, n - 1}, {n, n}, {1, 0}, {n - 1, 0, n - 1}, {0, 1, 1}, {0, 2, 1}, {7, 6, 5, 4, 3, 2, 1, 0}, {0, 1, 2, 3, 4, 5, 7, 6},
			append(slices.Clone(all), 0), append([]int64{n - 1}, all...), append(slices.Clone(all), all...), filled(9, 0), filled(101, 0),
		} {
			// Without keyways, all indices twice are no indices at all, which is right.
			if len(wanted) > 0 {
				checkRange(t, ways, wanted)
			}
		}
	}
}

// Results share no memory with an argument or with later results.
func TestResultsOfKeywaysAreNew(t *testing.T) {
	for _, ways := range wayLists() {
		given := slices.Clone(ways)
		want := expectedWays(0, ways)
		got, _ := impl.WaysOf(0, given)
		_ = append(got, largest)
		fill(got[:cap(got)], largest)
		if again, code := impl.WaysOf(0, given); !slices.Equal(again, want) || code != impl.ErrNone {
			t.Errorf("WaysOf(0, %v) = %v, %d after its result was changed", ways, again, code)
		}
		if !slices.Equal(given, ways) {
			t.Errorf("WaysOf(0, %v) shares memory with its argument, which is now %v", ways, given)
		}
	}
}
