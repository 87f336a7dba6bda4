package tests

import (
	"slices"
	"strconv"
	"strings"
	"testing"

	"loop.example/g00947/impl"
)

// fewest is the maker with the fewest chambers and depths.
var fewest = impl.Maker{Chambers: 2, Depths: 2, Step: 1, Same: 1, Least: 1}

// shelf is a maker with two chambers and the 6 depths of the example of chapter 5.
var shelf = impl.Maker{Chambers: 2, Depths: 6, Step: 3, Same: 1, Least: 2}

// pinMakers returns one maker with each number of chambers and of depths, and others whose rules
// for keys are strict, as these do not count for pins.
func pinMakers() []impl.Maker {
	makers := []impl.Maker{desk, free, strict, {Chambers: 6, Depths: 8, Step: 1, Same: 1, Least: 6}}
	for c := int64(2); c <= impl.MaxChambers; c++ {
		for d := int64(2); d <= impl.MaxDepths; d++ {
			makers = append(makers, impl.Maker{Chambers: c, Depths: d, Step: 1, Same: c, Least: 1})
		}
	}
	return makers
}

// allSets returns all sets of a chamber with some depths.
func allSets(depths int64) [][]int64 {
	var sets [][]int64
	for n := 1; n < 1<<depths; n++ {
		var set []int64
		for depth := range depths {
			if n>>depth&1 == 1 {
				set = append(set, depth)
			}
		}
		sets = append(sets, set)
	}
	return sets
}

// allLocksOfPair returns all locks of a maker with two chambers.
func allLocksOfPair(m impl.Maker) []impl.Lock {
	var locks []impl.Lock
	for _, a := range allSets(m.Depths) {
		for _, b := range allSets(m.Depths) {
			locks = append(locks, lockOf(a, b))
		}
	}
	return locks
}

// expectedStack cuts a pile of Depths - 1 units above the depths of a set.
func expectedStack(m impl.Maker, set []int64) []int64 {
	var stack []int64
	units := int64(0)
	for height := range m.Depths {
		if slices.Contains(set, height) {
			stack = append(stack, units)
			units = 0
		}
		units++
	}
	return append(stack, units-1)
}

func expectedPins(m impl.Maker, l impl.Lock) [][]int64 {
	var pins [][]int64
	for _, set := range l.Sets {
		pins = append(pins, expectedStack(m, set))
	}
	return pins
}

func expectedPinsText(m impl.Maker, l impl.Lock) string {
	text := ""
	for chamber, stack := range expectedPins(m, l) {
		if chamber > 0 {
			text += " "
		}
		for place, pin := range stack {
			if place > 0 {
				text += "+"
			}
			text += strconv.FormatInt(pin, 10)
		}
	}
	return text
}

// expectedThin holds each two depths of each chamber against each other.
func expectedThin(l impl.Lock, least int64) []int64 {
	var thin []int64
	for chamber, set := range l.Sets {
		near := 0
		for _, a := range set {
			for _, b := range set {
				if a < b && b-a < least {
					near++
				}
			}
		}
		if near > 0 {
			thin = append(thin, int64(chamber))
		}
	}
	return thin
}

// expectedThick takes away, again and again, the first depth that is too near to the one before.
func expectedThick(l impl.Lock, least int64) impl.Lock {
	thick := cloneLock(l)
	for chamber := range thick.Sets {
		for place := 1; place < len(thick.Sets[chamber]); {
			set := thick.Sets[chamber]
			if set[place]-set[place-1] < least {
				thick.Sets[chamber] = slices.Delete(set, place, place+1)
			} else {
				place++
			}
		}
	}
	return thick
}

// badLeasts returns numbers that are no least number of wafers.
func badLeasts(m impl.Maker) []int64 {
	return []int64{0, -1, -m.Depths, m.Depths + 1, m.Depths + 2, 100, smallest, largest}
}

func TestConstantsOfPins(t *testing.T) {
	if impl.MaxLocks != 40 {
		t.Errorf("MaxLocks is %d", impl.MaxLocks)
	}
}

// pinCases have locks with their pins and the texts of these.
var pinCases = []struct {
	maker impl.Maker
	lock  impl.Lock
	pins  [][]int64
	text  string
}{
	// The example of the chapter.
	{shelf, lockOf([]int64{1, 3}, []int64{5}), [][]int64{{1, 2, 2}, {5, 0}}, "1+2+2 5+0"},
	// One depth in each chamber: the first one, the last one, others.
	{desk, goodDeskLocks[0], [][]int64{{0, 4}, {0, 4}, {0, 4}, {0, 4}}, "0+4 0+4 0+4 0+4"},
	{desk, goodDeskLocks[1], [][]int64{{4, 0}, {4, 0}, {4, 0}, {4, 0}}, "4+0 4+0 4+0 4+0"},
	{desk, singleLock([]int64{1, 2, 3, 4}), [][]int64{{1, 3}, {2, 2}, {3, 1}, {4, 0}}, "1+3 2+2 3+1 4+0"},
	// The first and the last depth.
	{desk, goodDeskLocks[2], [][]int64{{0, 4, 0}, {0, 4, 0}, {0, 4, 0}, {0, 4, 0}}, "0+4+0 0+4+0 0+4+0 0+4+0"},
	// Sets of different sizes.
	{desk, goodDeskLocks[3], [][]int64{{0, 4}, {1, 1, 2}, {0, 2, 2, 0}, {3, 1}}, "0+4 1+1+2 0+2+2+0 3+1"},
	{desk, goodDeskLocks[4], [][]int64{{1, 1, 1, 1}, {4, 0}, {0, 4}, {0, 1, 1, 1, 1, 0}}, "1+1+1+1 4+0 0+4 0+1+1+1+1+0"},
	{deep, lockOf([]int64{2, 5}, []int64{0}, []int64{7}, []int64{3}, []int64{1, 6}, []int64{0, 3, 7}),
		[][]int64{{2, 3, 2}, {0, 7}, {7, 0}, {3, 4}, {1, 5, 1}, {0, 3, 4, 0}}, "2+3+2 0+7 7+0 3+4 1+5+1 0+3+4+0"},
	{free, lockOf([]int64{0, 3}, []int64{1, 2}, []int64{2}), [][]int64{{0, 3, 0}, {1, 1, 1}, {2, 1}}, "0+3+0 1+1+1 2+1"},
	// All depths, also of the fewest and the most chambers and depths.
	{desk, fullLock(desk), slices.Repeat([][]int64{{0, 1, 1, 1, 1, 0}}, 4), "0+1+1+1+1+0 0+1+1+1+1+0 0+1+1+1+1+0 0+1+1+1+1+0"},
	{fewest, lockOf([]int64{0}, []int64{1}), [][]int64{{0, 1}, {1, 0}}, "0+1 1+0"},
	{fewest, fullLock(fewest), [][]int64{{0, 1, 0}, {0, 1, 0}}, "0+1+0 0+1+0"},
	{deep, fullLock(deep), slices.Repeat([][]int64{{0, 1, 1, 1, 1, 1, 1, 1, 0}}, 6),
		strings.Repeat("0+1+1+1+1+1+1+1+0 ", 5) + "0+1+1+1+1+1+1+1+0"},
	{deep, singleLock(filled(6, 7)), slices.Repeat([][]int64{{7, 0}}, 6), "7+0 7+0 7+0 7+0 7+0 7+0"},
	// No key opens the lock.
	{strict, singleLock(filled(4, 2)), slices.Repeat([][]int64{{2, 2}}, 4), "2+2 2+2 2+2 2+2"},
}

func TestPinsOf(t *testing.T) {
	for _, c := range pinCases {
		sets := roomyLists(c.lock.Sets)
		if got, code := impl.PinsOf(c.maker, impl.Lock{Sets: sets}); !sameLists(got, c.pins) || code != impl.ErrNone {
			t.Errorf("PinsOf(%v, %v) = %v, %d, want %v", c.maker, c.lock, got, code, c.pins)
		}
		checkListsKept(t, "PinsOf", sets, c.lock.Sets)
	}
}

func TestLockOfPins(t *testing.T) {
	for _, c := range pinCases {
		given := roomyLists(c.pins)
		if got, code := impl.LockOfPins(c.maker, given); !sameLock(got, c.lock) || code != impl.ErrNone {
			t.Errorf("LockOfPins(%v, %v) = %v, %d, want %v", c.maker, c.pins, got, code, c.lock)
		}
		checkListsKept(t, "LockOfPins", given, c.pins)
	}
}

func TestPinsText(t *testing.T) {
	for _, c := range pinCases {
		sets := roomyLists(c.lock.Sets)
		if got, code := impl.PinsText(c.maker, impl.Lock{Sets: sets}); got != c.text || code != impl.ErrNone {
			t.Errorf("PinsText(%v, %v) = %q, %d, want %q", c.maker, c.lock, got, code, c.text)
		}
		checkListsKept(t, "PinsText", sets, c.lock.Sets)
	}
}

func TestReadPins(t *testing.T) {
	for _, c := range pinCases {
		if got, code := impl.ReadPins(c.maker, c.text); !sameLock(got, c.lock) || code != impl.ErrNone {
			t.Errorf("ReadPins(%v, %q) = %v, %d, want %v", c.maker, c.text, got, code, c.lock)
		}
	}
}

// badStacks are those of no set of desk.
var badStacks = [][]int64{
	nil,
	// One number.
	{0}, {4}, {5}, {-1},
	// Too low and too high.
	{0, 0}, {0, 3}, {3, 0}, {1, 2}, {0, 5}, {5, 0}, {4, 1}, {1, 4}, {2, 3}, {4, 4}, {5, 5},
	{0, 1, 0}, {0, 1, 2}, {0, 3, 0}, {1, 1, 1}, {1, 1, 3}, {0, 5, 0}, {1, 4, 0}, {0, 4, 1}, {1, 4, 1},
	{0, 1, 1, 1, 0}, {0, 1, 1, 1, 1, 1}, {1, 1, 1, 1, 1, 0}, {0, 1, 1, 1, 1, 1, 0}, {0, 2, 2, 2, 0},
	// Numbers below 0.
	{-1, 5}, {5, -1}, {-1, 4}, {4, -1}, {-1, -1}, {-4, 8}, {0, -1, 5}, {2, -1, 3}, {2, -2, 4}, {4, -4, 4}, {0, 5, -1}, {-1, 5, 0}, {-1, 1, 4}, {1, 2, -1, 2}, {0, 4, -4, 4},
	// Wafers of 0.
	{0, 0, 4}, {4, 0, 0}, {2, 0, 2}, {0, 0, 0}, {0, 4, 0, 0}, {0, 0, 4, 0}, {1, 1, 0, 2}, {1, 0, 1, 2}, {0, 1, 1, 0, 1, 1}, {0, 1, 1, 1, 1, 0, 0},
	// Numbers beyond all limits, whose sums would come back to the height of a stack.
	{largest, 0}, {0, largest}, {smallest, 4}, {4, smallest}, {largest, largest}, {smallest, smallest}, {0, smallest, smallest, 4}, {2, smallest, smallest, 2},
	{largest, largest, 6}, {largest, largest, 2, 4}, {0, largest, largest, 2, 4}, {6, largest, largest}, {2, largest, largest, 4}, {largest, smallest, 5}, {smallest, largest, 5},
	{0, largest, smallest, 5}, {4, smallest, smallest}, {smallest, smallest, 4}, {1 << 32, 4}, {0, 4 + 1<<32}, {1 << 62, 1 << 62, 1 << 62, 1 << 62, 4},
	// Many numbers.
	filled(5, 1), filled(64, 1), filled(100, 0), filled(101, 0), append(filled(200, 0), 4), append([]int64{0, 4}, filled(200, 0)...),
}

func TestLockOfPinsRejectsStacks(t *testing.T) {
	good := []int64{0, 1, 3}
	for _, bad := range badStacks {
		for chamber := range 4 {
			pins := [][]int64{good, good, good, good}
			pins[chamber] = bad
			given := roomyLists(pins)
			if got, code := impl.LockOfPins(desk, given); !sameLock(got, impl.Lock{}) || code != impl.ErrRange {
				t.Errorf("LockOfPins(desk, %v) = %v, %d", pins, got, code)
			}
			checkListsKept(t, "LockOfPins", given, pins)
		}
		if got, code := impl.LockOfPins(desk, [][]int64{bad, bad, bad, bad}); !sameLock(got, impl.Lock{}) || code != impl.ErrRange {
			t.Errorf("LockOfPins(desk, %v in each chamber) = %v, %d", bad, got, code)
		}
	}
}

func TestLockOfPinsRejectsNumbersOfStacks(t *testing.T) {
	for _, m := range pinMakers() {
		stack := []int64{0, m.Depths - 1}
		for _, count := range []int64{0, 1, m.Chambers - 1, m.Chambers, m.Chambers + 1, 100} {
			want, wantCode := impl.Lock{}, int64(impl.ErrRange)
			if count == m.Chambers {
				want, wantCode = singleLock(filled(int(count), 0)), impl.ErrNone
			}
			pins := slices.Repeat([][]int64{stack}, int(count))
			if got, code := impl.LockOfPins(m, pins); !sameLock(got, want) || code != wantCode {
				t.Errorf("LockOfPins(%v, %v) = %v, %d, want %v, %d", m, pins, got, code, want, wantCode)
			}
		}
		if got, code := impl.LockOfPins(m, nil); !sameLock(got, impl.Lock{}) || code != impl.ErrRange {
			t.Errorf("LockOfPins(%v, nil) = %v, %d", m, got, code)
		}
	}
}

// All short lists of numbers around those of pair are taken as the stack of each chamber; exactly
// those that a set has are taken.
func TestLockOfPinsForAllShortStacks(t *testing.T) {
	lists := [][]int64{{}}
	for first := 0; len(lists[first]) < 5; first++ {
		for pin := int64(-1); pin <= 3; pin++ {
			lists = append(lists, append(slices.Clone(lists[first]), pin))
		}
	}
	taken := 0
	for _, stack := range lists {
		want, wantCode := impl.Lock{}, int64(impl.ErrRange)
		for _, set := range allSets(pair.Depths) {
			if slices.Equal(expectedStack(pair, set), stack) {
				want, wantCode = lockOf(set, []int64{0, 2}), impl.ErrNone
				taken++
			}
		}
		if got, code := impl.LockOfPins(pair, [][]int64{stack, {0, 2, 0}}); !sameLock(got, want) || code != wantCode {
			t.Fatalf("LockOfPins(pair, %v and another stack) = %v, %d, want %v, %d", stack, got, code, want, wantCode)
		}
		slices.Reverse(want.Sets)
		if got, code := impl.LockOfPins(pair, [][]int64{{0, 2, 0}, stack}); !sameLock(got, want) || code != wantCode {
			t.Fatalf("LockOfPins(pair, a stack and %v) = %v, %d, want %v, %d", stack, got, code, want, wantCode)
		}
	}
	if taken != 7 {
		t.Errorf("%d stacks were taken, want those of 7 sets", taken)
	}
}

// badDeskTexts are the texts of no pins of desk.
var badDeskTexts = []string{
	"", " ", "   ", "+", "0", "4", "-", "0+4",
	// Stacks are missing, superfluous, empty or of one number.
	"0+4 0+4 0+4", "0+4 0+4 0+4 0+4 0+4", "0+4 0+4  0+4", "0+4 0+4 0+4 ", " 0+4 0+4 0+4", "0 0+4 0+4 0+4", "0+4 0+4 0+4 4", "4 4 4 4", "0+4 0+4 + 0+4",
	"0+4+0+4+0+4+0+4", "0+40+40+40+4", strings.Repeat("0+4 ", 100000), strings.Repeat("+", 100000), strings.Repeat(" ", 100000),
	// Blanks at the beginning, at the end, twice and within a stack.
	" 0+4 0+4 0+4 0+4", "0+4 0+4 0+4 0+4 ", "0+4  0+4 0+4 0+4", "0+4 0+4 0+4  0+4", "0 +4 0+4 0+4 0+4", "0+ 4 0+4 0+4 0+4", "0+4 0+4 0+4 0 4", "  ", "0+4 0+4 0+4 0+4  ",
	// A + at the beginning, at the end or twice.
	"+0+4 0+4 0+4 0+4", "0+4 0+4 0+4 0+4+", "0+4+ 0+4 0+4 0+4", "0+4 +0+4 0+4 0+4", "0++4 0+4 0+4 0+4", "0+4 0+4 0+4 0++4", "0+4 0+4 ++0+4 0+4", "0+4 0+4 0+4 +", "0+4 0+4 0+4 ++",
	// Other separators.
	"0,4 0,4 0,4 0,4", "0+4,0+4,0+4,0+4", "0+4\t0+4 0+4 0+4", "0+4\n0+4 0+4 0+4", "0+4 0+4 0+4 0+4\n", "\n0+4 0+4 0+4 0+4", "0+4 0+4 0+4 0+4\x00", "0-4 0+4 0+4 0+4", "0+4\u00a00+4 0+4 0+4",
	// Superfluous zeros and signs.
	"00+4 0+4 0+4 0+4", "0+04 0+4 0+4 0+4", "0+4 0+4 0+4 0+04", "0+4 0+4 0+4 00+4", "-0+4 0+4 0+4 0+4", "0+-4 0+4 0+4 0+4", "0+4 0+4 0+4 0+4+-0", "0+4 0+4 0+4 4+-0", "0+4 0+4 0+4 4+00",
	// Numbers below 0.
	"-1+5 0+4 0+4 0+4", "5+-1 0+4 0+4 0+4", "0+4 0+4 0+4 2+-1+3", "0+4 0+4 0+4 0+5+-1",
	// Letters and digits of other alphabets.
	"a+4 0+4 0+4 0+4", "0+4 0+4 0+4 0+d", "0+4x 0+4 0+4 0+4", "0x0+4 0+4 0+4 0+4", "0+4 0+4 0+4 0+4e0", "0+4 0+4 0+4 0+4.0", "0_+4 0+4 0+4 0+4", "zero+4 0+4 0+4 0+4", "\u0660+4 0+4 0+4 0+4", "0+4 0+4 0+4 0+\uff14", "0+4 0+4 0+4 0+\xff",
	// Numbers beyond all limits.
	"0+4 0+4 0+4 0+9223372036854775807", "0+4 0+4 0+4 0+9223372036854775808", "0+4 0+4 0+4 18446744073709551616+4", "18446744073709551620+0 0+4 0+4 0+4", "0+4 0+4 0+4 0+4294967300",
	"9223372036854775807+9223372036854775807+6 0+4 0+4 0+4", "0+4 0+4 0+4 0+" + strings.Repeat("4", 1000), "0+4 0+4 0+4 0+1000000000000", "0+4 0+4 0+4 0+1000000000001",
	// Wafers of 0, and stacks that are too low or too high.
	"0+0+4 0+4 0+4 0+4", "0+4 0+4 0+4 4+0+0", "0+4 2+0+2 0+4 0+4", "0+3 0+4 0+4 0+4", "0+4 0+4 0+4 0+5", "0+4 0+4 5+0 0+4", "0+4 0+1+2 0+4 0+4", "0+4 0+4 0+1+4 0+4", "0+0 0+0 0+0 0+0",
	"0+1+1+1+1+1+0 0+4 0+4 0+4", "0+4 0+4 0+4 " + strings.Repeat("1+", 200) + "1",
}

func TestReadPinsOfNoPins(t *testing.T) {
	for _, s := range badDeskTexts {
		if got, code := impl.ReadPins(desk, s); !sameLock(got, impl.Lock{}) || code != impl.ErrSyntax {
			t.Errorf("ReadPins(desk, %.60q) = %v, %d", s, got, code)
		}
	}
	// Pins of one maker are none of another.
	for _, c := range pinCases {
		for _, m := range []impl.Maker{fewest, pair, free, desk, shelf, deep} {
			if m.Chambers == c.maker.Chambers && m.Depths == c.maker.Depths {
				continue
			}
			if got, code := impl.ReadPins(m, c.text); !sameLock(got, impl.Lock{}) || code != impl.ErrSyntax {
				t.Errorf("ReadPins(%v, %q) = %v, %d", m, c.text, got, code)
			}
			if got, code := impl.LockOfPins(m, c.pins); !sameLock(got, impl.Lock{}) || code != impl.ErrRange {
				t.Errorf("LockOfPins(%v, %v) = %v, %d", m, c.pins, got, code)
			}
		}
	}
}

// checkPinsOf compares the pins of a lock with the expected ones and reads them and their text back.
func checkPinsOf(t *testing.T, m impl.Maker, l impl.Lock) {
	t.Helper()
	wantPins, wantText := expectedPins(m, l), expectedPinsText(m, l)
	pins, code := impl.PinsOf(m, l)
	if !sameLists(pins, wantPins) || code != impl.ErrNone {
		t.Fatalf("PinsOf(%v, %v) = %v, %d, want %v", m, l, pins, code, wantPins)
	}
	if got, code := impl.LockOfPins(m, pins); !sameLock(got, l) || code != impl.ErrNone {
		t.Fatalf("LockOfPins(%v, %v) = %v, %d, want %v", m, pins, got, code, l)
	}
	text, code := impl.PinsText(m, l)
	if text != wantText || code != impl.ErrNone {
		t.Fatalf("PinsText(%v, %v) = %q, %d, want %q", m, l, text, code, wantText)
	}
	if got, code := impl.ReadPins(m, text); !sameLock(got, l) || code != impl.ErrNone {
		t.Fatalf("ReadPins(%v, %q) = %v, %d, want %v", m, text, got, code, l)
	}
}

func TestP1PinsAreRecovered(t *testing.T) {
	for _, m := range pinMakers() {
		for _, l := range someLocks(m) {
			checkPinsOf(t, m, l)
		}
		// Each set in each chamber, beside others.
		sets := allSets(m.Depths)
		for n := range sets {
			var l impl.Lock
			for chamber := range m.Chambers {
				l.Sets = append(l.Sets, sets[(n+int(chamber)*5)%len(sets)])
			}
			checkPinsOf(t, m, l)
		}
	}
	for _, m := range []impl.Maker{fewest, pair, {Chambers: 2, Depths: 5, Step: 2, Same: 2, Least: 1}} {
		for _, l := range allLocksOfPair(m) {
			checkPinsOf(t, m, l)
		}
	}
}

// checkReadText fails unless a text is either rejected or the PinsText of what is read, and reports
// whether it is one.
func checkReadText(t *testing.T, m impl.Maker, s string) bool {
	t.Helper()
	l, code := impl.ReadPins(m, s)
	if code == impl.ErrSyntax && len(l.Sets) == 0 {
		return false
	}
	if code != impl.ErrNone || !impl.IsLock(m, l) || expectedPinsText(m, l) != s {
		t.Fatalf("ReadPins(%v, %q) = %v, %d", m, s, l, code)
	}
	return true
}

// Of all short texts of the characters in question, exactly those of locks are read.
func TestP1OnlyTextsOfPinsAreRead(t *testing.T) {
	const longest = 9
	want := 0
	for _, l := range allLocksOfPair(fewest) {
		if len(expectedPinsText(fewest, l)) <= longest {
			want++
		}
	}
	read := 0
	texts := []string{""}
	for length := 0; length <= longest; length++ {
		var longer []string
		for _, s := range texts {
			if checkReadText(t, fewest, s) {
				read++
			}
			for _, c := range "01+ " {
				longer = append(longer, s+string(c))
			}
		}
		texts = longer
	}
	if read != want || want != 8 {
		t.Errorf("%d texts were read, want %d", read, want)
	}
}

// Texts of pins with one byte more, less or another one are the texts of other pins, or of none.
func TestP1ChangedTextsOfPins(t *testing.T) {
	for _, c := range pinCases {
		for at := range len(c.text) + 1 {
			for b := range 256 {
				checkReadText(t, c.maker, c.text[:at]+string([]byte{byte(b)})+c.text[at:])
				if at < len(c.text) {
					checkReadText(t, c.maker, c.text[:at]+string([]byte{byte(b)})+c.text[at+1:])
				}
			}
			if at < len(c.text) {
				checkReadText(t, c.maker, c.text[:at]+c.text[at+1:])
			}
		}
	}
}

// thinCases have locks with their thin chambers for some least number, and what thickening leaves.
var thinCases = []struct {
	maker impl.Maker
	lock  impl.Lock
	least int64
	thin  []int64
	thick impl.Lock
}{
	// No wafers.
	{desk, goodDeskLocks[0], 1, nil, goodDeskLocks[0]},
	{desk, goodDeskLocks[1], 5, nil, goodDeskLocks[1]},
	{deep, singleLock(filled(6, 7)), 8, nil, singleLock(filled(6, 7))},
	// Least at 1: no wafer is thin.
	{desk, fullLock(desk), 1, nil, fullLock(desk)},
	{deep, fullLock(deep), 1, nil, fullLock(deep)},
	{fewest, fullLock(fewest), 1, nil, fullLock(fewest)},
	// Least at Depths: each wafer is thin.
	{desk, fullLock(desk), 5, []int64{0, 1, 2, 3}, goodDeskLocks[0]},
	{desk, goodDeskLocks[2], 5, []int64{0, 1, 2, 3}, goodDeskLocks[0]},
	{desk, goodDeskLocks[4], 5, []int64{0, 3}, lockOf([]int64{1}, []int64{4}, []int64{0}, []int64{0})},
	{fewest, fullLock(fewest), 2, []int64{0, 1}, lockOf([]int64{0}, []int64{0})},
	{fewest, lockOf([]int64{1}, []int64{0, 1}), 2, []int64{1}, lockOf([]int64{1}, []int64{0})},
	{deep, fullLock(deep), 8, []int64{0, 1, 2, 3, 4, 5}, singleLock(filled(6, 0))},
	// Wafers of least are not thin.
	{desk, goodDeskLocks[2], 4, nil, goodDeskLocks[2]},
	{desk, lockOf([]int64{0, 2, 4}, []int64{1, 3}, []int64{0, 3}, []int64{2}), 2, nil, lockOf([]int64{0, 2, 4}, []int64{1, 3}, []int64{0, 3}, []int64{2})},
	{desk, lockOf([]int64{0, 2, 4}, []int64{1, 3}, []int64{0, 3}, []int64{2}), 3, []int64{0, 1}, lockOf([]int64{0, 4}, []int64{1}, []int64{0, 3}, []int64{2})},
	// Bottom pins and drivers are no wafers.
	{desk, lockOf([]int64{1, 4}, []int64{0, 3}, []int64{1}, []int64{3}), 3, nil, lockOf([]int64{1, 4}, []int64{0, 3}, []int64{1}, []int64{3})},
	{deep, lockOf([]int64{0, 7}, []int64{1, 7}, []int64{0, 6}, []int64{7}, []int64{0}, []int64{1}), 6, nil, lockOf([]int64{0, 7}, []int64{1, 7}, []int64{0, 6}, []int64{7}, []int64{0}, []int64{1})},
	// A thin wafer in the first chamber, in the last one, between and in several.
	{desk, lockOf([]int64{2, 3}, []int64{0, 4}, []int64{1, 3}, []int64{4}), 2, []int64{0}, lockOf([]int64{2}, []int64{0, 4}, []int64{1, 3}, []int64{4})},
	{desk, lockOf([]int64{0, 4}, []int64{1, 3}, []int64{4}, []int64{3, 4}), 2, []int64{3}, lockOf([]int64{0, 4}, []int64{1, 3}, []int64{4}, []int64{3})},
	{desk, lockOf([]int64{0, 4}, []int64{0, 1}, []int64{0, 2}, []int64{1, 3}), 2, []int64{1}, lockOf([]int64{0, 4}, []int64{0}, []int64{0, 2}, []int64{1, 3})},
	{desk, lockOf([]int64{0, 1}, []int64{0, 2}, []int64{0, 3}, []int64{0, 4}), 3, []int64{0, 1}, lockOf([]int64{0}, []int64{0}, []int64{0, 3}, []int64{0, 4})},
	{desk, lockOf([]int64{0, 1}, []int64{1, 2}, []int64{2, 3}, []int64{3, 4}), 2, []int64{0, 1, 2, 3}, lockOf([]int64{0}, []int64{1}, []int64{2}, []int64{3})},
	// The thin wafer is the first one, the last one or one between, and there are several.
	{shelf, lockOf([]int64{0, 1, 3, 5}, []int64{0, 2, 4, 5}), 2, []int64{0, 1}, lockOf([]int64{0, 3, 5}, []int64{0, 2, 4})},
	{shelf, lockOf([]int64{0, 2, 3, 5}, []int64{1, 2, 4, 5}), 2, []int64{0, 1}, lockOf([]int64{0, 2, 5}, []int64{1, 4})},
	// Wafers that are thin until the depth below them has been taken away.
	{desk, fullLock(desk), 2, []int64{0, 1, 2, 3}, lockOf([]int64{0, 2, 4}, []int64{0, 2, 4}, []int64{0, 2, 4}, []int64{0, 2, 4})},
	{desk, fullLock(desk), 3, []int64{0, 1, 2, 3}, lockOf([]int64{0, 3}, []int64{0, 3}, []int64{0, 3}, []int64{0, 3})},
	{desk, fullLock(desk), 4, []int64{0, 1, 2, 3}, lockOf([]int64{0, 4}, []int64{0, 4}, []int64{0, 4}, []int64{0, 4})},
	{desk, lockOf([]int64{1, 2, 3, 4}, []int64{0, 1, 2}, []int64{2, 3, 4}, []int64{0, 1, 3, 4}), 2, []int64{0, 1, 2, 3}, lockOf([]int64{1, 3}, []int64{0, 2}, []int64{2, 4}, []int64{0, 3})},
	{deep, fullLock(deep), 3, []int64{0, 1, 2, 3, 4, 5}, impl.Lock{Sets: slices.Repeat([][]int64{{0, 3, 6}}, 6)}},
	{deep, fullLock(deep), 7, []int64{0, 1, 2, 3, 4, 5}, impl.Lock{Sets: slices.Repeat([][]int64{{0, 7}}, 6)}},
	// No key opens the lock, also afterwards.
	{strict, lockOf([]int64{0, 1}, []int64{4}, []int64{0}, []int64{4}), 2, []int64{0}, lockOf([]int64{0}, []int64{4}, []int64{0}, []int64{4})},
}

// checkThin compares the thin chambers of a lock and the thickened lock.
func checkThin(t *testing.T, m impl.Maker, l impl.Lock, least int64, thin []int64, thick impl.Lock) {
	t.Helper()
	sets := roomyLists(l.Sets)
	given := impl.Lock{Sets: sets}
	if got, code := impl.ThinChambers(m, given, least); !slices.Equal(got, thin) || code != impl.ErrNone {
		t.Errorf("ThinChambers(%v, %v, %d) = %v, %d, want %v", m, l, least, got, code, thin)
	}
	if got, code := impl.ThickenLock(m, given, least); !sameLock(got, thick) || code != impl.ErrNone {
		t.Errorf("ThickenLock(%v, %v, %d) = %v, %d, want %v", m, l, least, got, code, thick)
	}
	checkListsKept(t, "ThinChambers or ThickenLock", sets, l.Sets)
}

func TestThinChambersAndThickenLock(t *testing.T) {
	for _, c := range thinCases {
		checkThin(t, c.maker, c.lock, c.least, c.thin, c.thick)
	}
}

func TestThinChambersAndThickenManyLocks(t *testing.T) {
	for _, m := range pinMakers() {
		for _, l := range someLocks(m) {
			for least := int64(1); least <= m.Depths; least++ {
				checkThin(t, m, l, least, expectedThin(l, least), expectedThick(l, least))
			}
		}
	}
	for _, m := range []impl.Maker{fewest, pair, {Chambers: 2, Depths: 5, Step: 2, Same: 2, Least: 1}} {
		for _, l := range allLocksOfPair(m) {
			for least := int64(1); least <= m.Depths; least++ {
				checkThin(t, m, l, least, expectedThin(l, least), expectedThick(l, least))
			}
		}
	}
}

func TestLeastOutOfRange(t *testing.T) {
	for _, m := range pinMakers() {
		for _, l := range someLocks(m) {
			for _, least := range badLeasts(m) {
				if got, code := impl.ThinChambers(m, l, least); len(got) != 0 || code != impl.ErrRange {
					t.Fatalf("ThinChambers(%v, %v, %d) = %v, %d", m, l, least, got, code)
				}
				if got, code := impl.ThickenLock(m, l, least); !sameLock(got, impl.Lock{}) || code != impl.ErrRange {
					t.Fatalf("ThickenLock(%v, %v, %d) = %v, %d", m, l, least, got, code)
				}
			}
		}
	}
}

// checkHeights fails unless the stacks of a lock consist of a bottom pin and a driver of at least 0
// and wafers of at least 1, are as high as Depths - 1, and are one more than depths.
func checkHeights(t *testing.T, m impl.Maker, l impl.Lock) {
	t.Helper()
	pins, code := impl.PinsOf(m, l)
	if code != impl.ErrNone || int64(len(pins)) != m.Chambers {
		t.Fatalf("PinsOf(%v, %v) = %v, %d", m, l, pins, code)
	}
	for chamber, stack := range pins {
		height := int64(0)
		for place, pin := range stack {
			height += pin
			if pin < 0 || pin == 0 && place > 0 && place < len(stack)-1 {
				t.Fatalf("PinsOf(%v, %v) = %v", m, l, pins)
			}
		}
		if height != m.Depths-1 || len(stack) != len(l.Sets[chamber])+1 {
			t.Fatalf("PinsOf(%v, %v) = %v", m, l, pins)
		}
	}
}

// Thickened locks have no thin wafers and stay as they are when they are thickened again; they keep
// the least depth of each set, and lose no more than what would be thin.
func TestP5ThickenedLocksHaveNoThinWafers(t *testing.T) {
	for _, m := range append(pinMakers(), pairMakers()...) {
		for _, l := range someLocks(m) {
			checkHeights(t, m, l)
			for least := int64(1); least <= m.Depths; least++ {
				thick, code := impl.ThickenLock(m, l, least)
				if code != impl.ErrNone || !impl.IsLock(m, thick) {
					t.Fatalf("ThickenLock(%v, %v, %d) = %v, %d", m, l, least, thick, code)
				}
				if thin, code := impl.ThinChambers(m, thick, least); len(thin) != 0 || code != impl.ErrNone {
					t.Fatalf("%v: %v, thickened to %d, is %v with the thin chambers %v, %d", m, l, least, thick, thin, code)
				}
				checkHeights(t, m, thick)
				checkThickened(t, m, l, least, thick)
			}
		}
	}
}

// checkThickened fails if a lock is not the larger one without what is too near to what stays.
func checkThickened(t *testing.T, m impl.Maker, l impl.Lock, least int64, thick impl.Lock) {
	t.Helper()
	if again, code := impl.ThickenLock(m, thick, least); !sameLock(again, thick) || code != impl.ErrNone {
		t.Fatalf("ThickenLock(%v, %v, %d) = %v, %d, though it was thickened before", m, thick, least, again, code)
	}
	for chamber, set := range l.Sets {
		for _, depth := range set {
			near := false
			for _, stays := range thick.Sets[chamber] {
				near = near || stays < depth && depth-stays < least
			}
			if near == slices.Contains(thick.Sets[chamber], depth) {
				t.Fatalf("ThickenLock(%v, %v, %d) = %v", m, l, least, thick)
			}
		}
		for _, depth := range thick.Sets[chamber] {
			if !slices.Contains(set, depth) {
				t.Fatalf("ThickenLock(%v, %v, %d) = %v", m, l, least, thick)
			}
		}
	}
}

func TestStockOf(t *testing.T) {
	some := lockOf([]int64{0}, []int64{1, 2}, []int64{0, 2, 4}, []int64{3})
	cases := []struct {
		maker                    impl.Maker
		locks                    []impl.Lock
		bottoms, wafers, drivers []int64
	}{
		// No locks.
		{desk, nil, filled(5, 0), filled(5, 0), filled(5, 0)},
		{desk, []impl.Lock{}, filled(5, 0), filled(5, 0), filled(5, 0)},
		{fewest, nil, filled(2, 0), filled(2, 0), filled(2, 0)},
		{deep, nil, filled(8, 0), filled(8, 0), filled(8, 0)},
		// One lock.
		{desk, []impl.Lock{some}, []int64{2, 1, 0, 1, 0}, []int64{0, 1, 2, 0, 0}, []int64{1, 1, 1, 0, 1}},
		{desk, goodDeskLocks[:1], []int64{4, 0, 0, 0, 0}, filled(5, 0), []int64{0, 0, 0, 0, 4}},
		{desk, goodDeskLocks[1:2], []int64{0, 0, 0, 0, 4}, filled(5, 0), []int64{4, 0, 0, 0, 0}},
		{desk, goodDeskLocks[2:3], []int64{4, 0, 0, 0, 0}, []int64{0, 0, 0, 0, 4}, []int64{4, 0, 0, 0, 0}},
		{desk, []impl.Lock{fullLock(desk)}, []int64{4, 0, 0, 0, 0}, []int64{0, 16, 0, 0, 0}, []int64{4, 0, 0, 0, 0}},
		{shelf, []impl.Lock{lockOf([]int64{1, 3}, []int64{5})}, []int64{0, 1, 0, 0, 0, 1}, []int64{0, 0, 1, 0, 0, 0}, []int64{1, 0, 1, 0, 0, 0}},
		{fewest, []impl.Lock{lockOf([]int64{0}, []int64{0, 1})}, []int64{2, 0}, []int64{0, 1}, []int64{1, 1}},
		{deep, []impl.Lock{lockOf([]int64{0, 7}, []int64{1}, []int64{2}, []int64{3, 6}, []int64{7}, []int64{4, 5})},
			[]int64{1, 1, 1, 1, 1, 0, 0, 1}, []int64{0, 1, 0, 1, 0, 0, 0, 1}, []int64{2, 1, 1, 0, 0, 1, 1, 0}},
		// Several locks, and the same one several times.
		{desk, goodDeskLocks[:3], []int64{8, 0, 0, 0, 4}, []int64{0, 0, 0, 0, 4}, []int64{8, 0, 0, 0, 4}},
		{desk, []impl.Lock{some, fullLock(desk), some}, []int64{8, 2, 0, 2, 0}, []int64{0, 18, 4, 0, 0}, []int64{6, 2, 2, 0, 2}},
		{desk, []impl.Lock{some, some, some}, []int64{6, 3, 0, 3, 0}, []int64{0, 3, 6, 0, 0}, []int64{3, 3, 3, 0, 3}},
		// Most locks.
		{desk, slices.Repeat([]impl.Lock{some}, impl.MaxLocks), []int64{80, 40, 0, 40, 0}, []int64{0, 40, 80, 0, 0}, []int64{40, 40, 40, 0, 40}},
		{deep, slices.Repeat([]impl.Lock{fullLock(deep)}, impl.MaxLocks), []int64{240, 0, 0, 0, 0, 0, 0, 0}, []int64{0, 1680, 0, 0, 0, 0, 0, 0}, []int64{240, 0, 0, 0, 0, 0, 0, 0}},
	}
	for _, c := range cases {
		checkStock(t, c.maker, c.locks, c.bottoms, c.wafers, c.drivers)
	}
}

func checkStock(t *testing.T, m impl.Maker, locks []impl.Lock, bottoms, wafers, drivers []int64) {
	t.Helper()
	var given []impl.Lock
	for _, l := range locks {
		given = append(given, impl.Lock{Sets: roomyLists(l.Sets)})
	}
	a, b, c, code := impl.StockOf(m, given)
	if !slices.Equal(a, bottoms) || !slices.Equal(b, wafers) || !slices.Equal(c, drivers) || code != impl.ErrNone {
		t.Errorf("StockOf(%v, %v) = %v, %v, %v, %d, want %v, %v, %v", m, locks, a, b, c, code, bottoms, wafers, drivers)
	}
	for i, l := range given {
		checkListsKept(t, "StockOf", l.Sets, locks[i].Sets)
	}
}

// The stock is counted in the pins that were told for each lock by itself.
func TestStockOfManyLocks(t *testing.T) {
	for _, m := range append(pinMakers(), pairMakers()...) {
		locks := someLocks(m)
		locks = append(locks, locks[3], locks[3])
		for count := range len(locks) + 1 {
			bottoms, wafers, drivers := make([]int64, m.Depths), make([]int64, m.Depths), make([]int64, m.Depths)
			for _, l := range locks[:count] {
				for _, set := range l.Sets {
					bottoms[slices.Min(set)]++
					drivers[m.Depths-1-slices.Max(set)]++
					for place := 1; place < len(set); place++ {
						wafers[set[place]-set[place-1]]++
					}
				}
			}
			checkStock(t, m, locks[:count], bottoms, wafers, drivers)
		}
	}
}

// checkNoStock fails unless StockOf returns an error and nothing else.
func checkNoStock(t *testing.T, m impl.Maker, locks []impl.Lock, want int64) {
	t.Helper()
	if a, b, c, code := impl.StockOf(m, locks); len(a) != 0 || len(b) != 0 || len(c) != 0 || code != want {
		t.Errorf("StockOf(%v, %d locks) = %v, %v, %v, %d, want %d", m, len(locks), a, b, c, code, want)
	}
}

func TestStockOfTooManyLocks(t *testing.T) {
	for _, l := range goodDeskLocks {
		for _, count := range []int{impl.MaxLocks + 1, impl.MaxLocks + 2, 1000} {
			checkNoStock(t, desk, slices.Repeat([]impl.Lock{l}, count), impl.ErrLimit)
		}
	}
	checkNoStock(t, fewest, slices.Repeat([]impl.Lock{fullLock(fewest)}, impl.MaxLocks+1), impl.ErrLimit)
	checkNoStock(t, deep, slices.Repeat([]impl.Lock{fullLock(deep)}, impl.MaxLocks+1), impl.ErrLimit)
}

// One lock among many that is none counts also where there are too many.
func TestStockOfRejectsLocks(t *testing.T) {
	for _, bad := range append(slices.Clone(badDeskLocks), fullLock(free), fullLock(deep), fullLock(pair)) {
		for _, count := range []int{1, 2, 3, impl.MaxLocks, impl.MaxLocks + 1, impl.MaxLocks + 2} {
			for _, at := range []int{0, count / 2, count - 1} {
				locks := slices.Repeat(goodDeskLocks[3:4], count)
				locks[at] = bad
				checkNoStock(t, desk, locks, impl.ErrInvalid)
			}
		}
		checkNoStock(t, desk, slices.Repeat([]impl.Lock{bad}, impl.MaxLocks+1), impl.ErrInvalid)
	}
	for _, m := range badMakers {
		for _, l := range slices.Concat(goodDeskLocks, badDeskLocks) {
			for _, count := range []int{0, 1, impl.MaxLocks, impl.MaxLocks + 1} {
				checkNoStock(t, m, slices.Repeat([]impl.Lock{l}, count), impl.ErrInvalid)
			}
		}
	}
}

// pinCalls returns all functions of the chapter that take a lock, with all their results but the
// code as lists.
func pinCalls(least int64) map[string]func(m impl.Maker, l impl.Lock) ([][]int64, int64) {
	return map[string]func(m impl.Maker, l impl.Lock) ([][]int64, int64){
		"PinsOf": impl.PinsOf,
		"PinsText": func(m impl.Maker, l impl.Lock) ([][]int64, int64) {
			s, code := impl.PinsText(m, l)
			if s == "" {
				return nil, code
			}
			return [][]int64{{int64(len(s))}}, code
		},
		"ThinChambers": func(m impl.Maker, l impl.Lock) ([][]int64, int64) {
			thin, code := impl.ThinChambers(m, l, least)
			if len(thin) == 0 {
				return nil, code
			}
			return [][]int64{thin}, code
		},
		"ThickenLock": func(m impl.Maker, l impl.Lock) ([][]int64, int64) {
			thick, code := impl.ThickenLock(m, l, least)
			return thick.Sets, code
		},
	}
}

// ErrInvalid comes first, whatever the other arguments are.
func TestPinsRejectMakers(t *testing.T) {
	locks := slices.Concat(goodDeskLocks, badDeskLocks, []impl.Lock{singleLock(filled(7, 0))})
	for _, m := range badMakers {
		for _, least := range append(badLeasts(m), 1, 2, 5) {
			for name, call := range pinCalls(least) {
				for _, l := range locks {
					if got, code := call(m, l); len(got) != 0 || code != impl.ErrInvalid {
						t.Fatalf("%s(%v, %v) for %d = %v, %d", name, m, l, least, got, code)
					}
				}
			}
		}
		for _, c := range pinCases {
			if got, code := impl.LockOfPins(m, c.pins); !sameLock(got, impl.Lock{}) || code != impl.ErrInvalid {
				t.Errorf("LockOfPins(%v, %v) = %v, %d", m, c.pins, got, code)
			}
			if got, code := impl.ReadPins(m, c.text); !sameLock(got, impl.Lock{}) || code != impl.ErrInvalid {
				t.Errorf("ReadPins(%v, %q) = %v, %d", m, c.text, got, code)
			}
		}
		for _, pins := range [][][]int64{nil, {}, {nil}, badStacks, badStacks[:4], slices.Repeat([][]int64{{0, 4}}, 7)} {
			if got, code := impl.LockOfPins(m, pins); !sameLock(got, impl.Lock{}) || code != impl.ErrInvalid {
				t.Errorf("LockOfPins(%v, %v) = %v, %d", m, pins, got, code)
			}
		}
		for _, s := range badDeskTexts {
			if got, code := impl.ReadPins(m, s); !sameLock(got, impl.Lock{}) || code != impl.ErrInvalid {
				t.Errorf("ReadPins(%v, %.60q) = %v, %d", m, s, got, code)
			}
		}
	}
}

func TestPinsRejectLocks(t *testing.T) {
	for _, bad := range append(slices.Clone(badDeskLocks), fullLock(free), fullLock(deep), fullLock(pair)) {
		for _, least := range append(badLeasts(desk), 1, 2, 5) {
			for name, call := range pinCalls(least) {
				sets := roomyLists(bad.Sets)
				if got, code := call(desk, impl.Lock{Sets: sets}); len(got) != 0 || code != impl.ErrInvalid {
					t.Errorf("%s(desk, %v) for %d = %v, %d", name, bad, least, got, code)
				}
				checkListsKept(t, name, sets, bad.Sets)
			}
		}
	}
}

// Results share no memory with an argument, with one another or with later results.
func TestResultsOfPinsAreNew(t *testing.T) {
	l, pins, text := lockOf([]int64{1}, []int64{0, 2}, []int64{3}, []int64{0, 4}), [][]int64{{1, 3}, {0, 2, 2}, {3, 1}, {0, 4, 0}}, "1+3 0+2+2 3+1 0+4+0"
	calls := map[string]func() (impl.Lock, int64){
		"LockOfPins":       func() (impl.Lock, int64) { return impl.LockOfPins(desk, pins) },
		"ReadPins":         func() (impl.Lock, int64) { return impl.ReadPins(desk, text) },
		"ThickenLock":      func() (impl.Lock, int64) { return impl.ThickenLock(desk, l, 2) },
		"ThickenLock of 1": func() (impl.Lock, int64) { return impl.ThickenLock(desk, l, 1) },
		"PinsOf": func() (impl.Lock, int64) {
			got, code := impl.PinsOf(desk, l)
			return impl.Lock{Sets: got}, code
		},
	}
	for name, call := range calls {
		want := l
		if name == "PinsOf" {
			want = impl.Lock{Sets: pins}
		}
		want = cloneLock(want)
		got, _ := call()
		if !sameLock(got, want) {
			t.Errorf("%s = %v, want %v", name, got, want)
		}
		checkNewLock(t, name, got)
		if expectedPinsText(desk, l) != text || !sameLists(pins, expectedPins(desk, l)) {
			t.Errorf("%s shares memory with its arguments, which are now %v and %v", name, l, pins)
		}
		if again, _ := call(); !sameLock(again, want) {
			t.Errorf("%s returns %v after its result was changed, want %v", name, again, want)
		}
	}
	thin, _ := impl.ThinChambers(desk, l, 3)
	fill(thin[:cap(thin)], largest)
	if again, _ := impl.ThinChambers(desk, l, 3); !slices.Equal(again, []int64{1}) {
		t.Errorf("ThinChambers returns %v after its result was changed", again)
	}
}

// checkApart fails if writing to a list, or behind it, changes one of the lists after it.
func checkApart(t *testing.T, name string, lists ...[]int64) {
	t.Helper()
	for i, list := range slices.Backward(lists) {
		_ = append(list, largest, largest, largest)
		fill(list[:cap(list)], int64(i))
	}
	for i, list := range lists {
		if !slices.Equal(list, filled(len(list), int64(i))) {
			t.Errorf("%s returns lists that share memory: %v", name, lists)
		}
	}
}

func TestStacksAndStocksAreApart(t *testing.T) {
	for _, l := range goodDeskLocks {
		pins, _ := impl.PinsOf(desk, l)
		checkApart(t, "PinsOf", pins...)
		bottoms, wafers, drivers, _ := impl.StockOf(desk, []impl.Lock{l})
		checkApart(t, "StockOf", bottoms, wafers, drivers)
		if again, _, _, code := impl.StockOf(desk, nil); !slices.Equal(again, filled(5, 0)) || code != impl.ErrNone {
			t.Errorf("StockOf(desk, no locks) = %v, %d after another result was changed", again, code)
		}
	}
}
