package tests

import (
	"fmt"
	"slices"
	"testing"

	"loop.example/g00947/impl"
)

// ladder is a maker with a master and levels.
type ladder struct {
	maker          impl.Maker
	master, levels []int64
}

// freeMaker returns the maker with some chambers and depths whose keys are all cuts.
func freeMaker(chambers, depths int64) impl.Maker {
	return impl.Maker{Chambers: chambers, Depths: depths, Step: depths - 1, Same: chambers, Least: 1}
}

// allLevels returns all levels of so many chambers.
func allLevels(chambers int64) [][]int64 {
	var all [][]int64
	for count := 1; count <= 4; count++ {
		for _, parts := range allCuts(int64(count), chambers) {
			levels, sum := []int64{}, int64(0)
			for _, part := range parts {
				levels = append(levels, part+1)
				sum += part + 1
			}
			if sum == chambers {
				all = append(all, levels)
			}
		}
	}
	return all
}

// someMasters returns the masters with the least and the greatest cut in each chamber, and so many
// others.
func someMasters(s *sequence, m impl.Maker, count int) [][]int64 {
	masters := [][]int64{filled(int(m.Chambers), 0), filled(int(m.Chambers), m.Depths-1)}
	for range count {
		var master []int64
		for range m.Chambers {
			master = append(master, s.below(m.Depths))
		}
		masters = append(masters, master)
	}
	return masters
}

// allLadders returns ladders that have so few paths that each of them can be looked at: all levels,
// with all masters where there are not too many of these, and with some otherwise.
func allLadders() []ladder {
	var all []ladder
	s := sequence(12)
	for chambers := int64(2); chambers <= 6; chambers++ {
		for depths := int64(2); depths <= 8; depths++ {
			m := freeMaker(chambers, depths)
			size := expectedSize(m, chambers)
			if size > 1100 {
				continue
			}
			masters := someMasters(&s, m, 3)
			if cuts := allCuts(chambers, depths); size*int64(len(cuts)) <= 5000 {
				masters = cuts
			}
			for _, master := range masters {
				for _, levels := range allLevels(chambers) {
					all = append(all, ladder{m, master, levels})
				}
			}
		}
	}
	return all
}

// expectedSize returns the number of lists of cuts for so many chambers, none of them the master's.
func expectedSize(m impl.Maker, chambers int64) int64 {
	size := int64(1)
	for range chambers {
		size *= m.Depths - 1
	}
	return size
}

func expectedSizes(m impl.Maker, levels []int64) []int64 {
	var sizes []int64
	for _, chambers := range levels {
		sizes = append(sizes, expectedSize(m, chambers))
	}
	return sizes
}

// longerPaths returns a path with each number of the next level behind it.
func (l ladder) longerPaths(path []int64) [][]int64 {
	var longer [][]int64
	for number := range expectedSize(l.maker, l.levels[len(path)]) {
		longer = append(longer, joined(path, []int64{number}))
	}
	return longer
}

// allPaths returns the empty path and all others.
func (l ladder) allPaths() [][]int64 {
	last := [][]int64{{}}
	all := slices.Clone(last)
	for range l.levels {
		var longer [][]int64
		for _, path := range last {
			longer = append(longer, l.longerPaths(path)...)
		}
		last = longer
		all = append(all, longer...)
	}
	return all
}

// fullPaths returns all paths with all levels that begin with a path.
func (l ladder) fullPaths(path []int64) [][]int64 {
	if len(path) == len(l.levels) {
		return [][]int64{path}
	}
	var full [][]int64
	for _, longer := range l.longerPaths(path) {
		full = append(full, l.fullPaths(longer)...)
	}
	return full
}

// somePath returns a path with so many numbers.
func (l ladder) somePath(s *sequence, count int) []int64 {
	path := []int64{}
	for _, chambers := range l.levels[:count] {
		path = append(path, s.below(expectedSize(l.maker, chambers)))
	}
	return path
}

// expectedCuts takes, for each number of a path, the list of cuts with this index among all lists
// without a cut of the master, in lexicographic order.
func (l ladder) expectedCuts(path []int64) []int64 {
	cuts, first := slices.Clone(l.master), int64(0)
	for level, number := range path {
		end := first + l.levels[level]
		for chamber := end - 1; chamber >= first; chamber-- {
			others := slices.DeleteFunc(nodesBelow(l.maker.Depths), func(cut int64) bool { return cut == l.master[chamber] })
			cuts[chamber] = others[number%int64(len(others))]
			number /= int64(len(others))
		}
		first = end
	}
	return cuts
}

func (l ladder) expectedLock(path []int64) impl.Lock {
	var lock impl.Lock
	for chamber, cut := range l.expectedCuts(path) {
		set := []int64{cut, l.master[chamber]}
		slices.Sort(set)
		lock.Sets = append(lock.Sets, slices.Compact(set))
	}
	return lock
}

// expectedCount tells of all paths with all levels below a path how many have cuts that are keys.
func (l ladder) expectedCount(path []int64) int64 {
	count := int64(0)
	for _, full := range l.fullPaths(path) {
		if expectedFault(l.maker, l.expectedCuts(full)) == 0 {
			count++
		}
	}
	return count
}

// levelCall has the arguments of the functions of the chapter.
type levelCall struct {
	ladder
	path, cuts, needed []int64
}

// levelResult has what one of the functions of levels returns beside its code.
type levelResult struct {
	list  []int64
	lock  impl.Lock
	count int64
}

func (r levelResult) isZero() bool {
	return len(r.list) == 0 && len(r.lock.Sets) == 0 && r.count == 0
}

func (r levelResult) equals(other levelResult) bool {
	return slices.Equal(r.list, other.list) && sameLock(r.lock, other.lock) && r.count == other.count
}

// levelFunctions returns the functions of the chapter that return a code.
func levelFunctions() map[string]func(c levelCall) (levelResult, int64) {
	list := func(list []int64, code int64) (levelResult, int64) { return levelResult{list: list}, code }
	return map[string]func(c levelCall) (levelResult, int64){
		"LevelSizes": func(c levelCall) (levelResult, int64) {
			return list(impl.LevelSizes(c.maker, c.levels))
		},
		"CutsAt": func(c levelCall) (levelResult, int64) {
			return list(impl.CutsAt(c.maker, c.master, c.levels, c.path))
		},
		"PathOf": func(c levelCall) (levelResult, int64) {
			return list(impl.PathOf(c.maker, c.master, c.levels, c.cuts))
		},
		"LockAt": func(c levelCall) (levelResult, int64) {
			lock, code := impl.LockAt(c.maker, c.master, c.levels, c.path)
			return levelResult{lock: lock}, code
		},
		"LeastLevels": func(c levelCall) (levelResult, int64) {
			return list(impl.LeastLevels(c.maker, c.needed))
		},
		"CountKeysAt": func(c levelCall) (levelResult, int64) {
			count, code := impl.CountKeysAt(c.maker, c.master, c.levels, c.path)
			return levelResult{count: count}, code
		},
	}
}

// checkLevelCall fails unless a function returns a result and a code, and leaves its arguments as
// they were.
func checkLevelCall(t *testing.T, name string, c levelCall, want levelResult, wantCode int64) {
	t.Helper()
	lists := [][]int64{c.master, c.levels, c.path, c.cuts, c.needed}
	given := roomyLists(lists)
	got, code := levelFunctions()[name](levelCall{ladder{c.maker, given[0], given[1]}, given[2], given[3], given[4]})
	if !got.equals(want) || code != wantCode {
		t.Errorf("%s of %v = %v, %d, want %v, %d", name, c, got, code, want, wantCode)
	}
	checkListsKept(t, name, given, lists)
}

// These ladders have levels with one and with several chambers; middle and tall have masters that
// are keys, and the masters of the others are none.
var (
	middle = ladder{desk, []int64{2, 0, 3, 1}, []int64{1, 1, 2}}
	single = ladder{desk, []int64{4, 0, 0, 0}, []int64{4}}
	tall   = ladder{deep, []int64{7, 0, 3, 5, 7, 0}, []int64{1, 2, 2, 1}}
	lone   = ladder{impl.Maker{Chambers: 4, Depths: 3, Step: 1, Same: 1, Least: 3}, []int64{1, 1, 0, 2}, []int64{1, 1, 1, 1}}
	narrow = ladder{impl.Maker{Chambers: 6, Depths: 2, Step: 1, Same: 1, Least: 2}, []int64{0, 0, 1, 1, 0, 1}, []int64{2, 1, 3}}
)

func TestConstantsOfLevels(t *testing.T) {
	if impl.MaxLevels != 4 {
		t.Errorf("MaxLevels is %d", impl.MaxLevels)
	}
}

func TestLevelSizes(t *testing.T) {
	for _, c := range []struct {
		maker        impl.Maker
		levels, want []int64
	}{
		// One level with all chambers.
		{desk, []int64{4}, []int64{256}}, {deep, []int64{6}, []int64{117649}}, {pair, []int64{2}, []int64{4}}, {fewest, []int64{2}, []int64{1}}, {narrow.maker, []int64{6}, []int64{1}},
		// Levels with one chamber each, and MaxLevels levels.
		{desk, []int64{1, 1, 1, 1}, []int64{4, 4, 4, 4}}, {pair, []int64{1, 1}, []int64{2, 2}}, {fewest, []int64{1, 1}, []int64{1, 1}}, {free, []int64{1, 1, 1}, []int64{3, 3, 3}}, {freeMaker(5, 8), []int64{1, 2, 1, 1}, []int64{7, 49, 7, 7}}, {deep, []int64{1, 2, 2, 1}, []int64{7, 49, 49, 7}}, {deep, []int64{1, 1, 1, 3}, []int64{7, 7, 7, 343}}, {narrow.maker, []int64{1, 2, 1, 2}, []int64{1, 1, 1, 1}},
		// Levels of other sizes.
		{desk, []int64{1, 3}, []int64{4, 64}}, {desk, []int64{3, 1}, []int64{64, 4}}, {desk, []int64{1, 1, 2}, []int64{4, 4, 16}}, {desk, []int64{2, 1, 1}, []int64{16, 4, 4}}, {deep, []int64{5, 1}, []int64{16807, 7}}, {deep, []int64{2, 4}, []int64{49, 2401}}, {strict, []int64{2, 2}, []int64{16, 16}}, {lone.maker, []int64{1, 3}, []int64{2, 8}},
	} {
		checkLevelCall(t, "LevelSizes", levelCall{ladder: ladder{c.maker, nil, c.levels}}, levelResult{list: c.want}, impl.ErrNone)
	}
}

// All lists of up to five numbers from -1 to Chambers + 1 are levels or none.
func TestLevelSizesForAllShortLists(t *testing.T) {
	for chambers := int64(2); chambers <= 6; chambers++ {
		m, valid := freeMaker(chambers, 3), 0
		for count := range int64(6) {
			for _, list := range allCuts(count, chambers+3) {
				sum, least := int64(0), int64(1)
				for i := range list {
					list[i]--
					sum += list[i]
					least = min(least, list[i])
				}
				want, code := levelResult{}, int64(impl.ErrRange)
				if count >= 1 && count <= 4 && least > 0 && sum == chambers {
					want, code = levelResult{list: expectedSizes(m, list)}, impl.ErrNone
					valid++
				}
				if got, gotCode := impl.LevelSizes(m, list); !slices.Equal(got, want.list) || gotCode != code {
					t.Errorf("LevelSizes(%v, %v) = %v, %d, want %v, %d", m, list, got, gotCode, want.list, code)
				}
			}
		}
		if levels := len(allLevels(chambers)); valid != levels {
			t.Errorf("there are %d levels of %d chambers, want %d", valid, chambers, levels)
		}
	}
}

// pathCases have cuts and paths that determine each other.
var pathCases = []struct {
	ladder
	path, cuts []int64
}{
	// The empty path, which has the cuts of the master.
	{middle, nil, []int64{2, 0, 3, 1}}, {single, nil, []int64{4, 0, 0, 0}}, {tall, nil, []int64{7, 0, 3, 5, 7, 0}}, {lone, nil, []int64{1, 1, 0, 2}}, {narrow, nil, []int64{0, 0, 1, 1, 0, 1}},
	// Digits below the cut of the master, equal to it and above it.
	{middle, []int64{0}, []int64{0, 0, 3, 1}}, {middle, []int64{1}, []int64{1, 0, 3, 1}}, {middle, []int64{2}, []int64{3, 0, 3, 1}}, {middle, []int64{3}, []int64{4, 0, 3, 1}},
	{lone, []int64{0}, []int64{0, 1, 0, 2}}, {lone, []int64{1}, []int64{2, 1, 0, 2}},
	// Paths with fewer numbers than there are levels.
	{middle, []int64{2, 0}, []int64{3, 1, 3, 1}}, {middle, []int64{0, 3}, []int64{0, 4, 3, 1}}, {lone, []int64{1, 0}, []int64{2, 0, 0, 2}}, {lone, []int64{0, 1, 1}, []int64{0, 2, 2, 2}}, {tall, []int64{6}, []int64{6, 0, 3, 5, 7, 0}}, {tall, []int64{0, 7}, []int64{0, 2, 0, 5, 7, 0}}, {tall, []int64{3, 48}, []int64{3, 7, 7, 5, 7, 0}}, {tall, []int64{3, 10, 41}, []int64{3, 2, 4, 6, 6, 0}},
	// Paths with all levels; the most significant digit is that of the first chamber.
	{middle, []int64{2, 3, 0}, []int64{3, 4, 0, 0}}, {middle, []int64{2, 3, 1}, []int64{3, 4, 0, 2}}, {middle, []int64{2, 3, 4}, []int64{3, 4, 1, 0}}, {middle, []int64{0, 0, 6}, []int64{0, 1, 1, 3}}, {middle, []int64{1, 1, 12}, []int64{1, 2, 4, 0}}, {middle, []int64{3, 3, 15}, []int64{4, 4, 4, 4}}, {middle, []int64{0, 0, 0}, []int64{0, 1, 0, 0}},
	{single, []int64{0}, []int64{0, 1, 1, 1}}, {single, []int64{1}, []int64{0, 1, 1, 2}}, {single, []int64{64}, []int64{1, 1, 1, 1}}, {single, []int64{255}, []int64{3, 4, 4, 4}}, {single, []int64{27}, []int64{0, 2, 3, 4}}, {single, []int64{228}, []int64{3, 3, 2, 1}},
	{lone, []int64{0, 0, 0, 0}, []int64{0, 0, 1, 0}}, {lone, []int64{1, 1, 1, 1}, []int64{2, 2, 2, 1}}, {lone, []int64{1, 0, 1, 0}, []int64{2, 0, 2, 0}},
	{tall, []int64{0, 0, 0, 0}, []int64{0, 1, 0, 0, 0, 1}}, {tall, []int64{6, 48, 48, 6}, []int64{6, 7, 7, 7, 6, 7}}, {tall, []int64{3, 10, 41, 2}, []int64{3, 2, 4, 6, 6, 3}},
	{ladder{deep, filled(6, 0), []int64{6}}, []int64{0}, filled(6, 1)}, {ladder{deep, filled(6, 0), []int64{6}}, []int64{117648}, filled(6, 7)}, {ladder{deep, filled(6, 7), []int64{6}}, []int64{0}, filled(6, 0)}, {ladder{deep, filled(6, 7), []int64{6}}, []int64{117648}, filled(6, 6)}, {ladder{deep, filled(6, 7), []int64{6}}, []int64{7}, []int64{0, 0, 0, 0, 1, 0}}, {ladder{deep, filled(6, 3), []int64{6}}, []int64{22875}, []int64{1, 2, 4, 5, 6, 7}},
	// Two depths: each level has one number alone.
	{narrow, []int64{0}, []int64{1, 1, 1, 1, 0, 1}}, {narrow, []int64{0, 0}, []int64{1, 1, 0, 1, 0, 1}}, {narrow, []int64{0, 0, 0}, []int64{1, 1, 0, 0, 1, 0}},
	{ladder{fewest, []int64{0, 0}, []int64{1, 1}}, []int64{0}, []int64{1, 0}}, {ladder{fewest, []int64{1, 1}, []int64{2}}, []int64{0}, []int64{0, 0}},
}

func TestCutsAt(t *testing.T) {
	for _, c := range pathCases {
		checkLevelCall(t, "CutsAt", levelCall{ladder: c.ladder, path: c.path}, levelResult{list: c.cuts}, impl.ErrNone)
	}
}

func TestPathOf(t *testing.T) {
	for _, c := range pathCases {
		checkLevelCall(t, "PathOf", levelCall{ladder: c.ladder, cuts: c.cuts}, levelResult{list: c.path}, impl.ErrNone)
	}
}

// noPathCases have cuts that are found at no path.
var noPathCases = []struct {
	ladder
	cuts [][]int64
}{
	// A level has the cut of the master in some of its chambers alone.
	{middle, [][]int64{{0, 1, 3, 0}, {0, 1, 0, 1}, {4, 4, 3, 4}, {3, 4, 4, 1}}},
	{single, [][]int64{{4, 1, 1, 1}, {0, 0, 1, 1}, {0, 1, 0, 1}, {0, 1, 1, 0}, {4, 0, 0, 1}, {0, 0, 0, 0}, {4, 1, 0, 0}}},
	{tall, [][]int64{{6, 0, 4, 6, 6, 3}, {6, 1, 3, 6, 6, 3}, {6, 1, 4, 5, 6, 3}, {6, 1, 4, 6, 7, 3}, {6, 1, 4, 5, 6, 0}, {6, 1, 3, 5, 7, 0}, {6, 0, 4, 5, 7, 0}}},
	{narrow, [][]int64{{0, 1, 1, 1, 0, 1}, {1, 0, 1, 1, 0, 1}, {1, 1, 0, 1, 1, 0}, {1, 1, 0, 0, 0, 0}, {1, 1, 0, 0, 1, 1}, {1, 1, 0, 1, 0, 0}}},
	{ladder{fewest, []int64{0, 0}, []int64{2}}, [][]int64{{0, 1}, {1, 0}}},
	// A level has the cuts of the master, and a later one has not.
	{middle, [][]int64{{2, 1, 3, 1}, {2, 4, 0, 0}, {2, 0, 0, 0}, {0, 0, 0, 0}, {4, 0, 4, 4}, {2, 1, 4, 0}}},
	{tall, [][]int64{{7, 1, 0, 0, 0, 1}, {7, 0, 3, 5, 7, 7}, {7, 0, 3, 0, 0, 0}, {6, 0, 3, 6, 6, 0}, {6, 0, 3, 5, 7, 1}, {6, 1, 4, 5, 7, 1}}},
	{lone, [][]int64{{1, 0, 0, 2}, {1, 1, 1, 2}, {1, 1, 0, 0}, {0, 1, 1, 0}, {0, 0, 0, 1}, {1, 2, 2, 1}, {2, 1, 0, 1}}},
	{narrow, [][]int64{{0, 0, 0, 1, 0, 1}, {0, 0, 0, 0, 1, 0}, {0, 0, 1, 0, 1, 0}, {1, 1, 1, 0, 1, 0}}},
	{ladder{fewest, []int64{0, 0}, []int64{1, 1}}, [][]int64{{0, 1}}},
	// Both together.
	{middle, [][]int64{{2, 0, 3, 0}, {2, 0, 0, 1}, {2, 4, 3, 3}, {1, 0, 1, 1}}},
	{tall, [][]int64{{7, 1, 3, 5, 7, 0}, {7, 0, 0, 5, 7, 0}, {7, 0, 3, 6, 7, 1}, {0, 0, 3, 5, 0, 0}}},
}

func TestPathOfCutsAtNoPath(t *testing.T) {
	for _, c := range noPathCases {
		for _, cuts := range c.cuts {
			checkLevelCall(t, "PathOf", levelCall{ladder: c.ladder, cuts: cuts}, levelResult{}, impl.ErrNotFound)
		}
	}
}

func TestLockAt(t *testing.T) {
	for _, c := range []struct {
		ladder
		path []int64
		want impl.Lock
	}{
		// The cuts of the master alone in all other chambers.
		{middle, nil, lockOf([]int64{2}, []int64{0}, []int64{3}, []int64{1})}, {single, nil, singleLock([]int64{4, 0, 0, 0})}, {tall, nil, singleLock(tall.master)}, {narrow, nil, singleLock(narrow.master)},
		{middle, []int64{0}, lockOf([]int64{0, 2}, []int64{0}, []int64{3}, []int64{1})}, {middle, []int64{2}, lockOf([]int64{2, 3}, []int64{0}, []int64{3}, []int64{1})}, {middle, []int64{3, 3}, lockOf([]int64{2, 4}, []int64{0, 4}, []int64{3}, []int64{1})},
		{lone, []int64{1, 0, 1}, lockOf([]int64{1, 2}, []int64{0, 1}, []int64{0, 2}, []int64{2})}, {tall, []int64{6, 48}, lockOf([]int64{6, 7}, []int64{0, 7}, []int64{3, 7}, []int64{5}, []int64{7}, []int64{0})},
		// Two depths in each chamber.
		{middle, []int64{0, 0, 6}, lockOf([]int64{0, 2}, []int64{0, 1}, []int64{1, 3}, []int64{1, 3})}, {middle, []int64{3, 3, 15}, lockOf([]int64{2, 4}, []int64{0, 4}, []int64{3, 4}, []int64{1, 4})},
		{single, []int64{0}, lockOf([]int64{0, 4}, []int64{0, 1}, []int64{0, 1}, []int64{0, 1})}, {single, []int64{255}, lockOf([]int64{3, 4}, []int64{0, 4}, []int64{0, 4}, []int64{0, 4})},
		{lone, []int64{0, 0, 0, 0}, lockOf([]int64{0, 1}, []int64{0, 1}, []int64{0, 1}, []int64{0, 2})}, {tall, []int64{3, 10, 41, 2}, lockOf([]int64{3, 7}, []int64{0, 2}, []int64{3, 4}, []int64{5, 6}, []int64{6, 7}, []int64{0, 3})},
		{narrow, []int64{0}, lockOf([]int64{0, 1}, []int64{0, 1}, []int64{1}, []int64{1}, []int64{0}, []int64{1})}, {narrow, []int64{0, 0, 0}, fullLock(narrow.maker)}, {ladder{fewest, []int64{0, 0}, []int64{2}}, []int64{0}, fullLock(fewest)},
	} {
		checkLevelCall(t, "LockAt", levelCall{ladder: c.ladder, path: c.path}, levelResult{lock: c.want}, impl.ErrNone)
	}
}

func TestIsBelow(t *testing.T) {
	long, longer := filled(1000, 5), filled(1001, 5)
	for _, c := range []struct {
		path, other []int64
		want        bool
	}{
		// Equal paths.
		{nil, nil, true}, {nil, []int64{}, true}, {[]int64{}, nil, true}, {[]int64{0}, []int64{0}, true}, {[]int64{3, 1, 4, 1}, []int64{3, 1, 4, 1}, true},
		// One that begins with the other one, and the other way round.
		{[]int64{0}, nil, true}, {nil, []int64{0}, false}, {[]int64{1, 2}, []int64{1}, true}, {[]int64{1}, []int64{1, 2}, false}, {[]int64{3, 1, 4, 1}, []int64{3, 1}, true}, {[]int64{3, 1}, []int64{3, 1, 4, 1}, false}, {[]int64{3, 1, 4, 1}, []int64{3, 1, 4}, true}, {[]int64{3, 1, 4}, []int64{3, 1, 4, 1}, false}, {[]int64{0, 0}, []int64{0}, true}, {[]int64{0}, []int64{0, 0}, false},
		// Others.
		{[]int64{1, 2}, []int64{2}, false}, {[]int64{1, 2}, []int64{2, 1}, false}, {[]int64{1, 2}, []int64{1, 3}, false}, {[]int64{1, 2}, []int64{0, 2}, false}, {[]int64{3, 1, 4, 1}, []int64{1, 4}, false}, {[]int64{3, 1, 4, 1}, []int64{3, 1, 4, 2}, false}, {[]int64{3, 1, 4, 1}, []int64{4, 1, 4, 1}, false}, {[]int64{0}, []int64{1}, false},
		// Lists that are paths of no levels.
		{[]int64{-1}, []int64{-1}, true}, {[]int64{-1, largest, smallest}, []int64{-1, largest}, true}, {[]int64{largest}, []int64{smallest}, false}, {[]int64{1 << 32}, []int64{0}, false}, {[]int64{1<<32 + 1}, []int64{1}, false}, {long, long, true}, {longer, long, true}, {long, longer, false}, {joined(long, []int64{1}), joined(long, []int64{2}), false},
	} {
		given := roomyLists([][]int64{c.path, c.other})
		if got := impl.IsBelow(given[0], given[1]); got != c.want {
			t.Errorf("IsBelow(%v, %v) = %v", c.path, c.other, got)
		}
		checkListsKept(t, "IsBelow", given, [][]int64{c.path, c.other})
	}
}

// What stands behind a path does not belong to it.
func TestIsBelowOfPartsOfOneList(t *testing.T) {
	list := []int64{2, 7, 1, 8, 2, 7, 1, 8}
	for size := range 5 {
		for other := range 5 {
			want := other <= size
			if got := impl.IsBelow(list[:size], list[:other]); got != want {
				t.Errorf("IsBelow(%v, %v) = %v", list[:size], list[:other], got)
			}
			if got := impl.IsBelow(list[:size:size], list[4:4+other]); got != want {
				t.Errorf("IsBelow(%v, %v) = %v", list[:size], list[4:4+other], got)
			}
		}
	}
}

func TestIsBelowForAllShortLists(t *testing.T) {
	var lists [][]int64
	for count := range int64(5) {
		lists = append(lists, allCuts(count, 3)...)
	}
	for _, path := range lists {
		for _, other := range lists {
			want := true
			for i, number := range other {
				want = want && i < len(path) && path[i] == number
			}
			if got := impl.IsBelow(path, other); got != want {
				t.Errorf("IsBelow(%v, %v) = %v", path, other, got)
			}
		}
	}
}

func TestLeastLevels(t *testing.T) {
	for _, c := range []struct {
		maker        impl.Maker
		needed, want []int64
	}{
		// Needed numbers of 1, of exactly the numbers of a level, and of one more.
		{desk, []int64{1}, []int64{4}}, {desk, []int64{256}, []int64{4}}, {desk, []int64{1, 1}, []int64{1, 3}}, {desk, []int64{4, 1}, []int64{1, 3}}, {desk, []int64{5, 1}, []int64{2, 2}}, {desk, []int64{16, 1}, []int64{2, 2}}, {desk, []int64{17, 1}, []int64{3, 1}}, {desk, []int64{64, 1}, []int64{3, 1}}, {deep, []int64{7, 8, 1}, []int64{1, 2, 3}}, {deep, []int64{8, 7, 1}, []int64{2, 1, 3}}, {deep, []int64{343, 1}, []int64{3, 3}}, {deep, []int64{344, 1}, []int64{4, 2}}, {deep, []int64{2401, 1}, []int64{4, 2}}, {deep, []int64{2402, 1}, []int64{5, 1}}, {deep, []int64{16807, 1}, []int64{5, 1}},
		// The last level has all chambers that are left, also where fewer would do.
		{desk, []int64{4, 4}, []int64{1, 3}}, {desk, []int64{5, 4}, []int64{2, 2}}, {desk, []int64{4, 5, 4}, []int64{1, 2, 1}}, {desk, []int64{4, 1, 5}, []int64{1, 1, 2}}, {deep, []int64{1, 1, 1, 1}, []int64{1, 1, 1, 3}}, {deep, []int64{7}, []int64{6}}, {deep, []int64{8, 7}, []int64{2, 4}}, {freeMaker(6, 2), []int64{1, 1, 1, 1}, []int64{1, 1, 1, 3}}, {freeMaker(6, 2), []int64{1, 1}, []int64{1, 5}}, {freeMaker(6, 2), []int64{1}, []int64{6}}, {fewest, []int64{1}, []int64{2}},
		// Chambers that suffice exactly.
		{desk, []int64{4, 64}, []int64{1, 3}}, {desk, []int64{64, 4}, []int64{3, 1}}, {desk, []int64{16, 16}, []int64{2, 2}}, {desk, []int64{4, 4, 16}, []int64{1, 1, 2}}, {desk, []int64{4, 4, 4, 4}, []int64{1, 1, 1, 1}}, {desk, []int64{1, 1, 1, 1}, []int64{1, 1, 1, 1}}, {desk, []int64{5, 3, 4}, []int64{2, 1, 1}}, {deep, []int64{117649}, []int64{6}}, {deep, []int64{49, 2401}, []int64{2, 4}}, {deep, []int64{8, 8, 8}, []int64{2, 2, 2}}, {deep, []int64{7, 49, 49, 7}, []int64{1, 2, 2, 1}}, {deep, []int64{16807, 7}, []int64{5, 1}}, {fewest, []int64{1, 1}, []int64{1, 1}}, {pair, []int64{4}, []int64{2}}, {pair, []int64{2, 2}, []int64{1, 1}}, {free, []int64{3, 3, 3}, []int64{1, 1, 1}},
	} {
		checkLevelCall(t, "LeastLevels", levelCall{ladder: ladder{maker: c.maker}, needed: c.needed}, levelResult{list: c.want}, impl.ErrNone)
	}
}

func TestLeastLevelsWithoutEnoughChambers(t *testing.T) {
	for _, c := range []struct {
		maker  impl.Maker
		needed [][]int64
	}{
		// One number too many on the last level, or on one before it.
		{desk, [][]int64{{257}, {4, 65}, {64, 5}, {16, 17}, {4, 4, 17}, {4, 4, 4, 5}, {5, 4, 4, 4}, {4, 5, 4, 4}, {4, 4, 5, 4}, {17, 5}, {5, 17}, {5, 5, 1}, {5, 1, 5}, {1, 5, 5}}},
		{deep, [][]int64{{117650}, {49, 2402}, {50, 2401}, {8, 8, 50}, {7, 49, 49, 8}, {344, 50}, {343, 344}, {16807, 8}}},
		// No chamber is left.
		{desk, [][]int64{{256, 1}, {65, 1}, {64, 4, 1}, {16, 16, 1}, {5, 4, 4, 1}, {17, 4, 1, 1}}},
		{fewest, [][]int64{{1, 1, 1}, {1, 1, 1, 1}}}, {pair, [][]int64{{4, 1}, {3, 1}, {2, 2, 1}, {1, 1, 1, 1}}}, {free, [][]int64{{1, 1, 1, 1}, {4, 3, 1}, {10, 1}}}, {deep, [][]int64{{16808, 1}, {117649, 1}, {49, 49, 49, 1}}},
		// Two depths, with which each level has one number alone.
		{fewest, [][]int64{{2}, {1, 2}, {2, 1}, {impl.MaxNumber}}}, {freeMaker(6, 2), [][]int64{{2}, {3}, {1, 1, 1, 2}, {2, 1}, {1, 2, 1}, {impl.MaxNumber, 1}}},
		{desk, [][]int64{{impl.MaxNumber}, {1, impl.MaxNumber}, {impl.MaxNumber, 1}, filled(4, impl.MaxNumber), {1<<32 + 1}, {1 << 32, 1}}},
	} {
		for _, needed := range c.needed {
			checkLevelCall(t, "LeastLevels", levelCall{ladder: ladder{maker: c.maker}, needed: needed}, levelResult{}, impl.ErrNotFound)
		}
	}
}

// The least levels are the lexicographically smallest ones of those with enough numbers: fewer
// chambers of one level leave more for the later ones.
func TestLeastLevelsOfManyNumbers(t *testing.T) {
	for chambers := int64(2); chambers <= 6; chambers++ {
		all := allLevels(chambers)
		for depths := int64(2); depths <= 8; depths++ {
			m := freeMaker(chambers, depths)
			numbers := []int64{1, 2}
			for c := int64(1); c <= min(chambers, 3); c++ {
				numbers = append(numbers, expectedSize(m, c), expectedSize(m, c)+1)
			}
			for count := int64(1); count <= 4; count++ {
				for _, choice := range allCuts(count, int64(len(numbers))) {
					var needed []int64
					for _, index := range choice {
						needed = append(needed, numbers[index])
					}
					checkLeastLevels(t, m, all, needed)
				}
			}
		}
	}
}

func checkLeastLevels(t *testing.T, m impl.Maker, all [][]int64, needed []int64) {
	t.Helper()
	want, wantCode := []int64(nil), int64(impl.ErrNotFound)
	for _, levels := range all {
		enough := len(levels) == len(needed)
		for level := range levels {
			enough = enough && expectedSize(m, levels[level]) >= needed[level]
		}
		if enough {
			want, wantCode = levels, impl.ErrNone
			break
		}
	}
	if got, code := impl.LeastLevels(m, needed); !slices.Equal(got, want) || code != wantCode {
		t.Errorf("LeastLevels(%v, %v) = %v, %d, want %v, %d", m, needed, got, code, want, wantCode)
	}
}

func TestCountKeysAt(t *testing.T) {
	fours := ladder{strict, filled(4, 4), []int64{1, 3}}
	for _, c := range []struct {
		ladder
		path []int64
		want int64
	}{
		// All cuts below the path are keys.
		{tall, nil, 117649}, {tall, []int64{0}, 16807}, {tall, []int64{6, 48}, 343}, {tall, []int64{3, 10, 41}, 7}, {tall, []int64{3, 10, 41, 2}, 1}, {ladder{deep, filled(6, 0), []int64{6}}, nil, 117649}, {ladder{deep, filled(6, 7), []int64{6}}, []int64{117648}, 1}, {ladder{free, filled(3, 2), []int64{2, 1}}, nil, 27}, {ladder{free, filled(3, 2), []int64{2, 1}}, []int64{8}, 3},
		{ladder{fewest, []int64{0, 1}, []int64{1, 1}}, nil, 1}, {ladder{fewest, []int64{0, 1}, []int64{1, 1}}, []int64{0}, 1}, {ladder{fewest, []int64{1, 0}, []int64{2}}, []int64{0}, 1}, {ladder{freeMaker(6, 2), filled(6, 1), []int64{1, 2, 3}}, nil, 1},
		// Some: of the keys 0123, 1234, 3210 and 4321, two have no 4.
		{fours, nil, 2}, {fours, []int64{0}, 1}, {fours, []int64{3}, 1}, {fours, []int64{3, 36}, 1}, {ladder{strict, filled(4, 4), []int64{4}}, nil, 2}, {ladder{strict, []int64{0, 0, 0, 0}, []int64{2, 2}}, nil, 2}, {ladder{strict, []int64{4, 0, 0, 0}, []int64{1, 1, 2}}, nil, 2}, {ladder{strict, []int64{4, 0, 2, 0}, []int64{1, 1, 2}}, nil, 1},
		{ladder{impl.Maker{Chambers: 3, Depths: 3, Step: 1, Same: 2, Least: 2}, []int64{0, 0, 1}, []int64{1, 2}}, nil, 5}, {ladder{impl.Maker{Chambers: 3, Depths: 3, Step: 1, Same: 2, Least: 2}, []int64{0, 0, 1}, []int64{1, 2}}, []int64{0}, 3}, {ladder{impl.Maker{Chambers: 3, Depths: 3, Step: 1, Same: 2, Least: 2}, []int64{0, 0, 1}, []int64{1, 2}}, []int64{1}, 2},
		{ladder{pair, []int64{0, 0}, []int64{1, 1}}, nil, 2}, {ladder{pair, []int64{0, 0}, []int64{1, 1}}, []int64{1}, 1}, {ladder{pair, []int64{1, 0}, []int64{2}}, nil, 2},
		// None, because of each of the rules 3 to 5.
		{fours, []int64{1}, 0}, {fours, []int64{2}, 0}, {fours, []int64{0, 0}, 0}, {ladder{strict, filled(4, 2), []int64{2, 2}}, nil, 0}, {ladder{strict, filled(4, 2), []int64{1, 1, 1, 1}}, []int64{0, 0, 0}, 0},
		{ladder{impl.Maker{Chambers: 3, Depths: 4, Step: 1, Same: 3, Least: 1}, []int64{3, 1, 0}, []int64{1, 2}}, []int64{0, 7}, 0}, {ladder{fewest, []int64{0, 0}, []int64{1, 1}}, nil, 0}, {ladder{fewest, []int64{1, 1}, []int64{2}}, []int64{0}, 0}, {ladder{desk, []int64{4, 4, 4, 4}, []int64{3, 1}}, []int64{0}, 0}, {ladder{impl.Maker{Chambers: 3, Depths: 3, Step: 2, Same: 3, Least: 3}, []int64{2, 2, 2}, []int64{1, 1, 1}}, nil, 0}, {ladder{impl.Maker{Chambers: 3, Depths: 3, Step: 2, Same: 3, Least: 3}, []int64{2, 2, 2}, []int64{1, 1, 1}}, []int64{1, 0}, 0},
		// One list of cuts alone, which is a key or none.
		{middle, []int64{0, 0, 6}, 1}, {middle, []int64{0, 0, 0}, 1}, {middle, []int64{3, 3, 15}, 0}, {middle, []int64{3, 3, 14}, 0}, {middle, []int64{3, 3, 8}, 1}, {narrow, []int64{0, 0, 0}, 0}, {ladder{narrow.maker, []int64{0, 1, 0, 1, 0, 1}, []int64{2, 1, 3}}, []int64{0, 0, 0}, 1},
	} {
		checkLevelCall(t, "CountKeysAt", levelCall{ladder: c.ladder, path: c.path}, levelResult{count: c.want}, impl.ErrNone)
	}
}

// Masters, levels and paths are taken for all makers of up to three chambers, and for some others.
func TestCountKeysAtOfManyMakers(t *testing.T) {
	s := sequence(1212)
	for _, m := range rankMakers() {
		if m.Chambers == 6 && m.Depths > 4 {
			continue
		}
		choices := allLevels(m.Chambers)
		for i, master := range someMasters(&s, m, 1) {
			l := ladder{m, master, choices[(int(m.Step+m.Same*m.Least)+i)%len(choices)]}
			for count := range len(l.levels) + 1 {
				path := l.somePath(&s, count)
				checkLevelCall(t, "CountKeysAt", levelCall{ladder: l, path: path}, levelResult{count: l.expectedCount(path)}, impl.ErrNone)
			}
		}
	}
}

func TestAllFunctionsOfManyLadders(t *testing.T) {
	for _, l := range allLadders() {
		if got, code := impl.LevelSizes(l.maker, l.levels); !slices.Equal(got, expectedSizes(l.maker, l.levels)) || code != impl.ErrNone {
			t.Errorf("LevelSizes of %v = %v, %d", l, got, code)
		}
		for _, path := range l.allPaths() {
			if got, code := impl.CutsAt(l.maker, l.master, l.levels, path); !slices.Equal(got, l.expectedCuts(path)) || code != impl.ErrNone {
				t.Errorf("CutsAt of %v and %v = %v, %d, want %v", l, path, got, code, l.expectedCuts(path))
			}
			if got, code := impl.LockAt(l.maker, l.master, l.levels, path); !sameLock(got, l.expectedLock(path)) || code != impl.ErrNone {
				t.Errorf("LockAt of %v and %v = %v, %d, want %v", l, path, got, code, l.expectedLock(path))
			}
		}
	}
}

// The cuts at each path lead back to it, and all other cuts are found at no path.
func TestP11CutsAndPathsDetermineEachOther(t *testing.T) {
	for _, l := range allLadders() {
		found := map[string]bool{}
		for _, path := range l.allPaths() {
			cuts, _ := impl.CutsAt(l.maker, l.master, l.levels, path)
			if got, code := impl.PathOf(l.maker, l.master, l.levels, cuts); !slices.Equal(got, path) || code != impl.ErrNone {
				t.Errorf("PathOf of %v and the cuts %v at %v = %v, %d", l, cuts, path, got, code)
			}
			if text := fmt.Sprint(cuts); found[text] {
				t.Errorf("the cuts %v of %v are those at %v and at another path", cuts, l, path)
			} else {
				found[text] = true
			}
		}
		// All cuts where there are not too many, and otherwise those of every 37th index.
		all := allCuts(l.maker.Chambers, l.maker.Depths)
		step := 1
		if len(all) > 700 {
			step = 37
		}
		for index := 0; index < len(all); index += step {
			path, code := impl.PathOf(l.maker, l.master, l.levels, all[index])
			if !found[fmt.Sprint(all[index])] && (len(path) != 0 || code != impl.ErrNotFound) {
				t.Errorf("PathOf of %v and %v, which are at no path, = %v, %d", l, all[index], path, code)
			}
			if cuts, _ := impl.CutsAt(l.maker, l.master, l.levels, path); code == impl.ErrNone && !slices.Equal(cuts, all[index]) {
				t.Errorf("CutsAt of %v and the path %v of %v = %v", l, path, all[index], cuts)
			}
		}
	}
}

// Makers with the most chambers and depths have too many paths to look at each of them.
func TestP11CutsAndPathsOfLargeMakers(t *testing.T) {
	s := sequence(4812)
	for _, m := range []impl.Maker{deep, freeMaker(6, 7), freeMaker(5, 8), {Chambers: 6, Depths: 8, Step: 1, Same: 1, Least: 5}} {
		for _, levels := range allLevels(m.Chambers) {
			for _, master := range someMasters(&s, m, 2) {
				l := ladder{m, master, levels}
				for count := range len(levels) + 1 {
					last := expectedSizes(m, levels[:count])
					for i := range last {
						last[i]--
					}
					for _, path := range [][]int64{filled(count, 0), last, l.somePath(&s, count), l.somePath(&s, count)} {
						checkLevelCall(t, "CutsAt", levelCall{ladder: l, path: path}, levelResult{list: l.expectedCuts(path)}, impl.ErrNone)
						checkLevelCall(t, "PathOf", levelCall{ladder: l, cuts: l.expectedCuts(path)}, levelResult{list: path}, impl.ErrNone)
						checkLevelCall(t, "LockAt", levelCall{ladder: l, path: path}, levelResult{lock: l.expectedLock(path)}, impl.ErrNone)
					}
				}
			}
		}
	}
}

// Cuts at a path open the locks at exactly those paths with all levels that are below it.
func TestP11CutsOpenTheLocksBelow(t *testing.T) {
	s := sequence(11)
	for chambers := int64(2); chambers <= 6; chambers++ {
		for depths := int64(2); depths <= 8; depths++ {
			m := freeMaker(chambers, depths)
			if expectedSize(m, chambers) > 90 {
				continue
			}
			for _, master := range someMasters(&s, m, 2) {
				for _, levels := range allLevels(chambers) {
					checkLocksBelow(t, ladder{m, master, levels})
				}
			}
		}
	}
}

func checkLocksBelow(t *testing.T, l ladder) {
	t.Helper()
	locks := map[string]impl.Lock{}
	full := l.fullPaths(nil)
	for _, path := range full {
		locks[fmt.Sprint(path)], _ = impl.LockAt(l.maker, l.master, l.levels, path)
	}
	for _, path := range l.allPaths() {
		cuts, _ := impl.CutsAt(l.maker, l.master, l.levels, path)
		for _, other := range full {
			// All cuts of these makers are keys.
			opens, code := impl.Opens(l.maker, locks[fmt.Sprint(other)], cuts)
			if below := impl.IsBelow(other, path); opens != below || code != impl.ErrNone {
				t.Errorf("Opens of %v, the lock at %v and the cuts at %v = %v, %d, but IsBelow = %v", l, other, path, opens, code, below)
			}
		}
	}
}

// Cuts that are no keys open the same locks.
func TestP11CutsThatAreNoKeys(t *testing.T) {
	for _, l := range []ladder{middle, single, lone, narrow, {strict, filled(4, 2), []int64{2, 2}}, {pair, []int64{0, 0}, []int64{1, 1}}} {
		for _, path := range l.allPaths() {
			cuts, _ := impl.CutsAt(l.maker, l.master, l.levels, path)
			for _, other := range l.fullPaths(nil) {
				lock, _ := impl.LockAt(l.maker, l.master, l.levels, other)
				if opens, below := expectedOpens(lock, cuts), impl.IsBelow(other, path); opens != below {
					t.Errorf("the cuts of %v at %v open the lock at %v: %v, but IsBelow = %v", l, path, other, opens, below)
				}
			}
		}
	}
}

// No more keys are found below a path than it has paths with all levels below it, and those of the
// next paths add up to them.
func TestP11KeysBelowPaths(t *testing.T) {
	s := sequence(1112)
	for _, m := range rankMakers() {
		if expectedSize(m, m.Chambers) > 300 {
			continue
		}
		for _, levels := range allLevels(m.Chambers) {
			for _, master := range someMasters(&s, m, 1) {
				l := ladder{m, master, levels}
				for count := range levels {
					path := l.somePath(&s, count)
					most, sum := int64(1), int64(0)
					for _, chambers := range levels[count:] {
						most *= expectedSize(m, chambers)
					}
					for _, longer := range l.longerPaths(path) {
						keys, _ := impl.CountKeysAt(m, master, levels, longer)
						sum += keys
					}
					if keys, code := impl.CountKeysAt(m, master, levels, path); keys > most || keys != sum || code != impl.ErrNone {
						t.Errorf("CountKeysAt of %v and %v = %d, %d, want %d of at most %d", l, path, keys, code, sum, most)
					}
				}
			}
		}
	}
}

// badMasters returns lists that are no cuts of a maker, most of them for one reason only.
func badMasters(m impl.Maker) [][]int64 {
	count := int(m.Chambers)
	bad := [][]int64{nil, {}, {0}, filled(count-1, 0), filled(count-1, m.Depths-1), filled(count+1, 0), filled(count+1, m.Depths-1), filled(7, 0), filled(101, 0), filled(1000, 1), filled(count, -1), filled(count, m.Depths), filled(count+1, -1)}
	for _, chamber := range []int{0, count / 2, count - 1} {
		for _, cut := range []int64{-1, m.Depths, m.Depths + 1, -m.Depths, 8, 16, 64, 256, 1 << 32, 1<<32 + 1, -1 << 32, smallest, largest} {
			master := filled(count, m.Depths-1)
			master[chamber] = cut
			bad = append(bad, master)
		}
	}
	return bad
}

// badLevels returns lists that are no levels of some chambers, most of them for one reason only.
func badLevels(chambers int64) [][]int64 {
	bad := [][]int64{
		// No levels, and more than MaxLevels of them.
		nil, {}, {1, 1, 1, 1, chambers - 4}, {chambers - 4, 1, 1, 1, 1}, {chambers, 0, 0, 0, 0}, filled(5, 1), filled(6, 1), filled(101, 1), filled(1000, 0), joined([]int64{chambers}, filled(200, 0)),
		// Levels without chambers.
		{0}, {chambers, 0}, {0, chambers}, {1, 0, chambers - 1}, {chambers - 1, 0, 1}, {0, 0, 0, chambers}, {chambers, 0, 0, 0}, {1, 0, 0, chambers - 1},
		// Levels with fewer than none.
		{-1}, {chambers + 1, -1}, {-1, chambers + 1}, {1, -1, chambers}, {-chambers}, {2 * chambers, -chambers}, {smallest}, {largest, smallest, chambers, 1}, {smallest, smallest, chambers}, {-chambers, -chambers},
		// Levels with another sum, also one that has the right sum after an overflow.
		{chambers - 1}, {chambers + 1}, {1, chambers}, {chambers, 1}, {chambers, chambers}, {1, chambers - 2, 2}, {1, 1, 1, chambers}, {chambers - 1, 1, 1}, {chambers + 1<<32}, {1<<32 + 1, chambers - 1}, {largest}, {largest, largest, chambers + 2}, {largest, largest, 1, chambers + 1}, {1 << 62, 1 << 62, 1 << 62, 1<<62 + chambers}, {impl.MaxNumber + 1}, {impl.MaxNumber, chambers},
	}
	if chambers != 4 {
		bad = append(bad, filled(4, 1))
	}
	if chambers > 2 {
		bad = append(bad, []int64{1, 1}, []int64{1, chambers - 2}, []int64{chambers - 2, 1})
	}
	return bad
}

// badPaths returns lists that are no paths of a ladder: numbers out of range on each level, and
// more numbers than levels.
func badPaths(l ladder) [][]int64 {
	count := len(l.levels)
	sizes := expectedSizes(l.maker, l.levels)
	bad := [][]int64{filled(count+1, 0), filled(count+1, -1), filled(5, 0), filled(6, 0), filled(101, 0), filled(1000, 0), sizes, slices.Repeat([]int64{smallest, largest}, 4)[:count]}
	for level, size := range sizes {
		for _, number := range []int64{-1, size, size + 1, -size, size + 1<<32, 1 << 32, -1 << 32, smallest, smallest + 1, largest} {
			// Behind the number there may be good ones or none.
			path := filled(count, 0)
			path[level] = number
			bad = append(bad, path, path[:level+1])
		}
	}
	return bad
}

// badNeeded are lists with too few or too many numbers, or with others than 1..MaxNumber.
var badNeeded = [][]int64{
	nil, {}, filled(5, 1), filled(6, 1), filled(101, 1), filled(1000, impl.MaxNumber), filled(5, 0), filled(5, impl.MaxNumber), joined(filled(4, 1), []int64{0}),
	{0}, {0, 1}, {1, 0}, {1, 0, 1}, {1, 1, 1, 0}, {0, 1, 1, 1}, {0, 0, 0, 0}, {impl.MaxNumber, 0},
	{impl.MaxNumber + 1}, {1, impl.MaxNumber + 1}, {impl.MaxNumber + 1, 1}, {1, 1, 1, impl.MaxNumber + 1}, {1, 1, impl.MaxNumber + 1, 1}, {impl.MaxNumber, impl.MaxNumber + 1},
	{-1}, {1, -1}, {-1, 1, 1, 1}, {smallest}, {1, smallest}, {largest}, {1, 1, 1, largest}, {largest, smallest},
}

// goodLadders have several makers, masters and levels.
var goodLadders = []ladder{
	middle, single, tall, lone, narrow, {fewest, []int64{0, 0}, []int64{1, 1}}, {fewest, []int64{1, 0}, []int64{2}}, {pair, []int64{2, 2}, []int64{1, 1}}, {free, []int64{3, 0, 1}, []int64{2, 1}}, {strict, filled(4, 2), []int64{1, 1, 1, 1}}, {deep, filled(6, 7), []int64{6}}, {freeMaker(6, 8), filled(6, 0), []int64{1, 1, 1, 3}}, {freeMaker(5, 2), filled(5, 1), []int64{1, 2, 1, 1}},
}

// masterFunctions take a master, and pathFunctions a path.
var (
	masterFunctions = []string{"CutsAt", "PathOf", "LockAt", "CountKeysAt"}
	pathFunctions   = []string{"CutsAt", "LockAt", "CountKeysAt"}
)

// A maker that is not valid comes before all other errors.
func TestLevelsRejectMakers(t *testing.T) {
	for _, m := range badMakers {
		for _, l := range goodLadders {
			for _, c := range []levelCall{
				{l, nil, l.master, []int64{1}}, {l, []int64{0}, nil, nil}, {l, []int64{-1}, filled(4, -1), []int64{0}}, {l, nil, filled(4, 9), []int64{impl.MaxNumber}},
				{ladder: ladder{m, nil, l.levels}}, {ladder: ladder{m, l.master, nil}, cuts: l.master}, {ladder: ladder{m, []int64{-1}, []int64{0}}, path: []int64{-1}, needed: filled(5, 1)},
				{ladder: ladder{m, filled(4, 0), []int64{4}}, cuts: filled(4, 1), needed: []int64{1, 1}},
			} {
				c.maker = m
				for name := range levelFunctions() {
					checkLevelCall(t, name, c, levelResult{}, impl.ErrInvalid)
				}
			}
		}
	}
}

// A master that is none comes before levels, paths and cuts that are none.
func TestLevelsRejectMasters(t *testing.T) {
	for _, l := range goodLadders {
		for _, bad := range badMasters(l.maker) {
			for _, c := range []levelCall{
				{ladder: ladder{levels: l.levels}, cuts: l.master}, {ladder: ladder{levels: l.levels}, path: []int64{0}, cuts: bad}, {ladder: ladder{levels: l.levels}, path: []int64{-1}, cuts: nil},
				{ladder: ladder{}, cuts: l.master}, {ladder: ladder{levels: []int64{0}}, path: filled(5, 0), cuts: bad}, {ladder: ladder{levels: filled(5, 1)}, path: filled(5, -1), cuts: filled(9, 9)},
			} {
				c.maker, c.master = l.maker, bad
				for _, name := range masterFunctions {
					checkLevelCall(t, name, c, levelResult{}, impl.ErrInvalid)
				}
			}
		}
	}
}

// Levels that are none come before cuts that are found at no path.
func TestLevelsRejectLevels(t *testing.T) {
	for _, l := range goodLadders {
		for _, bad := range badLevels(l.maker.Chambers) {
			if slices.ContainsFunc(allLevels(l.maker.Chambers), func(good []int64) bool { return slices.Equal(good, bad) }) {
				t.Fatalf("%v are levels of %v", bad, l.maker)
			}
			other := slices.Clone(l.master)
			other[l.maker.Chambers-1] = (other[l.maker.Chambers-1] + 1) % l.maker.Depths
			for _, cuts := range [][]int64{l.master, other, nil, filled(4, -1)} {
				for _, path := range [][]int64{nil, {0}, {-1}, filled(5, 0)} {
					c := levelCall{ladder: ladder{l.maker, l.master, bad}, path: path, cuts: cuts}
					checkLevelCall(t, "LevelSizes", c, levelResult{}, impl.ErrRange)
					for _, name := range masterFunctions {
						checkLevelCall(t, name, c, levelResult{}, impl.ErrRange)
					}
				}
			}
		}
	}
}

func TestLevelsRejectPaths(t *testing.T) {
	for _, l := range goodLadders {
		for _, bad := range badPaths(l) {
			for _, name := range pathFunctions {
				checkLevelCall(t, name, levelCall{ladder: l, path: bad}, levelResult{}, impl.ErrRange)
			}
		}
	}
}

func TestPathOfRejectsCuts(t *testing.T) {
	for _, l := range goodLadders {
		for _, bad := range badMasters(l.maker) {
			checkLevelCall(t, "PathOf", levelCall{ladder: l, cuts: bad}, levelResult{}, impl.ErrRange)
		}
		// A cut that is none behind a level with the cuts of the master, or with some of them.
		last := l.maker.Chambers - 1
		for _, cut := range []int64{-1, l.maker.Depths} {
			for _, first := range []int64{l.master[0], (l.master[0] + 1) % l.maker.Depths} {
				bad := slices.Clone(l.master)
				bad[0], bad[last] = first, cut
				checkLevelCall(t, "PathOf", levelCall{ladder: l, cuts: bad}, levelResult{}, impl.ErrRange)
			}
		}
	}
}

// Numbers out of range come before chambers that do not suffice.
func TestLeastLevelsRejectsNumbers(t *testing.T) {
	for _, l := range goodLadders {
		for _, bad := range badNeeded {
			checkLevelCall(t, "LeastLevels", levelCall{ladder: l, needed: bad}, levelResult{}, impl.ErrRange)
		}
	}
}

// Results share no memory with an argument, with one another or with later results.
func TestResultsOfLevelsAreNew(t *testing.T) {
	for _, l := range goodLadders {
		for _, path := range [][]int64{nil, {0}, filled(len(l.levels), 0)} {
			lists := [][]int64{l.master, l.levels, path, l.expectedCuts(path), []int64{1, 1}}
			given := roomyLists(lists)
			c := levelCall{ladder{l.maker, given[0], given[1]}, given[2], given[3], given[4]}
			for name, call := range levelFunctions() {
				want, _ := call(c)
				got, _ := call(c)
				checkApart(t, name, slices.Concat([][]int64{got.list}, got.lock.Sets)...)
				clear(got.lock.Sets[:cap(got.lock.Sets)])
				if again, code := call(c); !again.equals(want) || code != impl.ErrNone {
					t.Errorf("%s of %v and %v is %v, %d after its result %v was changed", name, l, path, again, code, want)
				}
				checkListsKept(t, name, given, lists)
			}
		}
	}
}
