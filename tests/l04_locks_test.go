package tests

import (
	"slices"
	"testing"

	"loop.example/g00947/impl"
)

// lockOf returns the lock with some sets.
func lockOf(sets ...[]int64) impl.Lock {
	return impl.Lock{Sets: sets}
}

// fullLock returns the lock of a maker with all depths in each chamber.
func fullLock(m impl.Maker) impl.Lock {
	var l impl.Lock
	for range m.Chambers {
		set := []int64{}
		for depth := range m.Depths {
			set = append(set, depth)
		}
		l.Sets = append(l.Sets, set)
	}
	return l
}

// singleLock returns the lock with the cuts of a key alone.
func singleLock(key []int64) impl.Lock {
	var l impl.Lock
	for _, cut := range key {
		l.Sets = append(l.Sets, []int64{cut})
	}
	return l
}

// without returns a lock with one depth less.
func without(l impl.Lock, chamber int, depth int64) impl.Lock {
	smaller := cloneLock(l)
	at := slices.Index(smaller.Sets[chamber], depth)
	smaller.Sets[chamber] = slices.Delete(smaller.Sets[chamber], at, at+1)
	return smaller
}

func cloneLock(l impl.Lock) impl.Lock {
	var clone impl.Lock
	for _, set := range l.Sets {
		clone.Sets = append(clone.Sets, slices.Clone(set))
	}
	return clone
}

func sameLock(a, b impl.Lock) bool {
	return sameLists(a.Sets, b.Sets)
}

// mark fills the spare capacity of what roomyLists makes.
var mark = []int64{-80}

// roomyLists returns a copy of lists with marks in the spare capacity of each list and behind all.
func roomyLists(lists [][]int64) [][]int64 {
	var whole [][]int64
	for _, list := range lists {
		whole = append(whole, roomy(list))
	}
	whole = append(whole, mark, mark)
	return whole[:len(lists)]
}

// checkListsKept fails if lists made by roomyLists, or the marks behind them, have changed.
func checkListsKept(t *testing.T, name string, given, lists [][]int64) {
	t.Helper()
	for i, list := range lists {
		checkKept(t, name, given[i], list)
	}
	for _, behind := range given[len(lists) : len(lists)+2] {
		if !slices.Equal(behind, mark) {
			t.Errorf("%s changed what is behind its argument %v to %v", name, lists, behind)
		}
	}
}

// someLock returns a lock of a maker; about the share part of 4 of all depths are in it.
func someLock(s *sequence, m impl.Maker, part int64) impl.Lock {
	var l impl.Lock
	for range m.Chambers {
		surely := s.below(m.Depths)
		set := []int64{}
		for depth := range m.Depths {
			if depth == surely || s.below(4) < part {
				set = append(set, depth)
			}
		}
		l.Sets = append(l.Sets, set)
	}
	return l
}

// someLocks returns the locks with the fewest and the most depths, and others between them.
func someLocks(m impl.Maker) []impl.Lock {
	s := sequence(m.Chambers*100000 + m.Depths*10000 + m.Step*1000 + m.Same*100 + m.Least)
	locks := []impl.Lock{fullLock(m)}
	for part := range int64(4) {
		locks = append(locks, someLock(&s, m, part), someLock(&s, m, part))
	}
	return locks
}

// expectedOpens looks for each cut in the set of its chamber.
func expectedOpens(l impl.Lock, cuts []int64) bool {
	for chamber, cut := range cuts {
		if !slices.Contains(l.Sets[chamber], cut) {
			return false
		}
	}
	return true
}

// openersAmong returns those of some keys that open a lock.
func openersAmong(keys [][]int64, l impl.Lock) [][]int64 {
	var openers [][]int64
	for _, key := range keys {
		if expectedOpens(l, key) {
			openers = append(openers, key)
		}
	}
	return openers
}

// goodDeskLocks are locks of desk.
var goodDeskLocks = []impl.Lock{
	lockOf([]int64{0}, []int64{0}, []int64{0}, []int64{0}),
	lockOf([]int64{4}, []int64{4}, []int64{4}, []int64{4}),
	lockOf([]int64{0, 4}, []int64{0, 4}, []int64{0, 4}, []int64{0, 4}),
	lockOf([]int64{0}, []int64{1, 2}, []int64{0, 2, 4}, []int64{3}),
	lockOf([]int64{1, 2, 3}, []int64{4}, []int64{0}, []int64{0, 1, 2, 3, 4}),
	fullLock(desk),
}

// badDeskLocks are no locks of desk.
var badDeskLocks = []impl.Lock{
	{},
	lockOf(),
	lockOf([]int64{1}),
	lockOf([]int64{1}, []int64{1}, []int64{1}),
	lockOf([]int64{1}, []int64{1}, []int64{1}, []int64{1}, []int64{1}),
	{Sets: slices.Repeat([][]int64{{1}}, 64)},
	// Empty sets.
	lockOf(nil, nil, nil, nil),
	lockOf(nil, []int64{1}, []int64{1}, []int64{1}),
	lockOf([]int64{1}, []int64{}, []int64{1}, []int64{1}),
	lockOf([]int64{1}, []int64{1}, []int64{1}, []int64{}),
	// Sets that are not strictly increasing.
	lockOf([]int64{1, 1}, []int64{1}, []int64{1}, []int64{1}),
	lockOf([]int64{2, 1}, []int64{1}, []int64{1}, []int64{1}),
	lockOf([]int64{1}, []int64{0, 2, 1}, []int64{1}, []int64{1}),
	lockOf([]int64{1}, []int64{1}, []int64{1}, []int64{4, 4}),
	lockOf([]int64{1}, []int64{1}, []int64{1}, []int64{0, 3, 2}),
	lockOf([]int64{0, 1, 2, 3, 4, 4}, []int64{1}, []int64{1}, []int64{1}),
	// Depths out of their range.
	lockOf([]int64{-1}, []int64{1}, []int64{1}, []int64{1}),
	lockOf([]int64{-1, 1}, []int64{1}, []int64{1}, []int64{1}),
	lockOf([]int64{5}, []int64{1}, []int64{1}, []int64{1}),
	lockOf([]int64{0, 1, 2, 3, 4, 5}, []int64{1}, []int64{1}, []int64{1}),
	lockOf([]int64{1}, []int64{1}, []int64{1}, []int64{-1, 0}),
	lockOf([]int64{1}, []int64{1}, []int64{1}, []int64{4, 5}),
	lockOf([]int64{1}, []int64{1}, []int64{1}, []int64{5}),
	lockOf([]int64{1}, []int64{1}, []int64{64}, []int64{1}),
	lockOf([]int64{largest}, []int64{1}, []int64{1}, []int64{1}),
	lockOf([]int64{1}, []int64{1}, []int64{1}, []int64{smallest}),
	lockOf([]int64{smallest, largest}, []int64{1}, []int64{1}, []int64{smallest, largest}),
	// Several faults.
	lockOf([]int64{-1, 5, 5}, nil, []int64{2, 1}),
	lockOf([]int64{0, 1, 0}, []int64{}, []int64{9}, []int64{1}, []int64{1}),
}

func TestIsLock(t *testing.T) {
	for _, l := range goodDeskLocks {
		given := roomyLists(l.Sets)
		if !impl.IsLock(desk, impl.Lock{Sets: given}) {
			t.Errorf("IsLock(desk, %v) is false", l)
		}
		checkListsKept(t, "IsLock", given, l.Sets)
	}
	for _, l := range badDeskLocks {
		given := roomyLists(l.Sets)
		if impl.IsLock(desk, impl.Lock{Sets: given}) {
			t.Errorf("IsLock(desk, %v) is true", l)
		}
		checkListsKept(t, "IsLock", given, l.Sets)
	}
	for _, m := range badMakers {
		for _, l := range slices.Concat(goodDeskLocks, badDeskLocks) {
			if impl.IsLock(m, l) {
				t.Errorf("IsLock(%v, %v) is true", m, l)
			}
		}
	}
	// The deepest depths there are, and the first one beyond them.
	last := []int64{7}
	if !impl.IsLock(deep, lockOf(last, last, last, last, last, last)) {
		t.Errorf("a lock of deep with the last depth in each chamber is none")
	}
	if impl.IsLock(deep, lockOf(last, last, last, last, last, []int64{8})) {
		t.Errorf("a lock of deep with the depth 8 is one")
	}
	// A lock of one maker may be none of another.
	if impl.IsLock(strict, fullLock(free)) || impl.IsLock(free, fullLock(strict)) || impl.IsLock(free, fullLock(pair)) {
		t.Errorf("IsLock takes locks with more or fewer chambers")
	}
}

// All lists of up to three numbers around the depths are taken as the set of each chamber.
func TestIsLockForAllShortSets(t *testing.T) {
	numbers := []int64{-1, 0, 1, 2, 3}
	sets := [][]int64{{}}
	for _, a := range numbers {
		sets = append(sets, []int64{a})
		for _, b := range numbers {
			sets = append(sets, []int64{a, b})
			for _, c := range numbers {
				sets = append(sets, []int64{a, b, c})
			}
		}
	}
	good := map[string]bool{}
	for _, s := range []string{"0", "1", "2", "01", "02", "12", "012"} {
		good[s] = true
	}
	for _, set := range sets {
		name := ""
		for _, depth := range set {
			name += string(rune('0' + depth))
		}
		for _, l := range []impl.Lock{lockOf(set, []int64{0, 2}), lockOf([]int64{1}, set)} {
			if got := impl.IsLock(pair, l); got != good[name] {
				t.Errorf("IsLock(pair, %v) = %v", l, got)
			}
		}
	}
}

func TestHullOf(t *testing.T) {
	cases := []struct {
		maker impl.Maker
		keys  [][]int64
		want  impl.Lock
	}{
		// One key.
		{desk, [][]int64{{0, 0, 1, 0}}, lockOf([]int64{0}, []int64{0}, []int64{1}, []int64{0})},
		{desk, [][]int64{{4, 4, 3, 4}}, lockOf([]int64{4}, []int64{4}, []int64{3}, []int64{4})},
		{deep, [][]int64{{7, 0, 7, 0, 7, 0}}, lockOf([]int64{7}, []int64{0}, []int64{7}, []int64{0}, []int64{7}, []int64{0})},
		// The same key several times.
		{desk, [][]int64{{1, 2, 3, 4}, {1, 2, 3, 4}, {1, 2, 3, 4}}, lockOf([]int64{1}, []int64{2}, []int64{3}, []int64{4})},
		{desk, [][]int64{{0, 1, 2, 3}, {0, 0, 1, 0}, {0, 1, 2, 3}}, lockOf([]int64{0}, []int64{0, 1}, []int64{1, 2}, []int64{0, 3})},
		// Keys in any order.
		{desk, [][]int64{{4, 4, 3, 4}, {0, 0, 1, 0}}, lockOf([]int64{0, 4}, []int64{0, 4}, []int64{1, 3}, []int64{0, 4})},
		{desk, [][]int64{{0, 0, 1, 0}, {4, 4, 3, 4}}, lockOf([]int64{0, 4}, []int64{0, 4}, []int64{1, 3}, []int64{0, 4})},
		{desk, [][]int64{{3, 1, 2, 0}, {1, 1, 2, 4}, {2, 1, 2, 2}}, lockOf([]int64{1, 2, 3}, []int64{1}, []int64{2}, []int64{0, 2, 4})},
		// All keys of makers with few keys.
		{pair, [][]int64{{0, 1}, {1, 0}, {1, 2}, {2, 1}}, fullLock(pair)},
		{strict, expectedKeys(strict), lockOf([]int64{0, 1, 3, 4}, []int64{1, 2, 3}, []int64{1, 2, 3}, []int64{0, 1, 3, 4})},
		{free, expectedKeys(free), fullLock(free)},
	}
	for _, c := range cases {
		given := roomyLists(c.keys)
		if got, code := impl.HullOf(c.maker, given); !sameLock(got, c.want) || code != impl.ErrNone {
			t.Errorf("HullOf(%v, %v) = %v, %d, want %v", c.maker, c.keys, got, code, c.want)
		}
		checkListsKept(t, "HullOf", given, c.keys)
	}
}

func TestHullOfMostKeys(t *testing.T) {
	keys := expectedKeys(desk)
	most, one := keys[len(keys)-impl.MaxKeys:], keys[:1]
	got, code := impl.HullOf(desk, most)
	want := lockOf([]int64{1, 2, 3, 4}, []int64{0, 1, 2, 3, 4}, []int64{0, 1, 2, 3, 4}, []int64{0, 1, 2, 3, 4})
	if !sameLock(got, want) || code != impl.ErrNone {
		t.Errorf("HullOf(desk, the last %d keys) = %v, %d, want %v", len(most), got, code, want)
	}
	same := slices.Repeat(one, impl.MaxKeys)
	if got, code := impl.HullOf(desk, same); !sameLock(got, singleLock(keys[0])) || code != impl.ErrNone {
		t.Errorf("HullOf(desk, one key %d times) = %v, %d", len(same), got, code)
	}
	// The last one of the most keys counts.
	last := slices.Concat(slices.Repeat(one, impl.MaxKeys-1), [][]int64{{4, 4, 3, 4}})
	want = lockOf([]int64{0, 4}, []int64{0, 4}, []int64{1, 3}, []int64{0, 4})
	if got, code := impl.HullOf(desk, last); !sameLock(got, want) || code != impl.ErrNone {
		t.Errorf("HullOf(desk, one key %d times and another) = %v, %d, want %v", len(last)-1, got, code, want)
	}
	for _, tooMany := range [][][]int64{keys[:impl.MaxKeys+1], slices.Repeat(one, impl.MaxKeys+1), keys, slices.Repeat(one, 1000)} {
		if got, code := impl.HullOf(desk, tooMany); !sameLock(got, impl.Lock{}) || code != impl.ErrRange {
			t.Errorf("HullOf(desk, %d keys) = %v, %d", len(tooMany), got, code)
		}
	}
	for _, none := range [][][]int64{nil, {}} {
		if got, code := impl.HullOf(desk, none); !sameLock(got, impl.Lock{}) || code != impl.ErrRange {
			t.Errorf("HullOf(desk, %v) = %v, %d", none, got, code)
		}
	}
}

func TestHullOfRejectsKeys(t *testing.T) {
	good := []int64{0, 1, 2, 3}
	for _, bad := range badDeskKeys {
		for _, keys := range [][][]int64{
			{bad}, {bad, good}, {good, bad}, {good, good, bad, good},
			append(slices.Repeat([][]int64{good}, impl.MaxKeys-1), bad),
			append(slices.Repeat([][]int64{good}, impl.MaxKeys), bad),
		} {
			given := roomyLists(keys)
			if got, code := impl.HullOf(desk, given); !sameLock(got, impl.Lock{}) || code != impl.ErrRange {
				t.Errorf("HullOf(desk, %v) = %v, %d", keys, got, code)
			}
			checkListsKept(t, "HullOf", given, keys)
		}
	}
	for _, m := range badMakers {
		for _, keys := range [][][]int64{nil, {good}, {nil}, {{9, 9, 9, 9}}, badDeskKeys, slices.Repeat([][]int64{good}, impl.MaxKeys+1)} {
			if got, code := impl.HullOf(m, keys); !sameLock(got, impl.Lock{}) || code != impl.ErrInvalid {
				t.Errorf("HullOf(%v, %v) = %v, %d", m, keys, got, code)
			}
		}
	}
}

func TestP4KeysOpenTheirHull(t *testing.T) {
	for _, m := range rankMakers() {
		s := sequence(m.Least*31 + m.Step)
		all := expectedKeys(m)
		for count := range 8 {
			var keys [][]int64
			for range count + 1 {
				keys = append(keys, all[s.below(int64(len(all)))])
			}
			hull, code := impl.HullOf(m, keys)
			if code != impl.ErrNone || !impl.IsLock(m, hull) {
				t.Fatalf("HullOf(%v, %v) = %v, %d", m, keys, hull, code)
			}
			for _, key := range keys {
				if opens, code := impl.Opens(m, hull, key); !opens || code != impl.ErrNone {
					t.Fatalf("Opens(%v, %v, %v) = %v, %d for the hull of %v", m, hull, key, opens, code, keys)
				}
			}
			checkHullIsSmallest(t, m, hull, keys)
		}
	}
}

// checkHullIsSmallest fails if a lock without one depth of the hull of keys is opened by all of
// them.
func checkHullIsSmallest(t *testing.T, m impl.Maker, hull impl.Lock, keys [][]int64) {
	t.Helper()
	for chamber, set := range hull.Sets {
		for _, depth := range set {
			smaller := without(hull, chamber, depth)
			opening := 0
			for _, key := range keys {
				if opens, _ := impl.Opens(m, smaller, key); opens {
					opening++
				}
			}
			if opening == len(keys) {
				t.Fatalf("the hull %v of %v is larger than %v", hull, keys, smaller)
			}
		}
	}
}

func TestOpens(t *testing.T) {
	some := lockOf([]int64{0, 4}, []int64{1, 2}, []int64{2}, []int64{0, 2, 3})
	cases := []struct {
		maker impl.Maker
		lock  impl.Lock
		key   []int64
		want  bool
	}{
		{desk, some, []int64{0, 1, 2, 3}, true},
		{desk, some, []int64{4, 2, 2, 0}, true},
		{desk, some, []int64{0, 2, 2, 3}, true},
		// One cut, the first one or the last one also, is in no set.
		{desk, some, []int64{1, 1, 2, 3}, false},
		{desk, some, []int64{3, 2, 2, 0}, false},
		{desk, some, []int64{0, 0, 2, 3}, false},
		{desk, some, []int64{0, 3, 2, 3}, false},
		{desk, some, []int64{0, 1, 3, 3}, false},
		{desk, some, []int64{0, 1, 1, 3}, false},
		{desk, some, []int64{0, 1, 2, 1}, false},
		{desk, some, []int64{0, 1, 2, 4}, false},
		{desk, some, []int64{1, 3, 1, 1}, false},
		// The cuts are in sets of other chambers.
		{desk, some, []int64{2, 2, 1, 0}, false},
		// One depth in each chamber, and all depths.
		{desk, singleLock([]int64{0, 0, 1, 0}), []int64{0, 0, 1, 0}, true},
		{desk, singleLock([]int64{0, 0, 1, 0}), []int64{0, 0, 1, 1}, false},
		{desk, singleLock([]int64{2, 2, 2, 2}), []int64{2, 2, 3, 2}, false},
		{desk, fullLock(desk), []int64{0, 0, 1, 0}, true},
		{desk, fullLock(desk), []int64{4, 4, 3, 4}, true},
		// The first and the last depth.
		{deep, lockOf([]int64{0, 7}, []int64{0, 7}, []int64{0, 7}, []int64{0, 7}, []int64{0, 7}, []int64{0, 7}), []int64{0, 7, 0, 7, 7, 0}, true},
		{deep, lockOf([]int64{0, 7}, []int64{0, 7}, []int64{0, 7}, []int64{0, 7}, []int64{0, 7}, []int64{0, 7}), []int64{0, 7, 0, 7, 7, 6}, false},
		{deep, lockOf([]int64{0, 7}, []int64{0, 7}, []int64{0, 7}, []int64{0, 7}, []int64{0, 7}, []int64{0, 7}), []int64{1, 7, 0, 7, 7, 0}, false},
		{deep, fullLock(deep), []int64{7, 7, 7, 7, 7, 7}, true},
	}
	for _, c := range cases {
		sets, key := roomyLists(c.lock.Sets), roomy(c.key)
		if got, code := impl.Opens(c.maker, impl.Lock{Sets: sets}, key); got != c.want || code != impl.ErrNone {
			t.Errorf("Opens(%v, %v, %v) = %v, %d, want %v", c.maker, c.lock, c.key, got, code, c.want)
		}
		checkListsKept(t, "Opens", sets, c.lock.Sets)
		checkKept(t, "Opens", key, c.key)
	}
}

func TestOpensForAllKeys(t *testing.T) {
	for _, m := range rankMakers() {
		keys := expectedKeys(m)
		for _, l := range someLocks(m) {
			for _, key := range keys {
				if got, code := impl.Opens(m, l, key); got != expectedOpens(l, key) || code != impl.ErrNone {
					t.Fatalf("Opens(%v, %v, %v) = %v, %d", m, l, key, got, code)
				}
			}
		}
	}
}

func TestOpensRejectsKeys(t *testing.T) {
	for _, l := range goodDeskLocks {
		for _, bad := range badDeskKeys {
			given := roomy(bad)
			if got, code := impl.Opens(desk, l, given); got || code != impl.ErrRange {
				t.Errorf("Opens(desk, %v, %v) = %v, %d", l, bad, got, code)
			}
			checkKept(t, "Opens", given, bad)
		}
	}
	// Cuts in the sets of a lock may still be no key.
	if got, code := impl.Opens(desk, singleLock([]int64{2, 2, 2, 2}), []int64{2, 2, 2, 2}); got || code != impl.ErrRange {
		t.Errorf("Opens takes cuts that are no key: %v, %d", got, code)
	}
}

func TestCountsOfLocks(t *testing.T) {
	cases := []struct {
		maker                         impl.Maker
		lock                          impl.Lock
		combinations, openers, wafers int64
	}{
		// One depth in each chamber: a key, or no key.
		{desk, singleLock([]int64{0, 0, 1, 0}), 1, 1, 0},
		{desk, singleLock([]int64{4, 4, 3, 4}), 1, 1, 0},
		{desk, singleLock([]int64{0, 4, 0, 4}), 1, 0, 0},
		{desk, singleLock([]int64{0, 0, 0, 1}), 1, 0, 0},
		{desk, singleLock([]int64{2, 2, 2, 2}), 1, 0, 0},
		{deep, singleLock([]int64{7, 7, 7, 7, 7, 7}), 1, 1, 0},
		// All depths: all keys.
		{desk, fullLock(desk), 625, 456, 16},
		{free, fullLock(free), 64, 64, 9},
		{strict, fullLock(strict), 625, 4, 16},
		{pair, fullLock(pair), 9, 4, 4},
		{deep, fullLock(deep), 262144, 262144, 42},
		{impl.Maker{Chambers: 6, Depths: 8, Step: 7, Same: 6, Least: 6}, fullLock(deep), 262144, 20160, 42},
		{impl.Maker{Chambers: 6, Depths: 8, Step: 1, Same: 1, Least: 6}, fullLock(deep), 262144, 6, 42},
		// Several depths without a key: steps, equal cuts, too few different cuts.
		{desk, lockOf([]int64{0}, []int64{4}, []int64{0, 1, 2}, []int64{0, 1}), 6, 0, 3},
		{desk, lockOf([]int64{0, 1, 2}, []int64{0, 1}, []int64{0}, []int64{4}), 6, 0, 3},
		{strict, lockOf([]int64{0, 2, 4}, []int64{0, 2, 4}, []int64{0, 2, 4}, []int64{0, 2, 4}), 81, 0, 8},
		{strict, lockOf([]int64{0, 1, 2}, []int64{0, 1, 2}, []int64{0, 1, 2}, []int64{0, 1, 2}), 81, 0, 8},
		{impl.Maker{Chambers: 3, Depths: 4, Step: 3, Same: 1, Least: 1}, lockOf([]int64{1}, []int64{1}, []int64{0, 3}), 2, 0, 1},
		// Openers and combinations are as many, and not.
		{desk, lockOf([]int64{0, 1}, []int64{2}, []int64{3, 4}, []int64{1, 2}), 8, 8, 3},
		{desk, lockOf([]int64{0, 1}, []int64{2, 3}, []int64{3, 4}, []int64{1, 2}), 16, 16, 4},
		{desk, lockOf([]int64{0, 1}, []int64{2, 4}, []int64{3, 4}, []int64{1, 2}), 16, 12, 4},
		{desk, lockOf([]int64{0, 1}, []int64{0, 1}, []int64{0, 1}, []int64{0, 1}), 16, 10, 4},
		{desk, lockOf([]int64{0, 1}, []int64{0, 1}, []int64{0, 1, 2, 3}, []int64{4}), 16, 11, 5},
		{free, lockOf([]int64{0, 3}, []int64{0, 1, 3}, []int64{2}), 6, 6, 3},
		// The first and the last depth.
		{desk, lockOf([]int64{0, 4}, []int64{0, 4}, []int64{0, 4}, []int64{0, 4}), 16, 0, 4},
		{deep, lockOf([]int64{0, 7}, []int64{0, 7}, []int64{0, 7}, []int64{0, 7}, []int64{0, 7}, []int64{0, 7}), 64, 64, 6},
		// Sets of different sizes.
		{deep, lockOf([]int64{0, 1, 2, 3, 4, 5, 6, 7}, []int64{7}, []int64{0}, []int64{1, 6}, []int64{2, 3, 4}, []int64{5}), 48, 48, 10},
	}
	for _, c := range cases {
		sets := roomyLists(c.lock.Sets)
		given := impl.Lock{Sets: sets}
		if got, code := impl.CountCombinations(c.maker, given); got != c.combinations || code != impl.ErrNone {
			t.Errorf("CountCombinations(%v, %v) = %d, %d, want %d", c.maker, c.lock, got, code, c.combinations)
		}
		if got, code := impl.CountOpeners(c.maker, given); got != c.openers || code != impl.ErrNone {
			t.Errorf("CountOpeners(%v, %v) = %d, %d, want %d", c.maker, c.lock, got, code, c.openers)
		}
		if got, code := impl.CountWafers(c.maker, given); got != c.wafers || code != impl.ErrNone {
			t.Errorf("CountWafers(%v, %v) = %d, %d, want %d", c.maker, c.lock, got, code, c.wafers)
		}
		checkListsKept(t, "a count", sets, c.lock.Sets)
	}
}

func TestP4OpenersAreCountedExactly(t *testing.T) {
	for _, m := range rankMakers() {
		keys := expectedKeys(m)
		for _, l := range someLocks(m) {
			want := openersAmong(keys, l)
			if got, code := impl.CountOpeners(m, l); got != int64(len(want)) || code != impl.ErrNone {
				t.Fatalf("CountOpeners(%v, %v) = %d, %d, want %d", m, l, got, code, len(want))
			}
			for _, most := range []int64{0, 1, 2, int64(len(want)) - 1, int64(len(want)), int64(len(want)) + 1, impl.MaxKeys} {
				if most < 0 || most > impl.MaxKeys {
					continue
				}
				first := want[:min(most, int64(len(want)))]
				if got, code := impl.OpenersOf(m, l, most); !sameLists(got, first) || code != impl.ErrNone {
					t.Fatalf("OpenersOf(%v, %v, %d) = %v, %d, want %v", m, l, most, got, code, first)
				}
			}
		}
	}
}

// The lock with all depths is opened by all keys, for every maker.
func TestP4FullLocksAreOpenedByAllKeys(t *testing.T) {
	for _, m := range smallMakers(5) {
		want, _ := impl.CountKeys(m)
		if got, code := impl.CountOpeners(m, fullLock(m)); got != want || code != impl.ErrNone {
			t.Fatalf("CountOpeners(%v, the lock with all depths) = %d, %d, want %d", m, got, code, want)
		}
	}
}

// There are as many combinations as lists of cuts that open a lock, and as many wafers as depths
// beyond one in each chamber.
func TestCombinationsAndWafersOfManyLocks(t *testing.T) {
	for _, m := range rankMakers() {
		cuts := allCuts(m.Chambers, m.Depths)
		for _, l := range someLocks(m) {
			want := int64(len(openersAmong(cuts, l)))
			if got, code := impl.CountCombinations(m, l); got != want || code != impl.ErrNone {
				t.Fatalf("CountCombinations(%v, %v) = %d, %d, want %d", m, l, got, code, want)
			}
			depths := int64(len(slices.Concat(l.Sets...)))
			if got, code := impl.CountWafers(m, l); got != depths-m.Chambers || code != impl.ErrNone {
				t.Fatalf("CountWafers(%v, %v) = %d, %d, want %d", m, l, got, code, depths-m.Chambers)
			}
		}
	}
}

func TestOpenersOf(t *testing.T) {
	some := lockOf([]int64{0, 4}, []int64{1, 3}, []int64{2}, []int64{0, 3})
	all := [][]int64{{0, 1, 2, 0}, {0, 1, 2, 3}, {0, 3, 2, 0}, {0, 3, 2, 3}, {4, 1, 2, 0}, {4, 1, 2, 3}, {4, 3, 2, 0}, {4, 3, 2, 3}}
	for _, most := range []int64{0, 1, 2, 7, 8, 9, impl.MaxKeys - 1, impl.MaxKeys} {
		sets := roomyLists(some.Sets)
		want := all[:min(most, 8)]
		if got, code := impl.OpenersOf(desk, impl.Lock{Sets: sets}, most); !sameLists(got, want) || code != impl.ErrNone {
			t.Errorf("OpenersOf(desk, %v, %d) = %v, %d, want %v", some, most, got, code, want)
		}
		checkListsKept(t, "OpenersOf", sets, some.Sets)
	}
	// More openers than may be asked for.
	keys := expectedKeys(desk)
	for _, most := range []int64{0, 1, impl.MaxKeys - 1, impl.MaxKeys} {
		if got, code := impl.OpenersOf(desk, fullLock(desk), most); !sameLists(got, keys[:most]) || code != impl.ErrNone {
			t.Errorf("OpenersOf(desk, the lock with all depths, %d) = %d keys, %d", most, len(got), code)
		}
	}
	// No opener, and one.
	for _, most := range []int64{0, 1, impl.MaxKeys} {
		closed := lockOf([]int64{0}, []int64{4}, []int64{0, 1, 2}, []int64{0, 1})
		if got, code := impl.OpenersOf(desk, closed, most); len(got) != 0 || code != impl.ErrNone {
			t.Errorf("OpenersOf(desk, %v, %d) = %v, %d", closed, most, got, code)
		}
		key := []int64{4, 4, 3, 4}
		want := [][]int64{key}[:min(most, 1)]
		if got, code := impl.OpenersOf(desk, singleLock(key), most); !sameLists(got, want) || code != impl.ErrNone {
			t.Errorf("OpenersOf(desk, %v, %d) = %v, %d, want %v", singleLock(key), most, got, code, want)
		}
	}
	for _, most := range []int64{-1, impl.MaxKeys + 1, smallest, largest} {
		for _, l := range goodDeskLocks {
			if got, code := impl.OpenersOf(desk, l, most); len(got) != 0 || code != impl.ErrRange {
				t.Errorf("OpenersOf(desk, %v, %d) = %v, %d", l, most, got, code)
			}
		}
	}
}

func TestMeetAndJoinLocks(t *testing.T) {
	none := impl.Lock{}
	cases := []struct {
		maker      impl.Maker
		a, b       impl.Lock
		meet, join impl.Lock
	}{
		// In one depth of each chamber.
		{desk, lockOf([]int64{0, 1}, []int64{1, 2}, []int64{2, 3}, []int64{3, 4}), lockOf([]int64{1, 2}, []int64{0, 1}, []int64{0, 3}, []int64{0, 2, 4}),
			lockOf([]int64{1}, []int64{1}, []int64{3}, []int64{4}), lockOf([]int64{0, 1, 2}, []int64{0, 1, 2}, []int64{0, 2, 3}, []int64{0, 2, 3, 4})},
		{desk, lockOf([]int64{0, 4}, []int64{0, 4}, []int64{0, 4}, []int64{0, 4}), lockOf([]int64{0}, []int64{4}, []int64{0, 1}, []int64{3, 4}),
			lockOf([]int64{0}, []int64{4}, []int64{0}, []int64{4}), lockOf([]int64{0, 4}, []int64{0, 4}, []int64{0, 1, 4}, []int64{0, 3, 4})},
		// In several depths.
		{desk, lockOf([]int64{0, 1, 3, 4}, []int64{2}, []int64{0, 1, 2}, []int64{1}), lockOf([]int64{1, 2, 4}, []int64{1, 2}, []int64{0, 1, 2, 3}, []int64{1}),
			lockOf([]int64{1, 4}, []int64{2}, []int64{0, 1, 2}, []int64{1}), lockOf([]int64{0, 1, 2, 3, 4}, []int64{1, 2}, []int64{0, 1, 2, 3}, []int64{1})},
		// The same lock.
		{desk, goodDeskLocks[3], goodDeskLocks[3], goodDeskLocks[3], goodDeskLocks[3]},
		{deep, fullLock(deep), fullLock(deep), fullLock(deep), fullLock(deep)},
		{pair, singleLock([]int64{2, 1}), singleLock([]int64{2, 1}), singleLock([]int64{2, 1}), singleLock([]int64{2, 1})},
		// One is within the other.
		{desk, goodDeskLocks[4], fullLock(desk), goodDeskLocks[4], fullLock(desk)},
		{desk, singleLock([]int64{0, 1, 2, 3}), goodDeskLocks[3], singleLock([]int64{0, 1, 2, 3}), goodDeskLocks[3]},
		{deep, singleLock([]int64{0, 7, 0, 7, 0, 7}), fullLock(deep), singleLock([]int64{0, 7, 0, 7, 0, 7}), fullLock(deep)},
		// In no depth of all chambers, of the first one, of one between and of the last one.
		{desk, goodDeskLocks[0], goodDeskLocks[1], none, goodDeskLocks[2]},
		{pair, lockOf([]int64{0, 2}, []int64{1}), lockOf([]int64{1}, []int64{1}), none, lockOf([]int64{0, 1, 2}, []int64{1})},
		{free, lockOf([]int64{0}, []int64{0, 1}, []int64{3}), lockOf([]int64{0}, []int64{2, 3}, []int64{3}), none, lockOf([]int64{0}, []int64{0, 1, 2, 3}, []int64{3})},
		{pair, lockOf([]int64{0, 2}, []int64{1}), lockOf([]int64{0, 1}, []int64{0, 2}), none, lockOf([]int64{0, 1, 2}, []int64{0, 1, 2})},
	}
	for _, c := range cases {
		code := int64(impl.ErrNone)
		if sameLock(c.meet, none) {
			code = impl.ErrNotFound
		}
		checkMeetAndJoin(t, c.maker, c.a, c.b, c.meet, code, c.join)
		checkMeetAndJoin(t, c.maker, c.b, c.a, c.meet, code, c.join)
	}
}

// checkMeetAndJoin compares what two locks have in common, with its error code, and what they have
// together.
func checkMeetAndJoin(t *testing.T, m impl.Maker, a, b, meet impl.Lock, meetCode int64, join impl.Lock) {
	t.Helper()
	first, second := roomyLists(a.Sets), roomyLists(b.Sets)
	givenA, givenB := impl.Lock{Sets: first}, impl.Lock{Sets: second}
	if got, code := impl.MeetLocks(m, givenA, givenB); !sameLock(got, meet) || code != meetCode {
		t.Errorf("MeetLocks(%v, %v, %v) = %v, %d, want %v, %d", m, a, b, got, code, meet, meetCode)
	}
	if got, code := impl.JoinLocks(m, givenA, givenB); !sameLock(got, join) || code != impl.ErrNone {
		t.Errorf("JoinLocks(%v, %v, %v) = %v, %d, want %v", m, a, b, got, code, join)
	}
	checkListsKept(t, "MeetLocks or JoinLocks", first, a.Sets)
	checkListsKept(t, "MeetLocks or JoinLocks", second, b.Sets)
}

// Exactly the keys that open both locks open the one in which they meet; those that open one of
// them open the joined one, whose sets have no other depths.
func TestMeetAndJoinOfManyLocks(t *testing.T) {
	for _, m := range rankMakers() {
		keys := expectedKeys(m)
		locks := someLocks(m)
		for _, a := range locks {
			for _, b := range locks {
				meet, join := expectedMeet(a, b), expectedJoin(a, b)
				code := int64(impl.ErrNone)
				both := openersAmong(openersAmong(keys, a), b)
				if len(meet.Sets) == 0 {
					code = impl.ErrNotFound
				} else if !sameLists(openersAmong(keys, meet), both) {
					t.Fatalf("%v: the openers of %v and %v are not those of %v", m, a, b, meet)
				}
				if len(meet.Sets) == 0 && len(both) != 0 {
					t.Fatalf("%v: %v and %v do not meet, but have common openers", m, a, b)
				}
				checkMeetAndJoin(t, m, a, b, meet, code, join)
				if t.Failed() {
					return
				}
			}
		}
	}
}

// expectedMeet returns the zero value if the locks do not meet in a chamber.
func expectedMeet(a, b impl.Lock) impl.Lock {
	var meet impl.Lock
	for chamber, set := range a.Sets {
		common := []int64{}
		for _, depth := range set {
			if slices.Contains(b.Sets[chamber], depth) {
				common = append(common, depth)
			}
		}
		if len(common) == 0 {
			return impl.Lock{}
		}
		meet.Sets = append(meet.Sets, common)
	}
	return meet
}

func expectedJoin(a, b impl.Lock) impl.Lock {
	var join impl.Lock
	for chamber := range a.Sets {
		together := slices.Concat(a.Sets[chamber], b.Sets[chamber])
		slices.Sort(together)
		join.Sets = append(join.Sets, slices.Compact(together))
	}
	return join
}

// lockResult has all results of a function of the chapter but its code.
type lockResult struct {
	number int64
	is     bool
	keys   [][]int64
	lock   impl.Lock
}

func (r lockResult) isZero() bool {
	return r.number == 0 && !r.is && len(r.keys) == 0 && len(r.lock.Sets) == 0
}

// lockCalls returns all functions of the chapter that take locks and return a code; those that
// take one lock are called with the first one.
func lockCalls(key []int64, most int64) map[string]func(m impl.Maker, a, b impl.Lock) (lockResult, int64) {
	number := func(n, code int64) (lockResult, int64) { return lockResult{number: n}, code }
	lock := func(l impl.Lock, code int64) (lockResult, int64) { return lockResult{lock: l}, code }
	return map[string]func(m impl.Maker, a, b impl.Lock) (lockResult, int64){
		"Opens": func(m impl.Maker, a, b impl.Lock) (lockResult, int64) {
			is, code := impl.Opens(m, a, key)
			return lockResult{is: is}, code
		},
		"OpenersOf": func(m impl.Maker, a, b impl.Lock) (lockResult, int64) {
			keys, code := impl.OpenersOf(m, a, most)
			return lockResult{keys: keys}, code
		},
		"CountCombinations": func(m impl.Maker, a, b impl.Lock) (lockResult, int64) { return number(impl.CountCombinations(m, a)) },
		"CountOpeners":      func(m impl.Maker, a, b impl.Lock) (lockResult, int64) { return number(impl.CountOpeners(m, a)) },
		"CountWafers":       func(m impl.Maker, a, b impl.Lock) (lockResult, int64) { return number(impl.CountWafers(m, a)) },
		"MeetLocks":         func(m impl.Maker, a, b impl.Lock) (lockResult, int64) { return lock(impl.MeetLocks(m, a, b)) },
		"JoinLocks":         func(m impl.Maker, a, b impl.Lock) (lockResult, int64) { return lock(impl.JoinLocks(m, a, b)) },
	}
}

// keysAndMosts has keys of desk and lists that are none, each with a number of openers that may be
// asked for or not.
var keysAndMosts = []struct {
	key  []int64
	most int64
}{
	{[]int64{0, 1, 2, 3}, 0}, {[]int64{0, 0, 1, 0}, impl.MaxKeys}, {[]int64{0, 1, 2, 3}, -1}, {[]int64{0, 0, 1, 0}, impl.MaxKeys + 1},
	{nil, 1}, {[]int64{0, 0, 0, 0}, 1}, {[]int64{0, 0, 1}, largest}, {[]int64{5, -1, 0, 0}, smallest},
}

// ErrInvalid comes first, whatever the other arguments are.
func TestLocksRejectMakers(t *testing.T) {
	locks := slices.Concat(goodDeskLocks[2:4], badDeskLocks, []impl.Lock{singleLock(nil), singleLock(filled(7, 0))})
	for _, m := range badMakers {
		for _, c := range keysAndMosts {
			for name, call := range lockCalls(c.key, c.most) {
				for _, a := range locks {
					if got, code := call(m, a, a); !got.isZero() || code != impl.ErrInvalid {
						t.Fatalf("%s(%v, %v) with %v = %v, %d", name, m, a, c, got, code)
					}
				}
			}
		}
	}
}

func TestLocksRejectLocks(t *testing.T) {
	good := goodDeskLocks[4]
	for _, bad := range append(slices.Clone(badDeskLocks), fullLock(free), fullLock(deep), fullLock(pair)) {
		for _, c := range keysAndMosts {
			for name, call := range lockCalls(c.key, c.most) {
				sets := roomyLists(bad.Sets)
				given := impl.Lock{Sets: sets}
				if got, code := call(desk, given, good); !got.isZero() || code != impl.ErrInvalid {
					t.Errorf("%s(desk, %v, %v) with %v = %v, %d", name, bad, good, c, got, code)
				}
				if got, code := call(desk, given, given); !got.isZero() || code != impl.ErrInvalid {
					t.Errorf("%s(desk, %v, %v) with %v = %v, %d", name, bad, bad, c, got, code)
				}
				checkListsKept(t, name, sets, bad.Sets)
			}
		}
		for _, name := range []string{"MeetLocks", "JoinLocks"} {
			// Also where the locks do not meet before the fault.
			for _, first := range goodDeskLocks {
				sets := roomyLists(bad.Sets)
				if got, code := lockCalls(nil, 0)[name](desk, first, impl.Lock{Sets: sets}); !got.isZero() || code != impl.ErrInvalid {
					t.Errorf("%s(desk, %v, %v) = %v, %d", name, first, bad, got, code)
				}
				checkListsKept(t, name, sets, bad.Sets)
			}
		}
	}
}

// checkNewLock fails if writing to all sets of a result, one after the other, changes the others.
func checkNewLock(t *testing.T, name string, got impl.Lock) {
	t.Helper()
	want := cloneLock(got)
	for chamber, set := range got.Sets {
		fill(set[:cap(set)], largest)
		for _, other := range got.Sets[chamber+1:] {
			if slices.Contains(other, largest) {
				t.Errorf("%s returns %v with sets that share memory", name, want)
			}
		}
	}
	clear(got.Sets[:cap(got.Sets)])
}

// Results share no memory with an argument, with one another or with later results.
func TestResultsOfLocksAreNew(t *testing.T) {
	a, b := lockOf([]int64{1}, []int64{0, 2}, []int64{3}, []int64{0, 4}), lockOf([]int64{1}, []int64{0, 2}, []int64{3}, []int64{0, 4})
	keys := [][]int64{{1, 2, 3, 4}, {1, 0, 3, 0}}
	calls := map[string]func() (impl.Lock, int64){
		"HullOf":                    func() (impl.Lock, int64) { return impl.HullOf(desk, keys) },
		"MeetLocks":                 func() (impl.Lock, int64) { return impl.MeetLocks(desk, a, b) },
		"JoinLocks":                 func() (impl.Lock, int64) { return impl.JoinLocks(desk, a, b) },
		"MeetLocks of a and itself": func() (impl.Lock, int64) { return impl.MeetLocks(desk, a, a) },
		"JoinLocks of a and itself": func() (impl.Lock, int64) { return impl.JoinLocks(desk, a, a) },
	}
	for name, call := range calls {
		got, _ := call()
		if !sameLock(got, a) {
			t.Errorf("%s = %v, want %v", name, got, a)
		}
		checkNewLock(t, name, got)
		if !sameLock(a, b) || a.Sets[0][0] != 1 || !sameLists(keys, [][]int64{{1, 2, 3, 4}, {1, 0, 3, 0}}) {
			t.Errorf("%s shares memory with its arguments, which are now %v, %v and %v", name, a, b, keys)
		}
		if again, _ := call(); !sameLock(again, a) {
			t.Errorf("%s returns %v after its result was changed, want %v", name, again, a)
		}
	}
	openers, _ := impl.OpenersOf(desk, fullLock(desk), 3)
	fill(openers[1][:cap(openers[1])], 9)
	if !slices.Equal(openers[0], []int64{0, 0, 1, 0}) || !slices.Equal(openers[2], []int64{0, 0, 1, 2}) {
		t.Errorf("OpenersOf returns keys that share memory: %v", openers)
	}
	if again, _ := impl.OpenersOf(desk, fullLock(desk), 3); !slices.Equal(again[1], []int64{0, 0, 1, 1}) {
		t.Errorf("OpenersOf returns %v after its result was changed", again)
	}
}

// The same lock given twice, in the same memory, is nothing special.
func TestMeetAndJoinOfOneArgument(t *testing.T) {
	for _, l := range goodDeskLocks {
		sets := roomyLists(l.Sets)
		given := impl.Lock{Sets: sets}
		if got, code := impl.MeetLocks(desk, given, given); !sameLock(got, l) || code != impl.ErrNone {
			t.Errorf("MeetLocks(desk, %v, itself) = %v, %d", l, got, code)
		}
		if got, code := impl.JoinLocks(desk, given, given); !sameLock(got, l) || code != impl.ErrNone {
			t.Errorf("JoinLocks(desk, %v, itself) = %v, %d", l, got, code)
		}
		checkListsKept(t, "MeetLocks or JoinLocks", sets, l.Sets)
	}
}
