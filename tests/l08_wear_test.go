package tests

import (
	"fmt"
	"slices"
	"testing"

	"loop.example/g00947/impl"
)

// wearPair has the wear of a key and the tolerance of a lock.
type wearPair struct {
	wear, tolerance int64
}

// allWears returns all wears with all tolerances.
func allWears() []wearPair {
	var pairs []wearPair
	for tolerance := int64(0); tolerance <= 4; tolerance++ {
		for wear := int64(0); wear <= 19; wear++ {
			pairs = append(pairs, wearPair{wear, tolerance})
		}
	}
	return pairs
}

// badWears and badTolerances are out of their ranges.
var (
	badWears      = []int64{-1, 20, -19, 21, 256, 1 << 32, 1<<32 + 1, -1 << 32, smallest, largest}
	badTolerances = []int64{-1, 5, -4, 6, 19, 256, 1 << 32, 1<<32 + 1, -1 << 32, smallest, largest}
)

// wearMakers returns makers with so few keys that all of them can be held against locks with all
// wears and tolerances.
func wearMakers() []impl.Maker {
	return []impl.Maker{
		fewest, pair, shelf, free, strict, desk,
		{Chambers: 2, Depths: 8, Step: 7, Same: 2, Least: 1},
		{Chambers: 6, Depths: 8, Step: 1, Same: 1, Least: 5},
	}
}

// freeSets tells for each chamber of a lock which places are free, also those below 0.
func freeSets(l impl.Lock, tolerance int64) []map[int64]bool {
	var sets []map[int64]bool
	for _, set := range l.Sets {
		free := map[int64]bool{}
		for _, depth := range set {
			for away := int64(0); away <= tolerance; away++ {
				free[10*depth-away], free[10*depth+away] = true, true
			}
		}
		sets = append(sets, free)
	}
	return sets
}

// countFree returns how many of the places where a worn cut may lie are free.
func countFree(cut, wear int64, free map[int64]bool) int64 {
	count := int64(0)
	for place := 10 * cut; place <= 10*cut+wear; place++ {
		if free[place] {
			count++
		}
	}
	return count
}

// expectedWorn tells whether a worn key may open the lock with some free places, and whether it
// surely does.
func expectedWorn(key []int64, wear int64, sets []map[int64]bool) (may, surely bool) {
	may, surely = true, true
	for chamber, cut := range key {
		count := countFree(cut, wear, sets[chamber])
		may, surely = may && count > 0, surely && count == wear+1
	}
	return may, surely
}

// expectedWornLock takes all depths whose worn cuts may lie at a free place.
func expectedWornLock(m impl.Maker, w wearPair, l impl.Lock) impl.Lock {
	var worn impl.Lock
	for _, free := range freeSets(l, w.tolerance) {
		set := []int64{}
		for cut := range m.Depths {
			if countFree(cut, w.wear, free) > 0 {
				set = append(set, cut)
			}
		}
		worn.Sets = append(worn.Sets, set)
	}
	return worn
}

func TestConstantsOfWear(t *testing.T) {
	got := []int64{impl.DepthUnits, impl.MaxWear, impl.MaxTolerance}
	if want := []int64{10, 19, 4}; !slices.Equal(got, want) {
		t.Errorf("constants are %v, want %v", got, want)
	}
}

// wearCase has a worn key and a lock with the answers to both questions.
type wearCase struct {
	maker       impl.Maker
	lock        impl.Lock
	key         []int64
	w           wearPair
	may, surely bool
}

// checkWear compares both answers, and the arguments after the calls.
func checkWear(t *testing.T, c wearCase) {
	t.Helper()
	sets, key := roomyLists(c.lock.Sets), roomy(c.key)
	l := impl.Lock{Sets: sets}
	if got, code := impl.MayOpen(c.maker, l, key, c.w.wear, c.w.tolerance); got != c.may || code != impl.ErrNone {
		t.Errorf("MayOpen(%v, %v, %v, %v) = %v, %d, want %v", c.maker, c.lock, c.key, c.w, got, code, c.may)
	}
	if got, code := impl.SurelyOpens(c.maker, l, key, c.w.wear, c.w.tolerance); got != c.surely || code != impl.ErrNone {
		t.Errorf("SurelyOpens(%v, %v, %v, %v) = %v, %d, want %v", c.maker, c.lock, c.key, c.w, got, code, c.surely)
	}
	checkListsKept(t, "MayOpen or SurelyOpens", sets, c.lock.Sets)
	checkKept(t, "MayOpen or SurelyOpens", key, c.key)
}

// A key is held against its own lock, which it opens as far as its wear lets it.
func TestMayOpenAndSurelyOpensOfOwnLock(t *testing.T) {
	key := []int64{0, 1, 2, 1}
	for _, l := range []impl.Lock{singleLock(key), fullLock(desk), lockOf([]int64{0, 2, 4}, []int64{1, 3}, []int64{0, 2}, []int64{1, 4})} {
		for tolerance := int64(0); tolerance <= 4; tolerance++ {
			for wear := int64(0); wear <= 19; wear++ {
				// Also with all depths and the greatest tolerance, a place between two depths is
				// not free: 5 between 4 and 6.
				checkWear(t, wearCase{desk, l, key, wearPair{wear, tolerance}, true, wear <= tolerance})
			}
		}
	}
}

func TestMayOpenOfNextDepths(t *testing.T) {
	key := []int64{0, 1, 2, 1}
	// The least wear for each tolerance with which a cut reaches the next depth and the one after.
	next := []int64{10, 9, 8, 7, 6}
	second := []int64{20, 19, 18, 17, 16}
	for tolerance := int64(0); tolerance <= 4; tolerance++ {
		for wear := int64(0); wear <= 19; wear++ {
			w := wearPair{wear, tolerance}
			for chamber := range key {
				l := fullLock(desk)
				l.Sets[chamber] = []int64{key[chamber] + 1}
				checkWear(t, wearCase{desk, l, key, w, wear >= next[tolerance], false})
				l.Sets[chamber] = []int64{key[chamber] + 2}
				checkWear(t, wearCase{desk, l, key, w, wear >= second[tolerance], false})
				// No wear reaches a third depth.
				if key[chamber]+3 < desk.Depths {
					l.Sets[chamber] = []int64{key[chamber] + 3}
					checkWear(t, wearCase{desk, l, key, w, false, false})
				}
				// Wear makes no cut less deep: the depth before is never reached.
				if key[chamber] > 0 {
					l.Sets[chamber] = []int64{key[chamber] - 1}
					checkWear(t, wearCase{desk, l, key, w, false, false})
				}
			}
		}
	}
}

func TestMayOpenAndSurelyOpens(t *testing.T) {
	some := lockOf([]int64{0, 4}, []int64{1, 2}, []int64{2}, []int64{0, 2, 3})
	cases := []wearCase{
		// Neither wear nor tolerance.
		{desk, some, []int64{0, 1, 2, 3}, wearPair{0, 0}, true, true},
		{desk, some, []int64{0, 1, 2, 4}, wearPair{0, 0}, false, false},
		{desk, some, []int64{1, 1, 2, 3}, wearPair{0, 0}, false, false},
		// A tolerance alone lets no other key in.
		{desk, some, []int64{0, 1, 2, 3}, wearPair{0, 4}, true, true},
		{desk, some, []int64{0, 1, 2, 4}, wearPair{0, 4}, false, false},
		{desk, some, []int64{1, 1, 2, 3}, wearPair{0, 4}, false, false},
		// The last key surely opens with one wear and not with the next.
		{desk, some, []int64{4, 2, 2, 0}, wearPair{4, 4}, true, true},
		{desk, some, []int64{4, 2, 2, 0}, wearPair{5, 4}, true, false},
		{desk, some, []int64{4, 2, 2, 0}, wearPair{3, 3}, true, true},
		{desk, some, []int64{4, 2, 2, 0}, wearPair{4, 3}, true, false},
		{desk, some, []int64{4, 2, 2, 0}, wearPair{1, 0}, true, false},
		{desk, some, []int64{4, 2, 2, 0}, wearPair{19, 0}, true, false},
		// It fails in the first chamber only, in one between, and in the last one.
		{desk, some, []int64{1, 2, 2, 3}, wearPair{19, 4}, false, false},
		{desk, some, []int64{2, 1, 2, 3}, wearPair{15, 4}, false, false},
		{desk, some, []int64{2, 1, 2, 3}, wearPair{16, 4}, true, false},
		{desk, some, []int64{3, 2, 2, 3}, wearPair{9, 0}, false, false},
		{desk, some, []int64{3, 2, 2, 3}, wearPair{10, 0}, true, false},
		{desk, some, []int64{0, 3, 2, 3}, wearPair{19, 4}, false, false},
		{desk, some, []int64{0, 0, 2, 3}, wearPair{5, 4}, false, false},
		{desk, some, []int64{0, 0, 2, 3}, wearPair{6, 4}, true, false},
		{desk, some, []int64{0, 1, 3, 3}, wearPair{19, 4}, false, false},
		{desk, some, []int64{0, 1, 2, 4}, wearPair{19, 4}, false, false},
		{desk, some, []int64{0, 1, 2, 1}, wearPair{7, 2}, false, false},
		{desk, some, []int64{0, 1, 2, 1}, wearPair{8, 2}, true, false},
		// Two chambers reach their depths with different wears.
		{desk, some, []int64{2, 0, 2, 2}, wearPair{18, 1}, false, false},
		{desk, some, []int64{2, 0, 2, 2}, wearPair{19, 1}, true, false},
		{desk, some, []int64{2, 0, 2, 2}, wearPair{19, 0}, false, false},
		// The most chambers and depths, at both ends.
		{deep, singleLock(filled(6, 7)), filled(6, 7), wearPair{0, 0}, true, true},
		{deep, singleLock(filled(6, 7)), filled(6, 7), wearPair{19, 4}, true, false},
		{deep, singleLock(filled(6, 7)), filled(6, 6), wearPair{9, 0}, false, false},
		{deep, singleLock(filled(6, 7)), filled(6, 6), wearPair{10, 0}, true, false},
		{deep, singleLock(filled(6, 7)), filled(6, 5), wearPair{19, 0}, false, false},
		{deep, singleLock(filled(6, 7)), filled(6, 5), wearPair{16, 4}, true, false},
		{deep, singleLock(filled(6, 7)), filled(6, 4), wearPair{19, 4}, false, false},
		{deep, singleLock(filled(6, 0)), filled(6, 0), wearPair{4, 4}, true, true},
		{deep, singleLock(filled(6, 0)), filled(6, 1), wearPair{19, 4}, false, false},
		{deep, fullLock(deep), filled(6, 7), wearPair{4, 4}, true, true},
		{deep, fullLock(deep), filled(6, 0), wearPair{5, 4}, true, false},
		{fewest, singleLock([]int64{1, 0}), []int64{1, 0}, wearPair{2, 2}, true, true},
		{fewest, singleLock([]int64{1, 1}), []int64{1, 0}, wearPair{6, 4}, true, false},
		{fewest, singleLock([]int64{0, 0}), []int64{1, 0}, wearPair{19, 4}, false, false},
		// The example of the stage.
		{impl.Maker{Chambers: 3, Depths: 3, Step: 1, Same: 2, Least: 2}, singleLock([]int64{0, 0, 1}), []int64{0, 0, 1}, wearPair{12, 2}, true, false},
	}
	for _, c := range cases {
		checkWear(t, c)
	}
}

// Places are looked at one by one for all keys, wears and tolerances.
func TestMayOpenAndSurelyOpensForAllKeys(t *testing.T) {
	for _, m := range wearMakers() {
		keys := expectedKeys(m)
		for _, l := range someLocks(m) {
			for _, w := range allWears() {
				sets := freeSets(l, w.tolerance)
				for _, key := range keys {
					may, surely := expectedWorn(key, w.wear, sets)
					got, code := impl.MayOpen(m, l, key, w.wear, w.tolerance)
					if got != may || code != impl.ErrNone {
						t.Fatalf("MayOpen(%v, %v, %v, %v) = %v, %d, want %v", m, l, key, w, got, code, may)
					}
					got, code = impl.SurelyOpens(m, l, key, w.wear, w.tolerance)
					if got != surely || code != impl.ErrNone {
						t.Fatalf("SurelyOpens(%v, %v, %v, %v) = %v, %d, want %v", m, l, key, w, got, code, surely)
					}
				}
			}
		}
	}
}

// Without wear, whatever the tolerance is, exactly the keys that open may open and surely do.
func TestNewKeysAreTheOpeners(t *testing.T) {
	for _, m := range rankMakers() {
		keys := expectedKeys(m)
		locks := append(someLocks(m), singleLock(keys[0]), singleLock(keys[len(keys)-1]))
		for _, l := range locks {
			openers, _ := impl.CountOpeners(m, l)
			for _, tolerance := range []int64{0, 4} {
				for i := 0; i < len(keys); i += 1 + len(keys)/20 {
					opens, _ := impl.Opens(m, l, keys[i])
					checkWear(t, wearCase{m, l, keys[i], wearPair{0, tolerance}, opens, opens})
				}
				if got, code := impl.CountMayOpen(m, l, 0, tolerance); got != openers || code != impl.ErrNone {
					t.Errorf("CountMayOpen(%v, %v, 0, %d) = %d, %d, want %d", m, l, tolerance, got, code, openers)
				}
				if got, code := impl.WornLock(m, l, 0, tolerance); !sameLock(got, l) || code != impl.ErrNone {
					t.Errorf("WornLock(%v, %v, 0, %d) = %v, %d", m, l, tolerance, got, code)
				}
			}
			if t.Failed() {
				return
			}
		}
	}
}

func TestP8WhatSurelyOpensMayOpen(t *testing.T) {
	for _, m := range wearMakers() {
		keys := expectedKeys(m)
		sure := 0
		for _, l := range someLocks(m) {
			for _, w := range allWears() {
				for i := 0; i < len(keys); i += 1 + len(keys)/30 {
					surely, _ := impl.SurelyOpens(m, l, keys[i], w.wear, w.tolerance)
					may, _ := impl.MayOpen(m, l, keys[i], w.wear, w.tolerance)
					if surely && !may {
						t.Fatalf("%v: %v with %v surely opens %v, but may not", m, keys[i], w, l)
					}
					if surely {
						sure++
					}
				}
			}
		}
		if sure == 0 {
			t.Errorf("%v: no key has surely opened a lock", m)
		}
	}
}

// With more wear or tolerance a key that may open still may, and with more wear one that does not
// surely open does so no more.
func TestP8MoreWearOpensNoLess(t *testing.T) {
	for _, m := range wearMakers() {
		keys := expectedKeys(m)
		for _, l := range someLocks(m) {
			for i := 0; i < len(keys); i += 1 + len(keys)/30 {
				for _, w := range allWears() {
					may, _ := impl.MayOpen(m, l, keys[i], w.wear, w.tolerance)
					surely, _ := impl.SurelyOpens(m, l, keys[i], w.wear, w.tolerance)
					if w.wear < impl.MaxWear {
						mayMore, _ := impl.MayOpen(m, l, keys[i], w.wear+1, w.tolerance)
						surelyMore, _ := impl.SurelyOpens(m, l, keys[i], w.wear+1, w.tolerance)
						if may && !mayMore || surelyMore && !surely {
							t.Fatalf("%v: %v opens %v with %v otherwise than with more wear", m, keys[i], l, w)
						}
					}
					if w.tolerance < impl.MaxTolerance {
						mayMore, _ := impl.MayOpen(m, l, keys[i], w.wear, w.tolerance+1)
						surelyMore, _ := impl.SurelyOpens(m, l, keys[i], w.wear, w.tolerance+1)
						if may && !mayMore || surely && !surelyMore {
							t.Fatalf("%v: %v does not open %v with more tolerance than %v", m, keys[i], l, w)
						}
					}
				}
			}
		}
	}
}

// With more wear no fewer keys may open, and a key has no fewer neighbours.
func TestP8MoreWearCountsNoLess(t *testing.T) {
	for _, m := range wearMakers() {
		keys := expectedKeys(m)
		last := keys[len(keys)-1]
		for i, l := range someLocks(m) {
			key := keys[(7*i)%len(keys)]
			for tolerance := int64(0); tolerance <= 4; tolerance++ {
				before, beforeNear := int64(0), int64(1)
				for wear := int64(0); wear <= 19; wear++ {
					count, _ := impl.CountMayOpen(m, l, wear, tolerance)
					near, _ := impl.WornNeighbours(m, key, wear, tolerance)
					if count < before || near < beforeNear {
						t.Fatalf("%v: %v has %d openers, and %v %d neighbours, with the wear %d", m, l, count, key, near, wear)
					}
					before, beforeNear = count, near
				}
			}
		}
		if near, code := impl.WornNeighbours(m, last, 0, 4); near != 1 || code != impl.ErrNone {
			t.Errorf("WornNeighbours(%v, %v, 0, 4) = %d, %d", m, last, near, code)
		}
	}
}

func TestWearLimit(t *testing.T) {
	some := lockOf([]int64{0, 4}, []int64{1, 2}, []int64{2}, []int64{0, 2, 3})
	cases := []struct {
		maker impl.Maker
		lock  impl.Lock
		key   []int64
		opens bool
	}{
		{desk, some, []int64{0, 1, 2, 3}, true},
		{desk, some, []int64{4, 2, 2, 0}, true},
		{desk, fullLock(desk), []int64{0, 0, 1, 0}, true},
		{desk, fullLock(desk), []int64{4, 4, 3, 4}, true},
		{desk, singleLock([]int64{4, 4, 3, 4}), []int64{4, 4, 3, 4}, true},
		{deep, fullLock(deep), filled(6, 7), true},
		{deep, singleLock(filled(6, 0)), filled(6, 0), true},
		{fewest, singleLock([]int64{0, 1}), []int64{0, 1}, true},
		// It does not open in the first chamber, in one between, in the last one, or in any; with a
		// greater wear some of these keys may open.
		{desk, some, []int64{3, 1, 2, 3}, false},
		{desk, some, []int64{0, 0, 2, 3}, false},
		{desk, some, []int64{0, 3, 2, 3}, false},
		{desk, some, []int64{0, 1, 1, 3}, false},
		{desk, some, []int64{0, 1, 2, 1}, false},
		{desk, some, []int64{0, 1, 2, 4}, false},
		{desk, some, []int64{1, 0, 1, 1}, false},
		{deep, singleLock(filled(6, 7)), []int64{7, 7, 7, 7, 7, 6}, false},
		{deep, singleLock(filled(6, 0)), []int64{1, 0, 0, 0, 0, 0}, false},
		{fewest, singleLock([]int64{0, 1}), []int64{1, 0}, false},
	}
	for _, c := range cases {
		for tolerance := int64(0); tolerance <= 4; tolerance++ {
			want, wantCode := tolerance, int64(impl.ErrNone)
			if !c.opens {
				want, wantCode = 0, impl.ErrNotFound
			}
			sets, key := roomyLists(c.lock.Sets), roomy(c.key)
			if got, code := impl.WearLimit(c.maker, impl.Lock{Sets: sets}, key, tolerance); got != want || code != wantCode {
				t.Errorf("WearLimit(%v, %v, %v, %d) = %d, %d, want %d, %d", c.maker, c.lock, c.key, tolerance, got, code, want, wantCode)
			}
			checkListsKept(t, "WearLimit", sets, c.lock.Sets)
			checkKept(t, "WearLimit", key, c.key)
		}
	}
}

// The limit is the greatest of all wears with which the places of the key are all free.
func TestWearLimitOfAllKeys(t *testing.T) {
	for _, m := range wearMakers() {
		keys := expectedKeys(m)
		for _, l := range someLocks(m) {
			for tolerance := int64(0); tolerance <= 4; tolerance++ {
				sets := freeSets(l, tolerance)
				for _, key := range keys {
					want, wantCode := int64(0), int64(impl.ErrNotFound)
					for wear := int64(0); wear <= 19; wear++ {
						if _, surely := expectedWorn(key, wear, sets); surely {
							want, wantCode = wear, impl.ErrNone
						}
					}
					if got, code := impl.WearLimit(m, l, key, tolerance); got != want || code != wantCode {
						t.Fatalf("WearLimit(%v, %v, %v, %d) = %d, %d, want %d, %d", m, l, key, tolerance, got, code, want, wantCode)
					}
				}
			}
		}
	}
}

func TestCountMayOpen(t *testing.T) {
	cases := []struct {
		maker impl.Maker
		lock  impl.Lock
		w     wearPair
		want  int64
	}{
		// Of 01, 10, 12 and 21: 12 alone, 01 too, and 10 too.
		{pair, singleLock([]int64{1, 2}), wearPair{0, 0}, 1},
		{pair, singleLock([]int64{1, 2}), wearPair{9, 0}, 1},
		{pair, singleLock([]int64{1, 2}), wearPair{10, 0}, 2},
		{pair, singleLock([]int64{1, 2}), wearPair{8, 1}, 1},
		{pair, singleLock([]int64{1, 2}), wearPair{9, 1}, 2},
		{pair, singleLock([]int64{1, 2}), wearPair{5, 4}, 1},
		{pair, singleLock([]int64{1, 2}), wearPair{6, 4}, 2},
		{pair, singleLock([]int64{1, 2}), wearPair{15, 4}, 2},
		{pair, singleLock([]int64{1, 2}), wearPair{16, 4}, 3},
		{pair, singleLock([]int64{1, 2}), wearPair{19, 0}, 2},
		{pair, singleLock([]int64{1, 2}), wearPair{18, 1}, 2},
		{pair, singleLock([]int64{1, 2}), wearPair{19, 1}, 3},
		{pair, singleLock([]int64{2, 2}), wearPair{19, 0}, 2},
		{pair, singleLock([]int64{2, 2}), wearPair{16, 4}, 4},
		// A lock that no key opens, and that no worn key opens either.
		{pair, singleLock([]int64{0, 0}), wearPair{0, 0}, 0},
		{pair, singleLock([]int64{0, 0}), wearPair{19, 4}, 0},
		{pair, singleLock([]int64{1, 1}), wearPair{0, 4}, 0},
		{pair, singleLock([]int64{1, 1}), wearPair{10, 0}, 2},
		// All keys.
		{pair, fullLock(pair), wearPair{0, 0}, 4},
		{pair, fullLock(pair), wearPair{19, 4}, 4},
		{desk, fullLock(desk), wearPair{0, 4}, 456},
		{desk, fullLock(desk), wearPair{19, 0}, 456},
		{deep, fullLock(deep), wearPair{19, 4}, 262144},
		// One, two or three depths in each of six chambers.
		{deep, singleLock(filled(6, 7)), wearPair{9, 0}, 1},
		{deep, singleLock(filled(6, 7)), wearPair{19, 0}, 64},
		{deep, singleLock(filled(6, 7)), wearPair{19, 1}, 729},
		{deep, singleLock(filled(6, 0)), wearPair{19, 4}, 1},
		{deep, singleLock(filled(6, 1)), wearPair{19, 4}, 64},
	}
	for _, c := range cases {
		sets := roomyLists(c.lock.Sets)
		if got, code := impl.CountMayOpen(c.maker, impl.Lock{Sets: sets}, c.w.wear, c.w.tolerance); got != c.want || code != impl.ErrNone {
			t.Errorf("CountMayOpen(%v, %v, %v) = %d, %d, want %d", c.maker, c.lock, c.w, got, code, c.want)
		}
		checkListsKept(t, "CountMayOpen", sets, c.lock.Sets)
	}
}

func TestWornLock(t *testing.T) {
	some := lockOf([]int64{0}, []int64{3}, []int64{2, 4}, []int64{1})
	near := lockOf([]int64{0}, []int64{2, 3}, []int64{1, 2, 3, 4}, []int64{0, 1})
	far := lockOf([]int64{0}, []int64{1, 2, 3}, []int64{0, 1, 2, 3, 4}, []int64{0, 1})
	full, ends := fullLock(desk), goodDeskLocks[2]
	cases := []struct {
		given impl.Lock
		w     wearPair
		want  impl.Lock
	}{
		{some, wearPair{0, 0}, some}, {some, wearPair{0, 4}, some}, {some, wearPair{9, 0}, some},
		{some, wearPair{10, 0}, near}, {some, wearPair{19, 0}, near},
		{some, wearPair{8, 1}, some}, {some, wearPair{9, 1}, near}, {some, wearPair{18, 1}, near}, {some, wearPair{19, 1}, far},
		{some, wearPair{7, 2}, some}, {some, wearPair{8, 2}, near}, {some, wearPair{17, 2}, near}, {some, wearPair{18, 2}, far},
		{some, wearPair{6, 3}, some}, {some, wearPair{7, 3}, near}, {some, wearPair{16, 3}, near}, {some, wearPair{17, 3}, far},
		{some, wearPair{5, 4}, some}, {some, wearPair{6, 4}, near}, {some, wearPair{15, 4}, near}, {some, wearPair{16, 4}, far},
		{some, wearPair{19, 4}, far},
		// All depths, and the first and the last one.
		{full, wearPair{0, 0}, full}, {full, wearPair{19, 4}, full},
		{ends, wearPair{9, 0}, ends},
		{ends, wearPair{10, 0}, lockOf([]int64{0, 3, 4}, []int64{0, 3, 4}, []int64{0, 3, 4}, []int64{0, 3, 4})},
		{ends, wearPair{19, 4}, lockOf([]int64{0, 2, 3, 4}, []int64{0, 2, 3, 4}, []int64{0, 2, 3, 4}, []int64{0, 2, 3, 4})},
		// Nothing is before the first depth.
		{goodDeskLocks[0], wearPair{19, 4}, goodDeskLocks[0]},
	}
	for _, c := range cases {
		sets := roomyLists(c.given.Sets)
		if got, code := impl.WornLock(desk, impl.Lock{Sets: sets}, c.w.wear, c.w.tolerance); !sameLock(got, c.want) || code != impl.ErrNone {
			t.Errorf("WornLock(desk, %v, %v) = %v, %d, want %v", c.given, c.w, got, code, c.want)
		}
		checkListsKept(t, "WornLock", sets, c.given.Sets)
	}
}

// Exactly the keys that open the worn lock may open the lock, and they are counted.
func TestWornLockOfManyLocks(t *testing.T) {
	for _, m := range wearMakers() {
		keys := expectedKeys(m)
		for _, l := range someLocks(m) {
			for _, w := range allWears() {
				want := expectedWornLock(m, w, l)
				got, code := impl.WornLock(m, l, w.wear, w.tolerance)
				if !sameLock(got, want) || code != impl.ErrNone || !impl.IsLock(m, got) {
					t.Fatalf("WornLock(%v, %v, %v) = %v, %d, want %v", m, l, w, got, code, want)
				}
				count, sets := int64(0), freeSets(l, w.tolerance)
				for _, key := range keys {
					may, _ := expectedWorn(key, w.wear, sets)
					if opens, _ := impl.Opens(m, got, key); opens != may {
						t.Fatalf("%v: Opens(%v, %v) = %v, but %v with %v may open it: %v", m, got, key, opens, l, w, may)
					}
					if may {
						count++
					}
				}
				if got, code := impl.CountMayOpen(m, l, w.wear, w.tolerance); got != count || code != impl.ErrNone {
					t.Fatalf("CountMayOpen(%v, %v, %v) = %d, %d, want %d", m, l, w, got, code, count)
				}
			}
		}
	}
}

// span returns the numbers from one to another.
func span(from, to int64) []int64 {
	var list []int64
	for n := from; n <= to; n++ {
		list = append(list, n)
	}
	return list
}

func TestFreePlaces(t *testing.T) {
	some := lockOf([]int64{0}, []int64{1, 2}, []int64{0, 2, 4}, []int64{3})
	all := joined(span(0, 4), span(6, 14), span(16, 24), span(26, 34), span(36, 44), span(46, 54), span(56, 64), span(66, 74))
	cases := []struct {
		maker              impl.Maker
		lock               impl.Lock
		chamber, tolerance int64
		want               []int64
	}{
		// The first chamber, with places below 0.
		{desk, some, 0, 0, []int64{0}},
		{desk, some, 0, 1, []int64{0, 1}},
		{desk, some, 0, 4, []int64{0, 1, 2, 3, 4}},
		{desk, some, 1, 0, []int64{10, 20}},
		// Only one place is between those of two depths.
		{desk, some, 1, 4, joined(span(6, 14), span(16, 24))},
		{desk, some, 1, 3, joined(span(7, 13), span(17, 23))},
		{desk, some, 2, 0, []int64{0, 20, 40}},
		{desk, some, 2, 1, []int64{0, 1, 19, 20, 21, 39, 40, 41}},
		{desk, some, 2, 4, joined(span(0, 4), span(16, 24), span(36, 44))},
		// The last chamber.
		{desk, some, 3, 0, []int64{30}},
		{desk, some, 3, 2, span(28, 32)},
		{desk, some, 3, 4, span(26, 34)},
		// All depths, and the first and the last one.
		{desk, fullLock(desk), 3, 4, all[:41]},
		{deep, fullLock(deep), 0, 0, []int64{0, 10, 20, 30, 40, 50, 60, 70}},
		{deep, fullLock(deep), 0, 4, all},
		{deep, fullLock(deep), 5, 4, all},
		{deep, singleLock([]int64{0, 1, 2, 3, 4, 7}), 5, 0, []int64{70}},
		{deep, singleLock([]int64{0, 1, 2, 3, 4, 7}), 5, 4, span(66, 74)},
		{deep, singleLock([]int64{0, 1, 2, 3, 4, 7}), 0, 4, span(0, 4)},
		{deep, singleLock([]int64{0, 1, 2, 3, 4, 7}), 4, 3, span(37, 43)},
		{fewest, lockOf([]int64{0, 1}, []int64{1}), 0, 4, joined(span(0, 4), span(6, 14))},
		{fewest, lockOf([]int64{0, 1}, []int64{1}), 1, 4, span(6, 14)},
	}
	for _, c := range cases {
		sets := roomyLists(c.lock.Sets)
		if got, code := impl.FreePlaces(c.maker, impl.Lock{Sets: sets}, c.chamber, c.tolerance); !slices.Equal(got, c.want) || code != impl.ErrNone {
			t.Errorf("FreePlaces(%v, %v, %d, %d) = %v, %d, want %v", c.maker, c.lock, c.chamber, c.tolerance, got, code, c.want)
		}
		checkListsKept(t, "FreePlaces", sets, c.lock.Sets)
	}
}

func TestFreePlacesOfManyLocks(t *testing.T) {
	for _, m := range append(pinMakers(), wearMakers()...) {
		for _, l := range someLocks(m) {
			for tolerance := int64(0); tolerance <= 4; tolerance++ {
				for chamber, free := range freeSets(l, tolerance) {
					want := []int64{}
					for place := int64(0); place < 100; place++ {
						if free[place] {
							want = append(want, place)
						}
					}
					if got, code := impl.FreePlaces(m, l, int64(chamber), tolerance); !slices.Equal(got, want) || code != impl.ErrNone {
						t.Fatalf("FreePlaces(%v, %v, %d, %d) = %v, %d, want %v", m, l, chamber, tolerance, got, code, want)
					}
				}
			}
		}
	}
}

func TestWornNeighbours(t *testing.T) {
	cases := []struct {
		maker impl.Maker
		key   []int64
		w     wearPair
		want  int64
	}{
		// Of 01, 10, 12 and 21, in the order of the keys. Only deeper ones are neighbours.
		{pair, []int64{0, 1}, wearPair{0, 0}, 1}, {pair, []int64{0, 1}, wearPair{0, 4}, 1},
		{pair, []int64{0, 1}, wearPair{9, 0}, 1}, {pair, []int64{0, 1}, wearPair{10, 0}, 2},
		{pair, []int64{0, 1}, wearPair{5, 4}, 1}, {pair, []int64{0, 1}, wearPair{6, 4}, 2},
		{pair, []int64{0, 1}, wearPair{18, 1}, 2}, {pair, []int64{0, 1}, wearPair{19, 1}, 3},
		{pair, []int64{0, 1}, wearPair{19, 0}, 2}, {pair, []int64{0, 1}, wearPair{19, 4}, 3},
		{pair, []int64{1, 0}, wearPair{10, 0}, 2}, {pair, []int64{1, 0}, wearPair{16, 4}, 3},
		{pair, []int64{1, 2}, wearPair{10, 0}, 1}, {pair, []int64{1, 2}, wearPair{19, 4}, 1},
		{pair, []int64{2, 1}, wearPair{10, 0}, 1}, {pair, []int64{2, 1}, wearPair{19, 4}, 1},
		// The first and the last key, and others between.
		{desk, []int64{0, 0, 1, 0}, wearPair{9, 0}, 1}, {desk, []int64{0, 0, 1, 0}, wearPair{10, 0}, 13},
		{desk, []int64{4, 4, 3, 4}, wearPair{0, 0}, 1}, {desk, []int64{4, 4, 3, 4}, wearPair{19, 4}, 1},
		{desk, []int64{4, 4, 3, 3}, wearPair{10, 0}, 2}, {desk, []int64{4, 4, 3, 3}, wearPair{9, 0}, 1},
		{strict, []int64{0, 1, 2, 3}, wearPair{10, 0}, 2}, {strict, []int64{1, 2, 3, 4}, wearPair{19, 4}, 1},
		{strict, []int64{3, 2, 1, 0}, wearPair{9, 0}, 1}, {strict, []int64{3, 2, 1, 0}, wearPair{6, 4}, 2},
		// One, two or three depths in each of six chambers.
		{deep, filled(6, 0), wearPair{9, 0}, 1}, {deep, filled(6, 0), wearPair{10, 0}, 64},
		{deep, filled(6, 0), wearPair{19, 0}, 64}, {deep, filled(6, 0), wearPair{19, 1}, 729},
		{deep, filled(6, 0), wearPair{15, 4}, 64}, {deep, filled(6, 0), wearPair{16, 4}, 729},
		{deep, filled(6, 6), wearPair{19, 4}, 64}, {deep, filled(6, 7), wearPair{19, 4}, 1},
		{deep, []int64{0, 7, 0, 7, 0, 7}, wearPair{10, 0}, 8}, {deep, []int64{7, 7, 7, 7, 7, 0}, wearPair{19, 4}, 3},
		{fewest, []int64{0, 1}, wearPair{19, 4}, 1}, {fewest, []int64{1, 0}, wearPair{19, 4}, 1},
	}
	for _, c := range cases {
		key := roomy(c.key)
		if got, code := impl.WornNeighbours(c.maker, key, c.w.wear, c.w.tolerance); got != c.want || code != impl.ErrNone {
			t.Errorf("WornNeighbours(%v, %v, %v) = %d, %d, want %d", c.maker, c.key, c.w, got, code, c.want)
		}
		checkKept(t, "WornNeighbours", key, c.key)
	}
}

// The key is held against the lock of each key by itself.
func TestWornNeighboursOfManyKeys(t *testing.T) {
	for _, m := range wearMakers() {
		keys := expectedKeys(m)
		for i := 0; i < len(keys); i += 1 + len(keys)/12 {
			for _, w := range allWears() {
				count := int64(0)
				for _, other := range keys {
					if expectedNeighbour(keys[i], other, w) {
						count++
					}
				}
				if got, code := impl.WornNeighbours(m, keys[i], w.wear, w.tolerance); got != count || code != impl.ErrNone {
					t.Fatalf("WornNeighbours(%v, %v, %v) = %d, %d, want %d", m, keys[i], w, got, code, count)
				}
			}
		}
	}
	// And in the words of the document.
	for _, key := range expectedKeys(free) {
		for _, w := range []wearPair{{0, 0}, {10, 0}, {6, 4}, {19, 1}} {
			count := int64(0)
			for _, other := range expectedKeys(free) {
				hull, _ := impl.HullOf(free, [][]int64{other})
				if may, _ := impl.MayOpen(free, hull, key, w.wear, w.tolerance); may {
					count++
				}
			}
			if got, code := impl.WornNeighbours(free, key, w.wear, w.tolerance); got != count || code != impl.ErrNone {
				t.Errorf("WornNeighbours(free, %v, %v) = %d, %d, want %d", key, w, got, code, count)
			}
		}
	}
}

// expectedNeighbour tells whether a worn key may open the lock of another one alone: no cut lies
// behind the free places of the other one, and each may lie as deep as these begin.
func expectedNeighbour(key, other []int64, w wearPair) bool {
	for chamber := range key {
		first, last := 10*key[chamber], 10*key[chamber]+w.wear
		if first > 10*other[chamber]+w.tolerance || last < 10*other[chamber]-w.tolerance {
			return false
		}
	}
	return true
}

// wearCall has the arguments of the functions of the chapter but the maker and the lock.
type wearCall struct {
	key                      []int64
	wear, tolerance, chamber int64
}

// wearCalls returns all functions of the chapter, but WornNeighbours, which takes no lock.
func wearCalls(c wearCall) map[string]func(m impl.Maker, l impl.Lock) (lockResult, int64) {
	is := func(is bool, code int64) (lockResult, int64) { return lockResult{is: is}, code }
	number := func(n, code int64) (lockResult, int64) { return lockResult{number: n}, code }
	return map[string]func(m impl.Maker, l impl.Lock) (lockResult, int64){
		"MayOpen": func(m impl.Maker, l impl.Lock) (lockResult, int64) {
			return is(impl.MayOpen(m, l, c.key, c.wear, c.tolerance))
		},
		"SurelyOpens": func(m impl.Maker, l impl.Lock) (lockResult, int64) {
			return is(impl.SurelyOpens(m, l, c.key, c.wear, c.tolerance))
		},
		"WearLimit": func(m impl.Maker, l impl.Lock) (lockResult, int64) {
			return number(impl.WearLimit(m, l, c.key, c.tolerance))
		},
		"CountMayOpen": func(m impl.Maker, l impl.Lock) (lockResult, int64) {
			return number(impl.CountMayOpen(m, l, c.wear, c.tolerance))
		},
		"WornLock": func(m impl.Maker, l impl.Lock) (lockResult, int64) {
			worn, code := impl.WornLock(m, l, c.wear, c.tolerance)
			return lockResult{lock: worn}, code
		},
		"FreePlaces": func(m impl.Maker, l impl.Lock) (lockResult, int64) {
			places, code := impl.FreePlaces(m, l, c.chamber, c.tolerance)
			return lockResult{number: int64(len(places))}, code
		},
	}
}

// checkWearCode fails unless a function returns an error and nothing else.
func checkWearCode(t *testing.T, name string, c wearCall, m impl.Maker, l impl.Lock, want int64) {
	t.Helper()
	sets, key := roomyLists(l.Sets), c.key
	c.key = roomy(key)
	if got, code := wearCalls(c)[name](m, impl.Lock{Sets: sets}); !got.isZero() || code != want {
		t.Errorf("%s(%v, %v) with %v = %v, %d, want %d", name, m, l, c, got, code, want)
	}
	checkListsKept(t, name, sets, l.Sets)
	checkKept(t, name, c.key, key)
}

// wearArguments has arguments for desk, good ones first and then with one or more faults.
var wearArguments = []wearCall{
	{[]int64{0, 1, 2, 3}, 0, 0, 0}, {[]int64{4, 4, 3, 4}, 19, 4, 3},
	{nil, 0, 0, 0}, {[]int64{0, 0, 0, 0}, 3, 3, 3}, {[]int64{5, -1, 0, 0}, 0, 0, 1},
	{[]int64{0, 1, 2, 3}, -1, 0, 0}, {[]int64{0, 1, 2, 3}, 20, 0, 0}, {[]int64{0, 1, 2, 3}, 0, -1, 0}, {[]int64{0, 1, 2, 3}, 0, 5, 0},
	{[]int64{0, 1, 2, 3}, 0, 0, -1}, {[]int64{0, 1, 2, 3}, 0, 0, 4}, {nil, smallest, largest, largest}, {filled(64, 1), largest, smallest, smallest},
}

// ErrInvalid comes first, whatever the other arguments are.
func TestWearRejectsMakers(t *testing.T) {
	locks := slices.Concat(goodDeskLocks[2:4], badDeskLocks, []impl.Lock{singleLock(filled(7, 0))})
	for _, m := range badMakers {
		for _, c := range wearArguments {
			for name := range wearCalls(c) {
				for _, l := range locks {
					checkWearCode(t, name, c, m, l, impl.ErrInvalid)
				}
			}
			if got, code := impl.WornNeighbours(m, c.key, c.wear, c.tolerance); got != 0 || code != impl.ErrInvalid {
				t.Errorf("WornNeighbours(%v, %v, %d, %d) = %d, %d", m, c.key, c.wear, c.tolerance, got, code)
			}
		}
	}
}

func TestWearRejectsLocks(t *testing.T) {
	for _, bad := range append(slices.Clone(badDeskLocks), fullLock(free), fullLock(deep), fullLock(pair)) {
		for _, c := range wearArguments {
			for name := range wearCalls(c) {
				checkWearCode(t, name, c, desk, bad, impl.ErrInvalid)
			}
		}
	}
}

// wearPlaces has wears and tolerances in their ranges and out of them.
var wearPlaces = []wearPair{{0, 0}, {19, 4}, {3, 2}, {-1, 0}, {20, 4}, {0, -1}, {19, 5}, {smallest, largest}}

func TestWearRejectsKeys(t *testing.T) {
	for _, l := range goodDeskLocks {
		for _, bad := range badDeskKeys {
			for _, w := range wearPlaces {
				c := wearCall{bad, w.wear, w.tolerance, 0}
				for _, name := range []string{"MayOpen", "SurelyOpens", "WearLimit"} {
					checkWearCode(t, name, c, desk, l, impl.ErrRange)
				}
				given := roomy(bad)
				if got, code := impl.WornNeighbours(desk, given, w.wear, w.tolerance); got != 0 || code != impl.ErrRange {
					t.Errorf("WornNeighbours(desk, %v, %v) = %d, %d", bad, w, got, code)
				}
				checkKept(t, "WornNeighbours", given, bad)
			}
		}
	}
	// A key of one maker may be none of another, whose lock its cuts still fit.
	key := []int64{0, 0, 1, 0}
	for _, name := range []string{"MayOpen", "SurelyOpens", "WearLimit"} {
		checkWearCode(t, name, wearCall{key: key}, strict, singleLock(key), impl.ErrRange)
	}
	if got, code := impl.WornNeighbours(strict, key, 0, 0); got != 0 || code != impl.ErrRange {
		t.Errorf("WornNeighbours(strict, %v, 0, 0) = %d, %d", key, got, code)
	}
}

func TestWearOutOfRange(t *testing.T) {
	keys := [][]int64{{0, 1, 2, 3}, {0, 0, 1, 0}, {4, 4, 3, 4}}
	for _, wear := range badWears {
		for _, tolerance := range append([]int64{0, 2, 4}, badTolerances...) {
			for _, l := range goodDeskLocks {
				for _, key := range keys {
					for _, name := range []string{"MayOpen", "SurelyOpens", "CountMayOpen", "WornLock"} {
						checkWearCode(t, name, wearCall{key, wear, tolerance, 0}, desk, l, impl.ErrRange)
					}
				}
			}
			for _, key := range keys {
				if got, code := impl.WornNeighbours(desk, key, wear, tolerance); got != 0 || code != impl.ErrRange {
					t.Errorf("WornNeighbours(desk, %v, %d, %d) = %d, %d", key, wear, tolerance, got, code)
				}
			}
		}
	}
}

// WearLimit returns ErrRange also for keys that do not open the lock.
func TestToleranceOutOfRange(t *testing.T) {
	keys := [][]int64{{0, 1, 2, 3}, {0, 0, 1, 0}, {4, 4, 3, 4}}
	for _, tolerance := range badTolerances {
		for _, wear := range []int64{0, 7, 19} {
			for _, l := range goodDeskLocks {
				for _, key := range keys {
					for name := range wearCalls(wearCall{}) {
						checkWearCode(t, name, wearCall{key, wear, tolerance, 1}, desk, l, impl.ErrRange)
					}
				}
			}
			for _, key := range keys {
				if got, code := impl.WornNeighbours(desk, key, wear, tolerance); got != 0 || code != impl.ErrRange {
					t.Errorf("WornNeighbours(desk, %v, %d, %d) = %d, %d", key, wear, tolerance, got, code)
				}
			}
		}
	}
}

func TestFreePlacesRejectsChambers(t *testing.T) {
	for _, m := range pinMakers() {
		for _, chamber := range []int64{-1, m.Chambers, m.Chambers + 1, 6, 7, 64, -m.Chambers, 1 << 32, -1 << 32, smallest, largest} {
			for _, tolerance := range []int64{0, 4, -1, 5} {
				checkWearCode(t, "FreePlaces", wearCall{chamber: chamber, tolerance: tolerance}, m, fullLock(m), impl.ErrRange)
			}
		}
	}
}

// Results share no memory with an argument, with one another or with later results.
func TestResultsOfWearAreNew(t *testing.T) {
	for _, w := range []wearPair{{0, 0}, {0, 4}, {10, 0}, {19, 4}} {
		for _, l := range goodDeskLocks {
			name, given := fmt.Sprintf("WornLock with %v", w), cloneLock(l)
			got, _ := impl.WornLock(desk, given, w.wear, w.tolerance)
			want := cloneLock(got)
			checkNewLock(t, name, got)
			if !sameLock(given, l) {
				t.Errorf("%s shares memory with its argument, which is now %v", name, given)
			}
			if again, _ := impl.WornLock(desk, l, w.wear, w.tolerance); !sameLock(again, want) {
				t.Errorf("%s returns %v after its result was changed, want %v", name, again, want)
			}
			places, _ := impl.FreePlaces(desk, given, 1, w.tolerance)
			first := slices.Clone(places)
			fill(places[:cap(places)], largest)
			if again, _ := impl.FreePlaces(desk, given, 1, w.tolerance); !slices.Equal(again, first) || !sameLock(given, l) {
				t.Errorf("FreePlaces returns %v of %v after its result was changed", again, given)
			}
		}
	}
}
