package tests

import (
	"slices"
	"testing"

	"loop.example/g00947/impl"
)

// deep is the maker with the most keys: all cuts of the most chambers and depths.
var deep = impl.Maker{Chambers: 6, Depths: 8, Step: 7, Same: 6, Least: 1}

// pair is a maker whose keys all have the same distance: 01, 10, 12 and 21.
var pair = impl.Maker{Chambers: 2, Depths: 3, Step: 1, Same: 1, Least: 1}

// rankMakers returns makers with keys for which each of the rules counts.
func rankMakers() []impl.Maker {
	return append(smallMakers(3), desk, strict,
		impl.Maker{Chambers: 4, Depths: 2, Step: 1, Same: 2, Least: 2},
		impl.Maker{Chambers: 4, Depths: 6, Step: 2, Same: 1, Least: 3},
		impl.Maker{Chambers: 5, Depths: 4, Step: 2, Same: 2, Least: 3},
		impl.Maker{Chambers: 5, Depths: 3, Step: 2, Same: 5, Least: 1},
		impl.Maker{Chambers: 6, Depths: 8, Step: 1, Same: 1, Least: 5},
		impl.Maker{Chambers: 6, Depths: 3, Step: 1, Same: 3, Least: 2},
	)
}

// pairMakers returns makers with so few keys that all pairs of them can be compared.
func pairMakers() []impl.Maker {
	return append(smallMakers(2), free, strict, pair,
		impl.Maker{Chambers: 3, Depths: 5, Step: 2, Same: 2, Least: 2},
		impl.Maker{Chambers: 4, Depths: 3, Step: 2, Same: 4, Least: 1},
		impl.Maker{Chambers: 5, Depths: 3, Step: 1, Same: 2, Least: 3},
		impl.Maker{Chambers: 6, Depths: 8, Step: 1, Same: 1, Least: 5},
	)
}

// badDeskKeys are no keys of desk: each breaks one rule, or several.
var badDeskKeys = [][]int64{
	nil,
	{0, 0, 1},
	{0, 0, 1, 0, 0},
	{0, 0, 1, 5},
	{-1, 0, 1, 0},
	{0, 0, 1, largest},
	{smallest, smallest, smallest, smallest},
	{largest, smallest, 0, 1},
	{0, 4, 0, 4},
	{0, 0, 0, 1},
	{2, 2, 2, 2},
	{5, 0, 5},
}

// expectedDifference counts the chambers in which cuts differ.
func expectedDifference(a, b []int64) int64 {
	count := int64(0)
	for i := range a {
		if a[i] != b[i] {
			count++
		}
	}
	return count
}

// expectedDistance adds up the single steps between the cuts of all chambers.
func expectedDistance(a, b []int64) int64 {
	sum := int64(0)
	for i := range a {
		for step := min(a[i], b[i]); step < max(a[i], b[i]); step++ {
			sum++
		}
	}
	return sum
}

func TestRankOf(t *testing.T) {
	cases := []struct {
		maker impl.Maker
		key   []int64
		want  int64
	}{
		{desk, []int64{0, 0, 1, 0}, 0},
		{desk, []int64{0, 0, 1, 1}, 1},
		{desk, []int64{0, 0, 1, 4}, 4},
		{desk, []int64{0, 0, 2, 0}, 5},
		{desk, []int64{4, 4, 3, 3}, 454},
		{desk, []int64{4, 4, 3, 4}, 455},
		{strict, []int64{0, 1, 2, 3}, 0},
		{strict, []int64{1, 2, 3, 4}, 1},
		{strict, []int64{3, 2, 1, 0}, 2},
		{strict, []int64{4, 3, 2, 1}, 3},
		{free, []int64{0, 0, 0}, 0},
		{free, []int64{0, 0, 3}, 3},
		{free, []int64{1, 0, 0}, 16},
		{free, []int64{2, 1, 3}, 39},
		{free, []int64{3, 3, 3}, 63},
		{pair, []int64{0, 1}, 0},
		{pair, []int64{2, 1}, 3},
		{deep, []int64{0, 0, 0, 0, 0, 0}, 0},
		{deep, []int64{0, 1, 2, 3, 4, 5}, 0o012345},
		{deep, []int64{7, 7, 7, 7, 7, 7}, 262143},
	}
	for _, c := range cases {
		given := roomy(c.key)
		if got, code := impl.RankOf(c.maker, given); got != c.want || code != impl.ErrNone {
			t.Errorf("RankOf(%v, %v) = %d, %d, want %d", c.maker, c.key, got, code, c.want)
		}
		checkKept(t, "RankOf", given, c.key)
	}
}

func TestKeyAt(t *testing.T) {
	cases := []struct {
		maker impl.Maker
		rank  int64
		want  []int64
		code  int64
	}{
		{desk, 0, []int64{0, 0, 1, 0}, impl.ErrNone},
		{desk, 1, []int64{0, 0, 1, 1}, impl.ErrNone},
		{desk, 4, []int64{0, 0, 1, 4}, impl.ErrNone},
		{desk, 5, []int64{0, 0, 2, 0}, impl.ErrNone},
		{desk, 454, []int64{4, 4, 3, 3}, impl.ErrNone},
		{desk, 455, []int64{4, 4, 3, 4}, impl.ErrNone},
		{desk, 456, nil, impl.ErrNotFound},
		{desk, 457, nil, impl.ErrNotFound},
		{desk, -1, nil, impl.ErrNotFound},
		{desk, -456, nil, impl.ErrNotFound},
		{desk, largest, nil, impl.ErrNotFound},
		{desk, smallest, nil, impl.ErrNotFound},
		{desk, impl.MaxNumber + 1, nil, impl.ErrNotFound},
		{strict, 2, []int64{3, 2, 1, 0}, impl.ErrNone},
		{strict, 3, []int64{4, 3, 2, 1}, impl.ErrNone},
		{strict, 4, nil, impl.ErrNotFound},
		{free, 39, []int64{2, 1, 3}, impl.ErrNone},
		{free, 63, []int64{3, 3, 3}, impl.ErrNone},
		{free, 64, nil, impl.ErrNotFound},
		{pair, 0, []int64{0, 1}, impl.ErrNone},
		{pair, 4, nil, impl.ErrNotFound},
		{deep, 0, []int64{0, 0, 0, 0, 0, 0}, impl.ErrNone},
		{deep, 0o012345, []int64{0, 1, 2, 3, 4, 5}, impl.ErrNone},
		{deep, 262143, []int64{7, 7, 7, 7, 7, 7}, impl.ErrNone},
		{deep, 262144, nil, impl.ErrNotFound},
	}
	for _, c := range cases {
		if got, code := impl.KeyAt(c.maker, c.rank); !slices.Equal(got, c.want) || code != c.code {
			t.Errorf("KeyAt(%v, %d) = %v, %d, want %v, %d", c.maker, c.rank, got, code, c.want, c.code)
		}
	}
}

func TestP3RanksAndKeysDetermineEachOther(t *testing.T) {
	for _, m := range rankMakers() {
		keys := expectedKeys(m)
		for i, key := range keys {
			rank, code := impl.RankOf(m, key)
			if rank != int64(i) || code != impl.ErrNone {
				t.Fatalf("RankOf(%v, %v) = %d, %d, want %d", m, key, rank, code, i)
			}
			if got, code := impl.KeyAt(m, rank); !slices.Equal(got, key) || code != impl.ErrNone {
				t.Fatalf("KeyAt(%v, %d) = %v, %d, want %v", m, rank, got, code, key)
			}
		}
		for _, rank := range []int64{-1, int64(len(keys))} {
			if got, code := impl.KeyAt(m, rank); len(got) != 0 || code != impl.ErrNotFound {
				t.Fatalf("KeyAt(%v, %d) = %v, %d", m, rank, got, code)
			}
		}
	}
}

// The first and the last key of every maker have the ranks at the ends.
func TestP3EndsOfAllRanks(t *testing.T) {
	for _, m := range smallMakers(4) {
		count, _ := impl.CountKeys(m)
		first, _ := impl.FirstKey(m)
		last, code := impl.KeyAt(m, count-1)
		if code != impl.ErrNone || !impl.IsKey(m, last) {
			t.Fatalf("KeyAt(%v, %d) = %v, %d", m, count-1, last, code)
		}
		if _, code := impl.NextKey(m, last); code != impl.ErrNotFound {
			t.Fatalf("KeyAt(%v, %d) = %v, which is not the last key", m, count-1, last)
		}
		if got, code := impl.KeyAt(m, 0); !slices.Equal(got, first) || code != impl.ErrNone {
			t.Fatalf("KeyAt(%v, 0) = %v, %d, want %v", m, got, code, first)
		}
		if got, code := impl.RankOf(m, first); got != 0 || code != impl.ErrNone {
			t.Fatalf("RankOf(%v, %v) = %d, %d, want 0", m, first, got, code)
		}
		if got, code := impl.RankOf(m, last); got != count-1 || code != impl.ErrNone {
			t.Fatalf("RankOf(%v, %v) = %d, %d, want %d", m, last, got, code, count-1)
		}
		if got, code := impl.KeyAt(m, count); len(got) != 0 || code != impl.ErrNotFound {
			t.Fatalf("KeyAt(%v, %d) = %v, %d", m, count, got, code)
		}
	}
}

func TestDifferenceAndDistance(t *testing.T) {
	cases := []struct {
		maker      impl.Maker
		a, b       []int64
		difference int64
		distance   int64
	}{
		{desk, []int64{0, 0, 1, 0}, []int64{0, 0, 1, 0}, 0, 0},
		{desk, []int64{4, 4, 3, 4}, []int64{4, 4, 3, 4}, 0, 0},
		{desk, []int64{0, 0, 1, 0}, []int64{0, 0, 1, 1}, 1, 1},
		{desk, []int64{0, 0, 1, 4}, []int64{0, 0, 1, 0}, 1, 4},
		{desk, []int64{1, 0, 1, 0}, []int64{0, 0, 1, 2}, 2, 3},
		{desk, []int64{0, 3, 0, 3}, []int64{4, 1, 4, 1}, 4, 12},
		{desk, []int64{0, 0, 1, 0}, []int64{4, 4, 3, 4}, 4, 14},
		{desk, []int64{0, 1, 2, 3}, []int64{1, 0, 3, 2}, 4, 4},
		{strict, []int64{0, 1, 2, 3}, []int64{4, 3, 2, 1}, 3, 8},
		{free, []int64{0, 0, 0}, []int64{3, 3, 3}, 3, 9},
		{free, []int64{1, 2, 3}, []int64{1, 3, 3}, 1, 1},
		{pair, []int64{0, 1}, []int64{2, 1}, 1, 2},
		{deep, []int64{0, 0, 0, 0, 0, 0}, []int64{7, 7, 7, 7, 7, 7}, 6, 42},
		{deep, []int64{1, 2, 3, 4, 5, 6}, []int64{1, 2, 3, 4, 5, 6}, 0, 0},
	}
	for _, c := range cases {
		for _, keys := range [][2][]int64{{c.a, c.b}, {c.b, c.a}} {
			a, b := roomy(keys[0]), roomy(keys[1])
			if got, code := impl.DifferenceOf(c.maker, a, b); got != c.difference || code != impl.ErrNone {
				t.Errorf("DifferenceOf(%v, %v, %v) = %d, %d, want %d", c.maker, a, b, got, code, c.difference)
			}
			if got, code := impl.DistanceOf(c.maker, a, b); got != c.distance || code != impl.ErrNone {
				t.Errorf("DistanceOf(%v, %v, %v) = %d, %d, want %d", c.maker, a, b, got, code, c.distance)
			}
			checkKept(t, "DifferenceOf or DistanceOf", a, keys[0])
			checkKept(t, "DifferenceOf or DistanceOf", b, keys[1])
		}
	}
}

// Also the same memory may be given as both keys.
func TestDifferenceAndDistanceOfAKeyAndItself(t *testing.T) {
	for _, m := range rankMakers() {
		key, _ := impl.FirstKey(m)
		if got, code := impl.DifferenceOf(m, key, key); got != 0 || code != impl.ErrNone {
			t.Errorf("DifferenceOf(%v, %v, %v) = %d, %d", m, key, key, got, code)
		}
		if got, code := impl.DistanceOf(m, key, key); got != 0 || code != impl.ErrNone {
			t.Errorf("DistanceOf(%v, %v, %v) = %d, %d", m, key, key, got, code)
		}
	}
}

func TestDifferenceAndDistanceOfAllPairs(t *testing.T) {
	for _, m := range pairMakers() {
		keys := expectedKeys(m)
		for _, a := range keys {
			for _, b := range keys {
				if got, code := impl.DifferenceOf(m, a, b); got != expectedDifference(a, b) || code != impl.ErrNone {
					t.Fatalf("DifferenceOf(%v, %v, %v) = %d, %d, want %d", m, a, b, got, code, expectedDifference(a, b))
				}
				if got, code := impl.DistanceOf(m, a, b); got != expectedDistance(a, b) || code != impl.ErrNone {
					t.Fatalf("DistanceOf(%v, %v, %v) = %d, %d, want %d", m, a, b, got, code, expectedDistance(a, b))
				}
			}
		}
	}
}

func TestMirrorKey(t *testing.T) {
	middle := impl.Maker{Chambers: 6, Depths: 7, Step: 6, Same: 6, Least: 1}
	cases := []cutsCase{
		{desk, []int64{0, 0, 1, 0}, []int64{4, 4, 3, 4}, impl.ErrNone},
		{desk, []int64{4, 4, 3, 4}, []int64{0, 0, 1, 0}, impl.ErrNone},
		{desk, []int64{1, 4, 2, 0}, []int64{3, 0, 2, 4}, impl.ErrNone},
		{desk, []int64{2, 2, 1, 2}, []int64{2, 2, 3, 2}, impl.ErrNone},
		{strict, []int64{0, 1, 2, 3}, []int64{4, 3, 2, 1}, impl.ErrNone},
		{free, []int64{0, 1, 3}, []int64{3, 2, 0}, impl.ErrNone},
		{free, []int64{1, 2, 2}, []int64{2, 1, 1}, impl.ErrNone},
		{pair, []int64{0, 1}, []int64{2, 1}, impl.ErrNone},
		{deep, []int64{7, 0, 3, 4, 5, 6}, []int64{0, 7, 4, 3, 2, 1}, impl.ErrNone},
		// Its own mirror.
		{middle, []int64{3, 3, 3, 3, 3, 3}, []int64{3, 3, 3, 3, 3, 3}, impl.ErrNone},
		{middle, []int64{3, 3, 3, 3, 3, 4}, []int64{3, 3, 3, 3, 3, 2}, impl.ErrNone},
	}
	for _, c := range cases {
		given := roomy(c.cuts)
		if got, code := impl.MirrorKey(c.maker, given); !slices.Equal(got, c.want) || code != c.code {
			t.Errorf("MirrorKey(%v, %v) = %v, %d, want %v, %d", c.maker, c.cuts, got, code, c.want, c.code)
		}
		checkKept(t, "MirrorKey", given, c.cuts)
	}
}

func TestReverseKey(t *testing.T) {
	cases := []cutsCase{
		{desk, []int64{0, 0, 1, 0}, []int64{0, 1, 0, 0}, impl.ErrNone},
		{desk, []int64{0, 1, 0, 0}, []int64{0, 0, 1, 0}, impl.ErrNone},
		{desk, []int64{1, 4, 2, 0}, []int64{0, 2, 4, 1}, impl.ErrNone},
		{strict, []int64{0, 1, 2, 3}, []int64{3, 2, 1, 0}, impl.ErrNone},
		{free, []int64{0, 1, 3}, []int64{3, 1, 0}, impl.ErrNone},
		{pair, []int64{1, 2}, []int64{2, 1}, impl.ErrNone},
		{deep, []int64{7, 0, 3, 4, 5, 6}, []int64{6, 5, 4, 3, 0, 7}, impl.ErrNone},
		// Its own reverse.
		{desk, []int64{0, 1, 1, 0}, []int64{0, 1, 1, 0}, impl.ErrNone},
		{desk, []int64{3, 0, 0, 3}, []int64{3, 0, 0, 3}, impl.ErrNone},
		{free, []int64{3, 1, 3}, []int64{3, 1, 3}, impl.ErrNone},
		{free, []int64{2, 2, 2}, []int64{2, 2, 2}, impl.ErrNone},
	}
	for _, c := range cases {
		given := roomy(c.cuts)
		if got, code := impl.ReverseKey(c.maker, given); !slices.Equal(got, c.want) || code != c.code {
			t.Errorf("ReverseKey(%v, %v) = %v, %d, want %v, %d", c.maker, c.cuts, got, code, c.want, c.code)
		}
		checkKept(t, "ReverseKey", given, c.cuts)
	}
}

func TestP3MirroredAndReversedKeysAreKeys(t *testing.T) {
	for _, m := range append(rankMakers(), smallMakers(4)...) {
		for _, key := range expectedKeys(m) {
			mirrored, code := impl.MirrorKey(m, key)
			if code != impl.ErrNone || !impl.IsKey(m, mirrored) || expectedFault(m, mirrored) != 0 {
				t.Fatalf("MirrorKey(%v, %v) = %v, %d", m, key, mirrored, code)
			}
			for i, cut := range mirrored {
				if cut+key[i] != m.Depths-1 {
					t.Fatalf("MirrorKey(%v, %v) = %v", m, key, mirrored)
				}
			}
			reversed, code := impl.ReverseKey(m, key)
			if code != impl.ErrNone || !impl.IsKey(m, reversed) || expectedFault(m, reversed) != 0 {
				t.Fatalf("ReverseKey(%v, %v) = %v, %d", m, key, reversed, code)
			}
			for i, cut := range slices.Backward(reversed) {
				if cut != key[len(key)-1-i] {
					t.Fatalf("ReverseKey(%v, %v) = %v", m, key, reversed)
				}
			}
		}
	}
}

func TestKeysNear(t *testing.T) {
	cases := []struct {
		maker impl.Maker
		key   []int64
		want  []int64
	}{
		{free, []int64{0, 0, 0}, []int64{1, 9, 27, 27}},
		{free, []int64{3, 1, 2}, []int64{1, 9, 27, 27}},
		{strict, []int64{0, 1, 2, 3}, []int64{1, 0, 0, 1, 2}},
		{pair, []int64{0, 1}, []int64{1, 1, 2}},
		{deep, []int64{7, 7, 7, 7, 7, 7}, []int64{1, 42, 735, 6860, 36015, 100842, 117649}},
		{impl.Maker{Chambers: 2, Depths: 2, Step: 1, Same: 1, Least: 1}, []int64{0, 1}, []int64{1, 0, 1}},
	}
	for _, c := range cases {
		for i, want := range c.want {
			given := roomy(c.key)
			if got, code := impl.KeysNear(c.maker, given, int64(i)); got != want || code != impl.ErrNone {
				t.Errorf("KeysNear(%v, %v, %d) = %d, %d, want %d", c.maker, c.key, i, got, code, want)
			}
			checkKept(t, "KeysNear", given, c.key)
		}
		for _, difference := range []int64{-1, -c.maker.Chambers, c.maker.Chambers + 1, impl.MaxChambers + 1, largest, smallest} {
			if got, code := impl.KeysNear(c.maker, c.key, difference); got != 0 || code != impl.ErrRange {
				t.Errorf("KeysNear(%v, %v, %d) = %d, %d", c.maker, c.key, difference, got, code)
			}
		}
	}
}

func TestKeysNearAllKeys(t *testing.T) {
	for _, m := range pairMakers() {
		keys := expectedKeys(m)
		for _, key := range keys {
			want := make([]int64, m.Chambers+1)
			for _, other := range keys {
				want[expectedDifference(key, other)]++
			}
			for difference := range m.Chambers + 1 {
				if got, code := impl.KeysNear(m, key, difference); got != want[difference] || code != impl.ErrNone {
					t.Fatalf("KeysNear(%v, %v, %d) = %d, %d, want %d", m, key, difference, got, code, want[difference])
				}
			}
		}
	}
}

func TestNearestKey(t *testing.T) {
	cases := []cutsCase{
		{desk, []int64{0, 0, 1, 0}, []int64{0, 0, 1, 1}, impl.ErrNone},
		{desk, []int64{4, 4, 3, 4}, []int64{3, 4, 3, 4}, impl.ErrNone},
		{strict, []int64{0, 1, 2, 3}, []int64{1, 2, 3, 4}, impl.ErrNone},
		{strict, []int64{1, 2, 3, 4}, []int64{0, 1, 2, 3}, impl.ErrNone},
		{strict, []int64{3, 2, 1, 0}, []int64{4, 3, 2, 1}, impl.ErrNone},
		{strict, []int64{4, 3, 2, 1}, []int64{3, 2, 1, 0}, impl.ErrNone},
		// Several have the same distance.
		{free, []int64{0, 0, 0}, []int64{0, 0, 1}, impl.ErrNone},
		{free, []int64{3, 3, 3}, []int64{2, 3, 3}, impl.ErrNone},
		{free, []int64{0, 3, 3}, []int64{0, 2, 3}, impl.ErrNone},
		{free, []int64{0, 0, 3}, []int64{0, 0, 2}, impl.ErrNone},
		{pair, []int64{0, 1}, []int64{1, 0}, impl.ErrNone},
		{pair, []int64{1, 0}, []int64{0, 1}, impl.ErrNone},
		{pair, []int64{1, 2}, []int64{0, 1}, impl.ErrNone},
		{pair, []int64{2, 1}, []int64{0, 1}, impl.ErrNone},
		// Its own mirror.
		{impl.Maker{Chambers: 2, Depths: 3, Step: 2, Same: 2, Least: 1}, []int64{1, 1}, []int64{0, 1}, impl.ErrNone},
		// The greatest distance to the nearest key that two chambers allow.
		{impl.Maker{Chambers: 2, Depths: 2, Step: 1, Same: 1, Least: 1}, []int64{0, 1}, []int64{1, 0}, impl.ErrNone},
		{impl.Maker{Chambers: 6, Depths: 2, Step: 1, Same: 1, Least: 1}, []int64{0, 1, 0, 1, 0, 1}, []int64{1, 0, 1, 0, 1, 0}, impl.ErrNone},
		{deep, []int64{0, 0, 0, 0, 0, 0}, []int64{0, 0, 0, 0, 0, 1}, impl.ErrNone},
		{deep, []int64{7, 7, 7, 7, 7, 7}, []int64{6, 7, 7, 7, 7, 7}, impl.ErrNone},
	}
	for _, c := range cases {
		given := roomy(c.cuts)
		if got, code := impl.NearestKey(c.maker, given); !slices.Equal(got, c.want) || code != c.code {
			t.Errorf("NearestKey(%v, %v) = %v, %d, want %v, %d", c.maker, c.cuts, got, code, c.want, c.code)
		}
		checkKept(t, "NearestKey", given, c.cuts)
	}
}

func TestNearestKeyOfAllKeys(t *testing.T) {
	for _, m := range pairMakers() {
		keys := expectedKeys(m)
		for i, key := range keys {
			// A stable order keeps the smallest one of several in front.
			others := slices.Delete(slices.Clone(keys), i, i+1)
			slices.SortStableFunc(others, func(a, b []int64) int {
				return int(expectedDistance(key, a) - expectedDistance(key, b))
			})
			if got, code := impl.NearestKey(m, key); !slices.Equal(got, others[0]) || code != impl.ErrNone {
				t.Fatalf("NearestKey(%v, %v) = %v, %d, want %v", m, key, got, code, others[0])
			}
		}
	}
}

// There is always another key, also for the makers with the fewest keys.
func TestEveryKeyHasANearestKey(t *testing.T) {
	for _, m := range smallMakers(impl.MaxChambers) {
		key, _ := impl.FirstKey(m)
		got, code := impl.NearestKey(m, key)
		if code != impl.ErrNone || !impl.IsKey(m, got) || slices.Equal(got, key) {
			t.Fatalf("NearestKey(%v, %v) = %v, %d", m, key, got, code)
		}
	}
}

// rankCalls returns all functions of the chapter that take keys, with their lists and numbers in
// one; those that take one key are called with the first one.
func rankCalls(difference int64) map[string]func(m impl.Maker, a, b []int64) ([]int64, int64) {
	number := func(n, code int64) ([]int64, int64) {
		if n != 0 {
			return []int64{n}, code
		}
		return nil, code
	}
	return map[string]func(m impl.Maker, a, b []int64) ([]int64, int64){
		"RankOf":       func(m impl.Maker, a, b []int64) ([]int64, int64) { return number(impl.RankOf(m, a)) },
		"DifferenceOf": func(m impl.Maker, a, b []int64) ([]int64, int64) { return number(impl.DifferenceOf(m, a, b)) },
		"DistanceOf":   func(m impl.Maker, a, b []int64) ([]int64, int64) { return number(impl.DistanceOf(m, a, b)) },
		"MirrorKey":    func(m impl.Maker, a, b []int64) ([]int64, int64) { return impl.MirrorKey(m, a) },
		"ReverseKey":   func(m impl.Maker, a, b []int64) ([]int64, int64) { return impl.ReverseKey(m, a) },
		"KeysNear":     func(m impl.Maker, a, b []int64) ([]int64, int64) { return number(impl.KeysNear(m, a, difference)) },
		"NearestKey":   func(m impl.Maker, a, b []int64) ([]int64, int64) { return impl.NearestKey(m, a) },
	}
}

func TestRanksRejectMakers(t *testing.T) {
	keys := append([][]int64{{0, 0, 1, 0}, {0, 1, 2, 3}}, badDeskKeys...)
	for _, m := range badMakers {
		for _, difference := range []int64{0, 1, -1, 7, largest} {
			for name, call := range rankCalls(difference) {
				for _, a := range keys {
					for _, b := range keys {
						if got, code := call(m, a, b); len(got) != 0 || code != impl.ErrInvalid {
							t.Fatalf("%s(%v, %v, %v) = %v, %d", name, m, a, b, got, code)
						}
					}
				}
			}
		}
		for _, rank := range []int64{0, 1, -1, 456, largest, smallest} {
			if got, code := impl.KeyAt(m, rank); len(got) != 0 || code != impl.ErrInvalid {
				t.Errorf("KeyAt(%v, %d) = %v, %d", m, rank, got, code)
			}
		}
	}
}

func TestRanksRejectKeys(t *testing.T) {
	good := []int64{0, 1, 2, 3}
	for _, bad := range badDeskKeys {
		for _, difference := range []int64{0, 1, 4, 5, -1, largest} {
			for name, call := range rankCalls(difference) {
				for _, second := range [][]int64{good, bad, {0, 0, 0, 0}, nil} {
					given := roomy(bad)
					if got, code := call(desk, given, second); len(got) != 0 || code != impl.ErrRange {
						t.Errorf("%s(desk, %v, %v) = %v, %d", name, bad, second, got, code)
					}
					checkKept(t, name, given, bad)
				}
			}
		}
		for _, name := range []string{"DifferenceOf", "DistanceOf"} {
			given := roomy(bad)
			if got, code := rankCalls(0)[name](desk, good, given); len(got) != 0 || code != impl.ErrRange {
				t.Errorf("%s(desk, %v, %v) = %v, %d", name, good, bad, got, code)
			}
			checkKept(t, name, given, bad)
		}
	}
	// A key of one maker may be none of another.
	for name, call := range rankCalls(1) {
		key := []int64{0, 0, 1, 0}
		if _, code := call(desk, key, key); code != impl.ErrNone {
			t.Errorf("%s(desk, %v, %v) has the code %d", name, key, key, code)
		}
		if got, code := call(strict, key, key); len(got) != 0 || code != impl.ErrRange {
			t.Errorf("%s(strict, %v, %v) = %v, %d", name, key, key, got, code)
		}
	}
}

// Results share no memory with an argument or with later results.
func TestResultsOfRanksAreNew(t *testing.T) {
	palindrome := []int64{0, 1, 1, 0}
	for _, name := range []string{"MirrorKey", "ReverseKey", "NearestKey"} {
		key := slices.Clone(palindrome)
		got, _ := rankCalls(0)[name](desk, key, nil)
		want := slices.Clone(got)
		fill(got[:cap(got)], 9)
		if !slices.Equal(key, palindrome) {
			t.Errorf("%s shares memory with its argument, which is now %v", name, key)
		}
		if again, _ := rankCalls(0)[name](desk, key, nil); !slices.Equal(again, want) {
			t.Errorf("%s returns %v after its result was changed, want %v", name, again, want)
		}
	}
	middle := impl.Maker{Chambers: 2, Depths: 3, Step: 2, Same: 2, Least: 1}
	own := []int64{1, 1}
	mirrored, _ := impl.MirrorKey(middle, own)
	fill(mirrored, 9)
	if !slices.Equal(own, []int64{1, 1}) {
		t.Errorf("MirrorKey returns its argument if it is its own mirror")
	}
	first, _ := impl.KeyAt(desk, 0)
	second, _ := impl.KeyAt(desk, 1)
	fill(first[:cap(first)], 9)
	if again, _ := impl.KeyAt(desk, 0); !slices.Equal(again, []int64{0, 0, 1, 0}) || !slices.Equal(second, []int64{0, 0, 1, 1}) {
		t.Errorf("KeyAt returns %v and %v after a result was changed", again, second)
	}
}
