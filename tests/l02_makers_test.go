package tests

import (
	"slices"
	"strings"
	"testing"

	"loop.example/g00947/impl"
)

// desk is the maker of the first desk of chapter 34, which tells the number of its keys.
var desk = impl.Maker{Chambers: 4, Depths: 5, Step: 3, Same: 2, Least: 2}

// free is a maker whose keys are all cuts.
var free = impl.Maker{Chambers: 3, Depths: 4, Step: 3, Same: 3, Least: 1}

// strict is a maker with few keys: steps of 1 without equal cuts, and four different ones.
var strict = impl.Maker{Chambers: 4, Depths: 5, Step: 1, Same: 1, Least: 4}

// badMakers are not valid: each breaks one range at one end, or several.
var badMakers = []impl.Maker{
	{},
	{Chambers: 1, Depths: 5, Step: 3, Same: 1, Least: 1},
	{Chambers: 7, Depths: 5, Step: 3, Same: 2, Least: 2},
	{Chambers: 0, Depths: 5, Step: 3, Same: 0, Least: 0},
	{Chambers: -4, Depths: 5, Step: 3, Same: 1, Least: 1},
	{Chambers: 4, Depths: 1, Step: 1, Same: 2, Least: 1},
	{Chambers: 4, Depths: 1, Step: 0, Same: 2, Least: 1},
	{Chambers: 4, Depths: 9, Step: 3, Same: 2, Least: 2},
	{Chambers: 4, Depths: -5, Step: 3, Same: 2, Least: 2},
	{Chambers: 4, Depths: 5, Step: 0, Same: 2, Least: 2},
	{Chambers: 4, Depths: 5, Step: 5, Same: 2, Least: 2},
	{Chambers: 4, Depths: 5, Step: -1, Same: 2, Least: 2},
	{Chambers: 4, Depths: 5, Step: 3, Same: 0, Least: 2},
	{Chambers: 4, Depths: 5, Step: 3, Same: 5, Least: 2},
	{Chambers: 4, Depths: 5, Step: 3, Same: -2, Least: 2},
	{Chambers: 4, Depths: 5, Step: 3, Same: 2, Least: 0},
	{Chambers: 4, Depths: 5, Step: 3, Same: 2, Least: 5},
	{Chambers: 6, Depths: 3, Step: 2, Same: 2, Least: 4},
	{Chambers: 4, Depths: 5, Step: 3, Same: 2, Least: -1},
	{Chambers: smallest, Depths: smallest, Step: smallest, Same: smallest, Least: smallest},
	{Chambers: largest, Depths: largest, Step: largest, Same: largest, Least: largest},
	{Chambers: 4, Depths: smallest, Step: 3, Same: 2, Least: 2},
	{Chambers: 4, Depths: smallest, Step: largest, Same: 2, Least: 1},
	{Chambers: 4, Depths: 5, Step: largest, Same: 2, Least: 2},
	{Chambers: 4, Depths: 5, Step: smallest, Same: 2, Least: 2},
	{Chambers: 4, Depths: 5, Step: 3, Same: largest, Least: 2},
	{Chambers: 4, Depths: 5, Step: 3, Same: 2, Least: largest},
	{Chambers: 4, Depths: 5, Step: 3, Same: 2, Least: smallest},
}

// makersOf returns all valid makers with some chambers and depths.
func makersOf(chambers, depths int64) []impl.Maker {
	var makers []impl.Maker
	for step := int64(1); step < depths; step++ {
		for same := int64(1); same <= chambers; same++ {
			for least := int64(1); least <= min(chambers, depths); least++ {
				makers = append(makers, impl.Maker{Chambers: chambers, Depths: depths, Step: step, Same: same, Least: least})
			}
		}
	}
	return makers
}

// smallMakers returns all valid makers with at most so many chambers.
func smallMakers(chambers int64) []impl.Maker {
	var makers []impl.Maker
	for c := int64(2); c <= chambers; c++ {
		for d := int64(2); d <= impl.MaxDepths; d++ {
			makers = append(makers, makersOf(c, d)...)
		}
	}
	return makers
}

// allCuts returns all lists of depths in lexicographic order.
func allCuts(chambers, depths int64) [][]int64 {
	lists := [][]int64{{}}
	for range chambers {
		var longer [][]int64
		for _, list := range lists {
			for cut := range depths {
				longer = append(longer, append(slices.Clone(list), cut))
			}
		}
		lists = longer
	}
	return lists
}

// measures returns the greatest difference of neighbours, the greatest number of equal cuts that
// follow one another, and the number of different cuts.
func measures(cuts []int64) (step, same, different int64) {
	seen := map[int64]bool{}
	for i := range cuts {
		seen[cuts[i]] = true
		equal := int64(0)
		for j := i; j < len(cuts) && cuts[j] == cuts[i]; j++ {
			equal++
		}
		same = max(same, equal)
		if i > 0 {
			step = max(step, cuts[i]-cuts[i-1], cuts[i-1]-cuts[i])
		}
	}
	return step, same, int64(len(seen))
}

// expectedFault finds the first broken rule for cuts that keep the rules 1 and 2.
func expectedFault(m impl.Maker, cuts []int64) int64 {
	step, same, different := measures(cuts)
	switch {
	case step > m.Step:
		return 3
	case same > m.Same:
		return 4
	case different < m.Least:
		return 5
	}
	return 0
}

// expectedKeys returns all keys of a maker, chosen from all cuts.
func expectedKeys(m impl.Maker) [][]int64 {
	var keys [][]int64
	for _, cuts := range allCuts(m.Chambers, m.Depths) {
		if expectedFault(m, cuts) == 0 {
			keys = append(keys, cuts)
		}
	}
	return keys
}

func sameLists(a, b [][]int64) bool {
	return slices.EqualFunc(a, b, slices.Equal[[]int64])
}

func TestConstantsOfMakers(t *testing.T) {
	got := []int64{impl.MaxChambers, impl.MaxDepths, impl.MaxKeys}
	if want := []int64{6, 8, 300}; !slices.Equal(got, want) {
		t.Errorf("constants are %v, want %v", got, want)
	}
}

func TestIsMaker(t *testing.T) {
	good := []impl.Maker{
		desk, free, strict,
		{Chambers: 2, Depths: 2, Step: 1, Same: 1, Least: 1},
		{Chambers: 2, Depths: 2, Step: 1, Same: 2, Least: 2},
		{Chambers: 2, Depths: 8, Step: 7, Same: 2, Least: 2},
		{Chambers: 6, Depths: 2, Step: 1, Same: 6, Least: 2},
		{Chambers: 6, Depths: 8, Step: 1, Same: 1, Least: 1},
		{Chambers: 6, Depths: 8, Step: 7, Same: 6, Least: 6},
		{Chambers: 6, Depths: 3, Step: 2, Same: 1, Least: 3},
	}
	for _, m := range good {
		if !impl.IsMaker(m) {
			t.Errorf("IsMaker(%v) is false", m)
		}
	}
	for _, m := range badMakers {
		if impl.IsMaker(m) {
			t.Errorf("IsMaker(%v) is true", m)
		}
	}
}

// Every combination of fields around their ranges is compared with the ranges of the document.
func TestIsMakerForAllFieldsNearTheirRanges(t *testing.T) {
	count := 0
	for n := range int64(9 * 11 * 11 * 9 * 9) {
		m := impl.Maker{Chambers: n % 9, Depths: n / 9 % 11, Step: n/99%11 - 1, Same: n / 1089 % 9, Least: n / 9801 % 9}
		want := m.Chambers >= 2 && m.Chambers <= 6 && m.Depths >= 2 && m.Depths <= 8 &&
			m.Step >= 1 && m.Step <= m.Depths-1 && m.Same >= 1 && m.Same <= m.Chambers &&
			m.Least >= 1 && m.Least <= m.Chambers && m.Least <= m.Depths
		if got := impl.IsMaker(m); got != want {
			t.Fatalf("IsMaker(%v) = %v", m, got)
		}
		if want {
			count++
		}
	}
	if made := len(smallMakers(impl.MaxChambers)); count != made {
		t.Errorf("%d makers are valid, want %d", count, made)
	}
}

// Nothing but ErrInvalid and zero values comes from a maker that is not valid, whatever the other
// arguments are.
func TestInvalidMakers(t *testing.T) {
	lists := [][]int64{nil, {}, {0}, {0, 1, 0, 1}, {9, 9, 9, 9}, {-1}, filled(101, 0), {smallest, largest, smallest, largest}}
	for _, m := range badMakers {
		for _, cuts := range lists {
			if fault, code := impl.KeyFault(m, cuts); fault != 0 || code != impl.ErrInvalid {
				t.Errorf("KeyFault(%v, %v) = %d, %d", m, cuts, fault, code)
			}
			if impl.IsKey(m, cuts) {
				t.Errorf("IsKey(%v, %v) is true", m, cuts)
			}
			if key, code := impl.NextKey(m, cuts); len(key) != 0 || code != impl.ErrInvalid {
				t.Errorf("NextKey(%v, %v) = %v, %d", m, cuts, key, code)
			}
			if s, code := impl.KeyText(m, cuts); s != "" || code != impl.ErrInvalid {
				t.Errorf("KeyText(%v, %v) = %q, %d", m, cuts, s, code)
			}
		}
		for _, n := range []int64{0, 1, impl.MaxKeys, -1, impl.MaxKeys + 1, smallest, largest} {
			if keys, code := impl.FirstKeys(m, n); len(keys) != 0 || code != impl.ErrInvalid {
				t.Errorf("FirstKeys(%v, %d) = %v, %d", m, n, keys, code)
			}
		}
		for _, s := range []string{"", "0101", "0", "x", strings.Repeat("0", 1000)} {
			if key, code := impl.ReadKey(m, s); len(key) != 0 || code != impl.ErrInvalid {
				t.Errorf("ReadKey(%v, %q) = %v, %d", m, s, key, code)
			}
		}
		if count, code := impl.CountKeys(m); count != 0 || code != impl.ErrInvalid {
			t.Errorf("CountKeys(%v) = %d, %d", m, count, code)
		}
		if key, code := impl.FirstKey(m); len(key) != 0 || code != impl.ErrInvalid {
			t.Errorf("FirstKey(%v) = %v, %d", m, key, code)
		}
	}
}

// faultCase is a list of cuts with the first rule that it does not keep.
type faultCase struct {
	maker impl.Maker
	cuts  []int64
	want  int64
}

func TestKeyFault(t *testing.T) {
	narrow := impl.Maker{Chambers: 4, Depths: 5, Step: 3, Same: 2, Least: 3}
	all := impl.Maker{Chambers: 6, Depths: 8, Step: 7, Same: 6, Least: 6}
	cases := []faultCase{
		{desk, []int64{0, 0, 1, 1}, 0},
		{desk, []int64{0, 3, 0, 3}, 0},
		{desk, []int64{4, 1, 4, 4}, 0},
		{narrow, []int64{1, 1, 2, 3}, 0},
		{all, []int64{7, 0, 6, 1, 5, 2}, 0},
		// Each rule broken alone.
		{desk, nil, 1},
		{desk, []int64{}, 1},
		{desk, []int64{0, 1, 0}, 1},
		{desk, []int64{0, 1, 0, 1, 0}, 1},
		{desk, filled(101, 1), 1},
		{desk, []int64{-1, 1, 1, 0}, 2},
		{desk, []int64{1, 2, 3, 5}, 2},
		{desk, []int64{0, 4, 3, 3}, 3},
		{desk, []int64{3, 3, 4, 0}, 3},
		{desk, []int64{1, 4, 0, 1}, 3},
		{desk, []int64{0, 0, 0, 1}, 4},
		{desk, []int64{1, 0, 0, 0}, 4},
		{narrow, []int64{1, 1, 2, 2}, 5},
		{narrow, []int64{1, 2, 1, 2}, 5},
		{all, []int64{7, 0, 6, 1, 5, 7}, 5},
		// Several rules broken together.
		{desk, []int64{-1, 5, 5, 5, 5}, 1},
		{desk, []int64{0, 4, 9}, 1},
		{desk, []int64{0, 0, 0}, 1},
		{desk, []int64{5, 0, 0, 0}, 2},
		{desk, []int64{0, 0, 0, -1}, 2},
		{desk, []int64{9, 9, 9, 9}, 2},
		{desk, []int64{smallest, largest, smallest, largest}, 2},
		{desk, []int64{0, largest, 0, largest}, 2},
		{desk, filled(4, smallest), 2},
		{desk, []int64{0, 0, 0, 4}, 3},
		{narrow, []int64{4, 4, 4, 0}, 3},
		{narrow, []int64{0, 4, 0, 4}, 3},
		{desk, []int64{2, 2, 2, 2}, 4},
		{narrow, []int64{1, 1, 1, 2}, 4},
	}
	for _, c := range cases {
		given := roomy(c.cuts)
		if got, code := impl.KeyFault(c.maker, given); got != c.want || code != impl.ErrNone {
			t.Errorf("KeyFault(%v, %v) = %d, %d, want %d", c.maker, c.cuts, got, code, c.want)
		}
		if got := impl.IsKey(c.maker, given); got != (c.want == 0) {
			t.Errorf("IsKey(%v, %v) = %v", c.maker, c.cuts, got)
		}
		checkKept(t, "KeyFault", given, c.cuts)
	}
}

// Same and Least are looked at from their smallest to their greatest values.
func TestKeyFaultForSameAndLeast(t *testing.T) {
	runs := map[int64][]int64{1: {0, 1, 0, 1, 0, 1}, 2: {1, 0, 0, 1, 0, 1}, 3: {0, 1, 0, 1, 1, 1},
		4: {1, 0, 0, 0, 0, 1}, 5: {0, 0, 0, 0, 0, 1}, 6: {1, 1, 1, 1, 1, 1}}
	for run, cuts := range runs {
		for same := int64(1); same <= 6; same++ {
			m := impl.Maker{Chambers: 6, Depths: 8, Step: 7, Same: same, Least: 1}
			if got := impl.IsKey(m, cuts); got != (run <= same) {
				t.Errorf("IsKey(%v, %v) = %v", m, cuts, got)
			}
		}
	}
	different := map[int64][]int64{1: {7, 7, 7, 7, 7, 7}, 2: {7, 0, 7, 0, 7, 0}, 3: {1, 2, 1, 3, 2, 1},
		4: {5, 5, 6, 0, 1, 1}, 5: {0, 1, 2, 3, 4, 0}, 6: {2, 3, 4, 5, 6, 7}}
	for number, cuts := range different {
		for least := int64(1); least <= 6; least++ {
			m := impl.Maker{Chambers: 6, Depths: 8, Step: 7, Same: 6, Least: least}
			if got := impl.IsKey(m, cuts); got != (number >= least) {
				t.Errorf("IsKey(%v, %v) = %v", m, cuts, got)
			}
		}
	}
}

func TestKeyFaultOfAllCuts(t *testing.T) {
	for _, m := range smallMakers(4) {
		for _, cuts := range allCuts(m.Chambers, m.Depths) {
			want := expectedFault(m, cuts)
			if got, code := impl.KeyFault(m, cuts); got != want || code != impl.ErrNone {
				t.Fatalf("KeyFault(%v, %v) = %d, %d, want %d", m, cuts, got, code, want)
			}
		}
	}
}

func TestCountKeys(t *testing.T) {
	cases := []struct {
		maker impl.Maker
		want  int64
	}{
		{desk, 456},
		{free, 64},
		{strict, 4},
		{impl.Maker{Chambers: 2, Depths: 2, Step: 1, Same: 1, Least: 1}, 2},
		{impl.Maker{Chambers: 2, Depths: 2, Step: 1, Same: 2, Least: 1}, 4},
		{impl.Maker{Chambers: 2, Depths: 2, Step: 1, Same: 2, Least: 2}, 2},
		{impl.Maker{Chambers: 6, Depths: 8, Step: 7, Same: 6, Least: 1}, 262144},
		{impl.Maker{Chambers: 6, Depths: 8, Step: 7, Same: 5, Least: 1}, 262136},
		{impl.Maker{Chambers: 6, Depths: 8, Step: 7, Same: 6, Least: 2}, 262136},
		{impl.Maker{Chambers: 6, Depths: 8, Step: 7, Same: 1, Least: 1}, 134456},
		{impl.Maker{Chambers: 6, Depths: 8, Step: 7, Same: 6, Least: 6}, 20160},
		{impl.Maker{Chambers: 6, Depths: 8, Step: 1, Same: 1, Least: 6}, 6},
		{impl.Maker{Chambers: 6, Depths: 2, Step: 1, Same: 1, Least: 2}, 2},
	}
	for _, c := range cases {
		if got, code := impl.CountKeys(c.maker); got != c.want || code != impl.ErrNone {
			t.Errorf("CountKeys(%v) = %d, %d, want %d", c.maker, got, code, c.want)
		}
	}
}

// Cuts are sorted by what the rules ask for, so that the keys of every maker can be counted.
func TestCountKeysOfAllMakers(t *testing.T) {
	for chambers := int64(2); chambers <= impl.MaxChambers; chambers++ {
		for depths := int64(2); depths <= impl.MaxDepths; depths++ {
			cutsWith := map[[3]int64]int64{}
			for _, cuts := range allCuts(chambers, depths) {
				step, same, different := measures(cuts)
				cutsWith[[3]int64{step, same, different}]++
			}
			for _, m := range makersOf(chambers, depths) {
				want := int64(0)
				for measure, count := range cutsWith {
					if measure[0] <= m.Step && measure[1] <= m.Same && measure[2] >= m.Least {
						want += count
					}
				}
				if got, code := impl.CountKeys(m); got != want || code != impl.ErrNone {
					t.Fatalf("CountKeys(%v) = %d, %d, want %d", m, got, code, want)
				}
			}
		}
	}
}

// cutsCase is a call that returns cuts and a code.
type cutsCase struct {
	maker impl.Maker
	cuts  []int64
	want  []int64
	code  int64
}

func TestNextKey(t *testing.T) {
	cases := []cutsCase{
		{desk, []int64{0, 0, 1, 0}, []int64{0, 0, 1, 1}, impl.ErrNone},
		{desk, []int64{0, 0, 1, 1}, []int64{0, 0, 1, 2}, impl.ErrNone},
		{desk, []int64{0, 0, 1, 4}, []int64{0, 0, 2, 0}, impl.ErrNone},
		{desk, []int64{0, 3, 4, 4}, []int64{1, 0, 0, 1}, impl.ErrNone},
		{desk, []int64{4, 4, 3, 3}, []int64{4, 4, 3, 4}, impl.ErrNone},
		// Cuts that keep the rules 1 and 2 but are no key.
		{desk, []int64{0, 0, 0, 0}, []int64{0, 0, 1, 0}, impl.ErrNone},
		{desk, []int64{0, 4, 0, 4}, []int64{1, 0, 0, 1}, impl.ErrNone},
		{desk, []int64{2, 2, 2, 2}, []int64{2, 2, 3, 0}, impl.ErrNone},
		{desk, []int64{1, 4, 0, 0}, []int64{1, 4, 1, 0}, impl.ErrNone},
		{strict, []int64{0, 0, 0, 0}, []int64{0, 1, 2, 3}, impl.ErrNone},
		{strict, []int64{1, 2, 3, 0}, []int64{1, 2, 3, 4}, impl.ErrNone},
		{strict, []int64{2, 0, 0, 0}, []int64{3, 2, 1, 0}, impl.ErrNone},
		{free, []int64{0, 3, 3}, []int64{1, 0, 0}, impl.ErrNone},
		// The last key and what is behind it.
		{desk, []int64{4, 4, 3, 4}, nil, impl.ErrNotFound},
		{desk, []int64{4, 4, 4, 4}, nil, impl.ErrNotFound},
		{desk, []int64{4, 4, 4, 0}, nil, impl.ErrNotFound},
		{strict, []int64{4, 3, 2, 1}, nil, impl.ErrNotFound},
		{strict, []int64{4, 3, 2, 2}, nil, impl.ErrNotFound},
		{free, []int64{3, 3, 3}, nil, impl.ErrNotFound},
		// The rules 1 and 2 broken.
		{desk, nil, nil, impl.ErrRange},
		{desk, []int64{0, 0, 1}, nil, impl.ErrRange},
		{desk, []int64{0, 0, 1, 0, 0}, nil, impl.ErrRange},
		{desk, []int64{4, 4, 3, 4, 0}, nil, impl.ErrRange},
		{desk, filled(101, 1), nil, impl.ErrRange},
		{desk, []int64{0, 0, 1, 5}, nil, impl.ErrRange},
		{desk, []int64{-1, 0, 1, 0}, nil, impl.ErrRange},
		{desk, []int64{5, 5, 5, 5}, nil, impl.ErrRange},
		{desk, []int64{4, 4, 4, 5}, nil, impl.ErrRange},
		{desk, filled(4, largest), nil, impl.ErrRange},
		{desk, filled(4, smallest), nil, impl.ErrRange},
	}
	for _, c := range cases {
		given := roomy(c.cuts)
		if got, code := impl.NextKey(c.maker, given); !slices.Equal(got, c.want) || code != c.code {
			t.Errorf("NextKey(%v, %v) = %v, %d, want %v, %d", c.maker, c.cuts, got, code, c.want, c.code)
		}
		checkKept(t, "NextKey", given, c.cuts)
	}
}

// checkNextKeys compares NextKey from all cuts of a maker with the keys chosen from all cuts.
func checkNextKeys(t *testing.T, m impl.Maker) {
	t.Helper()
	var want []int64
	wantCode := int64(impl.ErrNotFound)
	for _, cuts := range slices.Backward(allCuts(m.Chambers, m.Depths)) {
		if got, code := impl.NextKey(m, cuts); !slices.Equal(got, want) || code != wantCode {
			t.Fatalf("NextKey(%v, %v) = %v, %d, want %v, %d", m, cuts, got, code, want, wantCode)
		}
		if expectedFault(m, cuts) == 0 {
			want, wantCode = cuts, impl.ErrNone
		}
	}
}

func TestNextKeyFromAllCuts(t *testing.T) {
	for _, m := range smallMakers(4) {
		checkNextKeys(t, m)
	}
	for _, m := range []impl.Maker{
		{Chambers: 5, Depths: 6, Step: 2, Same: 2, Least: 4},
		{Chambers: 6, Depths: 5, Step: 1, Same: 2, Least: 4},
		{Chambers: 6, Depths: 4, Step: 3, Same: 1, Least: 4},
		{Chambers: 6, Depths: 5, Step: 4, Same: 6, Least: 1},
	} {
		checkNextKeys(t, m)
	}
}

func TestFirstKey(t *testing.T) {
	cases := []struct {
		maker impl.Maker
		want  []int64
	}{
		{desk, []int64{0, 0, 1, 0}},
		{free, []int64{0, 0, 0}},
		{strict, []int64{0, 1, 2, 3}},
		{impl.Maker{Chambers: 2, Depths: 2, Step: 1, Same: 1, Least: 1}, []int64{0, 1}},
		{impl.Maker{Chambers: 6, Depths: 8, Step: 7, Same: 6, Least: 6}, []int64{0, 1, 2, 3, 4, 5}},
		{impl.Maker{Chambers: 6, Depths: 8, Step: 7, Same: 6, Least: 3}, []int64{0, 0, 0, 0, 1, 2}},
		{impl.Maker{Chambers: 6, Depths: 2, Step: 1, Same: 5, Least: 2}, []int64{0, 0, 0, 0, 0, 1}},
		{impl.Maker{Chambers: 6, Depths: 4, Step: 1, Same: 1, Least: 4}, []int64{0, 1, 0, 1, 2, 3}},
	}
	for _, c := range cases {
		if got, code := impl.FirstKey(c.maker); !slices.Equal(got, c.want) || code != impl.ErrNone {
			t.Errorf("FirstKey(%v) = %v, %d, want %v", c.maker, got, code, c.want)
		}
	}
}

func TestEveryMakerHasAFirstKey(t *testing.T) {
	for _, m := range smallMakers(impl.MaxChambers) {
		key, code := impl.FirstKey(m)
		if code != impl.ErrNone || int64(len(key)) != m.Chambers || expectedFault(m, key) != 0 {
			t.Fatalf("FirstKey(%v) = %v, %d", m, key, code)
		}
		next, code := impl.NextKey(m, filled(int(m.Chambers), 0))
		isLeast := slices.Equal(key, filled(int(m.Chambers), 0))
		if !isLeast && (code != impl.ErrNone || !slices.Equal(key, next)) {
			t.Fatalf("FirstKey(%v) = %v, but the next key from the least cuts is %v, %d", m, key, next, code)
		}
	}
}

func TestFirstKeys(t *testing.T) {
	keys, code := impl.FirstKeys(desk, 3)
	if want := [][]int64{{0, 0, 1, 0}, {0, 0, 1, 1}, {0, 0, 1, 2}}; !sameLists(keys, want) || code != impl.ErrNone {
		t.Errorf("FirstKeys(desk, 3) = %v, %d", keys, code)
	}
	for _, m := range []impl.Maker{desk, free, strict, {Chambers: 6, Depths: 5, Step: 1, Same: 2, Least: 4}} {
		all := expectedKeys(m)
		for _, n := range []int64{0, 1, 2, 3, 4, 5, 63, 64, 65, impl.MaxKeys - 1, impl.MaxKeys} {
			want := all[:min(n, int64(len(all)))]
			if got, code := impl.FirstKeys(m, n); !sameLists(got, want) || code != impl.ErrNone {
				t.Errorf("FirstKeys(%v, %d) = %v, %d, want %v", m, n, got, code, want)
			}
		}
		for _, n := range []int64{-1, impl.MaxKeys + 1, smallest, largest} {
			if got, code := impl.FirstKeys(m, n); len(got) != 0 || code != impl.ErrRange {
				t.Errorf("FirstKeys(%v, %d) = %v, %d", m, n, got, code)
			}
		}
	}
}

func TestP2AllKeysAreFoundByGoingOn(t *testing.T) {
	makers := append(smallMakers(4),
		impl.Maker{Chambers: 5, Depths: 8, Step: 7, Same: 5, Least: 1},
		impl.Maker{Chambers: 5, Depths: 8, Step: 2, Same: 1, Least: 5},
		impl.Maker{Chambers: 6, Depths: 8, Step: 7, Same: 6, Least: 1},
		impl.Maker{Chambers: 6, Depths: 8, Step: 7, Same: 1, Least: 6},
		impl.Maker{Chambers: 6, Depths: 8, Step: 1, Same: 1, Least: 6},
		impl.Maker{Chambers: 6, Depths: 7, Step: 3, Same: 2, Least: 3},
	)
	for _, m := range makers {
		found := int64(0)
		var last []int64
		key, code := impl.FirstKey(m)
		for code == impl.ErrNone {
			found++
			if int64(len(key)) != m.Chambers || slices.Min(key) < 0 || slices.Max(key) >= m.Depths || expectedFault(m, key) != 0 {
				t.Fatalf("%v has the key %v, which breaks a rule", m, key)
			}
			if found > 1 && slices.Compare(last, key) >= 0 {
				t.Fatalf("%v has the key %v after %v", m, key, last)
			}
			last = key
			key, code = impl.NextKey(m, key)
		}
		count, countCode := impl.CountKeys(m)
		if code != impl.ErrNotFound || countCode != impl.ErrNone || found != count {
			t.Fatalf("%v: %d keys are found, want %d; codes %d and %d", m, found, count, code, countCode)
		}
	}
}

func TestKeyText(t *testing.T) {
	deep := impl.Maker{Chambers: 6, Depths: 8, Step: 7, Same: 6, Least: 1}
	cases := []struct {
		maker impl.Maker
		cuts  []int64
		want  string
		code  int64
	}{
		{desk, []int64{0, 0, 1, 0}, "0010", impl.ErrNone},
		{desk, []int64{4, 4, 3, 4}, "4434", impl.ErrNone},
		{deep, []int64{7, 6, 5, 4, 3, 2}, "765432", impl.ErrNone},
		{deep, []int64{0, 0, 0, 0, 0, 0}, "000000", impl.ErrNone},
		{deep, []int64{7, 7, 7, 7, 7, 7}, "777777", impl.ErrNone},
		{desk, nil, "", impl.ErrRange},
		{desk, []int64{0, 0, 1}, "", impl.ErrRange},
		{desk, []int64{0, 0, 1, 0, 0}, "", impl.ErrRange},
		{desk, []int64{0, 0, 1, -1}, "", impl.ErrRange},
		{desk, []int64{3, 3, 4, 5}, "", impl.ErrRange},
		{desk, []int64{0, 4, 0, 4}, "", impl.ErrRange},
		{desk, []int64{0, 0, 0, 1}, "", impl.ErrRange},
		{desk, []int64{2, 2, 2, 2}, "", impl.ErrRange},
		{strict, []int64{0, 1, 2, 1}, "", impl.ErrRange},
		{desk, []int64{smallest, largest, 0, 0}, "", impl.ErrRange},
		{desk, filled(101, 0), "", impl.ErrRange},
	}
	for _, c := range cases {
		given := roomy(c.cuts)
		if got, code := impl.KeyText(c.maker, given); got != c.want || code != c.code {
			t.Errorf("KeyText(%v, %v) = %q, %d, want %q, %d", c.maker, c.cuts, got, code, c.want, c.code)
		}
		checkKept(t, "KeyText", given, c.cuts)
	}
}

func TestReadKey(t *testing.T) {
	for _, s := range []string{"0010", "4434", "0303", "1234"} {
		want := make([]int64, len(s))
		for i := range want {
			want[i] = int64(s[i] - '0')
		}
		if got, code := impl.ReadKey(desk, s); !slices.Equal(got, want) || code != impl.ErrNone {
			t.Errorf("ReadKey(desk, %q) = %v, %d, want %v", s, got, code, want)
		}
	}
	bad := []string{
		// Too short or too long.
		"", "0", "001", "00100", "0010 ", " 0010", "0010\n", "0010\x00", "+0010", "00010", strings.Repeat("0010", 100),
		// Other characters than digits.
		"001 ", " 010", "001x", "00-1", "+010", "00.0", "001\x00", "001\xff", "0,1,", "00 1", "001/", "001:", "é10", "00é", "1é1", "x", "0x10",
		"\u0660\u0660\u0661\u0660", "\u06601\u0660",
		// Digits that are no key.
		"0015", "5010", "0019", "9999", "0404", "1400", "0001", "1000", "2222", "0000",
	}
	for _, s := range bad {
		if got, code := impl.ReadKey(desk, s); len(got) != 0 || code != impl.ErrSyntax {
			t.Errorf("ReadKey(desk, %q) = %v, %d", s, got, code)
		}
	}
	// The digits of a maker end at its own depths.
	deep := impl.Maker{Chambers: 2, Depths: 8, Step: 7, Same: 2, Least: 1}
	for _, s := range []string{"80", "08", "89", "97"} {
		if got, code := impl.ReadKey(deep, s); len(got) != 0 || code != impl.ErrSyntax {
			t.Errorf("ReadKey(deep, %q) = %v, %d", s, got, code)
		}
	}
}

// Every pair of bytes is read as a key, or rejected.
func TestReadKeyOfAllBytes(t *testing.T) {
	m := impl.Maker{Chambers: 2, Depths: 8, Step: 7, Same: 2, Least: 1}
	for n := range 256 * 256 {
		s := string([]byte{byte(n / 256), byte(n % 256)})
		want := []int64{int64(n/256) - '0', int64(n%256) - '0'}
		wantCode := int64(impl.ErrNone)
		if strings.Trim(s, "01234567") != "" {
			want, wantCode = nil, impl.ErrSyntax
		}
		if got, code := impl.ReadKey(m, s); !slices.Equal(got, want) || code != wantCode {
			t.Fatalf("ReadKey(%v, %q) = %v, %d, want %v, %d", m, s, got, code, want, wantCode)
		}
	}
}

func TestP1KeyIsRecoveredFromText(t *testing.T) {
	makers := append(smallMakers(3), desk, strict,
		impl.Maker{Chambers: 5, Depths: 8, Step: 3, Same: 2, Least: 2},
		impl.Maker{Chambers: 6, Depths: 8, Step: 2, Same: 2, Least: 5},
		impl.Maker{Chambers: 6, Depths: 3, Step: 2, Same: 6, Least: 1},
	)
	for _, m := range makers {
		texts := map[string]bool{}
		for _, key := range expectedKeys(m) {
			s, code := impl.KeyText(m, key)
			if code != impl.ErrNone || int64(len(s)) != m.Chambers || texts[s] {
				t.Fatalf("KeyText(%v, %v) = %q, %d", m, key, s, code)
			}
			texts[s] = true
			if got, code := impl.ReadKey(m, s); !slices.Equal(got, key) || code != impl.ErrNone {
				t.Fatalf("ReadKey(%v, %q) = %v, %d, want %v", m, s, got, code, key)
			}
		}
	}
}

// Only what KeyText returns for a key is read: every text of digits is one or is rejected.
func TestP1OnlyTextsOfKeysAreRead(t *testing.T) {
	for _, m := range []impl.Maker{desk, strict} {
		for n := range int64(10000) {
			s := string([]byte{byte('0' + n/1000), byte('0' + n/100%10), byte('0' + n/10%10), byte('0' + n%10)})
			key, code := impl.ReadKey(m, s)
			if code == impl.ErrSyntax && len(key) == 0 {
				if impl.IsKey(m, []int64{n / 1000, n / 100 % 10, n / 10 % 10, n % 10}) {
					t.Fatalf("ReadKey(%v, %q) rejects a key", m, s)
				}
				continue
			}
			if again, textCode := impl.KeyText(m, key); code != impl.ErrNone || textCode != impl.ErrNone || again != s {
				t.Fatalf("ReadKey(%v, %q) = %v, %d, with the text %q", m, s, key, code, again)
			}
		}
	}
}

// Results share no memory with an argument, with one another or with later results.
func TestResultsOfMakersAreNew(t *testing.T) {
	cuts := []int64{0, 0, 1, 0}
	next, _ := impl.NextKey(desk, cuts)
	fill(next[:cap(next)], 9)
	if want := []int64{0, 0, 1, 0}; !slices.Equal(cuts, want) {
		t.Errorf("NextKey shares memory with its argument, which is now %v", cuts)
	}
	first, _ := impl.FirstKey(desk)
	fill(first[:cap(first)], 9)
	if again, _ := impl.FirstKey(desk); !slices.Equal(again, []int64{0, 0, 1, 0}) {
		t.Errorf("FirstKey returns %v after its result was changed", again)
	}
	read, _ := impl.ReadKey(desk, "0010")
	fill(read[:cap(read)], 9)
	if again, _ := impl.ReadKey(desk, "0010"); !slices.Equal(again, []int64{0, 0, 1, 0}) {
		t.Errorf("ReadKey returns %v after its result was changed", again)
	}
	keys, _ := impl.FirstKeys(desk, 3)
	fill(keys[1][:cap(keys[1])], 9)
	if !slices.Equal(keys[0], []int64{0, 0, 1, 0}) || !slices.Equal(keys[2], []int64{0, 0, 1, 2}) {
		t.Errorf("FirstKeys returns keys that share memory: %v", keys)
	}
}
