package tests

import (
	"slices"
	"testing"

	"loop.example/g00947/impl"
)

// sideCase has the arguments that most functions of side codes begin with.
type sideCase struct {
	sides, values, distance int64
}

// Numbers that are no sides, no values, and no least distances of any system.
var (
	badSides     = []int64{0, -1, 6, -5, 7, 100, 1<<32 + 3, -1 << 32, smallest, smallest + 3, largest, largest - 1}
	badValues    = []int64{1, 0, -1, 6, -2, -5, 7, 100, 1<<32 + 3, -1 << 32, smallest, smallest + 3, largest, largest - 1}
	badDistances = []int64{0, -1, 6, -5, 7, 100, 1<<32 + 1, -1 << 32, smallest, smallest + 1, largest, largest - 1}
)

// sideCases returns all systems with all of their least distances.
func sideCases() []sideCase {
	var cases []sideCase
	for sides := int64(1); sides <= impl.MaxSides; sides++ {
		for values := int64(2); values <= impl.MaxSideValues; values++ {
			for distance := int64(1); distance <= sides; distance++ {
				cases = append(cases, sideCase{sides, values, distance})
			}
		}
	}
	return cases
}

// expectedCodes returns all side codes in order: those of one side less, each with all values.
func expectedCodes(sides, values int64) [][]int64 {
	codes := [][]int64{{}}
	for range sides {
		var longer [][]int64
		for _, code := range codes {
			for value := range values {
				longer = append(longer, append(slices.Clone(code), value))
			}
		}
		codes = longer
	}
	return codes
}

// expectedSideDistance starts with all places and takes away those that are the same.
func expectedSideDistance(a, b []int64) int64 {
	distance := int64(len(a))
	for place := range a {
		if a[place] == b[place] {
			distance--
		}
	}
	return distance
}

// isFar reports whether a code has at least a distance to all of others.
func isFar(code []int64, distance int64, others [][]int64) bool {
	for _, other := range others {
		if expectedSideDistance(code, other) < distance {
			return false
		}
	}
	return true
}

// expectedFamilies looks at all codes in order and holds each one against all families so far.
func expectedFamilies(c sideCase) [][]int64 {
	families := [][]int64{}
	for _, code := range expectedCodes(c.sides, c.values) {
		if isFar(code, c.distance, families) {
			families = append(families, code)
		}
	}
	return families
}

func expectedNearest(code []int64, families [][]int64) []int64 {
	for distance := int64(0); ; distance++ {
		for _, family := range families {
			if expectedSideDistance(code, family) == distance {
				return family
			}
		}
	}
}

func expectedApart(distance int64, codes [][]int64) bool {
	for i, code := range codes {
		if !isFar(code, distance, codes[i+1:]) {
			return false
		}
	}
	return true
}

func expectedPower(base, exponent int64) int64 {
	power := int64(1)
	for range exponent {
		power *= base
	}
	return power
}

// sameCodes compares lists of codes with their order.
func sameCodes(a, b [][]int64) bool {
	return slices.EqualFunc(a, b, slices.Equal[[]int64])
}

// codesOf returns the codes whose digits are those of texts.
func codesOf(texts ...string) [][]int64 {
	codes := [][]int64{}
	for _, text := range texts {
		code := []int64{}
		for _, digit := range text {
			code = append(code, int64(digit-'0'))
		}
		codes = append(codes, code)
	}
	return codes
}

// roomyCodes returns copies of codes with spare capacity, in a list with spare capacity.
func roomyCodes(codes [][]int64) [][]int64 {
	given := make([][]int64, 0, len(codes)+2)
	for _, code := range codes {
		given = append(given, roomy(code))
	}
	spare := given[:cap(given)]
	for i := len(given); i < len(spare); i++ {
		spare[i] = []int64{-99}
	}
	return given
}

// checkKeptCodes fails if codes made by roomyCodes have changed.
func checkKeptCodes(t *testing.T, name string, given, codes [][]int64) {
	t.Helper()
	for i, code := range codes {
		checkKept(t, name, given[i], code)
	}
	for _, spare := range given[:cap(given)][len(given):] {
		if !slices.Equal(spare, []int64{-99}) {
			t.Errorf("%s changed what is behind its argument to %v", name, spare)
		}
	}
}

// badCodes are no side codes of a system: with one number too few or too many, far too many, or
// with a number that is none at each place.
func badCodes(sides, values int64) [][]int64 {
	bad := [][]int64{filled(int(sides)-1, 0), filled(int(sides)+1, 0), filled(int(sides)+1, values-1), filled(int(sides)*2, 0), filled(1000, 0)}
	for place := range sides {
		for _, number := range []int64{-1, values, -values, values + 1, 1 << 32, -1 << 32, 256, smallest, largest} {
			for _, other := range []int64{0, values - 1} {
				code := filled(int(sides), other)
				code[place] = number
				bad = append(bad, code)
			}
		}
	}
	return append(bad, nil, filled(int(sides), values), filled(int(sides), -1))
}

// lastCode returns the last side code of a system.
func lastCode(sides, values int64) []int64 {
	return filled(int(sides), values-1)
}

func TestConstantsOfSideCodes(t *testing.T) {
	if impl.MaxSides != 5 || impl.MaxSideValues != 5 || impl.MaxFamilies != 60 {
		t.Errorf("constants are %d, %d, %d", impl.MaxSides, impl.MaxSideValues, impl.MaxFamilies)
	}
}

func TestIsSideCode(t *testing.T) {
	cases := []struct {
		sides, values int64
		code          []int64
		want          bool
	}{
		{1, 2, []int64{0}, true}, {1, 2, []int64{1}, true}, {1, 2, []int64{2}, false}, {1, 2, []int64{-1}, false}, {1, 2, nil, false}, {1, 2, []int64{0, 0}, false},
		{1, 5, []int64{4}, true}, {1, 5, []int64{5}, false}, {5, 2, []int64{1, 1, 1, 1, 1}, true}, {5, 2, []int64{1, 1, 1, 1, 2}, false}, {5, 2, []int64{2, 1, 1, 1, 1}, false},
		{5, 5, []int64{0, 0, 0, 0, 0}, true}, {5, 5, []int64{4, 4, 4, 4, 4}, true}, {5, 5, []int64{4, 4, 4, 4}, false}, {5, 5, []int64{4, 4, 4, 4, 4, 4}, false}, {5, 5, []int64{0, 1, 2, 3, 4}, true}, {5, 5, []int64{4, 3, 2, 1, 0}, true},
		{3, 2, []int64{0, 1, 0}, true}, {3, 2, []int64{0, 2, 0}, false}, {3, 3, []int64{0, 2, 0}, true}, {3, 3, []int64{0, 2}, false}, {3, 3, []int64{}, false},
		// Systems that are none, with what would be a code of them.
		{0, 2, nil, false}, {0, 2, []int64{}, false}, {-1, 2, nil, false}, {6, 2, filled(6, 0), false}, {6, 5, filled(6, 4), false}, {100, 5, filled(100, 0), false},
		{1, 1, []int64{0}, false}, {3, 1, []int64{0, 0, 0}, false}, {3, 0, []int64{0, 0, 0}, false}, {3, -1, []int64{0, 0, 0}, false}, {3, 6, []int64{0, 0, 0}, false}, {3, 6, []int64{5, 5, 5}, false}, {5, 6, filled(5, 0), false}, {6, 6, filled(6, 0), false},
		{0, 0, nil, false}, {largest, 2, []int64{0}, false}, {smallest, 2, nil, false}, {1, largest, []int64{0}, false}, {1, smallest, []int64{0}, false}, {1<<32 + 1, 2, []int64{0}, false}, {1, 1<<32 + 2, []int64{0}, false},
	}
	for _, c := range cases {
		given := roomy(c.code)
		if got := impl.IsSideCode(c.sides, c.values, given); got != c.want {
			t.Errorf("IsSideCode(%d, %d, %v) = %v", c.sides, c.values, c.code, got)
		}
		checkKept(t, "IsSideCode", given, c.code)
	}
}

func TestIsSideCodeOfAllSystems(t *testing.T) {
	for sides := int64(1); sides <= 5; sides++ {
		for values := int64(2); values <= 5; values++ {
			for _, code := range expectedCodes(sides, values) {
				if !impl.IsSideCode(sides, values, code) {
					t.Errorf("IsSideCode(%d, %d, %v) = false", sides, values, code)
				}
			}
			for _, code := range badCodes(sides, values) {
				if impl.IsSideCode(sides, values, code) {
					t.Errorf("IsSideCode(%d, %d, %.10v) = true", sides, values, code)
				}
			}
		}
	}
}

func TestCountSideCodes(t *testing.T) {
	for c, want := range map[[2]int64]int64{
		{1, 2}: 2, {1, 3}: 3, {1, 4}: 4, {1, 5}: 5, {2, 2}: 4, {2, 5}: 25, {3, 2}: 8, {3, 4}: 64, {4, 3}: 81, {5, 2}: 32, {5, 3}: 243, {5, 4}: 1024, {5, 5}: 3125,
	} {
		if got, code := impl.CountSideCodes(c[0], c[1]); got != want || code != impl.ErrNone {
			t.Errorf("CountSideCodes(%d, %d) = %d, %d, want %d", c[0], c[1], got, code, want)
		}
	}
	for sides := int64(1); sides <= 5; sides++ {
		for values := int64(2); values <= 5; values++ {
			want := int64(len(expectedCodes(sides, values)))
			if got, code := impl.CountSideCodes(sides, values); got != want || code != impl.ErrNone {
				t.Errorf("CountSideCodes(%d, %d) = %d, %d, want %d", sides, values, got, code, want)
			}
		}
	}
}

func TestSideDistance(t *testing.T) {
	cases := []struct {
		sides, values int64
		a, b          string
		want          int64
	}{
		{3, 2, "001", "010", 2}, {3, 2, "000", "111", 3}, {3, 2, "000", "000", 0}, {3, 2, "101", "101", 0},
		// At one place only: the first one, one between, the last one.
		{5, 5, "00000", "40000", 1}, {5, 5, "12304", "12004", 1}, {5, 5, "12304", "12303", 1}, {5, 2, "11111", "11110", 1}, {5, 2, "11111", "01111", 1},
		// At all places, and how far the numbers are from each other does not count.
		{5, 5, "00000", "44444", 5}, {5, 5, "01234", "12340", 5}, {5, 5, "44444", "33333", 5}, {4, 3, "0120", "0201", 3}, {2, 5, "04", "40", 2}, {2, 5, "04", "44", 1},
		// The same numbers at other places.
		{4, 4, "0123", "3210", 4}, {4, 4, "0123", "1023", 2}, {4, 4, "0123", "0132", 2},
		// One side.
		{1, 2, "0", "1", 1}, {1, 2, "0", "0", 0}, {1, 5, "4", "4", 0}, {1, 5, "4", "0", 1},
	}
	for _, c := range cases {
		codes := codesOf(c.a, c.b)
		for range 2 {
			a, b := roomy(codes[0]), roomy(codes[1])
			if got, code := impl.SideDistance(c.sides, c.values, a, b); got != c.want || code != impl.ErrNone {
				t.Errorf("SideDistance(%d, %d, %v, %v) = %d, %d, want %d", c.sides, c.values, a, b, got, code, c.want)
			}
			checkKept(t, "SideDistance", a, codes[0])
			checkKept(t, "SideDistance", b, codes[1])
			slices.Reverse(codes)
		}
	}
}

func TestSideDistanceOfAllPairs(t *testing.T) {
	for sides := int64(1); sides <= 5; sides++ {
		for values := int64(2); values <= 5; values++ {
			codes := expectedCodes(sides, values)
			for i, a := range codes {
				// All pairs of large systems would take long.
				for j := i % 7; j < len(codes); j += 1 + len(codes)/100 {
					b := codes[j]
					if got, code := impl.SideDistance(sides, values, a, b); got != expectedSideDistance(a, b) || code != impl.ErrNone {
						t.Errorf("SideDistance(%d, %d, %v, %v) = %d, %d", sides, values, a, b, got, code)
					}
				}
			}
		}
	}
}

func TestFamiliesOf(t *testing.T) {
	cases := []struct {
		sideCase
		want [][]int64
	}{
		{sideCase{3, 2, 2}, codesOf("000", "011", "101", "110")}, {sideCase{3, 2, 3}, codesOf("000", "111")},
		// The distance 1: all side codes.
		{sideCase{3, 2, 1}, codesOf("000", "001", "010", "011", "100", "101", "110", "111")}, {sideCase{2, 3, 1}, codesOf("00", "01", "02", "10", "11", "12", "20", "21", "22")},
		// One side.
		{sideCase{1, 2, 1}, codesOf("0", "1")}, {sideCase{1, 5, 1}, codesOf("0", "1", "2", "3", "4")},
		// The distance of sides.
		{sideCase{2, 5, 2}, codesOf("00", "11", "22", "33", "44")}, {sideCase{5, 2, 5}, codesOf("00000", "11111")}, {sideCase{5, 5, 5}, codesOf("00000", "11111", "22222", "33333", "44444")},
		// Fewer than the bound: what comes first takes the place of what would fit better.
		{sideCase{3, 3, 2}, codesOf("000", "011", "022", "101", "110", "202", "220")}, {sideCase{4, 2, 3}, codesOf("0000", "0111")},
		{sideCase{4, 3, 3}, codesOf("0000", "0111", "0222", "1012", "1120", "1201", "2021", "2102", "2210")}, {sideCase{5, 2, 3}, codesOf("00000", "00111", "11001", "11110")},
		{sideCase{5, 3, 4}, codesOf("00000", "01111", "02222")}, {sideCase{4, 2, 2}, codesOf("0000", "0011", "0101", "0110", "1001", "1010", "1100", "1111")},
	}
	for _, c := range cases {
		got, code := impl.FamiliesOf(c.sides, c.values, c.distance, impl.MaxFamilies)
		if !sameCodes(got, c.want) || code != impl.ErrNone {
			t.Errorf("FamiliesOf(%v, 60) = %v, %d, want %v", c.sideCase, got, code, c.want)
		}
		if count, code := impl.CountFamilies(c.sides, c.values, c.distance); count != int64(len(c.want)) || code != impl.ErrNone {
			t.Errorf("CountFamilies(%v) = %d, %d, want %d", c.sideCase, count, code, len(c.want))
		}
	}
}

// No families, one, exactly as many as there are, one less and one more, and as many as may be
// asked for.
func TestFamiliesOfMost(t *testing.T) {
	for _, c := range sideCases() {
		families := expectedFamilies(c)
		count := int64(len(families))
		for _, most := range []int64{0, 1, 2, 5, 59, 60, count - 1, count, count + 1} {
			if most > impl.MaxFamilies {
				continue
			}
			want := families[:min(most, count)]
			got, code := impl.FamiliesOf(c.sides, c.values, c.distance, most)
			if !sameCodes(got, want) || code != impl.ErrNone {
				t.Errorf("FamiliesOf(%v, %d) = %v, %d, want %v", c, most, got, code, want)
			}
		}
	}
}

// The counts were found by another program; some of them are below the bound.
func TestCountFamilies(t *testing.T) {
	for c, want := range map[sideCase]int64{
		{1, 2, 1}: 2, {1, 3, 1}: 3, {1, 4, 1}: 4, {1, 5, 1}: 5,
		{2, 2, 1}: 4, {2, 2, 2}: 2, {2, 5, 1}: 25, {2, 5, 2}: 5,
		{3, 2, 1}: 8, {3, 2, 2}: 4, {3, 2, 3}: 2, {3, 3, 2}: 7, {3, 4, 2}: 16, {3, 5, 1}: 125, {3, 5, 2}: 19, {3, 5, 3}: 5,
		{4, 2, 2}: 8, {4, 2, 3}: 2, {4, 2, 4}: 2, {4, 3, 2}: 21, {4, 3, 3}: 9, {4, 3, 4}: 3, {4, 4, 2}: 64, {4, 4, 3}: 16, {4, 5, 1}: 625, {4, 5, 2}: 89, {4, 5, 3}: 17, {4, 5, 4}: 5,
		{5, 2, 1}: 32, {5, 2, 2}: 16, {5, 2, 3}: 4, {5, 2, 4}: 2, {5, 2, 5}: 2, {5, 3, 1}: 243, {5, 3, 2}: 61, {5, 3, 3}: 9, {5, 3, 4}: 3, {5, 3, 5}: 3,
		{5, 4, 1}: 1024, {5, 4, 2}: 256, {5, 4, 3}: 64, {5, 4, 4}: 16, {5, 4, 5}: 4, {5, 5, 1}: 3125, {5, 5, 2}: 421, {5, 5, 3}: 74, {5, 5, 4}: 17, {5, 5, 5}: 5,
	} {
		if got, code := impl.CountFamilies(c.sides, c.values, c.distance); got != want || code != impl.ErrNone {
			t.Errorf("CountFamilies(%v) = %d, %d, want %d", c, got, code, want)
		}
	}
	for _, c := range sideCases() {
		want := int64(len(expectedFamilies(c)))
		if got, code := impl.CountFamilies(c.sides, c.values, c.distance); got != want || code != impl.ErrNone {
			t.Errorf("CountFamilies(%v) = %d, %d, want %d", c, got, code, want)
		}
	}
}

func TestNearestFamily(t *testing.T) {
	cases := []struct {
		sideCase
		code, want string
	}{
		// A family itself, the first one, the last one and one between.
		{sideCase{3, 2, 2}, "000", "000"}, {sideCase{3, 2, 2}, "110", "110"}, {sideCase{3, 2, 2}, "011", "011"}, {sideCase{5, 5, 5}, "33333", "33333"},
		// The same distance to several families.
		{sideCase{3, 2, 2}, "001", "000"}, {sideCase{3, 2, 2}, "111", "011"}, {sideCase{5, 5, 5}, "43210", "00000"}, {sideCase{5, 5, 5}, "43214", "44444"}, {sideCase{5, 5, 5}, "43434", "44444"}, {sideCase{5, 5, 5}, "43123", "33333"},
		{sideCase{2, 5, 2}, "41", "11"}, {sideCase{2, 5, 2}, "14", "11"}, {sideCase{4, 2, 4}, "0011", "0000"}, {sideCase{4, 2, 4}, "1100", "0000"},
		// One family only is the nearest.
		{sideCase{3, 2, 3}, "011", "111"}, {sideCase{3, 2, 3}, "100", "000"}, {sideCase{4, 2, 3}, "1111", "0111"}, {sideCase{4, 2, 3}, "1000", "0000"}, {sideCase{5, 2, 3}, "11111", "11110"}, {sideCase{5, 2, 4}, "11111", "01111"},
		// The first and the last code.
		{sideCase{5, 3, 4}, "00000", "00000"}, {sideCase{5, 3, 4}, "22222", "02222"}, {sideCase{4, 3, 3}, "2222", "0222"},
		// The distance 1, and one side.
		{sideCase{5, 5, 1}, "43210", "43210"}, {sideCase{5, 5, 1}, "44444", "44444"}, {sideCase{1, 2, 1}, "1", "1"}, {sideCase{1, 5, 1}, "0", "0"}, {sideCase{1, 5, 1}, "4", "4"},
	}
	for _, c := range cases {
		codes := codesOf(c.code, c.want)
		given := roomy(codes[0])
		got, code := impl.NearestFamily(c.sides, c.values, c.distance, given)
		if !slices.Equal(got, codes[1]) || code != impl.ErrNone {
			t.Errorf("NearestFamily(%v, %s) = %v, %d, want %s", c.sideCase, c.code, got, code, c.want)
		}
		checkKept(t, "NearestFamily", given, codes[0])
	}
}

// someCodes returns all codes of a small system, and about 60 of a larger one, among them the
// first and the last one.
func someCodes(c sideCase) [][]int64 {
	all := expectedCodes(c.sides, c.values)
	var some [][]int64
	for i := 0; i < len(all); i += 1 + len(all)/60 {
		some = append(some, all[i])
	}
	return append(some, all[len(all)-1])
}

func TestNearestFamilyOfManyCodes(t *testing.T) {
	for _, c := range sideCases() {
		families := expectedFamilies(c)
		for _, code := range someCodes(c) {
			want := expectedNearest(code, families)
			got, fault := impl.NearestFamily(c.sides, c.values, c.distance, code)
			if !slices.Equal(got, want) || fault != impl.ErrNone {
				t.Errorf("NearestFamily(%v, %v) = %v, %d, want %v", c, code, got, fault, want)
			}
		}
	}
}

func TestFamilyBound(t *testing.T) {
	for c, want := range map[sideCase]int64{
		{3, 2, 2}: 4, {3, 2, 1}: 8, {3, 2, 3}: 2, {1, 2, 1}: 2, {1, 5, 1}: 5, {5, 2, 1}: 32, {5, 2, 5}: 2, {5, 5, 1}: 3125, {5, 5, 2}: 625, {5, 5, 3}: 125, {5, 5, 4}: 25, {5, 5, 5}: 5, {4, 3, 2}: 27, {2, 4, 2}: 4, {2, 4, 1}: 16,
	} {
		if got, code := impl.FamilyBound(c.sides, c.values, c.distance); got != want || code != impl.ErrNone {
			t.Errorf("FamilyBound(%v) = %d, %d, want %d", c, got, code, want)
		}
	}
	for _, c := range sideCases() {
		want := expectedPower(c.values, c.sides-c.distance+1)
		if got, code := impl.FamilyBound(c.sides, c.values, c.distance); got != want || code != impl.ErrNone {
			t.Errorf("FamilyBound(%v) = %d, %d, want %d", c, got, code, want)
		}
	}
}

// P7: families of side codes are apart, and no more than the bound.
func TestP7FamiliesAreApartAndNoMoreThanTheBound(t *testing.T) {
	for _, c := range sideCases() {
		families, code := impl.FamiliesOf(c.sides, c.values, c.distance, impl.MaxFamilies)
		if code != impl.ErrNone || len(families) == 0 || !expectedApart(c.distance, families) {
			t.Errorf("FamiliesOf(%v, 60) = %v, %d", c, families, code)
		}
		if apart, code := impl.AreApart(c.sides, c.values, c.distance, families); !apart || code != impl.ErrNone {
			t.Errorf("AreApart(%v, %v) = %v, %d", c, families, apart, code)
		}
		count, _ := impl.CountFamilies(c.sides, c.values, c.distance)
		bound, _ := impl.FamilyBound(c.sides, c.values, c.distance)
		if count < int64(len(families)) || count > bound {
			t.Errorf("CountFamilies(%v) = %d, of which %d are listed, with the bound %d", c, count, len(families), bound)
		}
	}
}

// P7: every side code is less than the least distance from a family. Families are the nearest ones
// to themselves, which also shows those beyond the ones that are listed.
func TestP7EverySideCodeIsNearAFamily(t *testing.T) {
	for _, c := range sideCases() {
		// All codes of all systems would take long.
		if c.sides == 5 && c.values > 3 {
			continue
		}
		var families [][]int64
		for _, code := range expectedCodes(c.sides, c.values) {
			family, fault := impl.NearestFamily(c.sides, c.values, c.distance, code)
			if fault != impl.ErrNone || len(family) != len(code) || expectedSideDistance(code, family) >= c.distance {
				t.Fatalf("NearestFamily(%v, %v) = %v, %d", c, code, family, fault)
			}
			if slices.Equal(family, code) {
				families = append(families, code)
			}
		}
		count, _ := impl.CountFamilies(c.sides, c.values, c.distance)
		if int64(len(families)) != count || !expectedApart(c.distance, families) {
			t.Errorf("of %v, %d families are the nearest ones to themselves, not %d, or they are not apart", c, len(families), count)
		}
		listed, _ := impl.FamiliesOf(c.sides, c.values, c.distance, impl.MaxFamilies)
		if !sameCodes(listed, families[:min(len(families), impl.MaxFamilies)]) {
			t.Errorf("FamiliesOf(%v, 60) = %v, not the first ones of %v", c, listed, families)
		}
	}
}

func TestAreApart(t *testing.T) {
	cases := []struct {
		sideCase
		codes [][]int64
		want  bool
	}{
		{sideCase{3, 2, 2}, codesOf("000", "011", "101", "110"), true}, {sideCase{3, 2, 2}, codesOf("110", "000", "101", "011"), true}, {sideCase{3, 2, 3}, codesOf("000", "011"), false}, {sideCase{3, 2, 3}, codesOf("010", "101"), true},
		// No codes, and one.
		{sideCase{3, 2, 2}, nil, true}, {sideCase{3, 2, 2}, [][]int64{}, true}, {sideCase{3, 2, 3}, codesOf("010"), true}, {sideCase{5, 5, 5}, codesOf("44444"), true}, {sideCase{1, 2, 1}, codesOf("1"), true},
		// The same code twice, next to each other or not.
		{sideCase{3, 2, 1}, codesOf("010", "010"), false}, {sideCase{1, 2, 1}, codesOf("0", "0"), false}, {sideCase{3, 2, 1}, codesOf("010", "011", "010"), false}, {sideCase{5, 5, 5}, codesOf("01234", "01234"), false},
		// The distance 1: codes that differ anywhere.
		{sideCase{1, 2, 1}, codesOf("0", "1"), true}, {sideCase{1, 5, 1}, codesOf("4", "0", "2", "1", "3"), true}, {sideCase{5, 5, 1}, codesOf("00000", "00001"), true}, {sideCase{5, 5, 1}, codesOf("00000", "10000"), true}, {sideCase{3, 2, 1}, expectedCodes(3, 2), true},
		// Exactly the distance, and one less.
		{sideCase{5, 5, 3}, codesOf("00000", "00444"), true}, {sideCase{5, 5, 3}, codesOf("00000", "00044"), false}, {sideCase{5, 5, 2}, codesOf("00000", "40004"), true}, {sideCase{5, 5, 2}, codesOf("00000", "00004"), false},
		{sideCase{5, 5, 5}, codesOf("01234", "12340", "23401", "34012", "40123"), true}, {sideCase{5, 5, 5}, codesOf("01234", "12340", "23401", "34012", "40124"), false}, {sideCase{5, 5, 4}, codesOf("01234", "12340", "23401", "34012", "40124"), true},
		// One pair only is too near: the first two, the last two, the first and the last one.
		{sideCase{4, 4, 3}, codesOf("0000", "0011", "1230", "2313"), false}, {sideCase{4, 4, 3}, codesOf("1230", "2313", "0000", "0011"), false}, {sideCase{4, 4, 3}, codesOf("0000", "1230", "2313", "0011"), false}, {sideCase{4, 4, 3}, codesOf("0000", "1230", "2313"), true},
	}
	for _, c := range cases {
		given := roomyCodes(c.codes)
		if got, code := impl.AreApart(c.sides, c.values, c.distance, given); got != c.want || code != impl.ErrNone {
			t.Errorf("AreApart(%v, %v) = %v, %d", c.sideCase, c.codes, got, code)
		}
		checkKeptCodes(t, "AreApart", given, c.codes)
	}
}

func TestAreApartOfManyCodes(t *testing.T) {
	s := sequence(7)
	for _, c := range sideCases() {
		all := expectedCodes(c.sides, c.values)
		for range 40 {
			codes := [][]int64{}
			for range s.below(5) {
				codes = append(codes, all[s.below(int64(len(all)))])
			}
			if got, code := impl.AreApart(c.sides, c.values, c.distance, codes); got != expectedApart(c.distance, codes) || code != impl.ErrNone {
				t.Errorf("AreApart(%v, %v) = %v, %d", c, codes, got, code)
			}
		}
	}
}

// MaxFamilies codes and one more, apart or not.
func TestAreApartOfMostCodes(t *testing.T) {
	all := expectedFamilies(sideCase{5, 5, 3})
	if got, code := impl.AreApart(5, 5, 3, all[:60]); !got || code != impl.ErrNone {
		t.Errorf("AreApart of 60 families = %v, %d", got, code)
	}
	last := append(slices.Clone(all[:59]), all[0])
	if got, code := impl.AreApart(5, 5, 3, last); got || code != impl.ErrNone {
		t.Errorf("AreApart of 59 families, the first one twice = %v, %d", got, code)
	}
	for _, codes := range [][][]int64{all[:61], all, slices.Repeat(all[:1], 61), slices.Repeat(all[:1], 1000), slices.Repeat(all[3:4], 100000)} {
		for distance := int64(1); distance <= 5; distance++ {
			if got, code := impl.AreApart(5, 5, distance, codes); got || code != impl.ErrLimit {
				t.Errorf("AreApart of %d codes = %v, %d", len(codes), got, code)
			}
		}
	}
	if got, code := impl.AreApart(1, 2, 1, slices.Repeat(codesOf("0", "1"), 30)); got || code != impl.ErrNone {
		t.Errorf("AreApart of 60 codes of one side = %v, %d", got, code)
	}
}

// checkSideRange fails unless all functions reject the numbers of a system or its distance.
// Whether the codes are side codes must not matter.
func checkSideRange(t *testing.T, c sideCase, codes ...[]int64) {
	t.Helper()
	for _, most := range []int64{0, 1, 60, -1, 61} {
		if got, code := impl.FamiliesOf(c.sides, c.values, c.distance, most); len(got) != 0 || code != impl.ErrRange {
			t.Errorf("FamiliesOf(%v, %d) = %v, %d", c, most, got, code)
		}
	}
	if got, code := impl.CountFamilies(c.sides, c.values, c.distance); got != 0 || code != impl.ErrRange {
		t.Errorf("CountFamilies(%v) = %d, %d", c, got, code)
	}
	if got, code := impl.FamilyBound(c.sides, c.values, c.distance); got != 0 || code != impl.ErrRange {
		t.Errorf("FamilyBound(%v) = %d, %d", c, got, code)
	}
	for _, given := range append(codes, nil, []int64{-1}, []int64{0}) {
		if got, code := impl.NearestFamily(c.sides, c.values, c.distance, given); len(got) != 0 || code != impl.ErrRange {
			t.Errorf("NearestFamily(%v, %v) = %v, %d", c, given, got, code)
		}
		for _, count := range []int{0, 1, 2, 60, 61} {
			list := slices.Repeat([][]int64{given}, count)
			if got, code := impl.AreApart(c.sides, c.values, c.distance, list); got || code != impl.ErrRange {
				t.Errorf("AreApart(%v, %d times %v) = %v, %d", c, count, given, got, code)
			}
		}
	}
}

// checkNoSystem fails unless the functions without a distance reject the numbers of a system, too.
func checkNoSystem(t *testing.T, sides, values int64, codes ...[]int64) {
	t.Helper()
	for _, distance := range []int64{1, 2, 5, 0, -1, 6, sides} {
		checkSideRange(t, sideCase{sides, values, distance}, codes...)
	}
	if got, code := impl.CountSideCodes(sides, values); got != 0 || code != impl.ErrRange {
		t.Errorf("CountSideCodes(%d, %d) = %d, %d", sides, values, got, code)
	}
	for _, a := range append(codes, nil, []int64{-1}, []int64{0}) {
		for _, b := range [][]int64{a, nil, {0}, {-1}} {
			if got, code := impl.SideDistance(sides, values, a, b); got != 0 || code != impl.ErrRange {
				t.Errorf("SideDistance(%d, %d, %v, %v) = %d, %d", sides, values, a, b, got, code)
			}
			if impl.IsSideCode(sides, values, a) {
				t.Errorf("IsSideCode(%d, %d, %v) = true", sides, values, a)
			}
		}
	}
}

func TestSideCodesRejectSystems(t *testing.T) {
	for _, sides := range badSides {
		for _, values := range append([]int64{2, 3, 5}, badValues...) {
			checkNoSystem(t, sides, values, filled(5, 0), filled(6, 1))
		}
	}
	for _, values := range badValues {
		for sides := int64(1); sides <= 5; sides++ {
			checkNoSystem(t, sides, values, filled(int(sides), 0), filled(int(sides), 5))
		}
	}
}

func TestSideCodesRejectDistances(t *testing.T) {
	for sides := int64(1); sides <= 5; sides++ {
		for values := int64(2); values <= 5; values++ {
			for _, distance := range append([]int64{sides + 1, -sides}, badDistances...) {
				checkSideRange(t, sideCase{sides, values, distance}, filled(int(sides), 0), lastCode(sides, values), filled(int(sides), values))
			}
		}
	}
}

func TestFamiliesOfRejectsMost(t *testing.T) {
	for _, c := range sideCases() {
		for _, most := range []int64{-1, 61, -60, 62, 100, 3125, 1 << 32, 1<<32 + 1, -1 << 32, smallest, largest} {
			if got, code := impl.FamiliesOf(c.sides, c.values, c.distance, most); len(got) != 0 || code != impl.ErrRange {
				t.Errorf("FamiliesOf(%v, %d) = %v, %d", c, most, got, code)
			}
		}
	}
}

func TestSideCodesRejectCodes(t *testing.T) {
	for sides := int64(1); sides <= 5; sides++ {
		for values := int64(2); values <= 5; values++ {
			first, last := filled(int(sides), 0), lastCode(sides, values)
			for _, bad := range badCodes(sides, values) {
				given := roomy(bad)
				for _, other := range [][]int64{first, last, given, nil} {
					if got, code := impl.SideDistance(sides, values, given, other); got != 0 || code != impl.ErrInvalid {
						t.Errorf("SideDistance(%d, %d, %.10v, %.10v) = %d, %d", sides, values, bad, other, got, code)
					}
					if got, code := impl.SideDistance(sides, values, other, given); got != 0 || code != impl.ErrInvalid {
						t.Errorf("SideDistance(%d, %d, %.10v, %.10v) = %d, %d", sides, values, other, bad, got, code)
					}
				}
				for distance := int64(1); distance <= sides; distance++ {
					if got, code := impl.NearestFamily(sides, values, distance, given); len(got) != 0 || code != impl.ErrInvalid {
						t.Errorf("NearestFamily(%d, %d, %d, %.10v) = %v, %d", sides, values, distance, bad, got, code)
					}
				}
				checkKept(t, "SideDistance or NearestFamily", given, bad)
			}
		}
	}
}

// A code that is none is found at each place of lists of each length, also where two codes before
// it are too near, and behind and among more than MaxFamilies of them.
func TestAreApartRejectsCodes(t *testing.T) {
	for _, c := range []sideCase{{1, 2, 1}, {3, 2, 2}, {5, 5, 3}, {5, 5, 5}} {
		families := expectedFamilies(c)
		for i, bad := range badCodes(c.sides, c.values) {
			for _, count := range []int{1, 2, 3, 4, 59, 60, 61, 62, 200} {
				for _, place := range []int{0, 1, count / 2, count - 2, count - 1} {
					if place < 0 || place >= count || count > 4 && i%5 > 0 {
						continue
					}
					codes := slices.Repeat(families, 1+count/len(families))[:count]
					codes[place] = bad
					given := roomyCodes(codes)
					if got, code := impl.AreApart(c.sides, c.values, c.distance, given); got || code != impl.ErrInvalid {
						t.Errorf("AreApart(%v) of %d codes with %.10v at %d = %v, %d", c, count, bad, place, got, code)
					}
					checkKeptCodes(t, "AreApart", given, codes)
				}
			}
		}
	}
}

// Results share no memory with an argument, with each other or with later results.
func TestResultsOfSideCodesAreNew(t *testing.T) {
	for _, c := range sideCases() {
		want := expectedFamilies(c)
		want = want[:min(len(want), impl.MaxFamilies)]
		got, _ := impl.FamiliesOf(c.sides, c.values, c.distance, impl.MaxFamilies)
		for i := range got {
			_ = append(got[i], largest)
			fill(got[i][:cap(got[i])], largest)
			for j := i + 1; j < len(got); j++ {
				if !slices.Equal(got[j], want[j]) {
					t.Fatalf("FamiliesOf(%v, 60): what was written to the family %d has changed the family %d to %v", c, i, j, got[j])
				}
			}
		}
		if again, code := impl.FamiliesOf(c.sides, c.values, c.distance, impl.MaxFamilies); !sameCodes(again, want) || code != impl.ErrNone {
			t.Errorf("FamiliesOf(%v, 60) = %v, %d after its result was changed", c, again, code)
		}
		for _, family := range want[:min(len(want), 3)] {
			given := slices.Clone(family)
			nearest, _ := impl.NearestFamily(c.sides, c.values, c.distance, given)
			_ = append(nearest, largest)
			fill(nearest[:cap(nearest)], largest)
			if !slices.Equal(given, family) {
				t.Errorf("NearestFamily(%v, %v) shares memory with its argument, which is now %v", c, family, given)
			}
			if again, code := impl.NearestFamily(c.sides, c.values, c.distance, family); !slices.Equal(again, family) || code != impl.ErrNone {
				t.Errorf("NearestFamily(%v, %v) = %v, %d after its result was changed", c, family, again, code)
			}
		}
	}
}
