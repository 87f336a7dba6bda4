package tests

import (
	"regexp"
	"slices"
	"strconv"
	"strings"
	"testing"

	"loop.example/g00947/impl"
)

// Texts of buildings: with the fewest nodes; with doors under several groups; with groups without
// doors; and with the most nodes, as a chain, with all doors under the root, with one door under
// the last of many groups, and with three wings.
const (
	hutText    = "0d"
	hallText   = "0d 0d 0d"
	officeText = "0g 0d 1d 1d"
	nestText   = "0g 1g 2g 3d 1d"
	vacantText = "0g 1g 0d 0g"
	mixedText  = "0g 0g 1d 2d 1g 5d 2g 0d"
	chainText  = "0g 1g 2g 3g 4g 5g 6g 7g 8g 9g 10g 11g 12g 13g 14g 15g 16g 17g 18g 19g 20g 21g 22d"
	rowText    = "0d 0d 0d 0d 0d 0d 0d 0d 0d 0d 0d 0d 0d 0d 0d 0d 0d 0d 0d 0d 0d 0d 0d"
	lastText   = "0g 0g 0g 0g 0g 0g 0g 0g 0g 0g 0g 0g 0g 0g 0g 0g 0g 0g 0g 0g 0g 0g 22d"
	wingsText  = "0g 0g 0g 1g 2g 3g 4d 5d 6d 4d 5d 6d 1d 2d 3d 0d 4g 17d 17d 6g 20g 21g 22d"
)

var buildingTexts = []string{hutText, hallText, officeText, nestText, vacantText, mixedText, chainText, rowText, lastText, wingsText}

// buildingOf returns the building with a text, be it valid or not.
func buildingOf(text string) impl.Building {
	b := impl.Building{Parents: []int64{-1}, Doors: []bool{false}}
	for _, word := range strings.Fields(text) {
		parent, err := strconv.ParseInt(word[:len(word)-1], 10, 64)
		if err != nil {
			panic(err)
		}
		b.Parents = append(b.Parents, parent)
		b.Doors = append(b.Doors, word[len(word)-1] == 'd')
	}
	return b
}

// chainOf returns a building whose groups are a chain, with a door at its end.
func chainOf(nodes int) impl.Building {
	b := impl.Building{}
	for node := range nodes {
		b.Parents = append(b.Parents, int64(node)-1)
		b.Doors = append(b.Doors, node == nodes-1)
	}
	return b
}

// rowOf returns a building whose doors are all directly under the root.
func rowOf(nodes int) impl.Building {
	b := impl.Building{Parents: filled(nodes, 0), Doors: slices.Repeat([]bool{true}, nodes)}
	b.Parents[0], b.Doors[0] = -1, false
	return b
}

// allBuildings returns all valid buildings with a number of nodes.
func allBuildings(nodes int) []impl.Building {
	beginnings := []impl.Building{{Parents: []int64{-1}, Doors: []bool{false}}}
	for range nodes - 1 {
		var longer []impl.Building
		for _, b := range beginnings {
			for parent, isDoor := range b.Doors {
				if isDoor {
					continue
				}
				for _, door := range []bool{false, true} {
					longer = append(longer, impl.Building{Parents: append(slices.Clone(b.Parents), int64(parent)), Doors: append(slices.Clone(b.Doors), door)})
				}
			}
		}
		beginnings = longer
	}
	return slices.DeleteFunc(beginnings, func(b impl.Building) bool { return !slices.Contains(b.Doors, true) })
}

// someBuilding returns a valid building with a number of nodes, of which about one in a number is
// a door, and the last one, too.
func someBuilding(s *sequence, nodes, part int64) impl.Building {
	b := impl.Building{Parents: []int64{-1}, Doors: []bool{false}}
	groups := []int64{0}
	for node := int64(1); node < nodes; node++ {
		isDoor := node == nodes-1 || s.below(part) == 0
		b.Parents = append(b.Parents, groups[s.below(int64(len(groups)))])
		b.Doors = append(b.Doors, isDoor)
		if !isDoor {
			groups = append(groups, node)
		}
	}
	return b
}

// someBuildings are those with a text above, all small ones, and others with each number of nodes.
func someBuildings() []impl.Building {
	var some []impl.Building
	for _, text := range buildingTexts {
		some = append(some, buildingOf(text))
	}
	for nodes := 2; nodes <= 5; nodes++ {
		some = append(some, allBuildings(nodes)...)
	}
	s := sequence(9)
	for nodes := int64(2); nodes <= 24; nodes++ {
		some = append(some, chainOf(int(nodes)), rowOf(int(nodes)))
		for _, part := range []int64{2, 3, 6, 100} {
			some = append(some, someBuilding(&s, nodes, part))
		}
	}
	return some
}

// nodesBelow returns all nodes that are less than a number, in order.
func nodesBelow(number int64) []int64 {
	list := []int64{}
	for node := range number {
		list = append(list, node)
	}
	return list
}

// expectedValid looks for the parent of each node among the groups before it.
func expectedValid(b impl.Building) bool {
	if len(b.Parents) != len(b.Doors) || len(b.Parents) < 2 || len(b.Parents) > 24 || b.Parents[0] != -1 || b.Doors[0] {
		return false
	}
	groups := []int64{0}
	for node := 1; node < len(b.Parents); node++ {
		if !slices.Contains(groups, b.Parents[node]) {
			return false
		}
		if !b.Doors[node] {
			groups = append(groups, int64(node))
		}
	}
	return len(groups) < len(b.Parents)
}

// expectedUnder is the definition of the document.
func expectedUnder(b impl.Building, node, other int64) bool {
	return node == other || node != 0 && expectedUnder(b, b.Parents[node], other)
}

// nodesWhere returns the nodes for which a condition holds, strictly increasing.
func nodesWhere(b impl.Building, holds func(node int64) bool) []int64 {
	var nodes []int64
	for node := range int64(len(b.Parents)) {
		if holds(node) {
			nodes = append(nodes, node)
		}
	}
	return nodes
}

func expectedDoorsUnder(b impl.Building, group int64) []int64 {
	return nodesWhere(b, func(node int64) bool { return b.Doors[node] && expectedUnder(b, node, group) })
}

// expectedAncestors turns the order of the nodes around, since a parent has a smaller index.
func expectedAncestors(b impl.Building, node int64) []int64 {
	ancestors := nodesWhere(b, func(other int64) bool { return expectedUnder(b, node, other) })
	slices.Reverse(ancestors)
	return ancestors
}

func expectedHeight(b impl.Building) int64 {
	height := 0
	for node := range int64(len(b.Parents)) {
		height = max(height, len(expectedAncestors(b, node)))
	}
	return int64(height)
}

func expectedGroup(b impl.Building, nodes []int64) int64 {
	return slices.Max(nodesWhere(b, func(group int64) bool {
		return !slices.ContainsFunc(nodes, func(node int64) bool { return !expectedUnder(b, node, group) })
	}))
}

func expectedBuildingText(b impl.Building) string {
	text := ""
	for node := 1; node < len(b.Parents); node++ {
		if node > 1 {
			text += " "
		}
		text += strconv.Itoa(int(b.Parents[node]))
		if b.Doors[node] {
			text += "d"
		} else {
			text += "g"
		}
	}
	return text
}

var buildingPattern = regexp.MustCompile(`\A(0|[1-9][0-9]?)[dg]( (0|[1-9][0-9]?)[dg])*\z`)

// expectedRead returns the valid building with a text, and whether there is one.
func expectedRead(s string) (impl.Building, bool) {
	if !buildingPattern.MatchString(s) {
		return impl.Building{}, false
	}
	b := buildingOf(s)
	if !expectedValid(b) {
		return impl.Building{}, false
	}
	return b, true
}

func sameBuilding(a, b impl.Building) bool {
	return slices.Equal(a.Parents, b.Parents) && slices.Equal(a.Doors, b.Doors)
}

// doorMarks stand behind the doors of a building that has spare capacity.
var doorMarks = []bool{true, false, true}

// roomyBuilding returns a copy of a building with spare capacity.
func roomyBuilding(b impl.Building) impl.Building {
	return impl.Building{Parents: roomy(b.Parents), Doors: slices.Concat(b.Doors, doorMarks)[:len(b.Doors)]}
}

// checkBuildingKept fails if a building made by roomyBuilding, or what is behind it, has changed.
func checkBuildingKept(t *testing.T, name string, given, b impl.Building) {
	t.Helper()
	checkKept(t, name, given.Parents, b.Parents)
	want := slices.Concat(b.Doors, doorMarks)
	if got := given.Doors[:len(want)]; !slices.Equal(got, want) {
		t.Errorf("%s changed the doors of its argument %v to %v", name, want, got)
	}
}

// noNodes are indices of nodes in no building.
var noNodes = []int64{-1, -2, -24, 24, 25, 100, 255, 256, 1 << 31, 1 << 32, 1<<32 + 1, -1 << 32, 1 << 62, smallest, smallest + 1, largest, largest - 1}

// badBuildings are not valid, most of them for one reason only.
func badBuildings() []impl.Building {
	bad := []impl.Building{
		// No node, one node, and more than MaxNodes.
		{}, {Parents: []int64{}, Doors: []bool{}}, {Parents: []int64{-1}, Doors: []bool{false}}, {Parents: []int64{-1}, Doors: []bool{true}},
		chainOf(25), rowOf(25), rowOf(26), chainOf(100), rowOf(1000),
		// Different numbers of elements.
		{Parents: []int64{-1, 0}}, {Doors: []bool{false, true}}, {Parents: []int64{-1}, Doors: []bool{false, true}}, {Parents: []int64{-1, 0, 0}, Doors: []bool{false, true}},
		{Parents: []int64{-1, 0}, Doors: []bool{false}}, {Parents: []int64{-1, 0}, Doors: []bool{false, true, true}}, {Parents: []int64{-1, 0}, Doors: []bool{false, true, false}},
		{Parents: rowOf(24).Parents, Doors: rowOf(25).Doors}, {Parents: rowOf(25).Parents, Doors: rowOf(24).Doors}, {Parents: rowOf(24).Parents, Doors: rowOf(23).Doors},
		// A root that is a door.
		{Parents: []int64{-1, 0}, Doors: []bool{true, true}}, {Parents: []int64{-1, 0}, Doors: []bool{true, false}}, {Parents: []int64{-1, 0, 1}, Doors: []bool{true, false, true}},
		{Parents: []int64{-1, -1, 1}, Doors: []bool{true, false, true}}, {Parents: rowOf(24).Parents, Doors: slices.Repeat([]bool{true}, 24)},
		// No door.
		{Parents: []int64{-1, 0}, Doors: make([]bool, 2)}, {Parents: []int64{-1, 0, 0, 1, 1}, Doors: make([]bool, 5)}, {Parents: chainOf(24).Parents, Doors: make([]bool, 24)},
	}
	// A parent that is a door, directly before the node or not, and two nodes with each other as
	// their parents.
	for _, text := range []string{"0d 1d", "0d 1g", "0d 0d 2d", "0d 0g 1d", "0d 1g 2d", "0g 0d 1d 1d 4d", "0g 1d 2g 3d", "2g 1d", "2d 1d", "0g 3g 2d"} {
		bad = append(bad, buildingOf(text))
	}
	// The root with a parent; and each other node with the parent -1, itself, a later one, or none.
	for _, text := range []string{hutText, officeText, mixedText, chainText, rowText} {
		nodes := int64(len(buildingOf(text).Parents))
		for node := range nodes {
			for _, parent := range slices.Concat([]int64{node, node + 1, nodes - 1, nodes}, noNodes) {
				if node == 0 && parent == -1 || parent >= 0 && parent < node {
					continue
				}
				b := buildingOf(text)
				b.Parents[node] = parent
				bad = append(bad, b)
			}
		}
	}
	return bad
}

func TestConstantsOfBuildings(t *testing.T) {
	if impl.MaxNodes != 24 {
		t.Errorf("MaxNodes is %d", impl.MaxNodes)
	}
}

func TestIsBuilding(t *testing.T) {
	good := append(someBuildings(), impl.Building{Parents: []int64{-1, 0, 0, 1, 1}, Doors: []bool{false, false, true, true, true}})
	for _, b := range good {
		given := roomyBuilding(b)
		if !impl.IsBuilding(given) {
			t.Errorf("IsBuilding(%v) = false", b)
		}
		checkBuildingKept(t, "IsBuilding", given, b)
	}
	for _, b := range badBuildings() {
		given := roomyBuilding(b)
		if impl.IsBuilding(given) {
			t.Errorf("IsBuilding(%v) = true", b)
		}
		checkBuildingKept(t, "IsBuilding", given, b)
	}
}

// All lists of up to four parents, be they nodes or not, with all doors. With three nodes, the
// valid ones are 0d 0d, 0d 0g, 0g 0d and 0g 1d.
func TestIsBuildingForAllShortLists(t *testing.T) {
	lists, valid := [][]int64{{}}, [5]int{}
	for nodes := range 5 {
		for _, parents := range lists {
			for bits := range 1 << nodes {
				b := impl.Building{Parents: parents, Doors: make([]bool, nodes)}
				for node := range nodes {
					b.Doors[node] = bits>>node&1 == 1
				}
				got := impl.IsBuilding(b)
				if got != expectedValid(b) {
					t.Fatalf("IsBuilding(%v) = %v", b, got)
				}
				if got {
					valid[nodes]++
				}
			}
		}
		var longer [][]int64
		for _, parents := range lists {
			for parent := int64(-2); parent <= 4; parent++ {
				longer = append(longer, append(slices.Clone(parents), parent))
			}
		}
		lists = longer
	}
	if want := [5]int{0, 0, 1, 4, 20}; valid != want {
		t.Errorf("there are %v valid buildings, want %v", valid, want)
	}
}

func TestDoorsOf(t *testing.T) {
	for text, want := range map[string][]int64{
		hutText: {1}, hallText: {1, 2, 3}, officeText: {2, 3, 4}, nestText: {4, 5}, vacantText: {3}, mixedText: {3, 4, 6, 8}, chainText: {23}, lastText: {23},
		rowText:   {1, 2, 3, 4, 5, 6, 7, 8, 9, 10, 11, 12, 13, 14, 15, 16, 17, 18, 19, 20, 21, 22, 23},
		wingsText: {7, 8, 9, 10, 11, 12, 13, 14, 15, 16, 18, 19, 23},
		"0d 0g":   {1}, "0g 0d": {2}, "0g 1d": {2}, "0d 0g 2d": {1, 3}, "0g 1d 0d 1g": {2, 3},
	} {
		b := buildingOf(text)
		given := roomyBuilding(b)
		if got, code := impl.DoorsOf(given); !slices.Equal(got, want) || code != impl.ErrNone {
			t.Errorf("DoorsOf(%q) = %v, %d, want %v", text, got, code, want)
		}
		checkBuildingKept(t, "DoorsOf", given, b)
	}
}

// nodeCase tells what a function returns for a node of a building.
type nodeCase struct {
	text string
	node int64
	want []int64
}

func checkNodeCases(t *testing.T, name string, call func(b impl.Building, node int64) ([]int64, int64), cases []nodeCase) {
	t.Helper()
	for _, c := range cases {
		b := buildingOf(c.text)
		given := roomyBuilding(b)
		if got, code := call(given, c.node); !slices.Equal(got, c.want) || code != impl.ErrNone {
			t.Errorf("%s(%q, %d) = %v, %d, want %v", name, c.text, c.node, got, code, c.want)
		}
		checkBuildingKept(t, name, given, b)
	}
}

func TestDoorsUnder(t *testing.T) {
	checkNodeCases(t, "DoorsUnder", impl.DoorsUnder, []nodeCase{
		{officeText, 0, []int64{2, 3, 4}}, {officeText, 1, []int64{3, 4}},
		// A door is under itself.
		{officeText, 2, []int64{2}}, {officeText, 4, []int64{4}}, {hutText, 1, []int64{1}}, {rowText, 1, []int64{1}}, {rowText, 23, []int64{23}},
		// All doors are under the root, in the order of their indices.
		{hutText, 0, []int64{1}}, {hallText, 0, []int64{1, 2, 3}}, {mixedText, 0, []int64{3, 4, 6, 8}}, {"0g 0d 1d", 0, []int64{2, 3}}, {"0g 0g 2d 1d", 0, []int64{3, 4}}, {lastText, 0, []int64{23}},
		// Groups without doors, and without nodes.
		{vacantText, 1, nil}, {vacantText, 2, nil}, {vacantText, 4, nil}, {mixedText, 7, nil}, {lastText, 1, nil}, {lastText, 21, nil}, {"0d 0g", 2, nil},
		// Groups inside groups.
		{nestText, 1, []int64{4, 5}}, {nestText, 2, []int64{4}}, {nestText, 3, []int64{4}}, {mixedText, 1, []int64{3, 6}}, {mixedText, 2, []int64{4}}, {mixedText, 5, []int64{6}},
		{chainText, 1, []int64{23}}, {chainText, 22, []int64{23}}, {chainText, 23, []int64{23}}, {lastText, 22, []int64{23}},
		{wingsText, 1, []int64{7, 10, 13, 18, 19}}, {wingsText, 2, []int64{8, 11, 14}}, {wingsText, 3, []int64{9, 12, 15, 23}}, {wingsText, 4, []int64{7, 10, 18, 19}}, {wingsText, 17, []int64{18, 19}}, {wingsText, 20, []int64{23}},
	})
}

func TestAncestorsOf(t *testing.T) {
	checkNodeCases(t, "AncestorsOf", impl.AncestorsOf, []nodeCase{
		{officeText, 3, []int64{3, 1, 0}}, {officeText, 1, []int64{1, 0}}, {officeText, 2, []int64{2, 0}},
		// The root is under itself alone.
		{hutText, 0, []int64{0}}, {officeText, 0, []int64{0}}, {chainText, 0, []int64{0}}, {rowText, 0, []int64{0}},
		// Doors directly under the root, groups without doors, and groups inside groups.
		{hutText, 1, []int64{1, 0}}, {rowText, 23, []int64{23, 0}}, {lastText, 21, []int64{21, 0}}, {lastText, 23, []int64{23, 22, 0}},
		{vacantText, 2, []int64{2, 1, 0}}, {vacantText, 4, []int64{4, 0}}, {nestText, 4, []int64{4, 3, 2, 1, 0}}, {nestText, 5, []int64{5, 1, 0}}, {mixedText, 7, []int64{7, 2, 0}}, {mixedText, 6, []int64{6, 5, 1, 0}},
		{wingsText, 23, []int64{23, 22, 21, 20, 6, 3, 0}}, {wingsText, 19, []int64{19, 17, 4, 1, 0}},
		{chainText, 1, []int64{1, 0}}, {chainText, 22, []int64{22, 21, 20, 19, 18, 17, 16, 15, 14, 13, 12, 11, 10, 9, 8, 7, 6, 5, 4, 3, 2, 1, 0}},
		{chainText, 23, []int64{23, 22, 21, 20, 19, 18, 17, 16, 15, 14, 13, 12, 11, 10, 9, 8, 7, 6, 5, 4, 3, 2, 1, 0}},
	})
}

func TestHeightOf(t *testing.T) {
	for text, want := range map[string]int64{
		hutText: 2, hallText: 2, officeText: 3, nestText: 5, vacantText: 3, mixedText: 4, chainText: 24, rowText: 2, lastText: 3, wingsText: 7,
		// The highest node may be a group without doors, and need not be the last one.
		"0d 0g": 2, "0d 0g 2g 3g": 4, "0g 1g 2g 0d": 4, "0g 1d 0d 0d": 3, "0g 0d 1d 0d 0d": 3,
	} {
		b := buildingOf(text)
		given := roomyBuilding(b)
		if got, code := impl.HeightOf(given); got != want || code != impl.ErrNone {
			t.Errorf("HeightOf(%q) = %d, %d, want %d", text, got, code, want)
		}
		checkBuildingKept(t, "HeightOf", given, b)
	}
}

func TestCommonGroup(t *testing.T) {
	row := nodesBelow(24)
	cases := []struct {
		text  string
		nodes []int64
		want  int64
	}{
		{officeText, []int64{3, 4}, 1}, {officeText, []int64{4, 3}, 1}, {officeText, []int64{2, 3}, 0}, {officeText, []int64{3, 2}, 0}, {officeText, []int64{2, 3, 4}, 0},
		// One node, be it a door, a group or the root, also together with itself.
		{hutText, []int64{1}, 1}, {hutText, []int64{0}, 0}, {officeText, []int64{1}, 1}, {officeText, []int64{4}, 4}, {rowText, []int64{23}, 23}, {chainText, []int64{23}, 23}, {vacantText, []int64{2}, 2},
		{officeText, []int64{4, 4}, 4}, {officeText, []int64{0, 0}, 0}, {officeText, []int64{1, 1, 1}, 1}, {rowText, filled(24, 23), 23}, {hutText, filled(24, 1), 1},
		// A node and one that it is under.
		{officeText, []int64{3, 1}, 1}, {officeText, []int64{1, 3}, 1}, {officeText, []int64{0, 4}, 0}, {officeText, []int64{4, 0}, 0}, {nestText, []int64{4, 2}, 2}, {nestText, []int64{4, 3, 2}, 2}, {chainText, []int64{23, 22}, 22}, {chainText, []int64{7, 23, 11}, 7}, {hutText, []int64{0, 1}, 0},
		// Doors under different groups.
		{mixedText, []int64{3, 4}, 0}, {mixedText, []int64{3, 6}, 1}, {mixedText, []int64{6, 3}, 1}, {mixedText, []int64{4, 7}, 2}, {mixedText, []int64{6, 5, 6}, 5}, {mixedText, []int64{6, 8}, 0}, {nestText, []int64{4, 5}, 1},
		{wingsText, []int64{7, 19}, 4}, {wingsText, []int64{18, 19}, 17}, {wingsText, []int64{10, 13}, 1}, {wingsText, []int64{15, 23, 9}, 3}, {wingsText, []int64{9, 23}, 6}, {wingsText, []int64{18, 19, 8}, 0}, {wingsText, []int64{23, 7}, 0},
		// MaxNodes nodes, with and without repetitions.
		{rowText, row, 0}, {chainText, row, 0}, {chainText, row[5:], 5}, {chainText, append(filled(23, 23), 4), 4}, {chainText, append([]int64{4}, filled(23, 23)...), 4}, {officeText, append(filled(23, 4), 3), 1}, {officeText, append(filled(12, 4), filled(12, 2)...), 0},
		{officeText, append(filled(23, 3), 2), 0}, {officeText, append([]int64{2}, filled(23, 3)...), 0}, {wingsText, slices.Repeat([]int64{7, 10, 18, 19}, 6), 4}, {wingsText, append(slices.Repeat([]int64{7, 10, 18, 19}, 5), 10, 7, 13, 4), 1},
	}
	for _, c := range cases {
		b := buildingOf(c.text)
		given, nodes := roomyBuilding(b), roomy(c.nodes)
		if got, code := impl.CommonGroup(given, nodes); got != c.want || code != impl.ErrNone {
			t.Errorf("CommonGroup(%q, %v) = %d, %d, want %d", c.text, c.nodes, got, code, c.want)
		}
		checkBuildingKept(t, "CommonGroup", given, b)
		checkKept(t, "CommonGroup", nodes, c.nodes)
	}
}

func TestAllFunctionsOfManyBuildings(t *testing.T) {
	for _, b := range append(someBuildings(), allBuildings(6)...) {
		if got, code := impl.DoorsOf(b); !slices.Equal(got, expectedDoorsUnder(b, 0)) || code != impl.ErrNone {
			t.Fatalf("DoorsOf(%v) = %v, %d", b, got, code)
		}
		if got, code := impl.HeightOf(b); got != expectedHeight(b) || code != impl.ErrNone {
			t.Fatalf("HeightOf(%v) = %d, %d", b, got, code)
		}
		for node := range int64(len(b.Parents)) {
			if got, code := impl.DoorsUnder(b, node); !slices.Equal(got, expectedDoorsUnder(b, node)) || code != impl.ErrNone {
				t.Fatalf("DoorsUnder(%v, %d) = %v, %d", b, node, got, code)
			}
			if got, code := impl.AncestorsOf(b, node); !slices.Equal(got, expectedAncestors(b, node)) || code != impl.ErrNone {
				t.Fatalf("AncestorsOf(%v, %d) = %v, %d", b, node, got, code)
			}
		}
	}
}

// All pairs of nodes, and longer lists of them.
func TestCommonGroupOfManyNodes(t *testing.T) {
	s := sequence(99)
	for _, b := range someBuildings() {
		count := int64(len(b.Parents))
		lists := [][]int64{nodesBelow(count)}
		for one := range count {
			for two := range count {
				lists = append(lists, []int64{one, two})
			}
		}
		for length := range int64(24) {
			nodes := []int64{}
			for range length + 1 {
				nodes = append(nodes, count-1-min(s.below(count), s.below(count), s.below(count)))
			}
			lists = append(lists, nodes)
		}
		for _, nodes := range lists {
			if got, code := impl.CommonGroup(b, nodes); got != expectedGroup(b, nodes) || code != impl.ErrNone {
				t.Fatalf("CommonGroup(%v, %v) = %d, %d, want %d", b, nodes, got, code, expectedGroup(b, nodes))
			}
		}
	}
}

// P9: each door is under exactly its ancestors: it is one of the doors under each of them, and not
// under any other node.
func TestP9EachDoorIsUnderExactlyItsAncestors(t *testing.T) {
	for _, b := range append(someBuildings(), allBuildings(6)...) {
		doors, code := impl.DoorsOf(b)
		if code != impl.ErrNone || len(doors) == 0 {
			t.Fatalf("DoorsOf(%v) = %v, %d", b, doors, code)
		}
		seen := 0
		for node := range int64(len(b.Parents)) {
			under, code := impl.DoorsUnder(b, node)
			if code != impl.ErrNone {
				t.Fatalf("DoorsUnder(%v, %d) = %v, %d", b, node, under, code)
			}
			for _, door := range doors {
				ancestors, code := impl.AncestorsOf(b, door)
				if code != impl.ErrNone || slices.Contains(ancestors, node) != slices.Contains(under, door) {
					t.Fatalf("%v: the door %d has the ancestors %v, %d, but the doors %v are under %d", b, door, ancestors, code, under, node)
				}
			}
			seen += len(under)
		}
		// Nothing but doors is under a node, or these numbers would differ.
		for _, door := range doors {
			ancestors, _ := impl.AncestorsOf(b, door)
			seen -= len(ancestors)
			if !b.Doors[door] || ancestors[0] != door || ancestors[len(ancestors)-1] != 0 {
				t.Fatalf("%v: the door %d has the ancestors %v", b, door, ancestors)
			}
		}
		if seen != 0 {
			t.Fatalf("%v: %d more doors are under nodes than doors have ancestors", b, seen)
		}
	}
}

func TestBuildingText(t *testing.T) {
	for _, c := range []struct {
		b    impl.Building
		want string
	}{
		{impl.Building{Parents: []int64{-1, 0}, Doors: []bool{false, true}}, "0d"},
		{impl.Building{Parents: []int64{-1, 0, 0}, Doors: []bool{false, true, false}}, "0d 0g"},
		{impl.Building{Parents: []int64{-1, 0, 1}, Doors: []bool{false, false, true}}, "0g 1d"},
		{impl.Building{Parents: []int64{-1, 0, 0, 1, 1}, Doors: []bool{false, false, true, true, true}}, "0g 0d 1d 1d"},
		{chainOf(24), chainText}, {rowOf(24), rowText}, {rowOf(4), hallText}, {chainOf(2), hutText}, {chainOf(12), "0g 1g 2g 3g 4g 5g 6g 7g 8g 9g 10d"},
	} {
		given := roomyBuilding(c.b)
		if got, code := impl.BuildingText(given); got != c.want || code != impl.ErrNone {
			t.Errorf("BuildingText(%v) = %q, %d, want %q", c.b, got, code, c.want)
		}
		checkBuildingKept(t, "BuildingText", given, c.b)
		if got, code := impl.ReadBuilding(c.want); !sameBuilding(got, c.b) || code != impl.ErrNone {
			t.Errorf("ReadBuilding(%q) = %v, %d, want %v", c.want, got, code, c.b)
		}
	}
}

// P1: a building is recovered from its text.
func TestP1BuildingIsRecoveredFromText(t *testing.T) {
	for _, b := range append(someBuildings(), allBuildings(6)...) {
		text, code := impl.BuildingText(b)
		if text != expectedBuildingText(b) || code != impl.ErrNone {
			t.Fatalf("BuildingText(%v) = %q, %d", b, text, code)
		}
		if got, code := impl.ReadBuilding(text); !sameBuilding(got, b) || code != impl.ErrNone {
			t.Fatalf("ReadBuilding(%q) = %v, %d, want %v", text, got, code, b)
		}
	}
}

func checkNoBuilding(t *testing.T, s string) {
	t.Helper()
	if got, code := impl.ReadBuilding(s); len(got.Parents) != 0 || len(got.Doors) != 0 || code != impl.ErrSyntax {
		t.Errorf("ReadBuilding(%.200q) = %v, %d", s, got, code)
	}
}

func TestReadBuildingOfNoBuilding(t *testing.T) {
	for _, s := range []string{
		"", "d", "g", "0", "-", "0d0d", "d0", "0dd", "0gd", "0dg 0d", "0d 0", "0d d", "0 d", "00", "\x00", "1", "-1g 0d", "-1",
		// Blanks in front, at the end, twice, alone and inside, and other separators.
		" 0d", "0d ", "0g  0d", " ", "  ", " 0g 0d", "0g 0d ", "0g 0d  ", "0g 0 d", "0g\t0d", "0g\n0d", "0d\n", "\n0d", "0d\r\n", "0g,0d", "0g-0d", "0g\u00a00d", "0g\u20030d", "0d\x00", "0g\v0d", "0d\t",
		// Other letters.
		"0D", "0G 0d", "0g 0D", "0x", "0e", "0c", "0f", "0h", "0\u0434", "0\uff44", "\uff10d", "0d\u0301", "0r 0d", "0 0d", "0. 0d", "0\xe4", "0\xe7 0d", "0q", "0t",
		// Signs, superfluous zeros, and numbers in another form.
		"+0d", "-0d", "00d", "0g +1d", "0g -1d", "0g 01d", "0g 00d", "0g 001d", "-1d", "0g 1.0d", "0g 1e0d", "0g 0x1d", "0x0d", "0g 0b1d", "0g 0o1d", "0g 1_0d", "0g 0_1d", "0g a", "0g ad", "0g 1 d",
		// Numbers that are no parent, also because they are too great for any integer.
		"1d", "2d", "0g 2d", "0g 3d", "0g 24d", "10d", "256d", "0g 257d", "4294967296d", "0g 4294967297d", "9223372036854775807d", "9223372036854775808d", "18446744073709551616d", "0g 18446744073709551617d",
		"-18446744073709551616d", "340282366920938463463374607431768211456d", "0g 1000000000000d", "0g 1000000000001d", "0g 1" + strings.Repeat("0", 1000000) + "d", strings.Repeat("0", 1000000) + "d", strings.Repeat("9", 1000000),
		// Buildings that are not valid: without a door, with parents that are doors or not before the
		// node, and with the root among the nodes.
		"0g", "0g 0g", "0g 1g 2g", strings.TrimSuffix(strings.Repeat("0g ", 23), " "), "0d 1d", "0d 1g", "0d 0d 1d", "0d 0g 1d", "1g 0d", "2g 1d", "0g 2g 0d", "0g 2d 0d", "1g 1d", "-1g 0g 0d",
		// More than MaxNodes nodes, and long texts.
		rowText + " 0d", chainText + " 22d", "0g " + rowText, lastText + " 0g", strings.TrimSuffix(strings.Repeat("0d ", 25), " "), strings.TrimSuffix(strings.Repeat("0d ", 1000000), " "), strings.Repeat("0d ", 23), rowText + " ", rowText + "  ",
		strings.Repeat(" ", 1000000), strings.Repeat("0", 1000000), strings.Repeat("d", 1000000), rowText + strings.Repeat(" ", 1000000), rowText + " " + strings.Repeat("0", 1000000) + "d",
	} {
		checkNoBuilding(t, s)
	}
}

func checkReadBuilding(t *testing.T, s string) {
	t.Helper()
	want, ok := expectedRead(s)
	if !ok {
		checkNoBuilding(t, s)
		return
	}
	if got, code := impl.ReadBuilding(s); !sameBuilding(got, want) || code != impl.ErrNone {
		t.Errorf("ReadBuilding(%q) = %v, %d, want %v", s, got, code, want)
	}
}

// P1: no other text is read, of all those of up to 7 characters of a few kinds.
func TestP1OnlyTextsOfBuildingsAreRead(t *testing.T) {
	texts := []string{""}
	for range 8 {
		var longer []string
		for _, s := range texts {
			checkReadBuilding(t, s)
			for _, next := range "012dg " {
				longer = append(longer, s+string(next))
			}
		}
		texts = longer
	}
}

// P1 for texts in which one byte is missing, put in, or changed.
func TestP1ChangedTextsOfBuildings(t *testing.T) {
	for _, text := range []string{hutText, officeText, nestText, mixedText, chainText, wingsText} {
		for place := range len(text) {
			checkReadBuilding(t, text[:place]+text[place+1:])
			for b := range 256 {
				checkReadBuilding(t, text[:place]+string([]byte{byte(b)})+text[place+1:])
				checkReadBuilding(t, text[:place]+string([]byte{byte(b)})+text[place:])
			}
		}
		for b := range 256 {
			checkReadBuilding(t, text+string([]byte{byte(b)}))
		}
	}
}

// buildingResult has what one of the functions of buildings returns beside its code.
type buildingResult struct {
	list   []int64
	number int64
	text   string
}

func (r buildingResult) isZero() bool {
	return len(r.list) == 0 && r.number == 0 && r.text == ""
}

// buildingCalls returns the functions that have a building as an argument, with some nodes of
// which those for a single node take the first one.
func buildingCalls(nodes []int64) map[string]func(b impl.Building) (buildingResult, int64) {
	first := int64(-1)
	if len(nodes) > 0 {
		first = nodes[0]
	}
	return map[string]func(b impl.Building) (buildingResult, int64){
		"DoorsOf": func(b impl.Building) (buildingResult, int64) {
			list, code := impl.DoorsOf(b)
			return buildingResult{list: list}, code
		},
		"DoorsUnder": func(b impl.Building) (buildingResult, int64) {
			list, code := impl.DoorsUnder(b, first)
			return buildingResult{list: list}, code
		},
		"AncestorsOf": func(b impl.Building) (buildingResult, int64) {
			list, code := impl.AncestorsOf(b, first)
			return buildingResult{list: list}, code
		},
		"HeightOf": func(b impl.Building) (buildingResult, int64) {
			number, code := impl.HeightOf(b)
			return buildingResult{number: number}, code
		},
		"CommonGroup": func(b impl.Building) (buildingResult, int64) {
			number, code := impl.CommonGroup(b, nodes)
			return buildingResult{number: number}, code
		},
		"BuildingText": func(b impl.Building) (buildingResult, int64) {
			text, code := impl.BuildingText(b)
			return buildingResult{text: text}, code
		},
	}
}

// A building that is not valid comes before nodes that are none.
func TestBuildingsRejectBuildings(t *testing.T) {
	for _, nodes := range [][]int64{nil, {0}, {1}, {1, 1}, {1, 0}, {-1}, {24}, {0, largest}, {smallest}, filled(24, 0), filled(25, 0), filled(25, 1), filled(1000, -1)} {
		given := roomy(nodes)
		for name, call := range buildingCalls(given) {
			for _, bad := range badBuildings() {
				b := roomyBuilding(bad)
				if got, code := call(b); !got.isZero() || code != impl.ErrInvalid {
					t.Errorf("%s of %v for %.30v = %v, %d", name, bad, nodes, got, code)
				}
				checkBuildingKept(t, name, b, bad)
			}
		}
		checkKept(t, "a function of buildings", given, nodes)
	}
}

func TestBuildingsRejectNodes(t *testing.T) {
	for _, text := range buildingTexts {
		b := buildingOf(text)
		count := int64(len(b.Parents))
		for _, bad := range slices.Concat([]int64{count, count + 1, -count}, noNodes) {
			calls := buildingCalls([]int64{bad})
			for _, name := range []string{"DoorsUnder", "AncestorsOf", "CommonGroup"} {
				given := roomyBuilding(b)
				if got, code := calls[name](given); !got.isZero() || code != impl.ErrRange {
					t.Errorf("%s(%q, %d) = %v, %d", name, text, bad, got, code)
				}
				checkBuildingKept(t, name, given, b)
			}
		}
	}
}

// checkNoGroup fails unless CommonGroup rejects a list of nodes.
func checkNoGroup(t *testing.T, text string, nodes []int64) {
	t.Helper()
	given := roomy(nodes)
	if got, code := impl.CommonGroup(buildingOf(text), given); got != 0 || code != impl.ErrRange {
		t.Errorf("CommonGroup(%q, %.30v) = %d, %d", text, nodes, got, code)
	}
	checkKept(t, "CommonGroup", given, nodes)
}

func TestCommonGroupRejectsLists(t *testing.T) {
	for _, text := range buildingTexts {
		count := int64(len(buildingOf(text).Parents))
		// No nodes, and more than MaxNodes, though all of them are some.
		for _, nodes := range [][]int64{nil, {}, filled(25, 0), filled(25, 1), filled(25, count-1), append(filled(24, 1), 0), filled(26, 1), filled(100, 1), filled(100000, 1), append(nodesBelow(count), filled(24, 0)...)} {
			checkNoGroup(t, text, nodes)
		}
		// One that is none, at each place of lists of each length.
		for _, bad := range []int64{-1, count, count + 1, smallest, largest, 1 << 32, -1 << 32} {
			for length := 1; length <= 25; length++ {
				for place := range length {
					nodes := filled(length, 1)
					nodes[place] = bad
					checkNoGroup(t, text, nodes)
				}
			}
		}
	}
}

// Results share no memory with an argument or with later results.
func TestResultsOfBuildingsAreNew(t *testing.T) {
	for _, text := range buildingTexts {
		b, given := buildingOf(text), buildingOf(text)
		for node := range int64(len(b.Parents)) {
			nodes := []int64{node}
			for name, call := range buildingCalls(nodes) {
				got, _ := call(given)
				want := slices.Clone(got.list)
				_ = append(got.list, largest)
				fill(got.list[:cap(got.list)], largest)
				if again, _ := call(given); !slices.Equal(again.list, want) {
					t.Errorf("%s of %q for %d is %v after its result %v was changed", name, text, node, again.list, want)
				}
				if !sameBuilding(given, b) || nodes[0] != node {
					t.Fatalf("%s shares memory with its arguments, which are now %v and %v", name, given, nodes)
				}
			}
		}
		got, _ := impl.ReadBuilding(text)
		fill(got.Parents[:cap(got.Parents)], largest)
		for i := range got.Doors[:cap(got.Doors)] {
			got.Doors[:cap(got.Doors)][i] = true
		}
		if again, code := impl.ReadBuilding(text); !sameBuilding(again, b) || code != impl.ErrNone {
			t.Errorf("ReadBuilding(%q) = %v, %d after its result was changed", text, again, code)
		}
	}
}
