package tests

import (
	"slices"
	"testing"

	"loop.example/g00947/impl"
)

// planOf returns the plan for the building with a text and the rights of some keys.
func planOf(text string, rights ...[]int64) impl.Plan {
	return impl.Plan{Building: buildingOf(text), Rights: rights}
}

// samePlan is true also if one of the plans has nil where the other one has an empty list.
func samePlan(a, b impl.Plan) bool {
	return sameBuilding(a.Building, b.Building) && sameLists(a.Rights, b.Rights)
}

func roomyPlan(p impl.Plan) impl.Plan {
	return impl.Plan{Building: roomyBuilding(p.Building), Rights: roomyLists(p.Rights)}
}

// checkPlanKept fails if a plan made by roomyPlan, or what is behind it, has changed.
func checkPlanKept(t *testing.T, name string, given, p impl.Plan) {
	t.Helper()
	checkBuildingKept(t, name, given.Building, p.Building)
	checkListsKept(t, name, given.Rights, p.Rights)
}

// allRights returns all lists of nodes that a key can have rights to.
func allRights(b impl.Building) [][]int64 {
	var all [][]int64
	for bits := 1; bits < 1<<len(b.Parents); bits++ {
		all = append(all, nodesWhere(b, func(node int64) bool { return bits>>node&1 == 1 }))
	}
	return all
}

// plansFor returns plans whose keys have the rights given, MaxPlanKeys of them in each plan but the
// last one.
func plansFor(b impl.Building, rights [][]int64) []impl.Plan {
	var plans []impl.Plan
	for part := range slices.Chunk(rights, 10) {
		plans = append(plans, impl.Plan{Building: b, Rights: part})
	}
	return plans
}

// someRights returns rights to at least one node, and to about one in a number.
func someRights(s *sequence, b impl.Building, part int64) []int64 {
	surely := s.below(int64(len(b.Parents)))
	return nodesWhere(b, func(node int64) bool { return s.below(part) == 0 || node == surely })
}

// somePlans are those for all small buildings with all rights, and for others with some rights and
// with each number of keys.
func somePlans() []impl.Plan {
	var plans []impl.Plan
	for nodes := 2; nodes <= 6; nodes++ {
		for _, b := range allBuildings(nodes) {
			plans = append(plans, plansFor(b, allRights(b))...)
		}
	}
	s := sequence(10)
	for i, b := range someBuildings() {
		p := impl.Plan{Building: b}
		for key := range i%10 + 1 {
			p.Rights = append(p.Rights, someRights(&s, b, int64(key%4*3+2)))
		}
		plans = append(plans, p)
	}
	return plans
}

// expectedEnter is the definition of the document.
func expectedEnter(p impl.Plan, key, door int64) bool {
	return slices.ContainsFunc(p.Rights[key], func(node int64) bool { return expectedUnder(p.Building, door, node) })
}

func expectedDoorsFor(p impl.Plan, key int64) []int64 {
	return nodesWhere(p.Building, func(node int64) bool { return p.Building.Doors[node] && expectedEnter(p, key, node) })
}

func expectedKeysFor(p impl.Plan, door int64) []int64 {
	var keys []int64
	for key := range int64(len(p.Rights)) {
		if expectedEnter(p, key, door) {
			keys = append(keys, key)
		}
	}
	return keys
}

func expectedAccess(p impl.Plan) [][]int64 {
	var rows [][]int64
	for key := range int64(len(p.Rights)) {
		var row []int64
		for _, door := range expectedDoorsUnder(p.Building, 0) {
			entry := int64(0)
			if expectedEnter(p, key, door) {
				entry = 1
			}
			row = append(row, entry)
		}
		rows = append(rows, row)
	}
	return rows
}

// expectedShort holds each node of the rights against all others.
func expectedShort(p impl.Plan, key int64) []int64 {
	var short []int64
	for _, node := range p.Rights[key] {
		if !slices.ContainsFunc(p.Rights[key], func(other int64) bool { return other != node && expectedUnder(p.Building, node, other) }) {
			short = append(short, node)
		}
	}
	return short
}

func expectedLeast(p impl.Plan, key int64) []int64 {
	may := expectedDoorsFor(p, key)
	isWhole := func(node int64) bool {
		doors := expectedDoorsUnder(p.Building, node)
		return len(doors) > 0 && !slices.ContainsFunc(doors, func(door int64) bool { return !slices.Contains(may, door) })
	}
	return nodesWhere(p.Building, func(node int64) bool {
		return isWhole(node) && (node == 0 || !isWhole(p.Building.Parents[node]))
	})
}

func expectedUnused(p impl.Plan) []int64 {
	return nodesWhere(p.Building, func(node int64) bool { return p.Building.Doors[node] && len(expectedKeysFor(p, node)) == 0 })
}

// badPlans are not valid, most of them for one reason only.
func badPlans() []impl.Plan {
	var bad []impl.Plan
	for _, b := range badBuildings() {
		bad = append(bad, impl.Plan{Building: b, Rights: [][]int64{{0}}})
	}
	bad = append(bad, impl.Plan{}, impl.Plan{Rights: [][]int64{{1}}}, impl.Plan{Building: chainOf(25), Rights: [][]int64{{24}}}, impl.Plan{Building: rowOf(25), Rights: [][]int64{{1}, {2, 3}}})
	for _, text := range buildingTexts {
		count := int64(len(buildingOf(text).Parents))
		// No key, and more than MaxPlanKeys.
		bad = append(bad, planOf(text), impl.Plan{Building: buildingOf(text), Rights: [][]int64{}})
		for _, keys := range []int{11, 12, 100} {
			bad = append(bad, planOf(text, slices.Repeat([][]int64{{1}}, keys)...))
		}
		// Rights that are none, for the first, a middle and the last key.
		for _, nodes := range badRights(count) {
			for _, keys := range []int{1, 2, 10} {
				for _, key := range []int{0, keys / 2, keys - 1} {
					rights := slices.Repeat([][]int64{{1}}, keys)
					rights[key] = nodes
					bad = append(bad, planOf(text, rights...))
				}
			}
		}
	}
	return bad
}

// badRights are no rights to nodes of a building with count nodes.
func badRights(count int64) [][]int64 {
	bad := [][]int64{
		nil, {}, {1, 0}, {0, 0}, {1, 1}, {0, 1, 1}, {0, 0, 1}, {0, 1, 0}, {count - 1, 0}, {count - 1, count - 1}, joined(nodesBelow(count), []int64{count - 1}), joined(nodesBelow(count), []int64{0}), filled(1000, 1),
		{-1}, {-1, 0}, {0, -1}, {-2, -1, 0, 1}, {count}, {0, count}, {0, 1, count}, {count - 1, count}, nodesBelow(count + 1), nodesBelow(25), nodesBelow(1000), {count + 1}, {0, count + 1},
	}
	for _, node := range noNodes {
		bad = append(bad, []int64{node}, []int64{0, node}, []int64{node, 0})
	}
	return bad
}

// noKeys are no keys of a plan with count keys.
func noKeys(count int64) []int64 {
	return []int64{-1, count, count + 1, -2, -count, 10, 11, 255, 256, 1 << 32, 1<<32 + 1, -1 << 32, 1 << 62, smallest, smallest + 1, largest, largest - 1}
}

// noDoors are no doors of a building, be they groups or no nodes.
func noDoors(b impl.Building) []int64 {
	count := int64(len(b.Parents))
	return joined(nodesWhere(b, func(node int64) bool { return !b.Doors[node] }), []int64{count, count + 1, -count}, noNodes)
}

func TestConstantsOfPlans(t *testing.T) {
	if impl.MaxPlanKeys != 10 {
		t.Errorf("MaxPlanKeys is %d", impl.MaxPlanKeys)
	}
}

func TestIsPlan(t *testing.T) {
	good := append(somePlans(),
		planOf(hutText, []int64{0}), planOf(hutText, []int64{1}), planOf(hutText, []int64{0, 1}),
		planOf(officeText, []int64{1}, []int64{0, 3}),
		planOf(rowText, nodesBelow(24)), planOf(chainText, slices.Repeat([][]int64{nodesBelow(24)}, 10)...), planOf(lastText, []int64{23}), planOf(vacantText, []int64{1}, []int64{4}, []int64{4}),
		planOf(hutText, slices.Repeat([][]int64{{1}}, 10)...), planOf(hutText, slices.Repeat([][]int64{{1}}, 9)...),
	)
	for _, p := range good {
		given := roomyPlan(p)
		if !impl.IsPlan(given) {
			t.Errorf("IsPlan(%v) = false", p)
		}
		checkPlanKept(t, "IsPlan", given, p)
	}
	for _, p := range badPlans() {
		given := roomyPlan(p)
		if impl.IsPlan(given) {
			t.Errorf("IsPlan(%.100v) = true", p)
		}
		checkPlanKept(t, "IsPlan", given, p)
	}
}

// All rights of one key that have up to 4 elements, be they nodes or not.
func TestIsPlanForAllShortRights(t *testing.T) {
	lists, valid := [][]int64{{}}, 0
	for range 5 {
		var longer [][]int64
		for _, nodes := range lists {
			p := planOf(hallText, nodes)
			want := len(nodes) > 0 && slices.IsSorted(nodes) && len(slices.Compact(slices.Clone(nodes))) == len(nodes) && nodes[0] >= 0 && nodes[len(nodes)-1] < 4
			if got := impl.IsPlan(p); got != want {
				t.Errorf("IsPlan(%v) = %v", p, got)
			}
			if want {
				valid++
			}
			for node := int64(-2); node <= 5; node++ {
				longer = append(longer, append(slices.Clone(nodes), node))
			}
		}
		lists = longer
	}
	if valid != 15 {
		t.Errorf("there are %d valid plans, want 15", valid)
	}
}

// The keys of these plans have rights to the root, to one door, to groups without doors, to a node
// and one that is under it, and to all nodes.
var (
	officePlan = planOf(officeText, []int64{1}, []int64{0, 3}, []int64{2}, []int64{3, 4}, []int64{1, 4})
	mixedPlan  = planOf(mixedText, []int64{3}, []int64{7}, []int64{1, 6}, []int64{2, 5}, nodesBelow(9), []int64{4, 8}, []int64{3, 5}, []int64{3, 4, 6, 7}, []int64{5, 6, 7, 8}, []int64{2, 4, 7})
	vacantPlan = planOf(vacantText, []int64{1, 2}, []int64{4})
	chainPlan  = planOf(chainText, []int64{11}, []int64{23}, []int64{5, 12, 22})
)

func TestMayEnter(t *testing.T) {
	for _, c := range []struct {
		p         impl.Plan
		key, door int64
		want      bool
	}{
		{officePlan, 0, 3, true}, {officePlan, 0, 4, true}, {officePlan, 0, 2, false}, {officePlan, 1, 2, true}, {officePlan, 1, 4, true}, {officePlan, 2, 2, true}, {officePlan, 2, 3, false}, {officePlan, 4, 3, true}, {officePlan, 4, 2, false},
		{mixedPlan, 0, 3, true}, {mixedPlan, 0, 6, false}, {mixedPlan, 1, 4, false}, {mixedPlan, 2, 3, true}, {mixedPlan, 2, 6, true}, {mixedPlan, 2, 4, false}, {mixedPlan, 3, 6, true}, {mixedPlan, 3, 3, false}, {mixedPlan, 4, 8, true}, {mixedPlan, 9, 4, true}, {mixedPlan, 9, 8, false},
		{vacantPlan, 0, 3, false}, {vacantPlan, 1, 3, false}, {chainPlan, 0, 23, true}, {chainPlan, 1, 23, true}, {chainPlan, 2, 23, true},
		{planOf(hutText, []int64{0}), 0, 1, true}, {planOf(hutText, []int64{1}), 0, 1, true}, {planOf(rowText, []int64{23}), 0, 23, true}, {planOf(rowText, []int64{23}), 0, 22, false}, {planOf(rowText, []int64{0}), 0, 1, true},
	} {
		given := roomyPlan(c.p)
		if got, code := impl.MayEnter(given, c.key, c.door); got != c.want || code != impl.ErrNone {
			t.Errorf("MayEnter(%v, %d, %d) = %v, %d, want %v", c.p, c.key, c.door, got, code, c.want)
		}
		checkPlanKept(t, "MayEnter", given, c.p)
	}
}

func TestAccessOf(t *testing.T) {
	for _, c := range []struct {
		p    impl.Plan
		want [][]int64
	}{
		// The doors are 2, 3 and 4; and 3, 4, 6 and 8.
		{officePlan, [][]int64{{0, 1, 1}, {1, 1, 1}, {1, 0, 0}, {0, 1, 1}, {0, 1, 1}}},
		{mixedPlan, [][]int64{{1, 0, 0, 0}, {0, 0, 0, 0}, {1, 0, 1, 0}, {0, 1, 1, 0}, {1, 1, 1, 1}, {0, 1, 0, 1}, {1, 0, 1, 0}, {1, 1, 1, 0}, {0, 0, 1, 1}, {0, 1, 0, 0}}},
		// One door, and as many doors as there can be.
		{planOf(hutText, []int64{0}), [][]int64{{1}}}, {vacantPlan, [][]int64{{0}, {0}}}, {chainPlan, [][]int64{{1}, {1}, {1}}}, {planOf(lastText, []int64{22}, []int64{1, 2, 3}), [][]int64{{1}, {0}}},
		{planOf(rowText, []int64{0}, []int64{1}, []int64{1, 23}), [][]int64{filled(23, 1), joined([]int64{1}, filled(22, 0)), joined([]int64{1}, filled(21, 0), []int64{1})}},
	} {
		given := roomyPlan(c.p)
		if got, code := impl.AccessOf(given); !sameLists(got, c.want) || code != impl.ErrNone {
			t.Errorf("AccessOf(%v) = %v, %d, want %v", c.p, got, code, c.want)
		}
		checkPlanKept(t, "AccessOf", given, c.p)
	}
}

// keyCase tells what a function returns for a key of a plan.
type keyCase struct {
	p    impl.Plan
	key  int64
	want []int64
}

// checkKeyCases is also for functions of a door, which is then in the place of the key.
func checkKeyCases(t *testing.T, name string, call func(p impl.Plan, key int64) ([]int64, int64), cases []keyCase) {
	t.Helper()
	for _, c := range cases {
		given := roomyPlan(c.p)
		if got, code := call(given, c.key); !slices.Equal(got, c.want) || code != impl.ErrNone {
			t.Errorf("%s(%v, %d) = %v, %d, want %v", name, c.p, c.key, got, code, c.want)
		}
		checkPlanKept(t, name, given, c.p)
	}
}

func TestDoorsFor(t *testing.T) {
	checkKeyCases(t, "DoorsFor", impl.DoorsFor, []keyCase{
		{officePlan, 0, []int64{3, 4}}, {officePlan, 1, []int64{2, 3, 4}}, {officePlan, 2, []int64{2}}, {officePlan, 3, []int64{3, 4}}, {officePlan, 4, []int64{3, 4}},
		{mixedPlan, 0, []int64{3}}, {mixedPlan, 2, []int64{3, 6}}, {mixedPlan, 3, []int64{4, 6}}, {mixedPlan, 5, []int64{4, 8}}, {mixedPlan, 7, []int64{3, 4, 6}}, {mixedPlan, 8, []int64{6, 8}}, {mixedPlan, 9, []int64{4}},
		// All doors, and none.
		{mixedPlan, 4, []int64{3, 4, 6, 8}}, {planOf(rowText, []int64{0}), 0, nodesBelow(24)[1:]}, {planOf(rowText, nodesBelow(24)), 0, nodesBelow(24)[1:]}, {chainPlan, 0, []int64{23}}, {chainPlan, 2, []int64{23}},
		{mixedPlan, 1, nil}, {vacantPlan, 0, nil}, {vacantPlan, 1, nil}, {planOf(lastText, nodesBelow(22)[1:]), 0, nil},
		// The doors of different groups, in the order of their indices.
		{planOf("0g 0g 2d 1d 2d", []int64{1, 2}), 0, []int64{3, 4, 5}}, {planOf("0g 0g 2d 1d 2d", []int64{2, 4}), 0, []int64{3, 4, 5}},
	})
}

func TestKeysFor(t *testing.T) {
	checkKeyCases(t, "KeysFor", impl.KeysFor, []keyCase{
		{officePlan, 2, []int64{1, 2}}, {officePlan, 3, []int64{0, 1, 3, 4}}, {officePlan, 4, []int64{0, 1, 3, 4}},
		{mixedPlan, 3, []int64{0, 2, 4, 6, 7}}, {mixedPlan, 4, []int64{3, 4, 5, 7, 9}}, {mixedPlan, 6, []int64{2, 3, 4, 6, 7, 8}}, {mixedPlan, 8, []int64{4, 5, 8}},
		// Every key, and none.
		{chainPlan, 23, []int64{0, 1, 2}}, {planOf(hutText, slices.Repeat([][]int64{{0}}, 10)...), 1, nodesBelow(10)}, {planOf(rowText, []int64{7}, []int64{0}), 7, []int64{0, 1}},
		{vacantPlan, 3, nil}, {planOf(rowText, []int64{7}, []int64{9}), 8, nil}, {planOf(lastText, []int64{1}), 23, nil},
	})
}

func TestShortRights(t *testing.T) {
	checkKeyCases(t, "ShortRights", impl.ShortRights, []keyCase{
		// Short already, also with groups without doors and with all doors of a group.
		{officePlan, 0, []int64{1}}, {officePlan, 2, []int64{2}}, {officePlan, 3, []int64{3, 4}}, {mixedPlan, 1, []int64{7}}, {mixedPlan, 3, []int64{2, 5}}, {mixedPlan, 6, []int64{3, 5}}, {mixedPlan, 7, []int64{3, 4, 6, 7}},
		{vacantPlan, 1, []int64{4}}, {planOf(hutText, []int64{0}), 0, []int64{0}}, {planOf(rowText, nodesBelow(24)[1:]), 0, nodesBelow(24)[1:]}, {planOf(lastText, nodesBelow(23)[1:]), 0, nodesBelow(23)[1:]},
		// One node is left.
		{officePlan, 1, []int64{0}}, {officePlan, 4, []int64{1}}, {mixedPlan, 2, []int64{1}}, {mixedPlan, 4, []int64{0}}, {mixedPlan, 9, []int64{2}}, {vacantPlan, 0, []int64{1}}, {chainPlan, 2, []int64{5}}, {planOf(hutText, []int64{0, 1}), 0, []int64{0}}, {planOf(rowText, nodesBelow(24)), 0, []int64{0}}, {planOf(chainText, []int64{0, 23}), 0, []int64{0}},
		// Some of the nodes are left.
		{mixedPlan, 8, []int64{5, 7, 8}}, {planOf(mixedText, []int64{1, 3, 4, 6, 8}), 0, []int64{1, 4, 8}}, {planOf(mixedText, []int64{2, 3, 4, 5, 6}), 0, []int64{2, 3, 5}}, {planOf(wingsText, []int64{1, 2, 7, 8, 9, 19}), 0, []int64{1, 2, 9}}, {planOf(wingsText, []int64{3, 4, 17, 23}), 0, []int64{3, 4}},
	})
}

func TestLeastRights(t *testing.T) {
	checkKeyCases(t, "LeastRights", impl.LeastRights, []keyCase{
		// The root, be it in the rights or not.
		{officePlan, 1, []int64{0}}, {mixedPlan, 4, []int64{0}}, {planOf(hutText, []int64{0}), 0, []int64{0}}, {planOf(hutText, []int64{1}), 0, []int64{0}}, {planOf(officeText, []int64{2, 3, 4}), 0, []int64{0}}, {planOf(mixedText, []int64{1, 4, 8}), 0, []int64{0}},
		{chainPlan, 0, []int64{0}}, {chainPlan, 1, []int64{0}}, {chainPlan, 2, []int64{0}}, {planOf(rowText, nodesBelow(24)[1:]), 0, []int64{0}}, {planOf(lastText, []int64{23}), 0, []int64{0}}, {planOf(vacantText, []int64{1, 3}), 0, []int64{0}},
		// One group, though the rights name its doors.
		{officePlan, 0, []int64{1}}, {officePlan, 3, []int64{1}}, {officePlan, 4, []int64{1}}, {mixedPlan, 6, []int64{1}}, {planOf(mixedText, []int64{3, 6}), 0, []int64{1}}, {planOf(mixedText, []int64{4}), 0, []int64{2}}, {planOf("0g 0d 1g 3d", []int64{4}), 0, []int64{1}},
		// Some nodes.
		{officePlan, 2, []int64{2}}, {mixedPlan, 0, []int64{3}}, {mixedPlan, 3, []int64{2, 5}}, {mixedPlan, 5, []int64{2, 8}}, {mixedPlan, 7, []int64{1, 2}}, {mixedPlan, 8, []int64{5, 8}}, {mixedPlan, 9, []int64{2}}, {planOf(rowText, []int64{1, 23}), 0, []int64{1, 23}}, {planOf(rowText, nodesBelow(23)[1:]), 0, nodesBelow(23)[1:]},
		{planOf(wingsText, []int64{7, 10, 13, 18, 19, 23}), 0, []int64{1, 20}}, {planOf(wingsText, []int64{7, 18, 19}), 0, []int64{7, 17}}, {planOf(wingsText, []int64{9, 12, 15, 16}), 0, []int64{9, 12, 15, 16}},
		// Groups without doors are left out.
		{planOf(mixedText, []int64{3, 7}), 0, []int64{3}}, {planOf(mixedText, []int64{7, 8}), 0, []int64{8}}, {planOf("0g 0g 0d 0d", []int64{1, 2, 3}), 0, []int64{3}}, {planOf("0g 1g 0d 0d", []int64{1, 2, 4}), 0, []int64{4}},
		// None at all.
		{mixedPlan, 1, nil}, {vacantPlan, 0, nil}, {vacantPlan, 1, nil}, {planOf(lastText, nodesBelow(22)[1:]), 0, nil},
	})
}

func TestAddKey(t *testing.T) {
	ten := slices.Repeat([][]int64{{1}}, 10)
	for _, c := range []struct {
		p     impl.Plan
		nodes []int64
	}{
		{officePlan, []int64{2}}, {officePlan, []int64{1, 2}}, {officePlan, []int64{0, 1, 2, 3, 4}}, {vacantPlan, []int64{4}}, {chainPlan, []int64{23}},
		// A key like another one.
		{officePlan, []int64{1}}, {officePlan, []int64{0, 3}},
		// Behind one key, and behind MaxPlanKeys - 1 keys.
		{planOf(hutText, []int64{0}), []int64{0}}, {planOf(hutText, []int64{0}), []int64{1}}, {planOf(hutText, []int64{1}), []int64{0, 1}}, {planOf(rowText, []int64{23}), nodesBelow(24)}, {planOf(rowText, []int64{23}), []int64{23}},
		{planOf(hutText, ten[:9]...), []int64{1}}, {planOf(chainText, ten[:9]...), nodesBelow(24)}, {impl.Plan{Building: mixedPlan.Building, Rights: mixedPlan.Rights[1:]}, []int64{1, 3}},
	} {
		given, nodes := roomyPlan(c.p), roomy(c.nodes)
		want := impl.Plan{Building: c.p.Building, Rights: slices.Concat(c.p.Rights, [][]int64{c.nodes})}
		if got, code := impl.AddKey(given, nodes); !samePlan(got, want) || code != impl.ErrNone {
			t.Errorf("AddKey(%v, %v) = %v, %d, want %v", c.p, c.nodes, got, code, want)
		}
		checkPlanKept(t, "AddKey", given, c.p)
		checkKept(t, "AddKey", nodes, c.nodes)
	}
}

// Keys are added until there are MaxPlanKeys.
func TestAddKeyAgainAndAgain(t *testing.T) {
	p := planOf(mixedText, mixedPlan.Rights[0])
	for _, nodes := range mixedPlan.Rights[1:] {
		longer, code := impl.AddKey(p, nodes)
		if code != impl.ErrNone || !impl.IsPlan(longer) {
			t.Fatalf("AddKey(%v, %v) = %v, %d", p, nodes, longer, code)
		}
		p = longer
	}
	if !samePlan(p, mixedPlan) {
		t.Errorf("there is the plan %v, want %v", p, mixedPlan)
	}
	if got, code := impl.AddKey(p, []int64{1}); !samePlan(got, impl.Plan{}) || code != impl.ErrLimit {
		t.Errorf("AddKey(%v, 1) = %v, %d", p, got, code)
	}
}

func TestUnusedDoors(t *testing.T) {
	for _, c := range []struct {
		p    impl.Plan
		want []int64
	}{
		{officePlan, nil}, {mixedPlan, nil}, {chainPlan, nil}, {planOf(hutText, []int64{1}), nil}, {planOf(officeText, []int64{2}, []int64{4}, []int64{3}), nil},
		{vacantPlan, []int64{3}}, {planOf(officeText, []int64{1}), []int64{2}}, {planOf(officeText, []int64{2}), []int64{3, 4}}, {planOf(officeText, []int64{2}, []int64{4}), []int64{3}}, {planOf(officeText, []int64{2, 4}, []int64{4}), []int64{3}},
		{planOf(mixedText, []int64{3}, []int64{7}), []int64{4, 6, 8}}, {planOf(mixedText, []int64{7}), []int64{3, 4, 6, 8}}, {planOf(mixedText, []int64{1}, []int64{2, 5}), []int64{8}}, {planOf(mixedText, slices.Repeat([][]int64{{5}}, 10)...), []int64{3, 4, 8}},
		{planOf(rowText, []int64{1}, []int64{23}), nodesBelow(23)[2:]}, {planOf(lastText, []int64{21}), []int64{23}},
	} {
		given := roomyPlan(c.p)
		if got, code := impl.UnusedDoors(given); !slices.Equal(got, c.want) || code != impl.ErrNone {
			t.Errorf("UnusedDoors(%v) = %v, %d, want %v", c.p, got, code, c.want)
		}
		checkPlanKept(t, "UnusedDoors", given, c.p)
	}
}

func TestAllFunctionsOfManyPlans(t *testing.T) {
	for _, p := range somePlans() {
		if got, code := impl.AccessOf(p); !sameLists(got, expectedAccess(p)) || code != impl.ErrNone {
			t.Fatalf("AccessOf(%v) = %v, %d", p, got, code)
		}
		if got, code := impl.UnusedDoors(p); !slices.Equal(got, expectedUnused(p)) || code != impl.ErrNone {
			t.Fatalf("UnusedDoors(%v) = %v, %d", p, got, code)
		}
		for _, door := range expectedDoorsUnder(p.Building, 0) {
			if got, code := impl.KeysFor(p, door); !slices.Equal(got, expectedKeysFor(p, door)) || code != impl.ErrNone {
				t.Fatalf("KeysFor(%v, %d) = %v, %d", p, door, got, code)
			}
		}
		for key := range int64(len(p.Rights)) {
			checkKeyOfPlan(t, p, key)
		}
	}
}

func checkKeyOfPlan(t *testing.T, p impl.Plan, key int64) {
	t.Helper()
	if got, code := impl.DoorsFor(p, key); !slices.Equal(got, expectedDoorsFor(p, key)) || code != impl.ErrNone {
		t.Fatalf("DoorsFor(%v, %d) = %v, %d", p, key, got, code)
	}
	if got, code := impl.ShortRights(p, key); !slices.Equal(got, expectedShort(p, key)) || code != impl.ErrNone {
		t.Fatalf("ShortRights(%v, %d) = %v, %d", p, key, got, code)
	}
	if got, code := impl.LeastRights(p, key); !slices.Equal(got, expectedLeast(p, key)) || code != impl.ErrNone {
		t.Fatalf("LeastRights(%v, %d) = %v, %d", p, key, got, code)
	}
	for _, door := range expectedDoorsUnder(p.Building, 0) {
		if got, code := impl.MayEnter(p, key, door); got != expectedEnter(p, key, door) || code != impl.ErrNone {
			t.Fatalf("MayEnter(%v, %d, %d) = %v, %d", p, key, door, got, code)
		}
	}
}

// P9: shortened and least rights let a key enter the same doors.
func TestP9ShortAndLeastRightsEnterTheSameDoors(t *testing.T) {
	for _, p := range somePlans() {
		for key := range int64(len(p.Rights)) {
			doors, code := impl.DoorsFor(p, key)
			if code != impl.ErrNone {
				t.Fatalf("DoorsFor(%v, %d) = %v, %d", p, key, doors, code)
			}
			short, code := impl.ShortRights(p, key)
			checkSameDoors(t, p, key, short, code, doors)
			least, code := impl.LeastRights(p, key)
			// A plan has no key without rights, as the least ones are for no doors.
			if len(least) == 0 && len(doors) == 0 && code == impl.ErrNone {
				continue
			}
			checkSameDoors(t, p, key, least, code, doors)
			if len(least) > len(short) {
				t.Fatalf("%v: the least rights %v of the key %d are more than %v", p, least, key, short)
			}
		}
	}
}

// checkSameDoors fails unless a key may enter some doors when its rights are those given, which
// are not changed by being shortened or made least once more.
func checkSameDoors(t *testing.T, p impl.Plan, key int64, rights []int64, code int64, doors []int64) {
	t.Helper()
	other := impl.Plan{Building: p.Building, Rights: slices.Clone(p.Rights)}
	other.Rights[key] = rights
	got, doorsCode := impl.DoorsFor(other, key)
	if code != impl.ErrNone || doorsCode != impl.ErrNone || !slices.Equal(got, doors) {
		t.Fatalf("%v: with the rights %v, %d the key %d may enter %v, %d, not %v", p, rights, code, key, got, doorsCode, doors)
	}
	if again, code := impl.ShortRights(other, key); !slices.Equal(again, rights) || code != impl.ErrNone {
		t.Fatalf("ShortRights(%v, %d) = %v, %d", other, key, again, code)
	}
	least, _ := impl.LeastRights(p, key)
	if again, code := impl.LeastRights(other, key); !slices.Equal(again, least) || code != impl.ErrNone {
		t.Fatalf("LeastRights(%v, %d) = %v, %d, want %v", other, key, again, code, least)
	}
}

// P9: each door is under exactly its ancestors, so the keys with rights to one of them may enter
// it, and no other ones.
func TestP9KeysOfAncestorsMayEnter(t *testing.T) {
	for _, b := range someBuildings() {
		var single [][]int64
		for node := range int64(len(b.Parents)) {
			single = append(single, []int64{node})
		}
		doors, _ := impl.DoorsOf(b)
		first := int64(0)
		for _, p := range plansFor(b, single) {
			for _, door := range doors {
				ancestors, _ := impl.AncestorsOf(b, door)
				for key := range int64(len(p.Rights)) {
					if got, code := impl.MayEnter(p, key, door); got != slices.Contains(ancestors, first+key) || code != impl.ErrNone {
						t.Fatalf("MayEnter(%v, %d, %d) = %v, %d, but the ancestors are %v", p, key, door, got, code, ancestors)
					}
				}
			}
			first += int64(len(p.Rights))
		}
	}
}

// No rights that let a key enter the same doors have fewer nodes than the least ones.
func TestLeastRightsAreFewest(t *testing.T) {
	for nodes := 2; nodes <= 5; nodes++ {
		for _, b := range allBuildings(nodes) {
			least := map[string]int{}
			for _, p := range plansFor(b, allRights(b)) {
				for key, rights := range p.Rights {
					doors, _ := impl.ListText(expectedDoorsFor(p, int64(key)))
					got, code := impl.LeastRights(p, int64(key))
					if want, seen := least[doors]; code != impl.ErrNone || len(got) > len(rights) || seen && len(got) != want {
						t.Fatalf("LeastRights(%v, %d) = %v, %d", p, key, got, code)
					}
					least[doors] = len(got)
				}
			}
		}
	}
}

// planResult has what one of the functions of plans returns beside its code.
type planResult struct {
	may  bool
	list []int64
	rows [][]int64
	plan impl.Plan
}

func (r planResult) isZero() bool {
	return !r.may && len(r.list) == 0 && len(r.rows) == 0 && samePlan(r.plan, impl.Plan{})
}

// lists returns all lists of numbers of a result.
func (r planResult) lists() [][]int64 {
	return slices.Concat([][]int64{r.list, r.plan.Building.Parents}, r.rows, r.plan.Rights)
}

func (r planResult) equals(other planResult) bool {
	return r.may == other.may && slices.Equal(r.list, other.list) && sameLists(r.rows, other.rows) && samePlan(r.plan, other.plan)
}

// planCalls returns the functions that have a plan as an argument, with a key, a door and nodes
// for those that have them.
func planCalls(key, door int64, nodes []int64) map[string]func(p impl.Plan) (planResult, int64) {
	return map[string]func(p impl.Plan) (planResult, int64){
		"MayEnter": func(p impl.Plan) (planResult, int64) {
			may, code := impl.MayEnter(p, key, door)
			return planResult{may: may}, code
		},
		"AccessOf": func(p impl.Plan) (planResult, int64) {
			rows, code := impl.AccessOf(p)
			return planResult{rows: rows}, code
		},
		"DoorsFor": func(p impl.Plan) (planResult, int64) {
			list, code := impl.DoorsFor(p, key)
			return planResult{list: list}, code
		},
		"KeysFor": func(p impl.Plan) (planResult, int64) {
			list, code := impl.KeysFor(p, door)
			return planResult{list: list}, code
		},
		"ShortRights": func(p impl.Plan) (planResult, int64) {
			list, code := impl.ShortRights(p, key)
			return planResult{list: list}, code
		},
		"LeastRights": func(p impl.Plan) (planResult, int64) {
			list, code := impl.LeastRights(p, key)
			return planResult{list: list}, code
		},
		"AddKey": func(p impl.Plan) (planResult, int64) {
			plan, code := impl.AddKey(p, nodes)
			return planResult{plan: plan}, code
		},
		"UnusedDoors": func(p impl.Plan) (planResult, int64) {
			list, code := impl.UnusedDoors(p)
			return planResult{list: list}, code
		},
	}
}

// checkPlanCode fails unless a function returns zero values and a code for a plan.
func checkPlanCode(t *testing.T, name string, call func(p impl.Plan) (planResult, int64), p impl.Plan, want int64) {
	t.Helper()
	given := roomyPlan(p)
	if got, code := call(given); !got.isZero() || code != want {
		t.Errorf("%s of %.100v = %.100v, %d, want %d", name, p, got, code, want)
	}
	checkPlanKept(t, name, given, p)
}

// A plan that is not valid comes before keys, doors and nodes that are none.
func TestPlansRejectPlans(t *testing.T) {
	bad := badPlans()
	for _, c := range []struct {
		key, door int64
		nodes     []int64
	}{{0, 1, []int64{1}}, {0, 0, nil}, {-1, -1, []int64{-1}}, {10, 24, []int64{1, 0}}, {smallest, largest, nodesBelow(25)}} {
		for name, call := range planCalls(c.key, c.door, c.nodes) {
			for _, p := range bad {
				checkPlanCode(t, name, call, p, impl.ErrInvalid)
			}
		}
	}
}

func TestPlansRejectKeysAndDoors(t *testing.T) {
	for _, p := range []impl.Plan{officePlan, mixedPlan, vacantPlan, chainPlan, planOf(hutText, []int64{1}), planOf(rowText, []int64{0}, []int64{23})} {
		for _, key := range noKeys(int64(len(p.Rights))) {
			if key < int64(len(p.Rights)) && key >= 0 {
				continue
			}
			for _, door := range []int64{expectedDoorsUnder(p.Building, 0)[0], 0, -1} {
				calls := planCalls(key, door, nil)
				for _, name := range []string{"MayEnter", "DoorsFor", "ShortRights", "LeastRights"} {
					checkPlanCode(t, name, calls[name], p, impl.ErrRange)
				}
			}
		}
		for _, door := range noDoors(p.Building) {
			for key := range int64(len(p.Rights)) {
				calls := planCalls(key, door, nil)
				checkPlanCode(t, "MayEnter", calls["MayEnter"], p, impl.ErrRange)
				checkPlanCode(t, "KeysFor", calls["KeysFor"], p, impl.ErrRange)
			}
		}
	}
}

// Nodes that are no rights come before the limit of the keys.
func TestAddKeyRejectsNodes(t *testing.T) {
	for _, text := range buildingTexts {
		count := int64(len(buildingOf(text).Parents))
		for _, keys := range []int{1, 2, 9, 10} {
			p := planOf(text, slices.Repeat([][]int64{{1}}, keys)...)
			for _, bad := range badRights(count) {
				nodes := roomy(bad)
				checkPlanCode(t, "AddKey", planCalls(0, 1, nodes)["AddKey"], p, impl.ErrRange)
				checkKept(t, "AddKey", nodes, bad)
			}
		}
	}
}

func TestAddKeyHasALimit(t *testing.T) {
	for _, text := range buildingTexts {
		for _, rights := range [][]int64{{0}, {1}, {0, 1}} {
			p := planOf(text, slices.Repeat([][]int64{rights}, 10)...)
			for _, nodes := range [][]int64{{0}, {1}, {0, 1}, nodesBelow(int64(len(p.Building.Parents)))} {
				checkPlanCode(t, "AddKey", planCalls(0, 1, nodes)["AddKey"], p, impl.ErrLimit)
			}
		}
	}
}

// Results share no memory with an argument, with one another or with later results.
func TestResultsOfPlansAreNew(t *testing.T) {
	for _, p := range []impl.Plan{officePlan, {Building: mixedPlan.Building, Rights: mixedPlan.Rights[1:]}, vacantPlan, chainPlan, planOf(rowText, []int64{0}, []int64{2, 5})} {
		given, nodes := roomyPlan(p), []int64{0, 1}
		for key := range int64(len(p.Rights)) {
			for name, call := range planCalls(key, expectedDoorsUnder(p.Building, 0)[0], nodes) {
				want, _ := call(given)
				got, _ := call(given)
				checkApart(t, name, got.lists()...)
				clear(got.plan.Building.Doors[:cap(got.plan.Building.Doors)])
				clear(got.rows[:cap(got.rows)])
				clear(got.plan.Rights[:cap(got.plan.Rights)])
				if again, code := call(given); !again.equals(want) || code != impl.ErrNone {
					t.Errorf("%s of %v is %v, %d after its result %v was changed", name, p, again, code, want)
				}
				checkPlanKept(t, name, given, p)
				if !slices.Equal(nodes, []int64{0, 1}) {
					t.Fatalf("%s shares memory with the nodes, which are now %v", name, nodes)
				}
			}
		}
	}
}
