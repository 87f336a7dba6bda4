package tests

import (
	"slices"
	"strings"
	"testing"

	"loop.example/g00947/impl"
)

// tableOf returns the table with a text that has a word of entries for each row.
func tableOf(text string) [][]int64 {
	return codesOf(strings.Fields(text)...)
}

// repeated returns the table with some rows that all have the entries of a text.
func repeated(rows int, text string) [][]int64 {
	return tableOf(strings.Repeat(text+" ", rows))
}

// sizedTable returns a table whose entries are all the same.
func sizedTable(keys, doors int, entry int64) [][]int64 {
	var table [][]int64
	for range keys {
		table = append(table, filled(doors, entry))
	}
	return table
}

// allTables returns all tables of a size.
func allTables(keys, doors int) [][][]int64 {
	var all [][][]int64
	for number := range 1 << (keys * doors) {
		table := sizedTable(keys, doors, 0)
		for place := range keys * doors {
			table[place/doors][place%doors] = int64(number >> place & 1)
		}
		all = append(all, table)
	}
	return all
}

// someTable returns a table in which about one entry in a number is 0, or 1.
func someTable(s *sequence, keys, doors int, part, rare int64) [][]int64 {
	table := sizedTable(keys, doors, 1-rare)
	for _, row := range table {
		for door := range row {
			if s.below(part) == 0 {
				row[door] = rare
			}
		}
	}
	return table
}

// nestedTable returns a hierarchical table: each key opens all doors of a part that lies within
// the part of another key or apart from it.
func nestedTable(s *sequence, keys, doors int) [][]int64 {
	table := sizedTable(keys, doors, 0)
	for _, row := range table {
		size := 1 << s.below(4)
		from := int(s.below(int64((doors+size-1)/size))) * size
		fill(row[from:min(from+size, doors)], 1)
	}
	return table
}

// someTables are all small ones, and others of each number of keys and of doors.
func someTables() [][][]int64 {
	var tables [][][]int64
	for _, size := range [][2]int{{1, 1}, {1, 2}, {2, 1}, {1, 4}, {4, 1}, {2, 2}, {2, 4}, {4, 2}, {3, 3}} {
		tables = append(tables, allTables(size[0], size[1])...)
	}
	s := sequence(11)
	for keys := 1; keys <= 10; keys++ {
		for doors := 1; doors <= 12; doors++ {
			tables = append(tables,
				sizedTable(keys, doors, 0), sizedTable(keys, doors, 1), nestedTable(&s, keys, doors),
				someTable(&s, keys, doors, 2, 1), someTable(&s, keys, doors, 4, 1), someTable(&s, keys, doors, 6, 0),
			)
		}
	}
	return tables
}

// expectedIn is the definition of the document.
func expectedIn(row, other []int64) bool {
	for door, entry := range row {
		if entry == 1 && other[door] != 1 {
			return false
		}
	}
	return true
}

func keysOf(table [][]int64, holds func(row []int64) bool) []int64 {
	var keys []int64
	for key, row := range table {
		if holds(row) {
			keys = append(keys, int64(key))
		}
	}
	return keys
}

func expectedInCommon(row, other []int64) []int64 {
	var doors []int64
	for door := range row {
		if row[door] == 1 && other[door] == 1 {
			doors = append(doors, int64(door))
		}
	}
	return doors
}

func expectedHierarchical(table [][]int64) bool {
	for _, row := range table {
		for _, other := range table {
			if !expectedIn(row, other) && !expectedIn(other, row) && len(expectedInCommon(row, other)) > 0 {
				return false
			}
		}
	}
	return true
}

func expectedTurned(table [][]int64) [][]int64 {
	var turned [][]int64
	for door := range table[0] {
		var row []int64
		for key := range table {
			row = append(row, table[key][door])
		}
		turned = append(turned, row)
	}
	return turned
}

// setsOf returns all sets of some of the keys 0..count - 1, in lexicographic order.
func setsOf(size, count int64) [][]int64 {
	sets := [][]int64{{}}
	for range size {
		var longer [][]int64
		for _, set := range sets {
			next := int64(0)
			if len(set) > 0 {
				next = set[len(set)-1] + 1
			}
			for key := next; key < count; key++ {
				longer = append(longer, append(slices.Clone(set), key))
			}
		}
		sets = longer
	}
	return sets
}

func opensAll(table [][]int64, keys, doors []int64) bool {
	return !slices.ContainsFunc(doors, func(door int64) bool {
		return !slices.ContainsFunc(keys, func(key int64) bool { return table[key][door] == 1 })
	})
}

// expectedLeastKeys looks at all sets, smaller ones first, and those of a size in order.
func expectedLeastKeys(table [][]int64, doors []int64) ([]int64, int64) {
	for size := range int64(len(table) + 1) {
		for _, set := range setsOf(size, int64(len(table))) {
			if opensAll(table, set, doors) {
				return set, impl.ErrNone
			}
		}
	}
	return nil, impl.ErrNotFound
}

// doorLists returns no doors, each one, all, all but one, and some others.
func doorLists(s *sequence, count int) [][]int64 {
	all := nodesBelow(int64(count))
	lists := [][]int64{nil, all}
	for door := range count {
		lists = append(lists, []int64{int64(door)}, slices.Delete(slices.Clone(all), door, door+1))
	}
	for range 3 {
		lists = append(lists, slices.DeleteFunc(slices.Clone(all), func(int64) bool { return s.below(2) == 0 }))
	}
	return lists
}

// badTables are no access tables, most of them for one reason only.
func badTables() [][][]int64 {
	bad := [][][]int64{
		nil, {},
		// More rows than MaxPlanKeys, and more columns than MaxDoors.
		sizedTable(11, 1, 0), sizedTable(11, 1, 1), sizedTable(11, 12, 1), sizedTable(12, 12, 0), sizedTable(100, 2, 1), sizedTable(1000, 1, 1),
		sizedTable(1, 13, 0), sizedTable(1, 13, 1), sizedTable(10, 13, 1), sizedTable(2, 14, 0), sizedTable(2, 64, 1), sizedTable(1, 101, 1), sizedTable(1, 1000, 1),
		// Rows without entries.
		{nil}, {{}}, {{}, {}}, {nil, nil}, sizedTable(10, 0, 0), sizedTable(11, 0, 0),
		// Rows of different lengths.
		{{1}, {}}, {{}, {1}}, {{1}, nil}, {nil, {1}}, tableOf("1 10"), tableOf("10 1"), tableOf("11 11 1"), tableOf("11 1 11"), tableOf("11 111 11"), tableOf("1 11 1"), {filled(12, 1), filled(11, 1)}, {filled(11, 1), filled(12, 1)}, {filled(12, 1), filled(13, 1)}, {filled(13, 1), filled(12, 1)},
		append(sizedTable(9, 12, 1), filled(11, 1)), append(sizedTable(9, 3, 0), filled(4, 0)), append(sizedTable(9, 3, 0), nil),
	}
	// An entry that is neither 0 nor 1 in the first, a middle and the last row and column.
	for _, size := range [][2]int{{1, 1}, {1, 12}, {10, 1}, {10, 12}, {3, 4}} {
		for _, key := range []int{0, size[0] / 2, size[0] - 1} {
			for _, door := range []int{0, size[1] / 2, size[1] - 1} {
				for _, entry := range []int64{-1, 2, 3, -2, 16, 255, 256, 1 << 16, 1<<16 + 1, 1 << 32, 1<<32 + 1, smallest, smallest + 1, largest, largest - 1} {
					table := sizedTable(size[0], size[1], int64(key+door)%2)
					table[key][door] = entry
					bad = append(bad, table)
				}
			}
		}
	}
	return bad
}

// badDoors are no strictly increasing lists of columns of a table with count columns.
func badDoors(count int64) [][]int64 {
	last := count - 1
	bad := [][]int64{
		{0, 0}, {last, last}, joined(nodesBelow(count), []int64{last}), joined(nodesBelow(count), []int64{0}), {-1}, {-1, 0}, {0, -1}, {last, -1}, {count}, {0, count}, {last, count}, nodesBelow(count + 1), nodesBelow(13), nodesBelow(101), {-1, count}, filled(1000, 0),
		{count + 1}, {12}, {13}, {16}, {63}, {64}, {-64}, {255}, {256}, {1 << 32}, {0, 1 << 32}, {-1 << 32}, {smallest}, {smallest, 0}, {largest}, {0, largest}, {largest - 1},
	}
	if count > 1 {
		bad = append(bad, []int64{1, 0}, []int64{last, 0}, []int64{last, last - 1}, joined(nodesBelow(last)[:last-1], []int64{last, last - 1}))
	}
	return bad
}

// These tables have rows within one another, apart from one another, and both; and two that
// overlap.
var (
	chainTable = tableOf("1111 0111 0011 0001")
	apartTable = tableOf("11000 00100 00011")
	treeTable  = tableOf("110000 001111 111111 000011 000000 001100 100000 000011")
	pairTable  = tableOf("11111 10000 01100 00110")
	fullTable  = tableOf("010000000001 100000000000 111111111111 000000000000 111111000000 000000111111 111111111111 000000000000 001100110011 000000000001")
)

func TestConstantsOfTables(t *testing.T) {
	if impl.MaxDoors != 12 {
		t.Errorf("MaxDoors is %d", impl.MaxDoors)
	}
}

func TestIsTable(t *testing.T) {
	good := append(someTables(), chainTable, apartTable, treeTable, pairTable, fullTable,
		tableOf("0"), tableOf("1"), tableOf("0 1"), tableOf("01"), repeated(10, "1"), repeated(10, "010101010101"), tableOf("000000000000"), tableOf("111111111111"))
	for _, table := range good {
		given := roomyLists(table)
		if !impl.IsTable(given) {
			t.Errorf("IsTable(%v) = false", table)
		}
		checkListsKept(t, "IsTable", given, table)
	}
	for _, table := range badTables() {
		given := roomyLists(table)
		if impl.IsTable(given) {
			t.Errorf("IsTable(%.100v) = true", table)
		}
		checkListsKept(t, "IsTable", given, table)
	}
}

// All tables of up to three rows that have up to two entries from -1 to 2.
func TestIsTableForAllShortRows(t *testing.T) {
	rows := [][]int64{{}}
	for first := int64(-1); first <= 2; first++ {
		rows = append(rows, []int64{first})
		for second := int64(-1); second <= 2; second++ {
			rows = append(rows, []int64{first, second})
		}
	}
	tables, valid := [][][]int64{{}}, 0
	for range 4 {
		var longer [][][]int64
		for _, table := range tables {
			want := len(table) > 0 && !slices.ContainsFunc(table, func(row []int64) bool {
				return len(row) == 0 || len(row) != len(table[0]) || slices.Min(row) < 0 || slices.Max(row) > 1
			})
			if got := impl.IsTable(table); got != want {
				t.Errorf("IsTable(%v) = %v", table, got)
			}
			if want {
				valid++
			}
			for _, row := range rows {
				longer = append(longer, append(slices.Clone(table), row))
			}
		}
		tables = longer
	}
	// One, two and three rows of one entry, and of two.
	if valid != 2+4+8+4+16+64 {
		t.Errorf("there are %d access tables", valid)
	}
}

func TestIsHierarchical(t *testing.T) {
	for _, c := range []struct {
		table [][]int64
		want  bool
	}{
		// One row, zeros alone, ones alone, and equal rows.
		{tableOf("0"), true}, {tableOf("1"), true}, {tableOf("0101"), true}, {tableOf("000000000000"), true}, {sizedTable(10, 12, 0), true}, {sizedTable(10, 12, 1), true}, {repeated(10, "01"), true}, {repeated(2, "1011"), true}, {tableOf("0 1 0"), true},
		// Nested rows, rows without a common door, and both.
		{chainTable, true}, {tableOf("0001 0011 0111 1111"), true}, {tableOf("0011 1111 0001 0111"), true}, {apartTable, true}, {treeTable, true}, {tableOf("10 01"), true}, {tableOf("100000000000 000000000001 000000000000 111111111111"), true},
		// One pair alone overlaps: the last rows, the first ones, and the first and the last one.
		{pairTable, false}, {tableOf("110 011"), false}, {tableOf("01100 00110 11111 10000"), false}, {tableOf("01100 11111 10000 00000 00110"), false}, {tableOf("110000000000 111111111111 000000000000 100000000001"), false}, {tableOf("101 011"), false},
		{tableOf("011111111111 111111111110"), false}, {slices.Concat(tableOf("110"), repeated(8, "000"), tableOf("011")), false}, {slices.Concat(repeated(8, "111"), tableOf("110 011")), false}, {fullTable, false},
	} {
		given := roomyLists(c.table)
		if got, code := impl.IsHierarchical(given); got != c.want || code != impl.ErrNone {
			t.Errorf("IsHierarchical(%v) = %v, %d, want %v", c.table, got, code, c.want)
		}
		checkListsKept(t, "IsHierarchical", given, c.table)
	}
}

func TestContainedIn(t *testing.T) {
	for _, c := range []struct {
		table [][]int64
		key   int64
		want  []int64
	}{
		{chainTable, 0, []int64{1, 2, 3}}, {chainTable, 1, []int64{2, 3}}, {chainTable, 2, []int64{3}}, {chainTable, 3, nil},
		{apartTable, 0, nil}, {apartTable, 1, nil}, {apartTable, 2, nil}, {pairTable, 0, []int64{1, 2, 3}}, {pairTable, 2, nil},
		// The rows 3 and 7 are equal, and the row 4 has zeros alone.
		{treeTable, 0, []int64{4, 6}}, {treeTable, 1, []int64{3, 4, 5, 7}}, {treeTable, 2, []int64{0, 1, 3, 4, 5, 6, 7}}, {treeTable, 3, []int64{4, 7}}, {treeTable, 4, nil}, {treeTable, 5, []int64{4}}, {treeTable, 6, []int64{4}}, {treeTable, 7, []int64{3, 4}},
		{fullTable, 0, []int64{3, 7, 9}}, {fullTable, 2, []int64{0, 1, 3, 4, 5, 6, 7, 8, 9}}, {fullTable, 3, []int64{7}}, {fullTable, 4, []int64{1, 3, 7}}, {fullTable, 5, []int64{3, 7, 9}}, {fullTable, 6, []int64{0, 1, 2, 3, 4, 5, 7, 8, 9}}, {fullTable, 7, []int64{3}}, {fullTable, 8, []int64{3, 7, 9}}, {fullTable, 9, []int64{3, 7}},
		// One row, and rows that are all equal.
		{tableOf("0"), 0, nil}, {tableOf("1"), 0, nil}, {tableOf("111111111111"), 0, nil}, {tableOf("0 1"), 0, nil}, {tableOf("0 1"), 1, []int64{0}}, {repeated(10, "0"), 0, nodesBelow(10)[1:]}, {repeated(10, "0"), 9, nodesBelow(9)}, {sizedTable(10, 12, 1), 4, []int64{0, 1, 2, 3, 5, 6, 7, 8, 9}},
	} {
		given := roomyLists(c.table)
		if got, code := impl.ContainedIn(given, c.key); !slices.Equal(got, c.want) || code != impl.ErrNone {
			t.Errorf("ContainedIn(%v, %d) = %v, %d, want %v", c.table, c.key, got, code, c.want)
		}
		checkListsKept(t, "ContainedIn", given, c.table)
	}
}

// tableCase tells what a function returns for a table.
type tableCase struct {
	table [][]int64
	want  []int64
}

func checkTableCases(t *testing.T, name string, call func(t [][]int64) ([]int64, int64), cases []tableCase) {
	t.Helper()
	for _, c := range cases {
		given := roomyLists(c.table)
		if got, code := call(given); !slices.Equal(got, c.want) || code != impl.ErrNone {
			t.Errorf("%s(%v) = %v, %d, want %v", name, c.table, got, code, c.want)
		}
		checkListsKept(t, name, given, c.table)
	}
}

func TestEqualRows(t *testing.T) {
	checkTableCases(t, "EqualRows", impl.EqualRows, []tableCase{
		{chainTable, nodesBelow(4)}, {apartTable, nodesBelow(3)}, {treeTable, []int64{0, 1, 2, 3, 4, 5, 6, 3}}, {fullTable, []int64{0, 1, 2, 3, 4, 5, 2, 3, 8, 9}},
		{tableOf("0"), []int64{0}}, {tableOf("1"), []int64{0}}, {tableOf("0 1 0 1 0"), []int64{0, 1, 0, 1, 0}}, {tableOf("1 0 0 1"), []int64{0, 1, 1, 0}}, {tableOf("01 10 10 01 11"), []int64{0, 1, 1, 0, 4}},
		{sizedTable(10, 12, 0), filled(10, 0)}, {sizedTable(10, 12, 1), filled(10, 0)}, {repeated(10, "010101010101"), filled(10, 0)},
		// Rows that differ in their first or last entry alone.
		{tableOf("011111111111 111111111111 111111111110 111111111111 011111111111 111111111110"), []int64{0, 1, 2, 1, 0, 2}},
		{slices.Concat(repeated(9, "10"), tableOf("11")), joined(filled(9, 0), []int64{9})},
	})
}

func TestMasterKeys(t *testing.T) {
	checkTableCases(t, "MasterKeys", impl.MasterKeys, []tableCase{
		// None, one, several and all.
		{tableOf("0"), nil}, {apartTable, nil}, {sizedTable(10, 12, 0), nil}, {tableOf("011111111111 111111111110 111110111111"), nil}, {tableOf("10 01 00"), nil}, {repeated(10, "0111"), nil},
		{tableOf("1"), []int64{0}}, {chainTable, []int64{0}}, {treeTable, []int64{2}}, {pairTable, []int64{0}}, {tableOf("011111111111 111111111111"), []int64{1}}, {slices.Concat(repeated(9, "0"), tableOf("1")), []int64{9}},
		{fullTable, []int64{2, 6}}, {tableOf("1 0 1"), []int64{0, 2}}, {tableOf("11 10 11 01 11"), []int64{0, 2, 4}},
		{tableOf("1 1"), []int64{0, 1}}, {repeated(10, "1"), nodesBelow(10)}, {sizedTable(10, 12, 1), nodesBelow(10)}, {tableOf("111111111111"), []int64{0}},
	})
}

func TestLeastKeysFor(t *testing.T) {
	for _, c := range []struct {
		table       [][]int64
		doors, want []int64
	}{
		// No doors, with keys for all doors and for none.
		{chainTable, nil, nil}, {chainTable, []int64{}, nil}, {tableOf("0"), nil, nil}, {sizedTable(10, 12, 0), nil, nil}, {fullTable, nil, nil},
		// One door: the first key for it.
		{chainTable, []int64{0}, []int64{0}}, {tableOf("0001 0011 0111 1111"), []int64{1}, []int64{2}}, {apartTable, []int64{2}, []int64{1}}, {apartTable, []int64{4}, []int64{2}}, {tableOf("1"), []int64{0}, []int64{0}}, {tableOf("0 1 1"), []int64{0}, []int64{1}}, {slices.Concat(repeated(9, "000000000000"), tableOf("000000000001")), []int64{11}, []int64{9}},
		// All doors.
		{chainTable, nodesBelow(4), []int64{0}}, {tableOf("0001 0011 0111 1111 1111"), nodesBelow(4), []int64{3}}, {apartTable, nodesBelow(5), []int64{0, 1, 2}}, {treeTable, nodesBelow(6), []int64{2}}, {fullTable, nodesBelow(12), []int64{2}}, {tableOf("10 01 00"), []int64{0, 1}, []int64{0, 1}}, {sizedTable(10, 12, 1), nodesBelow(12), []int64{0}},
		{tableOf("100000000000 010000000000 001000000000 000100000000 000010000000 000001000000 000000100000 000000010000 000000001000 000000000111"), nodesBelow(12), nodesBelow(10)},
		{tableOf("100000000000 010000000000 001000000000 000100000000 000010000000 000001000000 000000100000 000000010000 000000001000 000000000111"), []int64{0, 3, 10, 11}, []int64{0, 3, 9}},
		// Some doors; what keys open beside them does not count.
		{apartTable, []int64{0, 3}, []int64{0, 2}}, {apartTable, []int64{1, 2}, []int64{0, 1}}, {treeTable, []int64{0, 1}, []int64{0}}, {treeTable, []int64{1, 2}, []int64{2}}, {treeTable, []int64{4, 5}, []int64{1}}, {tableOf("1100 0011 0110"), []int64{1, 2}, []int64{2}}, {tableOf("1110 1000 0111"), []int64{1}, []int64{0}},
		// A key that opens the most doors would make the set longer.
		{tableOf("011110 111000 000111"), nodesBelow(6), []int64{1, 2}}, {tableOf("111000 011110 000111"), nodesBelow(6), []int64{0, 2}}, {tableOf("001111110000 111110000000 000001111111 010000000000"), nodesBelow(12), []int64{1, 2}},
		// A key that opens the most doors would not make the smallest set.
		{tableOf("1100 1110 0011"), nodesBelow(4), []int64{0, 2}}, {tableOf("1000 0011 0110 1101 0111"), nodesBelow(4), []int64{0, 4}},
		// Several sets with as few keys.
		{tableOf("1100 1010 0101 0011"), nodesBelow(4), []int64{0, 3}}, {tableOf("10 10 01 01"), []int64{0, 1}, []int64{0, 2}}, {tableOf("01 10 01 10"), []int64{0, 1}, []int64{0, 1}}, {tableOf("000 110 011 101"), nodesBelow(3), []int64{1, 2}}, {tableOf("100 010 001 100 010 001"), nodesBelow(3), []int64{0, 1, 2}}, {tableOf("1000 1000 0100 0011 0010 0001 0011"), nodesBelow(4), []int64{0, 2, 3}},
		{tableOf("000000 100100 000000 010000 001000 000011 010010 001001 100000 000111"), nodesBelow(6), []int64{1, 6, 7}}, {tableOf("111000000 000111000 000000111 100100100 010010010 001001001"), nodesBelow(9), []int64{0, 1, 2}}, {tableOf("100100100 111000000 010010010 000111000 001001001 000000111"), nodesBelow(9), []int64{0, 2, 4}},
	} {
		given, doors := roomyLists(c.table), roomy(c.doors)
		if got, code := impl.LeastKeysFor(given, doors); !slices.Equal(got, c.want) || code != impl.ErrNone {
			t.Errorf("LeastKeysFor(%v, %v) = %v, %d, want %v", c.table, c.doors, got, code, c.want)
		}
		checkListsKept(t, "LeastKeysFor", given, c.table)
		checkKept(t, "LeastKeysFor", doors, c.doors)
	}
}

func TestTurnTable(t *testing.T) {
	for _, c := range []struct{ table, want [][]int64 }{
		{tableOf("0"), tableOf("0")}, {tableOf("1"), tableOf("1")}, {tableOf("01"), tableOf("0 1")}, {tableOf("0 1 1"), tableOf("011")},
		{chainTable, tableOf("1000 1100 1110 1111")}, {apartTable, tableOf("100 100 010 001 001")}, {tableOf("110 010"), tableOf("10 11 00")}, {pairTable, tableOf("1100 1010 1011 1001 1000")},
		// More rows than an access table has.
		{tableOf("000000000001"), tableOf("0 0 0 0 0 0 0 0 0 0 0 1")}, {tableOf("10000000001"), tableOf("1 0 0 0 0 0 0 0 0 0 1")}, {sizedTable(10, 12, 1), sizedTable(12, 10, 1)}, {sizedTable(10, 12, 0), sizedTable(12, 10, 0)}, {tableOf("111111000000 010101010101"), tableOf("10 11 10 11 10 11 00 01 00 01 00 01")},
		// As many, and fewer.
		{tableOf("1000000001"), tableOf("1 0 0 0 0 0 0 0 0 1")}, {repeated(10, "1"), tableOf("1111111111")}, {repeated(10, "10"), tableOf("1111111111 0000000000")},
	} {
		given := roomyLists(c.table)
		if got, code := impl.TurnTable(given); !sameLists(got, c.want) || code != impl.ErrNone {
			t.Errorf("TurnTable(%v) = %v, %d, want %v", c.table, got, code, c.want)
		}
		checkListsKept(t, "TurnTable", given, c.table)
	}
}

func TestCountDoors(t *testing.T) {
	for _, c := range []struct {
		table [][]int64
		want  []int64
	}{
		{chainTable, []int64{4, 3, 2, 1}}, {apartTable, []int64{2, 1, 2}}, {treeTable, []int64{2, 4, 6, 2, 0, 2, 1, 2}}, {pairTable, []int64{5, 1, 2, 2}}, {fullTable, []int64{2, 1, 12, 0, 6, 6, 12, 0, 6, 1}},
		{tableOf("0"), []int64{0}}, {tableOf("1"), []int64{1}}, {tableOf("0 1"), []int64{0, 1}}, {tableOf("101010101010"), []int64{6}}, {sizedTable(10, 12, 0), filled(10, 0)}, {sizedTable(10, 12, 1), filled(10, 12)}, {sizedTable(10, 1, 1), filled(10, 1)},
	} {
		for key, want := range c.want {
			given := roomyLists(c.table)
			if got, code := impl.CountDoors(given, int64(key)); got != want || code != impl.ErrNone {
				t.Errorf("CountDoors(%v, %d) = %d, %d, want %d", c.table, key, got, code, want)
			}
			checkListsKept(t, "CountDoors", given, c.table)
		}
	}
}

func TestDoorsInCommon(t *testing.T) {
	for _, c := range []struct {
		table [][]int64
		a, b  int64
		want  []int64
	}{
		{chainTable, 0, 1, []int64{1, 2, 3}}, {chainTable, 3, 0, []int64{3}}, {chainTable, 1, 2, []int64{2, 3}}, {pairTable, 2, 3, []int64{2}}, {pairTable, 0, 3, []int64{2, 3}}, {fullTable, 5, 8, []int64{6, 7, 10, 11}}, {fullTable, 4, 8, []int64{2, 3}}, {fullTable, 0, 4, []int64{1}}, {fullTable, 0, 9, []int64{11}}, {fullTable, 2, 6, nodesBelow(12)},
		// Equal rows, and the same key twice.
		{treeTable, 3, 7, []int64{4, 5}}, {chainTable, 0, 0, nodesBelow(4)}, {chainTable, 3, 3, []int64{3}}, {treeTable, 6, 6, []int64{0}}, {fullTable, 8, 8, []int64{2, 3, 6, 7, 10, 11}}, {fullTable, 9, 9, []int64{11}}, {tableOf("1"), 0, 0, []int64{0}}, {sizedTable(10, 12, 1), 9, 9, nodesBelow(12)}, {sizedTable(10, 12, 1), 0, 9, nodesBelow(12)},
		// None in common.
		{apartTable, 0, 1, nil}, {apartTable, 2, 0, nil}, {treeTable, 0, 1, nil}, {treeTable, 2, 4, nil}, {treeTable, 4, 4, nil}, {fullTable, 4, 5, nil}, {fullTable, 3, 7, nil}, {tableOf("0"), 0, 0, nil}, {tableOf("0 1"), 0, 1, nil}, {tableOf("10 01"), 1, 0, nil},
	} {
		given := roomyLists(c.table)
		if got, code := impl.DoorsInCommon(given, c.a, c.b); !slices.Equal(got, c.want) || code != impl.ErrNone {
			t.Errorf("DoorsInCommon(%v, %d, %d) = %v, %d, want %v", c.table, c.a, c.b, got, code, c.want)
		}
		checkListsKept(t, "DoorsInCommon", given, c.table)
	}
}

func TestAllFunctionsOfManyTables(t *testing.T) {
	for _, table := range someTables() {
		if got, code := impl.IsHierarchical(table); got != expectedHierarchical(table) || code != impl.ErrNone {
			t.Fatalf("IsHierarchical(%v) = %v, %d", table, got, code)
		}
		masters := keysOf(table, func(row []int64) bool { return !slices.Contains(row, 0) })
		if got, code := impl.MasterKeys(table); !slices.Equal(got, masters) || code != impl.ErrNone {
			t.Fatalf("MasterKeys(%v) = %v, %d", table, got, code)
		}
		if got, code := impl.TurnTable(table); !sameLists(got, expectedTurned(table)) || code != impl.ErrNone {
			t.Fatalf("TurnTable(%v) = %v, %d", table, got, code)
		}
		firsts, code := impl.EqualRows(table)
		if len(firsts) != len(table) || code != impl.ErrNone {
			t.Fatalf("EqualRows(%v) = %v, %d", table, firsts, code)
		}
		for key, row := range table {
			if want := keysOf(table, func(other []int64) bool { return slices.Equal(row, other) })[0]; firsts[key] != want {
				t.Fatalf("EqualRows(%v) = %v, but the row %d is first that of %d", table, firsts, key, want)
			}
			checkKeyOfTable(t, table, int64(key))
		}
	}
}

func checkKeyOfTable(t *testing.T, table [][]int64, key int64) {
	t.Helper()
	row := table[key]
	contained := slices.DeleteFunc(keysOf(table, func(other []int64) bool { return expectedIn(other, row) }), func(other int64) bool { return other == key })
	if got, code := impl.ContainedIn(table, key); !slices.Equal(got, contained) || code != impl.ErrNone {
		t.Fatalf("ContainedIn(%v, %d) = %v, %d", table, key, got, code)
	}
	if got, code := impl.CountDoors(table, key); got != int64(len(expectedInCommon(row, row))) || code != impl.ErrNone {
		t.Fatalf("CountDoors(%v, %d) = %v, %d", table, key, got, code)
	}
	for other := range int64(len(table)) {
		if got, code := impl.DoorsInCommon(table, key, other); !slices.Equal(got, expectedInCommon(row, table[other])) || code != impl.ErrNone {
			t.Fatalf("DoorsInCommon(%v, %d, %d) = %v, %d", table, key, other, got, code)
		}
	}
}

func TestLeastKeysOfManyTables(t *testing.T) {
	s := sequence(111)
	for _, table := range someTables() {
		for _, doors := range doorLists(&s, len(table[0])) {
			want, wantCode := expectedLeastKeys(table, doors)
			if got, code := impl.LeastKeysFor(table, doors); !slices.Equal(got, want) || code != wantCode {
				t.Fatalf("LeastKeysFor(%v, %v) = %v, %d, want %v, %d", table, doors, got, code, want, wantCode)
			}
		}
	}
}

// P10: fewer keys than the least ones do not open all of the doors.
func TestP10FewerKeysDoNotOpenAllDoors(t *testing.T) {
	s := sequence(10)
	for _, table := range someTables() {
		for _, doors := range doorLists(&s, len(table[0])) {
			least, code := impl.LeastKeysFor(table, doors)
			if code == impl.ErrNotFound {
				if opensAll(table, nodesBelow(int64(len(table))), doors) {
					t.Fatalf("LeastKeysFor(%v, %v) = %v, %d, but all keys open them", table, doors, least, code)
				}
				continue
			}
			if code != impl.ErrNone || !impl.IsRising(least, int64(len(table))) || !opensAll(table, least, doors) {
				t.Fatalf("LeastKeysFor(%v, %v) = %v, %d", table, doors, least, code)
			}
			for size := range int64(len(least)) {
				for _, fewer := range setsOf(size, int64(len(table))) {
					if opensAll(table, fewer, doors) {
						t.Fatalf("LeastKeysFor(%v, %v) = %v, but %v open them", table, doors, least, fewer)
					}
				}
			}
		}
	}
}

// Rows that are contained in another one open no more doors, and only doors that it opens.
func TestContainedRowsOpenNoMoreDoors(t *testing.T) {
	for _, table := range someTables() {
		for key := range int64(len(table)) {
			count, _ := impl.CountDoors(table, key)
			contained, code := impl.ContainedIn(table, key)
			if code != impl.ErrNone {
				t.Fatalf("ContainedIn(%v, %d) = %v, %d", table, key, contained, code)
			}
			for _, other := range contained {
				fewer, _ := impl.CountDoors(table, other)
				common, _ := impl.DoorsInCommon(table, key, other)
				own, _ := impl.DoorsInCommon(table, other, other)
				if fewer > count || int64(len(common)) != fewer || !slices.Equal(common, own) {
					t.Fatalf("%v: the row %d is contained in %d, but they open %d and %d doors, %v in common", table, other, key, fewer, count, common)
				}
			}
		}
	}
}

// In a hierarchical table a row that has a door in common with another one is contained in
// it or contains it; in any other table this is broken.
func TestRowsOfHierarchicalTables(t *testing.T) {
	seen := map[bool]int{}
	for _, table := range someTables() {
		hierarchical, code := impl.IsHierarchical(table)
		if code != impl.ErrNone {
			t.Fatalf("IsHierarchical(%v) = %v, %d", table, hierarchical, code)
		}
		overlap := false
		for a := range int64(len(table)) {
			for b := range a {
				common, _ := impl.DoorsInCommon(table, a, b)
				inA, _ := impl.ContainedIn(table, a)
				inB, _ := impl.ContainedIn(table, b)
				if len(common) > 0 && !slices.Contains(inA, b) && !slices.Contains(inB, a) {
					overlap = true
				}
			}
		}
		if overlap == hierarchical {
			t.Fatalf("IsHierarchical(%v) = %v", table, hierarchical)
		}
		seen[hierarchical]++
	}
	if seen[true] < 300 || seen[false] < 300 {
		t.Errorf("there are too few tables of one kind: %v", seen)
	}
}

// Turning a table twice restores it where the turned one is an access table.
func TestTurnTableTwice(t *testing.T) {
	for _, table := range someTables() {
		turned, code := impl.TurnTable(table)
		if code != impl.ErrNone || len(turned) != len(table[0]) {
			t.Fatalf("TurnTable(%v) = %v, %d", table, turned, code)
		}
		if impl.IsTable(turned) != (len(turned) <= 10) {
			t.Fatalf("IsTable(%v) = %v", turned, impl.IsTable(turned))
		}
		again, code := impl.TurnTable(turned)
		if len(turned) > 10 {
			if len(again) != 0 || code != impl.ErrInvalid {
				t.Fatalf("TurnTable(%v) = %v, %d", turned, again, code)
			}
			continue
		}
		if !sameLists(again, table) || code != impl.ErrNone {
			t.Fatalf("TurnTable(%v) = %v, %d, want %v", turned, again, code, table)
		}
	}
}

// The access to a plan with few enough doors is an access table.
func TestTablesOfPlans(t *testing.T) {
	for _, p := range []impl.Plan{officePlan, mixedPlan, vacantPlan, chainPlan} {
		access, _ := impl.AccessOf(p)
		doors, _ := impl.DoorsOf(p.Building)
		if !impl.IsTable(access) {
			t.Fatalf("IsTable(%v) = false", access)
		}
		for key := range int64(len(p.Rights)) {
			entered, _ := impl.DoorsFor(p, key)
			if got, code := impl.CountDoors(access, key); got != int64(len(entered)) || code != impl.ErrNone {
				t.Errorf("CountDoors(%v, %d) = %d, %d, want %d", access, key, got, code, len(entered))
			}
		}
		if _, code := impl.LeastKeysFor(access, nodesBelow(int64(len(doors)))); (code == impl.ErrNotFound) != (len(expectedUnused(p)) > 0) {
			t.Errorf("LeastKeysFor(%v, all doors) has the code %d", access, code)
		}
	}
	wide, _ := impl.AccessOf(planOf(rowText, []int64{0}))
	if impl.IsTable(wide) {
		t.Errorf("IsTable(%v) = true", wide)
	}
}

// tableResult has what one of the functions of tables returns beside its code.
type tableResult struct {
	yes   bool
	count int64
	list  []int64
	rows  [][]int64
}

func (r tableResult) isZero() bool {
	return !r.yes && r.count == 0 && len(r.list) == 0 && len(r.rows) == 0
}

func (r tableResult) equals(other tableResult) bool {
	return r.yes == other.yes && r.count == other.count && slices.Equal(r.list, other.list) && sameLists(r.rows, other.rows)
}

// tableCalls returns the functions that have a table as an argument, with keys and doors for those
// that have them.
func tableCalls(a, b int64, doors []int64) map[string]func(table [][]int64) (tableResult, int64) {
	return map[string]func(table [][]int64) (tableResult, int64){
		"IsHierarchical": func(table [][]int64) (tableResult, int64) {
			yes, code := impl.IsHierarchical(table)
			return tableResult{yes: yes}, code
		},
		"ContainedIn": func(table [][]int64) (tableResult, int64) {
			list, code := impl.ContainedIn(table, a)
			return tableResult{list: list}, code
		},
		"EqualRows": func(table [][]int64) (tableResult, int64) {
			list, code := impl.EqualRows(table)
			return tableResult{list: list}, code
		},
		"MasterKeys": func(table [][]int64) (tableResult, int64) {
			list, code := impl.MasterKeys(table)
			return tableResult{list: list}, code
		},
		"LeastKeysFor": func(table [][]int64) (tableResult, int64) {
			list, code := impl.LeastKeysFor(table, doors)
			return tableResult{list: list}, code
		},
		"TurnTable": func(table [][]int64) (tableResult, int64) {
			rows, code := impl.TurnTable(table)
			return tableResult{rows: rows}, code
		},
		"CountDoors": func(table [][]int64) (tableResult, int64) {
			count, code := impl.CountDoors(table, a)
			return tableResult{count: count}, code
		},
		"DoorsInCommon": func(table [][]int64) (tableResult, int64) {
			list, code := impl.DoorsInCommon(table, a, b)
			return tableResult{list: list}, code
		},
	}
}

// checkTableCode fails unless a function returns zero values and a code for a table.
func checkTableCode(t *testing.T, name string, call func(table [][]int64) (tableResult, int64), table [][]int64, want int64) {
	t.Helper()
	given := roomyLists(table)
	if got, code := call(given); !got.isZero() || code != want {
		t.Errorf("%s of %.100v = %.100v, %d, want %d", name, table, got, code, want)
	}
	checkListsKept(t, name, given, table)
}

// A table that is none comes before keys and doors that are none, and doors without a key.
func TestTablesRejectTables(t *testing.T) {
	bad := badTables()
	for _, c := range []struct {
		a, b  int64
		doors []int64
	}{{0, 0, nil}, {0, 0, []int64{0}}, {-1, 0, []int64{-1}}, {0, -1, []int64{12}}, {10, 10, []int64{1, 0}}, {smallest, largest, []int64{0, 0}}} {
		for name, call := range tableCalls(c.a, c.b, c.doors) {
			for _, table := range bad {
				checkTableCode(t, name, call, table, impl.ErrInvalid)
			}
		}
	}
}

func TestTablesRejectKeys(t *testing.T) {
	for _, table := range [][][]int64{tableOf("0"), tableOf("1"), chainTable, apartTable, treeTable, fullTable, repeated(9, "01"), sizedTable(10, 12, 1), tableOf("111111111111")} {
		count := int64(len(table))
		for _, bad := range []int64{-1, count, count + 1, -count, 10, 11, 12, 16, 64, 255, 256, 1 << 32, 1<<32 + 1, -1 << 32, 1 << 62, smallest, smallest + 1, largest, largest - 1} {
			for _, other := range []int64{0, count - 1, -1, bad} {
				for _, name := range []string{"ContainedIn", "CountDoors", "DoorsInCommon"} {
					checkTableCode(t, name, tableCalls(bad, other, nil)[name], table, impl.ErrRange)
				}
				checkTableCode(t, "DoorsInCommon", tableCalls(other, bad, nil)["DoorsInCommon"], table, impl.ErrRange)
			}
		}
	}
}

// Doors that are no columns in order come before doors without a key.
func TestLeastKeysForRejectsDoors(t *testing.T) {
	for _, table := range [][][]int64{tableOf("0"), tableOf("1"), tableOf("00"), chainTable, apartTable, treeTable, fullTable, repeated(10, "01"), sizedTable(10, 12, 1), sizedTable(10, 12, 0), tableOf("111111111110"), sizedTable(3, 11, 0)} {
		for _, bad := range badDoors(int64(len(table[0]))) {
			doors := roomy(bad)
			checkTableCode(t, "LeastKeysFor", tableCalls(0, 0, doors)["LeastKeysFor"], table, impl.ErrRange)
			checkKept(t, "LeastKeysFor", doors, bad)
		}
	}
}

func TestLeastKeysForDoorsWithoutKey(t *testing.T) {
	for _, c := range []struct {
		table [][]int64
		doors []int64
	}{
		{tableOf("0"), []int64{0}}, {repeated(10, "0"), []int64{0}}, {tableOf("00"), []int64{0, 1}}, {tableOf("10"), []int64{1}}, {tableOf("10"), []int64{0, 1}}, {tableOf("01"), []int64{0}}, {tableOf("011 001 010"), nodesBelow(3)}, {tableOf("011 001 010"), []int64{0, 2}},
		{sizedTable(10, 12, 0), nodesBelow(12)}, {sizedTable(10, 12, 0), []int64{11}}, {repeated(10, "111111111110"), nodesBelow(12)}, {repeated(10, "111111111110"), []int64{0, 11}}, {repeated(10, "011111111111"), []int64{0}}, {repeated(10, "111110111111"), []int64{4, 5, 6}},
	} {
		doors := roomy(c.doors)
		checkTableCode(t, "LeastKeysFor", tableCalls(0, 0, doors)["LeastKeysFor"], c.table, impl.ErrNotFound)
		checkKept(t, "LeastKeysFor", doors, c.doors)
	}
}

// Results share no memory with an argument, with one another or with later results.
func TestResultsOfTablesAreNew(t *testing.T) {
	for _, table := range [][][]int64{chainTable, apartTable, treeTable, fullTable, tableOf("1"), tableOf("1 0"), sizedTable(10, 12, 1)} {
		given, doors := roomyLists(table), []int64{0}
		for key := range int64(len(table)) {
			for name, call := range tableCalls(key, 0, doors) {
				want, _ := call(given)
				got, _ := call(given)
				checkApart(t, name, slices.Concat([][]int64{got.list}, got.rows)...)
				clear(got.rows[:cap(got.rows)])
				if again, code := call(given); !again.equals(want) || code != impl.ErrNone {
					t.Errorf("%s of %v is %v, %d after its result %v was changed", name, table, again, code, want)
				}
				checkListsKept(t, name, given, table)
				if !slices.Equal(doors, []int64{0}) {
					t.Fatalf("%s shares memory with the doors, which are now %v", name, doors)
				}
			}
		}
	}
}
