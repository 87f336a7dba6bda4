package tests

import (
	"math"
	"math/big"
	"regexp"
	"slices"
	"strings"
	"testing"

	"loop.example/g00947/impl"
)

const (
	top      = int64(impl.MaxNumber)
	smallest = int64(math.MinInt64)
	largest  = int64(math.MaxInt64)
)

func TestConstantsOfNumbers(t *testing.T) {
	got := []int64{impl.ErrNone, impl.ErrInvalid, impl.ErrRange, impl.ErrLimit, impl.ErrNotFound,
		impl.ErrState, impl.ErrSyntax, impl.MaxNumber, impl.MaxList}
	if want := []int64{0, 1, 2, 3, 4, 5, 6, 1000000000000, 100}; !slices.Equal(got, want) {
		t.Errorf("constants are %v, want %v", got, want)
	}
}

// listCase is a call of a function of a list that returns a number and a code.
type listCase struct {
	list []int64
	want int64
	code int64
}

func checkListCases(t *testing.T, name string, call func([]int64) (int64, int64), cases []listCase) {
	t.Helper()
	for _, c := range cases {
		given := roomy(c.list)
		got, code := call(given)
		if got != c.want || code != c.code {
			t.Errorf("%s(%v) = %d, %d, want %d, %d", name, c.list, got, code, c.want, c.code)
		}
		checkKept(t, name, given, c.list)
	}
}

func TestProductOf(t *testing.T) {
	checkListCases(t, "ProductOf", impl.ProductOf, []listCase{
		{nil, 1, impl.ErrNone},
		{[]int64{}, 1, impl.ErrNone},
		{[]int64{0}, 0, impl.ErrNone},
		{[]int64{7}, 7, impl.ErrNone},
		{[]int64{3, 4, 5}, 60, impl.ErrNone},
		{[]int64{5, 0, 3}, 0, impl.ErrNone},
		{[]int64{top}, top, impl.ErrNone},
		{[]int64{1, top, 1}, top, impl.ErrNone},
		{[]int64{1000000, 1000000}, top, impl.ErrNone},
		{[]int64{999999, 1000001}, 999999999999, impl.ErrNone},
		{filled(100, 1), 1, impl.ErrNone},
		{filled(39, 2), 549755813888, impl.ErrNone},
		// 73 * 137 * 99990001 is MaxNumber + 1.
		{[]int64{73, 137, 99990001}, 0, impl.ErrLimit},
		{[]int64{99990001, 137, 73}, 0, impl.ErrLimit},
		{filled(40, 2), 0, impl.ErrLimit},
		{[]int64{top, 2}, 0, impl.ErrLimit},
		{[]int64{2, top, 1, 1}, 0, impl.ErrLimit},
		// Modulo 2 to the power of 64 these products are 0.
		{filled(64, 2), 0, impl.ErrLimit},
		{filled(100, 2), 0, impl.ErrLimit},
		{[]int64{4294967296, 4294967296}, 0, impl.ErrLimit},
		{filled(100, top), 0, impl.ErrLimit},
		{[]int64{-1}, 0, impl.ErrRange},
		{[]int64{top + 1}, 0, impl.ErrRange},
		{[]int64{smallest}, 0, impl.ErrRange},
		{[]int64{largest}, 0, impl.ErrRange},
		{[]int64{-2, -3}, 0, impl.ErrRange},
		{[]int64{0, -1}, 0, impl.ErrRange},
		{[]int64{0, top + 1}, 0, impl.ErrRange},
		{filled(101, 1), 0, impl.ErrRange},
		{filled(101, 0), 0, impl.ErrRange},
	})
}

func TestProductOfZerosBesideLargeFactors(t *testing.T) {
	checkListCases(t, "ProductOf", impl.ProductOf, []listCase{
		{[]int64{top, 0}, 0, impl.ErrNone},
		{[]int64{0, top, top}, 0, impl.ErrNone},
		{[]int64{top, top, 0}, 0, impl.ErrNone},
		{[]int64{top, top, 0, top, top}, 0, impl.ErrNone},
		{joined(filled(99, top), []int64{0}), 0, impl.ErrNone},
		{joined([]int64{0}, filled(99, top)), 0, impl.ErrNone},
	})
}

func TestSumOf(t *testing.T) {
	checkListCases(t, "SumOf", impl.SumOf, []listCase{
		{nil, 0, impl.ErrNone},
		{[]int64{}, 0, impl.ErrNone},
		{[]int64{0}, 0, impl.ErrNone},
		{[]int64{9}, 9, impl.ErrNone},
		{[]int64{3, 4, 5}, 12, impl.ErrNone},
		{[]int64{0, top, 0}, top, impl.ErrNone},
		{[]int64{1, top - 1}, top, impl.ErrNone},
		{filled(100, 10000000000), top, impl.ErrNone},
		{filled(100, 1), 100, impl.ErrNone},
		{[]int64{1, top}, 0, impl.ErrLimit},
		{[]int64{top, 1}, 0, impl.ErrLimit},
		{joined(filled(99, 10000000000), []int64{10000000001}), 0, impl.ErrLimit},
		{filled(100, top), 0, impl.ErrLimit},
		{[]int64{-1}, 0, impl.ErrRange},
		{[]int64{5, -1}, 0, impl.ErrRange},
		{[]int64{top + 1}, 0, impl.ErrRange},
		{[]int64{smallest, largest}, 0, impl.ErrRange},
		{filled(101, 0), 0, impl.ErrRange},
	})
}

// ErrRange is found over the whole list before ErrLimit.
func TestRangeBeforeLimitInLists(t *testing.T) {
	cases := []listCase{
		{[]int64{top, top, -1}, 0, impl.ErrRange},
		{[]int64{top, top, top + 1}, 0, impl.ErrRange},
		{[]int64{-1, top, top}, 0, impl.ErrRange},
		{filled(101, top), 0, impl.ErrRange},
	}
	checkListCases(t, "ProductOf", impl.ProductOf, cases)
	checkListCases(t, "SumOf", impl.SumOf, cases)
}

// pairCase is a call of a function of two integers that returns a number and a code.
type pairCase struct {
	a, b int64
	want int64
	code int64
}

func checkPairCases(t *testing.T, name string, call func(a, b int64) (int64, int64), cases []pairCase) {
	t.Helper()
	for _, c := range cases {
		if got, code := call(c.a, c.b); got != c.want || code != c.code {
			t.Errorf("%s(%d, %d) = %d, %d, want %d, %d", name, c.a, c.b, got, code, c.want, c.code)
		}
	}
}

func TestPowerOf(t *testing.T) {
	checkPairCases(t, "PowerOf", impl.PowerOf, []pairCase{
		{0, 0, 1, impl.ErrNone},
		{0, 1, 0, impl.ErrNone},
		{0, 60, 0, impl.ErrNone},
		{1, 60, 1, impl.ErrNone},
		{2, 10, 1024, impl.ErrNone},
		{3, 4, 81, impl.ErrNone},
		{top, 0, 1, impl.ErrNone},
		{top, 1, top, impl.ErrNone},
		{1000000, 2, top, impl.ErrNone},
		{10, 12, top, impl.ErrNone},
		{2, 39, 549755813888, impl.ErrNone},
		{2, 40, 0, impl.ErrLimit},
		{10, 13, 0, impl.ErrLimit},
		{1000001, 2, 0, impl.ErrLimit},
		{top, 2, 0, impl.ErrLimit},
		{2, 60, 0, impl.ErrLimit},
		{4294967296, 2, 0, impl.ErrLimit},
		{256, 60, 0, impl.ErrLimit},
		{top, 60, 0, impl.ErrLimit},
		{-1, 2, 0, impl.ErrRange},
		{top + 1, 0, 0, impl.ErrRange},
		{top + 1, 2, 0, impl.ErrRange},
		{2, -1, 0, impl.ErrRange},
		{1, 61, 0, impl.ErrRange},
		{0, 61, 0, impl.ErrRange},
		{2, 61, 0, impl.ErrRange},
		{smallest, 1, 0, impl.ErrRange},
		{largest, 1, 0, impl.ErrRange},
		{1, smallest, 0, impl.ErrRange},
		{1, largest, 0, impl.ErrRange},
	})
}

func TestChooseOf(t *testing.T) {
	checkPairCases(t, "ChooseOf", impl.ChooseOf, []pairCase{
		{0, 0, 1, impl.ErrNone},
		{1, 0, 1, impl.ErrNone},
		{1, 1, 1, impl.ErrNone},
		{5, 2, 10, impl.ErrNone},
		{5, 3, 10, impl.ErrNone},
		{60, 0, 1, impl.ErrNone},
		{60, 1, 60, impl.ErrNone},
		{60, 59, 60, impl.ErrNone},
		{60, 60, 1, impl.ErrNone},
		{42, 21, 538257874440, impl.ErrNone},
		{43, 21, 0, impl.ErrLimit},
		{43, 22, 0, impl.ErrLimit},
		{60, 30, 0, impl.ErrLimit},
		{-1, 0, 0, impl.ErrRange},
		{-1, -1, 0, impl.ErrRange},
		{5, -1, 0, impl.ErrRange},
		{5, 6, 0, impl.ErrRange},
		{0, 1, 0, impl.ErrRange},
		{61, 0, 0, impl.ErrRange},
		{61, 61, 0, impl.ErrRange},
		{61, 30, 0, impl.ErrRange},
		{60, 61, 0, impl.ErrRange},
		{smallest, largest, 0, impl.ErrRange},
		{largest, smallest, 0, impl.ErrRange},
		{largest, largest, 0, impl.ErrRange},
		{60, smallest, 0, impl.ErrRange},
	})
}

// wantNumber tells what a function with this mathematical result returns.
func wantNumber(result *big.Int) (int64, int64) {
	if result.Cmp(big.NewInt(top)) > 0 {
		return 0, impl.ErrLimit
	}
	return result.Int64(), impl.ErrNone
}

func TestPowerOfAgainstBigNumbers(t *testing.T) {
	bases := []int64{0, 1, 2, 3, 4, 5, 7, 8, 10, 16, 60, 100, 999, 1000, 9999, 10000, 10001, 65536,
		999999, 1000000, 1000001, 4294967296, top - 1, top}
	for _, base := range bases {
		for exponent := int64(0); exponent <= 60; exponent++ {
			want, code := wantNumber(new(big.Int).Exp(big.NewInt(base), big.NewInt(exponent), nil))
			checkPairCases(t, "PowerOf", impl.PowerOf, []pairCase{{base, exponent, want, code}})
		}
	}
}

func TestChooseOfAgainstBigNumbers(t *testing.T) {
	for n := int64(0); n <= 60; n++ {
		for k := int64(0); k <= n; k++ {
			want, code := wantNumber(new(big.Int).Binomial(n, k))
			checkPairCases(t, "ChooseOf", impl.ChooseOf, []pairCase{{n, k, want, code}})
		}
	}
}

func TestProductOfAndSumOfAgainstBigNumbers(t *testing.T) {
	s := sequence(1)
	for range 3000 {
		list := make([]int64, s.below(8))
		for i := range list {
			list[i] = s.below([]int64{3, 100, 100000, top + 1}[s.below(4)])
		}
		product, sum := big.NewInt(1), big.NewInt(0)
		for _, n := range list {
			product.Mul(product, big.NewInt(n))
			sum.Add(sum, big.NewInt(n))
		}
		want, code := wantNumber(product)
		checkListCases(t, "ProductOf", impl.ProductOf, []listCase{{list, want, code}})
		want, code = wantNumber(sum)
		checkListCases(t, "SumOf", impl.SumOf, []listCase{{list, want, code}})
	}
}

func TestDigitsOf(t *testing.T) {
	cases := []struct {
		n     int64
		bases []int64
		want  []int64
		code  int64
	}{
		{0, nil, nil, impl.ErrNone},
		{0, []int64{}, nil, impl.ErrNone},
		{0, []int64{1}, []int64{0}, impl.ErrNone},
		{7, []int64{2, 3, 2}, []int64{1, 0, 1}, impl.ErrNone},
		{11, []int64{2, 3, 2}, []int64{1, 2, 1}, impl.ErrNone},
		{99, []int64{100}, []int64{99}, impl.ErrNone},
		{5, []int64{1, 7, 1}, []int64{0, 5, 0}, impl.ErrNone},
		{123, []int64{10, 10, 10, 10, 10}, []int64{0, 0, 1, 2, 3}, impl.ErrNone},
		{top - 1, filled(6, 100), filled(6, 99), impl.ErrNone},
		{top, joined([]int64{2}, filled(6, 100)), []int64{1, 0, 0, 0, 0, 0, 0}, impl.ErrNone},
		{0, filled(100, 1), filled(100, 0), impl.ErrNone},
		{top, filled(100, 100), joined(filled(93, 0), []int64{1}, filled(6, 0)), impl.ErrNone},
		{1, nil, nil, impl.ErrRange},
		{1, []int64{1}, nil, impl.ErrRange},
		{12, []int64{2, 3, 2}, nil, impl.ErrRange},
		{100, []int64{100}, nil, impl.ErrRange},
		{top, filled(6, 100), nil, impl.ErrRange},
		{1, filled(100, 1), nil, impl.ErrRange},
		{-1, []int64{10}, nil, impl.ErrRange},
		{-1, nil, nil, impl.ErrRange},
		{top + 1, filled(100, 100), nil, impl.ErrRange},
		{smallest, []int64{10}, nil, impl.ErrRange},
		{largest, filled(100, 100), nil, impl.ErrRange},
		{0, []int64{0}, nil, impl.ErrRange},
		{0, []int64{10, 0, 10}, nil, impl.ErrRange},
		{0, []int64{-1}, nil, impl.ErrRange},
		{0, []int64{101}, nil, impl.ErrRange},
		{0, []int64{10, 101}, nil, impl.ErrRange},
		{0, []int64{largest}, nil, impl.ErrRange},
		{0, []int64{smallest}, nil, impl.ErrRange},
		{0, filled(101, 1), nil, impl.ErrRange},
		{5, filled(101, 10), nil, impl.ErrRange},
	}
	for _, c := range cases {
		given := roomy(c.bases)
		got, code := impl.DigitsOf(c.n, given)
		if !slices.Equal(got, c.want) || code != c.code {
			t.Errorf("DigitsOf(%d, %v) = %v, %d, want %v, %d", c.n, c.bases, got, code, c.want, c.code)
		}
		checkKept(t, "DigitsOf", given, c.bases)
	}
}

func TestNumberOf(t *testing.T) {
	long := joined([]int64{2}, filled(6, 100))
	cases := []struct {
		digits, bases []int64
		want          int64
		code          int64
	}{
		{nil, nil, 0, impl.ErrNone},
		{[]int64{}, []int64{}, 0, impl.ErrNone},
		{[]int64{0}, []int64{1}, 0, impl.ErrNone},
		{[]int64{1, 0, 1}, []int64{2, 3, 2}, 7, impl.ErrNone},
		{[]int64{1, 2, 1}, []int64{2, 3, 2}, 11, impl.ErrNone},
		{[]int64{99}, []int64{100}, 99, impl.ErrNone},
		{[]int64{4, 2}, []int64{7, 5}, 22, impl.ErrNone},
		{filled(6, 99), filled(6, 100), top - 1, impl.ErrNone},
		{[]int64{1, 0, 0, 0, 0, 0, 0}, long, top, impl.ErrNone},
		{filled(100, 0), filled(100, 100), 0, impl.ErrNone},
		{joined(filled(99, 0), []int64{42}), filled(100, 100), 42, impl.ErrNone},
		{[]int64{1, 0, 0, 0, 0, 0, 1}, long, 0, impl.ErrLimit},
		{[]int64{1, 0, 0, 0, 0, 0, 1, 0}, joined(long, []int64{1}), 0, impl.ErrLimit},
		{filled(64, 1), filled(64, 2), 0, impl.ErrLimit},
		{joined([]int64{1}, filled(99, 0)), filled(100, 2), 0, impl.ErrLimit},
		{filled(100, 99), filled(100, 100), 0, impl.ErrLimit},
		{[]int64{0}, nil, 0, impl.ErrRange},
		{nil, []int64{1}, 0, impl.ErrRange},
		{[]int64{1, 1}, []int64{2, 2, 2}, 0, impl.ErrRange},
		{[]int64{1, 1, 1}, []int64{2, 2}, 0, impl.ErrRange},
		{[]int64{-1}, []int64{2}, 0, impl.ErrRange},
		{[]int64{2}, []int64{2}, 0, impl.ErrRange},
		{[]int64{1, 3, 1}, []int64{2, 3, 2}, 0, impl.ErrRange},
		{[]int64{1}, []int64{1}, 0, impl.ErrRange},
		{[]int64{0}, []int64{0}, 0, impl.ErrRange},
		{[]int64{0}, []int64{-1}, 0, impl.ErrRange},
		{[]int64{0}, []int64{101}, 0, impl.ErrRange},
		{[]int64{100}, []int64{101}, 0, impl.ErrRange},
		{[]int64{smallest}, []int64{smallest}, 0, impl.ErrRange},
		{[]int64{largest}, []int64{100}, 0, impl.ErrRange},
		{filled(101, 0), filled(101, 1), 0, impl.ErrRange},
		// ErrRange is found over both lists before ErrLimit.
		{joined(filled(60, 1), []int64{2}), filled(61, 2), 0, impl.ErrRange},
		{joined(filled(60, 1), []int64{0}), joined(filled(60, 2), []int64{0}), 0, impl.ErrRange},
		{filled(60, 1), filled(61, 2), 0, impl.ErrRange},
		{filled(101, 1), filled(101, 2), 0, impl.ErrRange},
	}
	for _, c := range cases {
		digits, bases := roomy(c.digits), roomy(c.bases)
		got, code := impl.NumberOf(digits, bases)
		if got != c.want || code != c.code {
			t.Errorf("NumberOf(%v, %v) = %d, %d, want %d, %d", c.digits, c.bases, got, code, c.want, c.code)
		}
		checkKept(t, "NumberOf", digits, c.digits)
		checkKept(t, "NumberOf", bases, c.bases)
	}
}

func TestNumberOfAgainstBigNumbers(t *testing.T) {
	s := sequence(2)
	for range 3000 {
		bases := make([]int64, s.below(14))
		digits := make([]int64, len(bases))
		number := big.NewInt(0)
		for i := range bases {
			bases[i] = 1 + s.below(100)
			digits[i] = s.below(bases[i])
			number.Mul(number, big.NewInt(bases[i]))
			number.Add(number, big.NewInt(digits[i]))
		}
		want, code := wantNumber(number)
		if got, c := impl.NumberOf(digits, bases); got != want || c != code {
			t.Fatalf("NumberOf(%v, %v) = %d, %d, want %d, %d", digits, bases, got, c, want, code)
		}
	}
}

// checkRecovered fails if the digits of a number are not in their ranges or belong to another one.
func checkRecovered(t *testing.T, n int64, bases []int64) []int64 {
	t.Helper()
	digits, code := impl.DigitsOf(n, bases)
	if code != impl.ErrNone || len(digits) != len(bases) {
		t.Fatalf("DigitsOf(%d, %v) = %v, %d", n, bases, digits, code)
	}
	for i, digit := range digits {
		if digit < 0 || digit >= bases[i] {
			t.Fatalf("DigitsOf(%d, %v) = %v: digit %d is out of its range", n, bases, digits, i)
		}
	}
	if back, code := impl.NumberOf(digits, bases); back != n || code != impl.ErrNone {
		t.Fatalf("NumberOf(%v, %v) = %d, %d, want %d", digits, bases, back, code, n)
	}
	return digits
}

// P1: a number is recovered from its digits. Larger numbers have greater digits, so that no two
// numbers share them.
func TestP1NumberIsRecoveredFromDigits(t *testing.T) {
	for _, bases := range [][]int64{nil, {1}, {2, 3, 2}, {1, 4, 1, 5}, {10, 10, 10}, {100, 7}, {3, 3, 3, 3, 3}} {
		product, _ := impl.ProductOf(bases)
		var last []int64
		for n := range product {
			digits := checkRecovered(t, n, bases)
			if n > 0 && slices.Compare(last, digits) >= 0 {
				t.Fatalf("digits of %d for %v are %v after %v", n, bases, digits, last)
			}
			last = digits
		}
		if digits, code := impl.DigitsOf(product, bases); code != impl.ErrRange || len(digits) != 0 {
			t.Errorf("DigitsOf(%d, %v) = %v, %d, want none, ErrRange", product, bases, digits, code)
		}
	}
}

func TestP1LargeNumberIsRecoveredFromDigits(t *testing.T) {
	s := sequence(3)
	for range 2000 {
		bases := make([]int64, 40+s.below(61))
		for i := range bases {
			bases[i] = 2 + s.below(99)
		}
		n := s.below(top + 1)
		checkRecovered(t, n, bases)
	}
	for _, n := range []int64{0, 1, top - 1, top} {
		checkRecovered(t, n, filled(40, 2))
		checkRecovered(t, n, filled(100, 100))
	}
}

func TestIsRising(t *testing.T) {
	counting := make([]int64, 150)
	for i := range counting {
		counting[i] = int64(i)
	}
	cases := []struct {
		list []int64
		n    int64
		want bool
	}{
		{nil, 0, true},
		{[]int64{}, 1, true},
		{nil, -1, true},
		{nil, smallest, true},
		{nil, largest, true},
		{[]int64{0}, 1, true},
		{[]int64{0}, 0, false},
		{[]int64{0}, -1, false},
		{[]int64{0}, smallest, false},
		{[]int64{-1}, 1, false},
		{[]int64{-1, 0}, 1, false},
		{[]int64{smallest}, smallest, false},
		{[]int64{4}, 5, true},
		{[]int64{5}, 5, false},
		{[]int64{0, 1, 2}, 3, true},
		{[]int64{0, 2, 4}, 5, true},
		{[]int64{0, 2, 5}, 5, false},
		{[]int64{5, 6}, 5, false},
		{[]int64{1, 1}, 5, false},
		{[]int64{0, 0}, 5, false},
		{[]int64{2, 1}, 5, false},
		{[]int64{0, 3, 2, 4}, 5, false},
		{[]int64{0, 1, 1}, 5, false},
		{[]int64{1, 0, 1}, 5, false},
		{[]int64{0, top}, top + 1, true},
		{[]int64{0, largest - 1}, largest, true},
		{[]int64{0, largest}, largest, false},
		{[]int64{largest, smallest}, largest, false},
		{counting, 150, true},
		{counting, 149, false},
		{counting[:101], 101, true},
	}
	for _, c := range cases {
		given := roomy(c.list)
		if got := impl.IsRising(given, c.n); got != c.want {
			t.Errorf("IsRising(%v, %d) = %v", c.list, c.n, got)
		}
		checkKept(t, "IsRising", given, c.list)
	}
}

func TestListText(t *testing.T) {
	cases := []struct {
		list []int64
		want string
		code int64
	}{
		{nil, "-", impl.ErrNone},
		{[]int64{}, "-", impl.ErrNone},
		{[]int64{0}, "0", impl.ErrNone},
		{[]int64{1, 2}, "1,2", impl.ErrNone},
		{[]int64{2, 1, 1, 0}, "2,1,1,0", impl.ErrNone},
		{[]int64{10, 100, 1000}, "10,100,1000", impl.ErrNone},
		{[]int64{top, 0, top}, "1000000000000,0,1000000000000", impl.ErrNone},
		{filled(100, 7), strings.Repeat("7,", 99) + "7", impl.ErrNone},
		{filled(101, 7), "", impl.ErrRange},
		{[]int64{-1}, "", impl.ErrRange},
		{[]int64{1, 2, -3}, "", impl.ErrRange},
		{[]int64{top + 1}, "", impl.ErrRange},
		{[]int64{1, top + 1, 1}, "", impl.ErrRange},
		{[]int64{smallest}, "", impl.ErrRange},
		{[]int64{largest}, "", impl.ErrRange},
	}
	for _, c := range cases {
		given := roomy(c.list)
		got, code := impl.ListText(given)
		if got != c.want || code != c.code {
			t.Errorf("ListText(%v) = %q, %d, want %q, %d", c.list, got, code, c.want, c.code)
		}
		checkKept(t, "ListText", given, c.list)
	}
}

func TestReadList(t *testing.T) {
	cases := []struct {
		s    string
		want []int64
	}{
		{"-", nil},
		{"0", []int64{0}},
		{"7", []int64{7}},
		{"1,2", []int64{1, 2}},
		{"2,1,1,0", []int64{2, 1, 1, 0}},
		{"10,100,1000", []int64{10, 100, 1000}},
		{"0,0,0", []int64{0, 0, 0}},
		{"1000000000000", []int64{top}},
		{"999999999999,1000000000000", []int64{top - 1, top}},
		{strings.Repeat("8,", 99) + "8", filled(100, 8)},
		{strings.Repeat("1000000000000,", 99) + "1000000000000", filled(100, top)},
	}
	for _, c := range cases {
		got, code := impl.ReadList(c.s)
		if !slices.Equal(got, c.want) || code != impl.ErrNone {
			t.Errorf("ReadList(%q) = %v, %d, want %v", c.s, got, code, c.want)
		}
	}
}

func TestReadListOfNoList(t *testing.T) {
	texts := []string{
		"", " ", ",", ",,", "1,", ",1", "1,,2", "1,2,", ",1,2",
		"00", "01", "1,02", "000", "0000000000001", "01000000000000",
		"+1", "-1", "-0", "+0", "+", "--", "1,-2", "1,+2", "-1000000000000",
		"-,", ",-", "-,-", "1,-", "-,1", "- ", " -", "-\n",
		"1 ", " 1", "1, 2", "1 ,2", "1 2", "1;2", "1.2", "1.0", "1/2", "1\t", "1\n", "\n1", "1,2\n",
		"1_000", "0x1", "1e3", "a", "1a", "a1", "1,a", "Inf", "NaN",
		"1000000000001", "1,1000000000001", "9999999999999", "10000000000000",
		"9223372036854775807", "9223372036854775808", "18446744073709551615", "18446744073709551616",
		"18446744073709551617", strings.Repeat("9", 1000), strings.Repeat("0", 1000),
		"\x00", "1\x00", "\xff", "\u0663", "\uff11", "\u22121", "1\uff0c2", "\u2014",
		strings.Repeat("8,", 100) + "8", strings.Repeat("8,", 100), strings.Repeat(",", 99),
		strings.Repeat(",", 100), strings.Repeat("8,", 100000) + "8",
	}
	for _, s := range texts {
		if got, code := impl.ReadList(s); got != nil || code != impl.ErrSyntax {
			t.Errorf("ReadList(%q) = %v, %d, want nil, ErrSyntax", s, got, code)
		}
	}
}

// P1: a list is recovered from its text.
func TestP1ListIsRecoveredFromText(t *testing.T) {
	s := sequence(4)
	for count := range int64(101) {
		for range 20 {
			list := make([]int64, count)
			for i := range list {
				list[i] = s.below([]int64{2, 100, 1000000, top + 1}[s.below(4)])
			}
			text, code := impl.ListText(list)
			if code != impl.ErrNone {
				t.Fatalf("ListText(%v) = %q, %d", list, text, code)
			}
			back, code := impl.ReadList(text)
			if code != impl.ErrNone || !slices.Equal(back, list) {
				t.Fatalf("ReadList(%q) = %v, %d, want %v", text, back, code, list)
			}
		}
	}
}

// P1: every text that is read is the text of what is read, and no other text is read.
func TestP1OnlyTextsOfListsAreRead(t *testing.T) {
	form := regexp.MustCompile(`^(-|(0|[1-9][0-9]*)(,(0|[1-9][0-9]*))*)$`)
	texts := []string{""}
	for range 5 {
		var longer []string
		for _, s := range texts {
			for _, c := range "019,-+ ." {
				longer = append(longer, s+string(c))
			}
		}
		for _, s := range longer {
			list, code := impl.ReadList(s)
			if form.MatchString(s) {
				if text, _ := impl.ListText(list); code != impl.ErrNone || text != s {
					t.Fatalf("ReadList(%q) = %v, %d, with the text %q", s, list, code, text)
				}
			} else if list != nil || code != impl.ErrSyntax {
				t.Fatalf("ReadList(%q) = %v, %d, want nil, ErrSyntax", s, list, code)
			}
		}
		texts = longer
	}
}

// Results are new memory: what a caller writes into one changes no argument and no later result.
func TestResultsOfNumbersAreNew(t *testing.T) {
	bases := []int64{2, 3, 2}
	first, _ := impl.DigitsOf(7, bases)
	first[0], first[1], first[2] = 50, 51, 52
	if second, _ := impl.DigitsOf(7, bases); !slices.Equal(second, []int64{1, 0, 1}) || !slices.Equal(bases, []int64{2, 3, 2}) {
		t.Errorf("DigitsOf shares memory: %v, %v", second, bases)
	}
	list, _ := impl.ReadList("1,2")
	list[0], list[1] = 50, 51
	if again, _ := impl.ReadList("1,2"); !slices.Equal(again, []int64{1, 2}) {
		t.Errorf("ReadList shares memory: %v", again)
	}
	empty, _ := impl.ReadList("-")
	_ = append(empty, 9)
	if again, _ := impl.ReadList("-"); len(again) != 0 {
		t.Errorf("ReadList of no numbers shares memory: %v", again)
	}
}
