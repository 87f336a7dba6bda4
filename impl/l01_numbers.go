package impl

import (
	"cmp"
	"strconv"
	"strings"
)

// The error codes of all chapters. The document gives their values, so their order here counts.
const (
	ErrNone = iota
	ErrInvalid
	ErrRange
	ErrLimit
	ErrNotFound
	ErrState
	ErrSyntax
)

// Limits of chapter 1.
const (
	MaxNumber = 1000000000000
	MaxList   = 100
)

const (
	maxExponent = 60
	maxThings   = 60
	maxBase     = 100
)

// emptyListText stands for no numbers, so that no list has the empty text.
const emptyListText = "-"

const listSeparator = ","

// aboveLimit stands for every result that exceeds MaxNumber, so that sums and products can be
// carried on without overflow.
const aboveLimit = MaxNumber + 1

// ProductOf returns the product of numbers, 1 for none, and ErrNone.
func ProductOf(list []int64) (int64, int64) {
	if !areNumbers(list) {
		return 0, ErrRange
	}
	product := int64(1)
	for _, factor := range list {
		product = cappedProduct(product, factor)
	}
	return numberOrLimit(product)
}

// SumOf returns the sum of numbers, and ErrNone.
func SumOf(list []int64) (int64, int64) {
	if !areNumbers(list) {
		return 0, ErrRange
	}
	sum := int64(0)
	for _, term := range list {
		sum += term
	}
	return numberOrLimit(sum)
}

// PowerOf returns a number to the power of an exponent in 0..60, and ErrNone; 0 to the power of 0
// is 1.
func PowerOf(base int64, exponent int64) (int64, int64) {
	if !isNumber(base) || !isWithin(exponent, 0, maxExponent) {
		return 0, ErrRange
	}
	power := int64(1)
	for range exponent {
		power = cappedProduct(power, base)
	}
	return numberOrLimit(power)
}

// ChooseOf returns the number of sets of k among n things, for n in 0..60 and k in 0..n, and
// ErrNone.
func ChooseOf(n int64, k int64) (int64, int64) {
	if !isWithin(n, 0, maxThings) || !isWithin(k, 0, n) {
		return 0, ErrRange
	}
	smaller, larger := minimumOf(k, n-k), maximumOf(k, n-k)
	// After step i this is the number of sets of i among larger+i things, so each division leaves
	// no rest. Even for 60 and 30 no product reaches 2 to the power of 62.
	sets := int64(1)
	for i := int64(1); i <= smaller; i++ {
		sets = sets * (larger + i) / i
	}
	return numberOrLimit(sets)
}

// DigitsOf returns the digits of a number for several bases, each in 1..100, the last one being
// the base of the least digit: each digit is at least 0 and less than its base, and NumberOf
// returns n for them; and ErrNone. Errors: ErrRange also if there are none, because n is too
// large.
func DigitsOf(n int64, bases []int64) ([]int64, int64) {
	if !isNumber(n) || !areBases(bases) {
		return nil, ErrRange
	}
	digits := make([]int64, len(bases))
	for i := len(bases) - 1; i >= 0; i-- {
		digits[i] = n % bases[i]
		n /= bases[i]
	}
	if n > 0 {
		return nil, ErrRange
	}
	return digits, ErrNone
}

// NumberOf returns the number with some digits for as many bases, each in 1..100: from 0 on, for
// each digit in order, what there is times the base plus the digit; and ErrNone. Errors: ErrRange
// also if both lists do not have as many elements, or a digit is not at least 0 and less than its
// base.
func NumberOf(digits []int64, bases []int64) (int64, int64) {
	if !areBases(bases) || !areDigits(digits, bases) {
		return 0, ErrRange
	}
	number := int64(0)
	for i, digit := range digits {
		// No base is 0, so what is above the limit stays above it.
		number = minimumOf(number*bases[i]+digit, aboveLimit)
	}
	return numberOrLimit(number)
}

// IsRising reports whether a list is strictly increasing and all of its elements are in 0..n - 1.
func IsRising(list []int64, n int64) bool {
	for i, element := range list {
		if element < 0 || element >= n {
			return false
		}
		if i > 0 && element <= list[i-1] {
			return false
		}
	}
	return true
}

// ListText returns numbers in decimal, separated by commas, and ErrNone; "-" for none.
func ListText(list []int64) (string, int64) {
	if !areNumbers(list) {
		return "", ErrRange
	}
	if len(list) == 0 {
		return emptyListText, ErrNone
	}
	return joinNumbers(list, listSeparator), ErrNone
}

// ReadList returns the numbers with the ListText s, at most MaxList, and ErrNone. It returns nil
// and ErrSyntax if there are none.
func ReadList(s string) ([]int64, int64) {
	if s == emptyListText {
		return []int64{}, ErrNone
	}
	list, ok := splitNumbers(s, listSeparator)
	if !ok {
		return nil, ErrSyntax
	}
	return list, ErrNone
}

// joinNumbers returns numbers in decimal with a separator between them.
func joinNumbers(list []int64, separator string) string {
	words := make([]string, len(list))
	for i, number := range list {
		words[i] = strconv.FormatInt(number, 10)
	}
	return strings.Join(words, separator)
}

// splitNumbers returns the numbers, from 1 to MaxList of them, that joinNumbers joins to s, and
// reports whether there are any.
func splitNumbers(s, separator string) ([]int64, bool) {
	if strings.Count(s, separator) >= MaxList {
		return nil, false
	}
	words := strings.Split(s, separator)
	list := make([]int64, len(words))
	for i, word := range words {
		number, ok := readNumber(word)
		if !ok {
			return nil, false
		}
		list[i] = number
	}
	return list, true
}

// readNumber returns the number whose decimal text is s. ParseInt also accepts signs and
// superfluous zeros; writing the number again finds them.
func readNumber(s string) (int64, bool) {
	number, err := strconv.ParseInt(s, 10, 64)
	if err != nil || !isNumber(number) || strconv.FormatInt(number, 10) != s {
		return 0, false
	}
	return number, true
}

func minimumOf[T cmp.Ordered](a, b T) T {
	if b < a {
		return b
	}
	return a
}

func maximumOf[T cmp.Ordered](a, b T) T {
	if b > a {
		return b
	}
	return a
}

// cappedProduct multiplies what is at most aboveLimit by a number. A factor 0 brings back what was
// above the limit, since the product of all factors is 0 then.
func cappedProduct(product, factor int64) int64 {
	if factor > 0 && product > MaxNumber/factor {
		return aboveLimit
	}
	return product * factor
}

// numberOrLimit returns a result that is at least 0 with its error code.
func numberOrLimit(result int64) (int64, int64) {
	if result > MaxNumber {
		return 0, ErrLimit
	}
	return result, ErrNone
}

func isWithin(n, least, most int64) bool {
	return least <= n && n <= most
}

func isNumber(n int64) bool {
	return isWithin(n, 0, MaxNumber)
}

func areNumbers(list []int64) bool {
	return areWithin(list, 0, MaxNumber)
}

func areBases(list []int64) bool {
	return areWithin(list, 1, maxBase)
}

// areWithin also holds lists against MaxList, which is part of the same error.
func areWithin(list []int64, least, most int64) bool {
	if len(list) > MaxList {
		return false
	}
	for _, element := range list {
		if !isWithin(element, least, most) {
			return false
		}
	}
	return true
}

// areDigits reports whether there is one digit for each base, less than it.
func areDigits(digits, bases []int64) bool {
	if len(digits) != len(bases) {
		return false
	}
	for i, digit := range digits {
		if !isWithin(digit, 0, bases[i]-1) {
			return false
		}
	}
	return true
}
