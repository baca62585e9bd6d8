// Package span is layer 1: milliseconds, as nanoseconds. See shared/doc/01-span.md.
package span

import (
	"math"
	"strconv"
	"strings"

	"distaff/api"
)

// Max is the greatest span.
const Max int64 = 1 << 62

// Classes.
const (
	Bad  int = 0
	Zero int = 1
	Tiny int = 2
	Some int = 3
	All  int = 4
)

// perMilli is how many nanoseconds a millisecond has; behind a text's point stand leftDigits digits of them.
const (
	perMilli   = 1000000
	leftDigits = 6
)

// shortest and longest are how many bytes the texts of 0 and of Max have.
const (
	shortest = 8
	longest  = 20
)

// Nanos is the span of milliseconds.
func Nanos(f float64) (int64, api.Errno) {
	switch Class(f) {
	case Bad:
		return 0, api.ErrSpan
	case All:
		return Max, api.OK
	}
	// Only here is the product sure to be one that an int64 can hold.
	return int64(product(f)), api.OK
}

// Class is their class.
func Class(f float64) int {
	// By the product, as the span of what is below 1 does not tell Tiny from Zero.
	least := [All + 1]float64{Zero: 0, Tiny: math.SmallestNonzeroFloat64, Some: 1, All: float64(Max)}
	class := Bad
	n := product(f)
rising:
	for c := Zero; c <= All; c++ {
		switch {
		case n >= least[c]:
			class = c
		default:
			// NaN is not at or above any bound, so it ends here as what is below 0 does.
			break rising
		}
	}
	return class
}

// product is the nanoseconds of milliseconds, with what is behind their point.
func product(f float64) float64 { return f * perMilli }

// Sum is the sum of spans.
func Sum(l ...int64) int64 {
	var sum int64
	for _, n := range l {
		n = nearest(n)
		if n > Max-sum {
			return Max
		}
		sum += n
	}
	return sum
}

// Millis is a span as milliseconds.
func Millis(n int64) float64 { return float64(nearest(n)) / perMilli }

// nearest is the span that is nearest to a number.
func nearest(n int64) int64 {
	switch {
	case n < 0:
		return 0
	case n > Max:
		return Max
	}
	return n
}

// Text is a span's.
func Text(n int64) string {
	if n != nearest(n) {
		return ""
	}
	left := strconv.FormatInt(n%perMilli, 10)
	return strconv.FormatInt(n/perMilli, 10) + "." + strings.Repeat("0", leftDigits-len(left)) + left
}

// Read is the span of a text.
func Read(s string) (int64, api.Errno) {
	if len(s) < shortest || len(s) > longest {
		return 0, api.ErrSpan
	}
	point := len(s) - leftDigits - 1
	n, err := strconv.ParseInt(s[:point]+s[point+1:], 10, 64)
	// ParseInt takes signs and noughts ahead, and what stands at the point was left out: only the span's own text is taken.
	if err != nil || Text(n) != s {
		return 0, api.ErrSpan
	}
	return n, api.OK
}
