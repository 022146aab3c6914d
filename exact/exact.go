// Package exact is the arithmetic of whole numbers that the layers share: ranges, and divisions and roots that are rounded as they are told.
package exact

import "math/bits"

// Within reports whether n is from least to most.
func Within(n, least, most int64) bool { return least <= n && n <= most }

// Down returns a / b rounded down, for b above 0.
func Down(a, b int64) int64 {
	q := a / b
	if a%b < 0 {
		q--
	}
	return q
}

// Up returns a / b rounded up, for b above 0.
func Up(a, b int64) int64 {
	q := a / b
	if a%b > 0 {
		q++
	}
	return q
}

// Root returns the greatest number whose square is at most n, or 0 for n below 0.
func Root(n int64) int64 {
	low, high := int64(0), int64(3037000499) // the square of one more is no int64
	for low < high {
		mid := low + (high-low+1)/2
		if mid*mid <= n {
			low = mid
		} else {
			high = mid - 1
		}
	}
	return low
}

// Scale returns a b / d rounded down, and whether that is less than the exact value. It is meant for a and b from 0 on, and a quotient below 2^63.
func Scale(a, b, d int64) (int64, bool) {
	high, low := bits.Mul64(uint64(a), uint64(b))
	q, rest := bits.Div64(high, low, uint64(d))
	return int64(q), rest != 0
}

// ScaleUp returns a b / d rounded up, for the numbers that Scale is meant for.
func ScaleUp(a, b, d int64) int64 {
	q, more := Scale(a, b, d)
	if more {
		q++
	}
	return q
}

// Less reports whether a b is less than c d, for numbers from 0 on.
func Less(a, b, c, d int64) bool {
	high, low := bits.Mul64(uint64(a), uint64(b))
	top, rest := bits.Mul64(uint64(c), uint64(d))
	return high < top || high == top && low < rest
}
