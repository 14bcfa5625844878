package impl

import "iter"

const MaxTime = 4000000000000000

const (
	second     = 1000000
	maxShort   = 65535 * second
	stampParts = 1 << 32
	shortParts = 1 << 16
)

func SecondsOf(t int64) (int64, int64) {
	if !isTime(t) {
		return -1, -1
	}
	return t / second, t % second
}

func StampBytes(t int64) string {
	whole, rest := SecondsOf(t)
	if whole < 0 {
		return ""
	}
	return bytesOf(whole, 4) + bytesOf(rest*stampParts/second, 4)
}

func ReadStamp(s string) (int64, bool) {
	if len(s) != 8 {
		return 0, false
	}
	// The stamp's parts were cut, so the time is the next whole one above them.
	rest := dividedUp(numberOf(s[4:])*second, stampParts)
	t := numberOf(s[:4])*second + rest
	// Most parts are those of no time; these do not come back.
	if StampBytes(t) != s {
		return 0, false
	}
	return t, true
}

func ShortBytes(d int64) string {
	if !within(d, 0, maxShort) {
		return ""
	}
	// Parts are told up to a whole number, so that no length looks shorter than it is.
	return bytesOf(dividedUp(d*shortParts, second), 4)
}

func ReadShort(s string) (int64, bool) {
	if len(s) != 4 {
		return 0, false
	}
	parts := numberOf(s)
	if parts > maxShort/second*shortParts {
		return 0, false
	}
	return parts * second / shortParts, true
}

func isTime(t int64) bool {
	return within(t, 0, MaxTime)
}

func within(n int64, low int64, high int64) bool {
	return low <= n && n <= high
}

// dividedUp takes no a below 0: there a quotient that is cut is rounded up already.
func dividedUp(a int64, b int64) int64 {
	return (a + b - 1) / b
}

// dividedDown takes a b above 0 alone.
func dividedDown(a int64, b int64) int64 {
	n := a / b
	if a%b < 0 {
		n--
	}
	return n
}

func highestFirst(n int64, count int) iter.Seq[byte] {
	return func(yield func(byte) bool) {
		for at := count - 1; at >= 0; at-- {
			if !yield(byte(n >> (8 * at))) {
				return
			}
		}
	}
}

func bytesOf(n int64, count int) string {
	b := make([]byte, 0, count)
	for x := range highestFirst(n, count) {
		b = append(b, x)
	}
	return string(b)
}

// numberOf is right for seven bytes at most: eight may be more than an int64 holds.
func numberOf(s string) int64 {
	n := int64(0)
	for i := range len(s) {
		n = n*256 + int64(s[i])
	}
	return n
}
