package tests

import (
	"encoding/binary"
	"math"
	"math/big"
	"math/rand"
	"testing"

	"loop.example/g00656/impl"
)

const second = 1000000

// wrongTimes are no times: the next ones on either side of the bounds, and far ones whose products would wrap.
var wrongTimes = []int64{-1, impl.MaxTime + 1, -second, impl.MaxTime + second, math.MinInt64, math.MaxInt64, math.MinInt64 / 2, math.MaxInt64 / 2, 1 << 62}

// quotient is a * b by c in whole numbers without a bound, down or up.
func quotient(a int64, b int64, c int64, up bool) uint64 {
	n := new(big.Int).Mul(big.NewInt(a), big.NewInt(b))
	if up {
		n.Add(n, big.NewInt(c-1))
	}
	return n.Div(n, big.NewInt(c)).Uint64()
}

func word(n uint64) string {
	return string(binary.BigEndian.AppendUint32(nil, uint32(n)))
}

// stamp is what chapter 1 says a time's stamp is, told without the program.
func stamp(t int64) string {
	return word(uint64(t/second)) + word(quotient(t%second, 1<<32, second, false))
}

// someTimes has both bounds and their neighbours, those of some seconds, and scattered ones.
func someTimes() []int64 {
	l := []int64{}
	for _, x := range []int64{0, second, 255 * second, 256 * second, 65536 * second, 1 << 24 * second, 2147483648 * second, 3999999999 * second, impl.MaxTime} {
		for _, d := range []int64{-500000, -1, 0, 1, 2, 499999, 500000, 500001, 999999} {
			if t := x + d; t >= 0 && t <= impl.MaxTime {
				l = append(l, t)
			}
		}
	}
	r := rand.New(rand.NewSource(1))
	for range 20000 {
		l = append(l, r.Int63n(impl.MaxTime+1))
	}
	return l
}

func TestSecondsOf(t *testing.T) {
	for _, x := range [][3]int64{{0, 0, 0}, {1, 0, 1}, {999999, 0, 999999}, {1000000, 1, 0}, {2000003, 2, 3}, {impl.MaxTime - 1, 3999999999, 999999}, {impl.MaxTime, 4000000000, 0}} {
		if a, b := impl.SecondsOf(x[0]); a != x[1] || b != x[2] {
			t.Error(x, a, b)
		}
	}
	for _, x := range wrongTimes {
		if a, b := impl.SecondsOf(x); a != -1 || b != -1 {
			t.Error(x, a, b)
		}
	}
}

func TestStampBytesByHand(t *testing.T) {
	for x, s := range map[int64]string{
		0:                "\x00\x00\x00\x00\x00\x00\x00\x00",
		1:                "\x00\x00\x00\x00\x00\x00\x10\xc6",
		2:                "\x00\x00\x00\x00\x00\x00\x21\x8d",
		250000:           "\x00\x00\x00\x00\x40\x00\x00\x00",
		999999:           "\x00\x00\x00\x00\xff\xff\xef\x39",
		second:           "\x00\x00\x00\x01\x00\x00\x00\x00",
		16909060500000:   "\x01\x02\x03\x04\x80\x00\x00\x00",
		impl.MaxTime - 1: "\xee\x6b\x27\xff\xff\xff\xef\x39",
		impl.MaxTime:     "\xee\x6b\x28\x00\x00\x00\x00\x00",
	} {
		if got := impl.StampBytes(x); got != s {
			t.Errorf("%d: %q, not %q", x, got, s)
		}
	}
	for _, x := range wrongTimes {
		if got := impl.StampBytes(x); got != "" {
			t.Errorf("%d: %q", x, got)
		}
	}
}

func TestStampComesBack(t *testing.T) {
	for _, x := range someTimes() {
		s := impl.StampBytes(x)
		if s != stamp(x) {
			t.Fatalf("%d: %q, not %q", x, s, stamp(x))
		}
		if y, ok := impl.ReadStamp(s); !ok || y != x {
			t.Fatalf("%d: %q read as %d, %v", x, s, y, ok)
		}
	}
}

// Every part of a second, in the first and in the last whole one: each has its own stamp, and a later one.
func TestLaterTimeLaterStamp(t *testing.T) {
	for _, first := range []int64{0, impl.MaxTime - second} {
		before := ""
		for x := first; x <= first+second; x++ {
			s := impl.StampBytes(x)
			if len(s) != 8 || s <= before {
				t.Fatalf("%d: %q behind %q", x, s, before)
			}
			if y, ok := impl.ReadStamp(s); !ok || y != x {
				t.Fatalf("%d: %q read as %d, %v", x, s, y, ok)
			}
			before = s
		}
	}
}

func TestReadStampRefuses(t *testing.T) {
	last := "\xee\x6b\x28\x00"
	wrong := []string{
		"\x00\x00\x00\x00\x00\x00\x00\x01",
		"\x00\x00\x00\x00\x00\x00\x10\xc5",
		"\x00\x00\x00\x00\x00\x00\x10\xc7",
		"\x00\x00\x00\x00\xff\xff\xef\x3a",
		"\x00\x00\x00\x00\xff\xff\xff\xff",
		"\xee\x6b\x27\xff\xff\xff\xff\xff",
		last + "\x00\x00\x00\x01",
		last + "\x00\x00\x10\xc6",
		"\xee\x6b\x28\x01\x00\x00\x00\x00",
		"\xff\xff\xff\xff\x00\x00\x00\x00",
		"\xff\xff\xff\xff\xff\xff\xff\xff",
	}
	whole := impl.StampBytes(1500000)
	for n := range 8 {
		wrong = append(wrong, whole[:n], whole[8-n:])
	}
	wrong = append(wrong, whole+"\x00", "\x00"+whole, whole+whole)
	for _, s := range wrong {
		if y, ok := impl.ReadStamp(s); ok || y != 0 {
			t.Errorf("%q read as %d, %v", s, y, ok)
		}
	}
}

// A stamp that is read is always the stamp of what it was read as.
func TestReadStampReadsOnlyStamps(t *testing.T) {
	r := rand.New(rand.NewSource(2))
	for range 20000 {
		x := r.Int63n(impl.MaxTime + 1)
		off := uint64(r.Intn(9000))
		s := stamp(x)
		s = s[:4] + word(uint64(binary.BigEndian.Uint32([]byte(s[4:])))+off)
		y, ok := impl.ReadStamp(s)
		if ok && stamp(y) != s || !ok && (y != 0 || off == 0) {
			t.Fatalf("%q read as %d, %v", s, y, ok)
		}
	}
}

const (
	maxShort      = 65535 * second
	maxShortParts = 65535 << 16
)

// someLengths has both bounds and their neighbours, each of the first ones, those about whole seconds, and scattered ones.
func someLengths() []int64 {
	l := []int64{}
	for d := range int64(50000) {
		l = append(l, d, maxShort-d)
	}
	for s := range int64(65535) {
		l = append(l, s*second, s*second+1, s*second+999999)
	}
	r := rand.New(rand.NewSource(3))
	for range 20000 {
		l = append(l, r.Int63n(maxShort+1))
	}
	return l
}

func TestShortBytesByHand(t *testing.T) {
	for d, s := range map[int64]string{
		0:            "\x00\x00\x00\x00",
		1:            "\x00\x00\x00\x01",
		15:           "\x00\x00\x00\x01",
		16:           "\x00\x00\x00\x02",
		30:           "\x00\x00\x00\x02",
		31:           "\x00\x00\x00\x03",
		15624:        "\x00\x00\x04\x00",
		15625:        "\x00\x00\x04\x00",
		15626:        "\x00\x00\x04\x01",
		999984:       "\x00\x00\xff\xff",
		999985:       "\x00\x01\x00\x00",
		second:       "\x00\x01\x00\x00",
		second + 1:   "\x00\x01\x00\x01",
		258500000:    "\x01\x02\x80\x00",
		maxShort - 1: "\xff\xff\x00\x00",
		maxShort:     "\xff\xff\x00\x00",
	} {
		if got := impl.ShortBytes(d); got != s {
			t.Errorf("%d: %q, not %q", d, got, s)
		}
	}
	for _, d := range []int64{-1, -15, maxShort + 1, maxShort + second, impl.MaxTime, math.MinInt64, math.MaxInt64, 1 << 48, 1 << 62} {
		if got := impl.ShortBytes(d); got != "" {
			t.Errorf("%d: %q", d, got)
		}
	}
}

// What is told in few bytes is never less than it was, and by less than one part more.
func TestShortNeverLess(t *testing.T) {
	for _, d := range someLengths() {
		s := impl.ShortBytes(d)
		if s != word(quotient(d, 1<<16, second, true)) {
			t.Fatalf("%d: %q", d, s)
		}
		if back, ok := impl.ReadShort(s); !ok || back < d || back > d+15 {
			t.Fatalf("%d: %q read as %d, %v", d, s, back, ok)
		}
	}
}

func TestReadShort(t *testing.T) {
	for s, d := range map[string]int64{
		"\x00\x00\x00\x00": 0,
		"\x00\x00\x00\x01": 15,
		"\x00\x00\x00\x02": 30,
		"\x00\x00\x00\x03": 45,
		"\x00\x00\x00\x04": 61,
		"\x00\x00\xff\xff": 999984,
		"\x00\x01\x00\x00": second,
		"\x01\x02\x80\x00": 258500000,
		"\xff\xfe\xff\xff": maxShort - 16,
		"\xff\xff\x00\x00": maxShort,
	} {
		if got, ok := impl.ReadShort(s); !ok || got != d {
			t.Errorf("%q read as %d, %v", s, got, ok)
		}
	}
	for _, s := range []string{"", "\x00", "\x00\x00", "\x00\x00\x00", "\x00\x00\x00\x00\x00", "\x00\x00\x00\x00\x00\x00\x00\x01", "\xff\xff\x00\x01", "\xff\xff\x01\x00", "\xff\xff\xff\xff", "\x01\xff\xff\x00\x00"} {
		if got, ok := impl.ReadShort(s); ok || got != 0 {
			t.Errorf("%q read as %d, %v", s, got, ok)
		}
	}
}

// Every number of parts up to the last one is a length, cut, and comes back from it.
func TestShortPartsComeBack(t *testing.T) {
	for parts := uint64(0); parts <= maxShortParts; parts += 4091 {
		s := word(parts)
		d, ok := impl.ReadShort(s)
		if !ok || uint64(d) != quotient(int64(parts), second, 1<<16, false) || impl.ShortBytes(d) != s {
			t.Fatalf("%q read as %d, %v", s, d, ok)
		}
	}
}
