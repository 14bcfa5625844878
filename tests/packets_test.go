package tests

import (
	"math"
	"math/rand"
	"strings"
	"testing"

	"loop.example/g00656/impl"
)

const maxWord = 4294967295

// sent has a value of its own in each field, so that two that are exchanged are seen.
var sent = impl.Packet{Leap: 2, Version: 3, Mode: 5, Stratum: 9, Poll: 11, Delay: 16909060, Disp: 84281096, Ref: 1 * second, Orig: 2*second + 1, Recv: 3*second + 2, Xmit: 4*second + 3}

const sentBytes = "\x9d\x09\x0b\xec" +
	"\x01\x02\x03\x04" + "\x05\x06\x07\x08" + "\x00\x00\x00\x00" +
	"\x00\x00\x00\x01\x00\x00\x00\x00" +
	"\x00\x00\x00\x02\x00\x00\x10\xc6" +
	"\x00\x00\x00\x03\x00\x00\x21\x8d" +
	"\x00\x00\x00\x04\x00\x00\x32\x54"

type packetField struct {
	name string
	at   func(p *impl.Packet) *int64
	low  int64
	high int64
}

func packetFields() []packetField {
	return []packetField{
		{"Leap", func(p *impl.Packet) *int64 { return &p.Leap }, 0, 3},
		{"Version", func(p *impl.Packet) *int64 { return &p.Version }, 1, 4},
		{"Mode", func(p *impl.Packet) *int64 { return &p.Mode }, 1, 7},
		{"Stratum", func(p *impl.Packet) *int64 { return &p.Stratum }, 0, 16},
		{"Poll", func(p *impl.Packet) *int64 { return &p.Poll }, 0, 17},
		{"Delay", func(p *impl.Packet) *int64 { return &p.Delay }, 0, maxWord},
		{"Disp", func(p *impl.Packet) *int64 { return &p.Disp }, 0, maxWord},
		{"Ref", func(p *impl.Packet) *int64 { return &p.Ref }, 0, impl.MaxTime},
		{"Orig", func(p *impl.Packet) *int64 { return &p.Orig }, 0, impl.MaxTime},
		{"Recv", func(p *impl.Packet) *int64 { return &p.Recv }, 0, impl.MaxTime},
		{"Xmit", func(p *impl.Packet) *int64 { return &p.Xmit }, 0, impl.MaxTime},
	}
}

func somePacket(r *rand.Rand) impl.Packet {
	p := impl.Packet{}
	for _, f := range packetFields() {
		*f.at(&p) = f.low + r.Int63n(f.high-f.low+1)
	}
	return p
}

func comesBack(t *testing.T, p impl.Packet) {
	t.Helper()
	s := impl.PacketBytes(p)
	if !impl.PacketOk(p) || len(s) != 48 {
		t.Fatalf("%+v: %q", p, s)
	}
	if q, ok := impl.ReadPacket(s); !ok || q != p {
		t.Fatalf("%+v: %q read as %+v, %v", p, s, q, ok)
	}
}

func TestPacketBytesByHand(t *testing.T) {
	if s := impl.PacketBytes(sent); s != sentBytes {
		t.Errorf("%q", s)
	}
	comesBack(t, sent)
	least := impl.Packet{Version: 1, Mode: 1}
	if s := impl.PacketBytes(least); s != "\x09\x00\x00\xec"+strings.Repeat("\x00", 44) {
		t.Errorf("%q", s)
	}
	comesBack(t, least)
	last := "\xee\x6b\x28\x00\x00\x00\x00\x00"
	greatest := impl.Packet{Leap: 3, Version: 4, Mode: 7, Stratum: 16, Poll: 17, Delay: maxWord, Disp: maxWord, Ref: impl.MaxTime, Orig: impl.MaxTime, Recv: impl.MaxTime, Xmit: impl.MaxTime}
	if s := impl.PacketBytes(greatest); s != "\xe7\x10\x11\xec"+strings.Repeat("\xff", 8)+strings.Repeat("\x00", 4)+strings.Repeat(last, 4) {
		t.Errorf("%q", s)
	}
	comesBack(t, greatest)
}

func TestPacketFieldBounds(t *testing.T) {
	for _, f := range packetFields() {
		for _, x := range []int64{f.low, f.low + 1, f.high - 1, f.high} {
			p := sent
			*f.at(&p) = x
			comesBack(t, p)
		}
		for _, x := range []int64{f.low - 1, f.high + 1, f.low - 256, f.high + 256, f.low + 1<<32, math.MinInt64, math.MaxInt64, math.MinInt64 + f.low, math.MinInt64 + f.high} {
			if f.low <= x && x <= f.high {
				continue
			}
			p := sent
			*f.at(&p) = x
			if impl.PacketOk(p) || impl.PacketBytes(p) != "" {
				t.Error(f.name, x)
			}
		}
	}
	if impl.PacketOk(impl.Packet{}) || impl.PacketBytes(impl.Packet{}) != "" {
		t.Error("the zero value is right")
	}
}

func TestPacketsComeBack(t *testing.T) {
	r := rand.New(rand.NewSource(4))
	for range 20000 {
		comesBack(t, somePacket(r))
	}
}

func refused(t *testing.T, s string) {
	t.Helper()
	if p, ok := impl.ReadPacket(s); ok || p != (impl.Packet{}) {
		t.Errorf("%q read as %+v, %v", s, p, ok)
	}
}

func TestReadPacketRefusesLengths(t *testing.T) {
	for n := range 48 {
		refused(t, sentBytes[:n])
	}
	for n := 1; n <= 48; n++ {
		refused(t, sentBytes[n:])
		refused(t, sentBytes+sentBytes[:n])
		refused(t, sentBytes+strings.Repeat("\x00", n))
	}
}

func TestReadPacketRefusesFixedBytes(t *testing.T) {
	for _, at := range []int{3, 12, 13, 14, 15} {
		for x := range 256 {
			s := sentBytes[:at] + string([]byte{byte(x)}) + sentBytes[at+1:]
			if s != sentBytes {
				refused(t, s)
			}
		}
	}
}

// The first three bytes, each at all of its values.
func TestReadPacketBytesAtTheirBounds(t *testing.T) {
	for x := range 256 {
		b := string([]byte{byte(x)})
		p := sent
		p.Leap, p.Version, p.Mode = int64(x>>6), int64(x>>3&7), int64(x&7)
		readOrRefused(t, b+sentBytes[1:], p, p.Version >= 1 && p.Version <= 4 && p.Mode >= 1)
		p = sent
		p.Stratum = int64(x)
		readOrRefused(t, sentBytes[:1]+b+sentBytes[2:], p, x <= 16)
		p = sent
		p.Poll = int64(x)
		readOrRefused(t, sentBytes[:2]+b+sentBytes[3:], p, x <= 17)
	}
}

func readOrRefused(t *testing.T, s string, p impl.Packet, right bool) {
	t.Helper()
	if !right {
		refused(t, s)
		return
	}
	if q, ok := impl.ReadPacket(s); !ok || q != p {
		t.Errorf("%q read as %+v, %v", s, q, ok)
	}
}

func TestReadPacketRefusesWrongTimes(t *testing.T) {
	for _, at := range []int{16, 24, 32, 40} {
		for _, s := range []string{"\x00\x00\x00\x00\x00\x00\x00\x01", "\x00\x00\x00\x00\xff\xff\xff\xff", "\xee\x6b\x28\x00\x00\x00\x10\xc6", "\xee\x6b\x28\x01\x00\x00\x00\x00", "\xff\xff\xff\xff\xff\xff\xff\xff"} {
			refused(t, sentBytes[:at]+s+sentBytes[at+8:])
		}
	}
}

// Whatever one byte is turned into: what is read has just these bytes.
func TestReadPacketReadsOnlyPackets(t *testing.T) {
	for at := range 48 {
		for x := range 256 {
			s := sentBytes[:at] + string([]byte{byte(x)}) + sentBytes[at+1:]
			p, ok := impl.ReadPacket(s)
			if ok && impl.PacketBytes(p) != s || !ok && p != (impl.Packet{}) {
				t.Fatalf("%q read as %+v, %v", s, p, ok)
			}
		}
	}
}

func TestAsked(t *testing.T) {
	for _, now := range []int64{1, 1500000, impl.MaxTime - 1, impl.MaxTime} {
		for _, poll := range []int64{0, 1, 6, 16, 17} {
			if p, ok := impl.Asked(now, poll); !ok || p != (impl.Packet{Version: 4, Mode: 3, Poll: poll, Xmit: now}) || !impl.PacketOk(p) {
				t.Error(now, poll, p, ok)
			}
		}
		for _, poll := range []int64{-1, 18, 256, math.MinInt64, math.MaxInt64} {
			if p, ok := impl.Asked(now, poll); ok || p != (impl.Packet{}) {
				t.Error(now, poll, p, ok)
			}
		}
	}
	for _, now := range append([]int64{0}, wrongTimes...) {
		if p, ok := impl.Asked(now, 6); ok || p != (impl.Packet{}) {
			t.Error(now, p, ok)
		}
	}
}

// question has something in each field, so that one that is kept wrongly in the answer is seen.
var question = impl.Packet{Leap: 1, Version: 2, Mode: 3, Stratum: 16, Poll: 17, Delay: 5, Disp: 6, Ref: 7, Orig: 8, Recv: 9, Xmit: 1234567}

func TestAnswered(t *testing.T) {
	for _, stratum := range []int64{1, 2, 14, 15} {
		for _, x := range [][2]int64{{0, 0}, {0, 1}, {2000000, 2000500}, {77, 77}, {impl.MaxTime, impl.MaxTime}, {0, impl.MaxTime}} {
			a, ok := impl.Answered(question, stratum, x[0], x[1])
			if !ok || a != (impl.Packet{Version: 2, Mode: 4, Stratum: stratum, Poll: 17, Orig: 1234567, Recv: x[0], Xmit: x[1]}) {
				t.Error(stratum, x, a, ok)
			}
		}
	}
	for version := int64(1); version <= 4; version++ {
		q := question
		q.Version = version
		if a, ok := impl.Answered(q, 1, 1, 2); !ok || a.Version != version {
			t.Error(version, a, ok)
		}
	}
}

func TestAnsweredRefuses(t *testing.T) {
	no := func(p impl.Packet, stratum int64, recv int64, xmit int64) {
		t.Helper()
		if a, ok := impl.Answered(p, stratum, recv, xmit); ok || a != (impl.Packet{}) {
			t.Error(p, stratum, recv, xmit, a)
		}
	}
	for _, stratum := range []int64{0, 16, -1, 17, math.MinInt64, math.MaxInt64} {
		no(question, stratum, 1, 2)
	}
	no(question, 1, 3, 2)
	no(question, 1, 1, 0)
	for _, x := range wrongTimes {
		no(question, 1, x, 2)
		no(question, 1, 1, x)
		no(question, 1, x, x)
	}
	for mode := int64(0); mode <= 8; mode++ {
		p := question
		p.Mode = mode
		if mode != 3 {
			no(p, 1, 1, 2)
		}
	}
	p := question
	p.Xmit = 0
	no(p, 1, 1, 2)
	for _, f := range packetFields() {
		for _, x := range []int64{f.low - 1, f.high + 1} {
			p := question
			*f.at(&p) = x
			no(p, 1, 1, 2)
		}
	}
	no(impl.Packet{}, 1, 1, 2)
}

// What is answered fits what was asked, and nothing that was asked at another time; so, too, over the wire.
func TestAnswerFits(t *testing.T) {
	r := rand.New(rand.NewSource(5))
	for range 5000 {
		now, recv := 1+r.Int63n(impl.MaxTime), r.Int63n(impl.MaxTime)
		q, _ := impl.Asked(now, r.Int63n(18))
		a, ok := impl.Answered(q, 1+r.Int63n(15), recv, recv+r.Int63n(impl.MaxTime-recv+1))
		if !ok || !impl.Fits(q, a) || impl.Fits(a, q) || impl.Fits(q, q) || impl.Fits(a, a) {
			t.Fatal(q, a, ok)
		}
		q2, _ := impl.ReadPacket(impl.PacketBytes(q))
		a2, _ := impl.ReadPacket(impl.PacketBytes(a))
		if !impl.Fits(q2, a2) {
			t.Fatal(q, a)
		}
		for _, other := range []int64{now - 1, now + 1, 1, impl.MaxTime, a.Xmit, 1 + r.Int63n(impl.MaxTime)} {
			if p, ok := impl.Asked(other, q.Poll); ok && other != now && impl.Fits(p, a) {
				t.Fatal(p, a)
			}
		}
	}
}

func TestFits(t *testing.T) {
	a, _ := impl.Answered(question, 5, 20, 30)
	fits := func(want bool, change func(q *impl.Packet, a *impl.Packet)) {
		t.Helper()
		q2, a2 := question, a
		change(&q2, &a2)
		if impl.Fits(q2, a2) != want {
			t.Errorf("%v: %+v %+v", !want, q2, a2)
		}
	}
	fits(true, func(q *impl.Packet, a *impl.Packet) {})
	fits(true, func(q *impl.Packet, a *impl.Packet) { a.Stratum = 1 })
	fits(true, func(q *impl.Packet, a *impl.Packet) { a.Stratum = 15 })
	fits(false, func(q *impl.Packet, a *impl.Packet) { a.Stratum = 0 })
	fits(false, func(q *impl.Packet, a *impl.Packet) { a.Stratum = 16 })
	fits(true, func(q *impl.Packet, a *impl.Packet) { a.Recv = 30 })
	fits(false, func(q *impl.Packet, a *impl.Packet) { a.Recv = 31 })
	fits(false, func(q *impl.Packet, a *impl.Packet) { a.Orig++ })
	fits(false, func(q *impl.Packet, a *impl.Packet) { q.Xmit-- })
	fits(false, func(q *impl.Packet, a *impl.Packet) { q.Xmit, a.Orig = 0, 0 })
	fits(true, func(q *impl.Packet, a *impl.Packet) { q.Xmit, a.Orig = 1, 1 })
	// What the document does not ask of the two may differ.
	fits(true, func(q *impl.Packet, a *impl.Packet) {
		a.Version, a.Poll, a.Leap, a.Delay, a.Disp, a.Ref = 4, 3, 3, 9, 9, 9
	})
	for mode := int64(1); mode <= 7; mode++ {
		fits(mode == 3, func(q *impl.Packet, a *impl.Packet) { q.Mode = mode })
		fits(mode == 4, func(q *impl.Packet, a *impl.Packet) { a.Mode = mode })
	}
	for _, f := range packetFields() {
		for _, x := range []int64{f.low - 1, f.high + 1} {
			fits(false, func(q *impl.Packet, a *impl.Packet) { *f.at(q) = x })
			fits(false, func(q *impl.Packet, a *impl.Packet) { *f.at(a) = x })
		}
	}
	for _, x := range wrongTimes {
		fits(false, func(q *impl.Packet, a *impl.Packet) { q.Xmit, a.Orig = x, x })
	}
	if impl.Fits(impl.Packet{}, impl.Packet{}) {
		t.Error("two zero values")
	}
}
