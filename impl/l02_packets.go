package impl

type Packet struct {
	Leap    int64
	Version int64
	Mode    int64
	Stratum int64
	Poll    int64
	Delay   int64
	Disp    int64
	Ref     int64
	Orig    int64
	Recv    int64
	Xmit    int64
}

const (
	lastVersion = 4
	modeAsk     = 3
	modeAnswer  = 4
	precision   = 236
	maxWord     = 4294967295
)

func PacketOk(p Packet) bool {
	head := within(p.Leap, 0, 3) && within(p.Version, 1, lastVersion) && within(p.Mode, 1, 7)
	steps := within(p.Stratum, 0, 16) && within(p.Poll, 0, 17)
	lengths := within(p.Delay, 0, maxWord) && within(p.Disp, 0, maxWord)
	times := isTime(p.Ref) && isTime(p.Orig) && isTime(p.Recv) && isTime(p.Xmit)
	return head && steps && lengths && times
}

func PacketBytes(p Packet) string {
	if !PacketOk(p) {
		return ""
	}
	head := bytesOf(p.Leap*64+p.Version*8+p.Mode, 1)
	steps := bytesOf(p.Stratum, 1) + bytesOf(p.Poll, 1) + bytesOf(precision, 1)
	lengths := bytesOf(p.Delay, 4) + bytesOf(p.Disp, 4) + bytesOf(0, 4)
	times := StampBytes(p.Ref) + StampBytes(p.Orig) + StampBytes(p.Recv) + StampBytes(p.Xmit)
	return head + steps + lengths + times
}

func ReadPacket(s string) (Packet, bool) {
	p, ok := packetIn(s)
	if !ok || !PacketOk(p) {
		return Packet{}, false
	}
	return p, true
}

func Asked(now int64, poll int64) (Packet, bool) {
	p := Packet{Version: lastVersion, Mode: modeAsk, Poll: poll, Xmit: now}
	if now == 0 || !PacketOk(p) {
		return Packet{}, false
	}
	return p, true
}

func Answered(p Packet, stratum int64, recv int64, xmit int64) (Packet, bool) {
	a := Packet{
		Version: p.Version,
		Mode:    modeAnswer,
		Stratum: stratum,
		Poll:    p.Poll,
		Orig:    p.Xmit,
		Recv:    recv,
		Xmit:    xmit,
	}
	if !asks(p) || !answers(a) {
		return Packet{}, false
	}
	return a, true
}

func Fits(q Packet, a Packet) bool {
	return asks(q) && answers(a) && q.Xmit == a.Orig
}

// asks wants an Xmit that is not 0: an answer is known by it, and 0 is in every packet that says nothing.
func asks(p Packet) bool {
	return PacketOk(p) && p.Mode == modeAsk && p.Xmit != 0
}

func answers(p Packet) bool {
	return PacketOk(p) && p.Mode == modeAnswer && within(p.Stratum, 1, 15) && p.Recv <= p.Xmit
}

// packetReader gives up with a panic, so that the fields can be taken one by one without a check behind each.
type packetReader struct {
	rest string
}

const noPacket = "these are the bytes of no packet"

// packetIn knows only how the bytes lie: a field that it answers may be past its bounds.
func packetIn(s string) (p Packet, ok bool) {
	defer func() {
		if recover() != nil {
			p, ok = Packet{}, false
		}
	}()
	r := &packetReader{rest: s}
	p = r.packet()
	r.end()
	return p, true
}

func (r *packetReader) packet() Packet {
	head := r.number(1)
	p := Packet{Leap: head / 64, Version: head / 8 % 8, Mode: head % 8}
	p.Stratum = r.number(1)
	p.Poll = r.number(1)
	r.expect(precision, 1)
	p.Delay = r.number(4)
	p.Disp = r.number(4)
	r.expect(0, 4)
	p.Ref = r.time()
	p.Orig = r.time()
	p.Recv = r.time()
	p.Xmit = r.time()
	return p
}

func (r *packetReader) take(count int) string {
	if len(r.rest) < count {
		panic(noPacket)
	}
	taken := r.rest[:count]
	r.rest = r.rest[count:]
	return taken
}

func (r *packetReader) number(count int) int64 {
	return numberOf(r.take(count))
}

func (r *packetReader) expect(n int64, count int) {
	if r.number(count) != n {
		panic(noPacket)
	}
}

func (r *packetReader) time() int64 {
	t, ok := ReadStamp(r.take(8))
	if !ok {
		panic(noPacket)
	}
	return t
}

func (r *packetReader) end() {
	if r.rest != "" {
		panic(noPacket)
	}
}
