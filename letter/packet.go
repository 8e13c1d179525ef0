package letter

import (
	"beadle/api"
)

// PutPacket is p as bytes.
func PutPacket(p api.Packet) ([]byte, api.Errno) {
	return written(func(with pen) {
		must(loadFits(p))
		s := slip{pen: with, Packet: p}
		goThrough(s.steps())
	})
}

// GetPacket is the packet whose bytes b is.
func GetPacket(b []byte) (api.Packet, api.Errno) {
	var s slip
	errno := read(b, func(with pen) {
		s.pen = with
		goThrough(s.steps())
		must(loadFits(s.Packet))
	})
	if errno != api.OK {
		return api.Packet{}, errno
	}
	return s.Packet, api.OK
}

// loadFits tells whether there is a load just if it has a number.
func loadFits(p api.Packet) bool {
	return (p.Seq == 0) == (len(p.Load) == 0)
}

// slip is a packet between its fields and its bytes.
type slip struct {
	pen
	api.Packet
}

func (s *slip) steps() []func() {
	return []func(){s.from, s.to, s.seq, s.ack, s.load}
}

func (s *slip) from() { number(s.pen, &s.From, 1, maxCount) }
func (s *slip) to()   { number(s.pen, &s.To, 0, maxCount) }
func (s *slip) seq()  { number(s.pen, &s.Seq, 0, maxCount) }
func (s *slip) ack()  { number(s.pen, &s.Ack, 0, maxCount) }
func (s *slip) load() { row(s.pen, &s.Load, 0, maxLoad) }
