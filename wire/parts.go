package wire

import "replica/api"

// parts are a packet's fields, the numbers in one row, so that a field can name its own by its place.
type parts struct {
	numbers [places]uint32
	gens    api.Gens
	sum     [sumSize]byte
	data    []byte
}

func partsOf(p api.Packet) *parts {
	return &parts{
		numbers: [places]uint32{atId: p.Id, atBlock: p.Block, atEpoch: p.Epoch, atCount: p.Count, atFlags: p.Flags},
		gens:    p.Gens,
		sum:     p.Sum,
		data:    p.Data,
	}
}

func (p *parts) packet(cmd int) api.Packet {
	return api.Packet{
		Cmd:   cmd,
		Id:    p.numbers[atId],
		Block: p.numbers[atBlock],
		Epoch: p.numbers[atEpoch],
		Count: p.numbers[atCount],
		Flags: p.numbers[atFlags],
		Gens:  p.gens,
		Sum:   p.sum,
		Data:  p.data,
	}
}

// fit tells whether each field has what it may have, and nothing stands beside them.
func (p *parts) fit(fields []field) bool {
	rest := *p
	for _, f := range fields {
		if !f.fits(p) {
			return false
		}
		f.blank(&rest)
	}
	return rest.empty()
}

func (p *parts) empty() bool {
	return p.numbers == [places]uint32{} && p.gens == api.Gens{} && p.sum == [sumSize]byte{} && len(p.data) == 0
}
