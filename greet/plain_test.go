package greet

import (
	"slices"

	"replica/api"
	"replica/bitmap"
	"replica/digest"
	"replica/ident"
)

// plain: a machine by the chapter's words. Bitmaps are rows of bools in it, and it sees for itself whether a packet is well-formed.
type plain struct {
	self       api.Self
	own, other []bool // the bitmaps of this node and, as far as it has come, of the peer
	stage      string
	version    int
	ids, state api.Packet
	verdict    api.Verdict
	bits       []bool // the deal's
	seen       map[string]int
}

const all = 4294967295

// wellFormed: layer 7's table, for the packets of a greeting.
func wellFormed(p api.Packet) bool {
	rest := p
	switch p.Cmd {
	case api.CmdFeature:
		rest.Id, rest.Count, rest.Flags = 0, 0, 0
		return isEmpty(rest) && p.Count >= p.Id
	case api.CmdChallenge:
		rest.Data = nil
		return isEmpty(rest) && len(p.Data) == 16
	case api.CmdResponse:
		rest.Sum = [32]byte{}
		return isEmpty(rest)
	case api.CmdSizes:
		rest.Block, rest.Count, rest.Flags = 0, 0, 0
		return isEmpty(rest) && p.Block >= 1 && p.Block <= 4096 && slices.Contains([]uint32{128, 256, 512, 1024}, p.Count)
	case api.CmdIds:
		rest.Count, rest.Flags, rest.Gens = 0, 0, api.Gens{}
		return isEmpty(rest) && p.Count <= 4096 && p.Flags <= 31
	case api.CmdState:
		rest.Flags = 0
		return isEmpty(rest) && slices.Contains([]uint32{0, 1, 4, 5, 8, 9}, p.Flags)
	case api.CmdBits:
		rest.Block, rest.Count, rest.Data = 0, 0, nil
		return isEmpty(rest) && p.Block <= 63 && p.Count >= 1 && p.Count <= 8 && p.Count <= 64-p.Block && len(p.Data) >= 1 && len(p.Data) <= 256
	}
	return false
}

func isEmpty(p api.Packet) bool {
	return p.Id == 0 && p.Block == 0 && p.Epoch == 0 && p.Count == 0 && p.Flags == 0 && p.Gens == api.Gens{} && p.Sum == [32]byte{} && len(p.Data) == 0
}

func newPlain(s api.Self, seen map[string]int) (*plain, api.Errno) {
	if s.Node != 0 && s.Node != 1 || len(s.Secret) > 64 || s.Blocks < 1 || s.Blocks > 4096 {
		return nil, api.ErrArg
	}
	if s.Size != 128 && s.Size != 256 && s.Size != 512 && s.Size != 1024 || s.Protocol < 1 || s.Protocol > 3 || s.Flags > 31 {
		return nil, api.ErrArg
	}
	if s.Role < 0 || s.Role > 1 || s.Disk < 0 || s.Disk > 2 || s.Sb0 < 0 || s.Sb0 > 4 || s.Sb1 != 0 && s.Sb1 != 5 && s.Sb1 != 6 || s.Sb2 != 0 {
		return nil, api.ErrArg
	}
	if len(s.Nonce) != 16 || len(s.Bits) != (s.Blocks+63)/64 {
		return nil, api.ErrSize
	}
	p := &plain{self: s, stage: "new", seen: seen}
	p.self.Nonce = append([]byte{}, s.Nonce...)
	for i := range 64 * len(s.Bits) {
		set := s.Bits[i/64]>>(i%64)&1 == 1
		if i < s.Blocks {
			p.own = append(p.own, set)
		} else if set {
			return nil, api.ErrRange
		}
	}
	return p, api.OK
}

func (p *plain) start() ([]api.Packet, api.Errno) {
	if p.stage != "new" {
		return nil, api.ErrState
	}
	p.stage = "Feature"
	f := api.Packet{Cmd: 1, Id: 86, Count: 90}
	if p.self.Secret != "" {
		f.Flags = 1
	}
	if p.self.Node == 1 {
		f.Flags += 2
	}
	return []api.Packet{f}, api.OK
}

func countOf(bits []bool) int {
	n := 0
	for _, b := range bits {
		if b {
			n++
		}
	}
	return n
}

func wordsOf(bits []bool) []uint64 {
	words := make([]uint64, (len(bits)+63)/64)
	for i, b := range bits {
		if b {
			words[i/64] |= 1 << (i % 64)
		}
	}
	return words
}

// receive counts in seen what each stage came to.
func (p *plain) receive(x api.Packet) ([]api.Packet, bool, api.Errno) {
	stage := p.stage
	if stage == "new" || stage == "done" || stage == "refused" {
		p.seen[stage+": no packet"]++
		return nil, false, api.ErrState
	}
	back, e := p.take(x)
	if e != api.OK {
		p.stage = "refused"
		p.seen[stage+": "+e.Error()]++
		return nil, false, e
	}
	p.seen[stage+": then "+p.stage]++
	return back, p.stage == "done", api.OK
}

var cmdOf = map[string]int{"Feature": 1, "Challenge": 2, "Response": 3, "Sizes": 4, "Ids": 5, "State": 6, "Bits": 7}

func (p *plain) take(x api.Packet) ([]api.Packet, api.Errno) {
	if !wellFormed(x) || x.Cmd != cmdOf[p.stage] {
		return nil, api.ErrProto
	}
	switch p.stage {
	case "Feature":
		return p.takeFeature(x)
	case "Challenge":
		p.stage = "Response"
		return []api.Packet{{Cmd: 3, Sum: mac(p.self.Secret, x.Data, p.self.Node)}}, api.OK
	case "Response":
		if x.Sum != mac(p.self.Secret, p.self.Nonce, 1-p.self.Node) {
			return nil, api.ErrAuth
		}
		return p.tellAll()
	case "Sizes":
		if own := p.sizes(); x.Block != own.Block || x.Count != own.Count || x.Flags != own.Flags {
			return nil, api.ErrSizes
		}
		p.stage = "Ids"
	case "Ids":
		if x.Flags > 31 || x.Count > uint32(p.self.Blocks) {
			return nil, api.ErrProto
		}
		p.ids, p.stage = x, "State"
	case "State":
		p.state = x
		return p.decide()
	case "Bits":
		return nil, p.takeBits(x)
	}
	return nil, api.OK
}

func mac(secret string, challenge []byte, node int) [32]byte {
	return digest.Mac([]byte(secret), []byte(string(challenge)+string([]byte{byte(node)})))
}

func (p *plain) takeFeature(x api.Packet) ([]api.Packet, api.Errno) {
	if x.Flags > 3 || int(x.Flags>>1) == p.self.Node || x.Id > x.Count {
		return nil, api.ErrProto
	}
	version := uint32(90)
	if x.Count < version {
		version = x.Count
	}
	if version < 86 || version < x.Id {
		return nil, api.ErrVersion
	}
	p.version = int(version)
	theirs, ours := x.Flags == 1 || x.Flags == 3, len(p.self.Secret) > 0
	if theirs && !ours || !theirs && ours {
		return nil, api.ErrAuth
	}
	if ours {
		p.stage = "Challenge"
		return []api.Packet{{Cmd: 2, Data: p.self.Nonce}}, api.OK
	}
	return p.tellAll()
}

func (p *plain) sizes() api.Packet {
	s := p.self
	return api.Packet{Cmd: 4, Block: uint32(s.Blocks), Count: uint32(s.Size), Flags: uint32(s.Protocol + 4*s.Sb0 + 32*s.Sb1 + 256*s.Sb2)}
}

func (p *plain) tellAll() ([]api.Packet, api.Errno) {
	p.stage = "Sizes"
	ids := api.Packet{Cmd: 5, Gens: p.self.Gens, Flags: p.self.Flags, Count: uint32(countOf(p.own))}
	return []api.Packet{p.sizes(), ids, {Cmd: 6, Flags: uint32(p.self.Role + 4*p.self.Disk)}}, api.OK
}

func (p *plain) peerRole() int { return int(p.state.Flags & 1) }
func (p *plain) peerDisk() int { return int(p.state.Flags >> 2) }

// decide: P1504, sentence by sentence.
func (p *plain) decide() ([]api.Packet, api.Errno) {
	s, marked := p.self, countOf(p.own)
	v, e := ident.Settle(ident.Compare(s.Node, s.Gens, s.Flags, p.ids.Gens, p.ids.Flags), s.Disk, p.peerDisk())
	if e != api.OK {
		return nil, e
	}
	if v.Kind == 7 {
		return nil, api.ErrUnrelated
	}
	v, e = ident.Resolve(v, s.Node, s.Sb0, s.Sb1, s.Sb2, s.Role, p.peerRole(), marked, int(p.ids.Count), s.Flags, p.ids.Flags)
	if e != api.OK {
		panic("Resolve refuses")
	}
	if v.Kind == 5 || v.Kind == 6 {
		return nil, api.ErrSplit
	}
	if s.Role == 1 && p.peerRole() == 1 {
		return nil, api.ErrPrimary
	}
	if v.Kind == 0 && s.Disk == 2 && p.peerDisk() == 2 && (marked > 0 || p.ids.Count > 0) {
		source := 0
		if s.Role == 1 {
			source = s.Node
		} else if p.peerRole() == 1 {
			source = 1 - s.Node
		}
		v = api.Verdict{Kind: 2, Rule: 23}
		if source == s.Node {
			v.Kind = 1
		}
	}
	ownTarget, peerTarget := v.Kind == 2 || v.Kind == 4, v.Kind == 1 || v.Kind == 3
	if ownTarget && s.Role == 1 || peerTarget && p.peerRole() == 1 {
		return nil, api.ErrPrimary
	}
	p.verdict = v
	return p.follow(), api.OK
}

func (p *plain) follow() []api.Packet {
	p.stage = "done"
	p.bits = append([]bool{}, p.own...)
	switch p.verdict.Kind {
	case 3, 4:
		for i := range p.bits {
			p.bits[i] = true
		}
	case 1, 2:
		p.stage = "Bits"
		return bitsPackets(p.own)
	}
	return nil
}

// bitsPackets: a bitmap in Bits packets; each has the bits of eight words, or those that are left.
func bitsPackets(bits []bool) []api.Packet {
	var packets []api.Packet
	for first := 0; first < len(bits); first += 512 {
		part := bits[first:min(first+512, len(bits))]
		words := wordsOf(part)
		code, _ := bitmap.Encode(len(part), words)
		packets = append(packets, api.Packet{Cmd: 7, Block: uint32(first / 64), Count: uint32(len(words)), Data: code})
	}
	return packets
}

func (p *plain) takeBits(x api.Packet) api.Errno {
	first := len(p.other)
	part := min(512, len(p.own)-first)
	if int(x.Block) != first/64 || int(x.Count) != (part+63)/64 {
		return api.ErrProto
	}
	words, _, e := bitmap.Decode(part, x.Data)
	if e != api.OK {
		return api.ErrProto
	}
	for i := range part {
		p.other = append(p.other, words[i/64]>>(i%64)&1 == 1)
	}
	if len(p.other) == len(p.own) {
		p.stage = "done"
		for i, set := range p.other {
			p.bits[i] = p.own[i] || set
		}
	}
	return api.OK
}

func (p *plain) deal() (api.Deal, api.Errno) {
	if p.stage != "done" {
		return api.Deal{}, api.ErrState
	}
	return api.Deal{Version: p.version, Verdict: p.verdict, Peer: p.ids.Gens, Flags: p.ids.Flags, Role: p.peerRole(), Disk: p.peerDisk(), Bits: wordsOf(p.bits)}, api.OK
}
