package greet

import (
	"slices"

	"replica/api"
	"replica/digest"
)

// The parts of the Flags of a Feature, a Sizes and a State.
const (
	featureSecret = 1
	featureNode   = 2

	sizesSb0 = 4
	sizesSb1 = 32
	sizesSb2 = 256

	stateDisk = 4
)

func (m *Machine) feature() api.Packet {
	flags := featureNode * m.self.Node
	if m.hasSecret() {
		flags += featureSecret
	}
	return api.Packet{Cmd: api.CmdFeature, Id: api.LowVersion, Count: api.HighVersion, Flags: uint32(flags)}
}

// agree comes to a version with the peer whose Feature p is, or tells why there is none to greet.
func (m *Machine) agree(p api.Packet) api.Errno {
	// Flags above 3 tell of no node. Layer 7 takes no Feature whose Id is above its Count.
	if int(p.Flags/featureNode) != m.peer() {
		return api.ErrProto
	}
	version := min(api.HighVersion, p.Count)
	if version < api.LowVersion || version < p.Id {
		return api.ErrVersion
	}
	if m.hasSecret() != (p.Flags%featureNode == featureSecret) {
		return api.ErrAuth
	}
	m.deal.Version = int(version)
	return api.OK
}

func (m *Machine) challenge() api.Packet {
	return api.Packet{Cmd: api.CmdChallenge, Data: slices.Clone(m.self.Nonce)}
}

func (m *Machine) response(challenge []byte) api.Packet {
	return api.Packet{Cmd: api.CmdResponse, Sum: m.proof(challenge, m.self.Node)}
}

// proof is what node answers to a challenge, if it knows the secret. The number in it keeps a node's own answer from being good as the other's.
func (m *Machine) proof(challenge []byte, node int) [32]byte {
	return digest.Mac([]byte(m.self.Secret), append(slices.Clone(challenge), byte(node)))
}

func (m *Machine) sizes() api.Packet {
	s := m.self
	flags := s.Protocol + sizesSb0*s.Sb0 + sizesSb1*s.Sb1 + sizesSb2*s.Sb2
	return api.Packet{Cmd: api.CmdSizes, Block: uint32(s.Blocks), Count: uint32(s.Size), Flags: uint32(flags)}
}

func (m *Machine) sameDevice(p api.Packet) bool {
	own := m.sizes()
	return p.Block == own.Block && p.Count == own.Count && p.Flags == own.Flags
}

func (m *Machine) ids() api.Packet {
	return api.Packet{Cmd: api.CmdIds, Gens: m.self.Gens, Flags: m.self.Flags, Count: uint32(m.bits.Count())}
}

// noteIds keeps what the peer's Ids say, unless more blocks are marked than there are. (Flags beyond those of api layer 7 does not take.)
func (m *Machine) noteIds(p api.Packet) bool {
	m.deal.Peer, m.deal.Flags, m.marked = p.Gens, p.Flags, int(p.Count)
	return m.marked <= m.self.Blocks
}

func (m *Machine) state() api.Packet {
	return api.Packet{Cmd: api.CmdState, Flags: uint32(m.self.Role + stateDisk*m.self.Disk)}
}

// noteState keeps what the peer's State says. (Layer 7 takes none that isn't a role and a disk's state.)
func (m *Machine) noteState(p api.Packet) {
	m.deal.Role, m.deal.Disk = int(p.Flags%stateDisk), int(p.Flags/stateDisk)
}
