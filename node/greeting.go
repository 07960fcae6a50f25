package node

import (
	"replica/api"
	"replica/digest"
	"replica/greet"
	"replica/ident"
)

// greet begins a handshake. Clients' operations wait until it has come to its end: no write slips in between the bitmap that is sent and the deal.
func (n *Node) greet() {
	n.conn = api.Greeting
	n.greeting, _ = greet.New(n.self())
	n.repl.Hold(true)
	packets, _ := n.greeting.Start()
	n.sendAll(packets)
}

// self is what the node brings to a handshake. A resource that was checked and a store that is up bring nothing that is refused.
func (n *Node) self() api.Self {
	c, super := n.config, n.store.Super()
	flags := super.Flags
	if n.discard {
		flags |= api.FlagDiscard
	}
	return api.Self{
		Node: n.number, Secret: c.Secret, Nonce: n.nonce(),
		Blocks: c.Blocks, Size: c.Size, Protocol: c.Protocol,
		Gens: super.Gens, Flags: flags, Role: n.role, Disk: n.diskState(),
		Bits: n.store.Bits(),
		Sb0:  c.Sb0, Sb1: c.Sb1, Sb2: c.Sb2,
	}
}

// nonce makes a challenge that was not used before: the superblock's number is another for each link that is opened.
func (n *Node) nonce() []byte {
	seed := []byte{byte(n.number)}
	for shift := 56; shift >= 0; shift -= 8 {
		seed = append(seed, byte(n.store.Super().Seq>>shift))
	}
	sum := digest.Sum256(seed)
	return sum[:api.NonceSize]
}

func (n *Node) takeGreeting(p api.Packet) api.Errno {
	packets, done, e := n.greeting.Receive(p)
	n.sendAll(packets)
	if done {
		n.join()
	}
	return e
}

// join begins what the handshake came to.
func (n *Node) join() {
	deal, _ := n.greeting.Deal()
	n.greeting = nil
	n.peerRole, n.peerDisk = deal.Role, deal.Disk
	n.repl.Connect()
	switch deal.Verdict.Kind {
	case api.SourceBits, api.SourceFull:
		n.joinSource(deal.Bits)
	case api.TargetBits, api.TargetFull:
		n.joinTarget(deal.Bits)
	default:
		n.joinEqual()
	}
	n.drive(n.repl.Hold(false))
}

func (n *Node) joinEqual() {
	if n.hasFlag(api.FlagCrashed) {
		n.write(n.gens(), 0, api.FlagCrashed)
	}
	n.discard = false
	n.conn = api.Connected
}

func (n *Node) joinSource(bits []uint64) {
	n.store.MarkWords(bits)
	n.write(ident.BeginSource(n.gens(), n.fresh()), 0, 0)
	n.discard = false
	n.peerDisk = api.Inconsistent
	n.sendGens()
	n.startRun(api.SyncSource, api.ModeSource)
}

// joinTarget waits for the source's identifiers with its engine. The disk is outdated from here on: there are newer data.
func (n *Node) joinTarget(bits []uint64) {
	n.store.MarkWords(bits)
	n.write(n.gens(), api.FlagOutdated, 0)
	n.started = false
	n.conn = api.SyncTarget
}
