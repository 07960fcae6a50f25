package node

import (
	"crypto/hmac"
	"crypto/sha256"
	"encoding/binary"
	"slices"
	"testing"

	"replica/api"
	"replica/bitmap"
	"replica/disk"
	"replica/ident"
	"replica/store"
)

// onDisk gives a desk whose node starts on a disk with those identifiers and flags.
func onDisk(t *testing.T, c api.Config, i int, gens api.Gens, flags uint32) *desk {
	t.Helper()
	d := newDesk(t, c, i)
	blocks, size := d.d[i].Geometry()
	d.d[i], _ = disk.New(blocks, size)
	d.must("Format", store.Format(d.d[i], c.Blocks, c.Slots, gens, flags, false))
	d.up(i)
	return d
}

// nonceOf is the chapter's.
func nonceOf(node int, seq uint64) []byte {
	sum := sha256.Sum256(binary.BigEndian.AppendUint64([]byte{byte(node)}, seq))
	return sum[:16]
}

func proof(secret string, challenge []byte, node int) (sum [32]byte) {
	h := hmac.New(sha256.New, []byte(secret))
	h.Write(challenge)
	h.Write([]byte{byte(node)})
	copy(sum[:], h.Sum(nil))
	return sum
}

// TestGreeting is P1712: what a node brings to a handshake.
func TestGreeting(t *testing.T) {
	for i := range 2 {
		c := with(func(c *api.Config) {
			c.Secret, c.Sb0, c.Sb1, c.Blocks, c.Protocol, c.Size = "open sesame", api.SbLeast, api.SbSecondary, 70, api.ProtoB, 256
		})
		d := newDesk(t, c, i)
		d.must("", d.promote(i, false))
		d.must("", d.write(i, 66, 5))
		d.meet(false)
		if g := d.status(); g.Peer != api.NoRole || g.Pdsk != api.NoDisk {
			t.Errorf("P1712: Greeting: %+v", g)
		}
		s, seq, gens := d.self(), d.super().Seq, d.node().Gens()
		s.Bits[0] = 8
		code, _ := bitmap.Encode(70, []uint64{0, 4})
		during, _ := d.greets(s)
		d.sends("P1712", during,
			api.Packet{Cmd: api.CmdFeature, Id: 86, Count: 90, Flags: uint32(1 + 2*i)},
			api.Packet{Cmd: api.CmdChallenge, Data: nonceOf(i, seq)},
			api.Packet{Cmd: api.CmdResponse, Sum: proof("open sesame", s.Nonce, i)},
			api.Packet{Cmd: api.CmdSizes, Block: 70, Count: 256, Flags: 2 + 4*api.SbLeast + 32*api.SbSecondary},
			api.Packet{Cmd: api.CmdIds, Gens: gens, Flags: api.FlagConsistent | api.FlagPrimary, Count: 1},
			stateOf(api.Primary, api.UpToDate),
			api.Packet{Cmd: api.CmdBits, Count: 2, Data: code},
		)
		d.is("P1712", api.SyncSource, api.OK)
	}
}

// TestNoncesDiffer: no challenge is used twice.
func TestNoncesDiffer(t *testing.T) {
	d := newDesk(t, with(func(c *api.Config) { c.Secret = "x" }), 0)
	var nonces [][]byte
	for range 3 {
		d.meet(false)
		m := d.self()
		m.Nonce = fill(16, 9)
		during, _ := d.greets(m)
		nonces = append(nonces, during[1].Data)
		d.must("", d.disconnect(0))
		d.exchange()
	}
	if slices.Equal(nonces[0], nonces[1]) || slices.Equal(nonces[1], nonces[2]) {
		t.Errorf("P1712: %x", nonces)
	}
}

// TestGreetingBitmap: a bitmap of many words.
func TestGreetingBitmap(t *testing.T) {
	c := with(func(c *api.Config) { c.Blocks, c.Window = 4096, 1 })
	d := newDesk(t, c, 0)
	d.must("", d.promote(0, false))
	for _, b := range []int{0, 1000, 4095} {
		d.must("", d.write(0, b, 5))
	}
	d.joins(func(s *api.Self) { s.Bits[20] = 3 })
	d.is("P1712", api.SyncSource, api.OK)
	if s := d.status(); s.OutOfSync != 5 {
		t.Errorf("P1712: %+v", s)
	}
}

// TestDiscard: the flag goes with the identifiers, until the handshake has come to its end.
func TestDiscard(t *testing.T) {
	d := onDisk(t, resource(), 0, api.Gens{Current: 20, Bitmap: 10}, api.FlagConsistent)
	d.meet(true)
	flagsOf := func(during []api.Packet) uint32 {
		at := slices.IndexFunc(during, func(p api.Packet) bool { return p.Cmd == api.CmdIds })
		return during[at].Flags
	}
	split := d.self()
	split.Gens = api.Gens{Current: 22, Bitmap: 10}
	// It is kept where the net fails.
	for range d.c.Dead {
		d.tick(0)
	}
	d.is("P1710", api.Connecting, api.ErrDown)
	d.open()
	during, _ := d.greets(split)
	if f := flagsOf(during); f != api.FlagConsistent|api.FlagDiscard {
		t.Errorf("P1712: flags %d", f)
	}
	d.is("P1712: it gives up", api.SyncTarget, api.ErrDown)
	// Until the source's identifiers are there it is kept.
	for range d.c.Dead {
		d.tick(0)
	}
	d.open()
	during, _ = d.greets(split)
	if f := flagsOf(during); f != api.FlagConsistent|api.FlagOutdated|api.FlagDiscard {
		t.Errorf("P1712: flags %d", f)
	}
	d.say(gensOf(split.Gens))
	for range d.c.Dead {
		d.tick(0)
	}
	d.is("P1710", api.Connecting, api.ErrDown)
	d.open()
	split.Gens = api.Gens{Current: 30, Bitmap: 28}
	during, _ = d.greets(split)
	if f := flagsOf(during); f != api.FlagOutdated {
		t.Errorf("P1713: it is not forgotten: flags %d", f)
	}
}

// TestDiscardForgotten: by a handshake in which this node has nothing to give up.
func TestDiscardForgotten(t *testing.T) {
	for _, peer := range []api.Gens{{Current: 1024}, {Current: api.JustCreated}} {
		d := newDesk(t, resource(), 0)
		d.meet(true)
		s := d.self()
		s.Gens = peer
		d.greets(s)
		if c := d.status().Conn; c != api.Connected && c != api.SyncSource {
			t.Fatalf("P1712: Conn %d", c)
		}
		for range d.c.Dead {
			d.tick(0)
		}
		d.open()
		during, _ := d.greets(s)
		at := slices.IndexFunc(during, func(p api.Packet) bool { return p.Cmd == api.CmdIds })
		if during[at].Flags&api.FlagDiscard != 0 {
			t.Errorf("P1712: it is not forgotten")
		}
	}
}

// TestJoinEqual: NoSync. (Of two nodes with one generation a crashed one is the source; of two new ones none is.)
func TestJoinEqual(t *testing.T) {
	for _, k := range []struct {
		gens  api.Gens
		flags uint32
		seqs  uint64 // how often the superblock is written
	}{
		{api.Gens{Current: 1024, Old1: 9}, api.FlagConsistent, 0},
		{api.Gens{Current: api.JustCreated}, api.FlagConsistent, 0},
		{api.Gens{Current: api.JustCreated}, api.FlagConsistent | api.FlagCrashed, 1},
		{api.Gens{Current: api.JustCreated}, api.FlagOutdated | api.FlagCrashed, 1},
	} {
		d := onDisk(t, resource(), 0, k.gens, k.flags)
		d.meet(false)
		s, seq := d.self(), d.super().Seq
		s.Gens, s.Role = k.gens, api.Primary
		s.Disk = d.status().Disk
		_, behind := d.greets(s)
		d.sends("P1712", behind)
		d.is("P1712", api.Connected, api.OK)
		d.peers("P1712", api.Primary, s.Disk)
		d.flags("P1712", k.flags&^api.FlagCrashed)
		d.gens("P1712", k.gens)
		if x := d.super().Seq; x != seq+k.seqs {
			t.Errorf("P1712: Seq %d, want %d", x, seq+k.seqs)
		}
		// The backup's side is ready.
		d.sends("P1713", d.say(api.Packet{Cmd: api.CmdData, Id: 5, Block: 1, Epoch: 1, Data: fill(128, 3)}), packet(api.CmdWriteAck, 5, 1))
	}
}

// TestJoinSource: by bits, and full.
func TestJoinSource(t *testing.T) {
	d := onDisk(t, resource(), 0, api.Gens{Current: 20, Old1: 1024}, api.FlagConsistent|api.FlagCrashed)
	seq := d.super().Seq
	behind := d.joins(func(s *api.Self) { s.Gens, s.Bits = api.Gens{Current: 20, Old1: 1024}, []uint64{0x81} })
	gens := api.Gens{Current: ident.Fresh(0, seq+2), Bitmap: 20, Old1: 1024}
	d.sends("P1712", behind, gensOf(gens))
	d.is("P1712", api.SyncSource, api.OK)
	d.peers("P1712", api.Secondary, api.Inconsistent)
	d.gens("P1712", gens)
	d.flags("P1712", api.FlagConsistent|api.FlagCrashed)
	if x := storeOf(t, d.d[0]); x.Super().Seq != seq+2 || !slices.Equal(x.Stored(), []uint64{0x81}) {
		t.Errorf("P1712: %+v, %v", x.Super(), x.Stored())
	}
	if pr := d.node().Progress(); pr != (api.Progress{Mode: api.ModeSource, Left: 2}) {
		t.Errorf("P1712: %+v", pr)
	}

	d = newDesk(t, resource(), 1)
	d.must("", d.promote(1, false))
	own := d.node().Gens()
	behind = d.joins(func(s *api.Self) { s.Gens, s.Disk, s.Flags = api.Gens{Current: 4}, api.Inconsistent, 0 })
	d.sends("P1712: full", behind, gensOf(own))
	d.is("P1712", api.SyncSource, api.OK)
	d.gens("P1712: they count from a bitmap already", own)
	if s := d.status(); s.OutOfSync != 8 || s.Role != api.Primary {
		t.Errorf("P1712: %+v", s)
	}
}

// TestJoinTarget: by bits, and full.
func TestJoinTarget(t *testing.T) {
	for _, peer := range []api.Gens{{Current: 2000, Bitmap: 1024}, {Current: 2000, Old1: 1024}} {
		d := newDesk(t, resource(), 0)
		seq := d.super().Seq
		behind := d.joins(func(s *api.Self) { s.Gens, s.Role, s.Bits = peer, api.Primary, []uint64{0x24} })
		d.sends("P1712", behind)
		d.is("P1712", api.SyncTarget, api.OK)
		d.peers("P1712", api.Primary, api.UpToDate)
		d.gens("P1712", api.Gens{Current: 1024})
		d.flags("P1712", api.FlagConsistent|api.FlagOutdated)
		words := []uint64{0x24}
		if peer.Bitmap == 0 {
			words = []uint64{0xff}
		}
		if x := storeOf(t, d.d[0]); x.Super().Seq != seq+2 || !slices.Equal(x.Stored(), words) {
			t.Errorf("P1712: %+v, %v", x.Super(), x.Stored())
		}
		// Its engine waits for the source's identifiers.
		if pr := d.node().Progress(); pr != (api.Progress{}) {
			t.Errorf("P1712: %+v", pr)
		}
		d.sends("P1714", d.tickNode())
		d.sends("P1713", d.say(api.Packet{Cmd: api.CmdData, Id: 5, Block: 1, Epoch: 1, Data: fill(128, 3)}), packet(api.CmdWriteAck, 5, 1))
		d.sends("P1713", d.say(gensOf(api.Gens{Current: 2000, Bitmap: 1999, Old1: 6, Old2: 5})))
		d.gens("P1713", api.Gens{Current: 1999, Old1: 1024})
		d.flags("P1713", api.FlagOutdated)
		d.is("P1713", api.SyncTarget, api.OK)
		if got := d.tickNode(); len(got) == 0 || got[0].Cmd != api.CmdSumRequest {
			t.Errorf("P1714: %s", tellPackets(got))
		}
	}
}

// TestResyncTarget: a run from its beginning to its end, at the target.
func TestResyncTarget(t *testing.T) {
	d := onDisk(t, resource(), 0, api.Gens{Current: 1024, Old1: 7}, api.FlagConsistent|api.FlagCrashed)
	d.joins(func(s *api.Self) {
		s.Gens, s.Role, s.Bits = api.Gens{Current: 2000, Bitmap: 1024}, api.Primary, []uint64{0x24}
	})
	zero := sha256.Sum256(fill(128, 0))
	d.say(gensOf(api.Gens{Current: 2000, Bitmap: 1024}))
	d.flags("P1713", api.FlagOutdated|api.FlagCrashed)
	d.sends("P1714", d.tickNode(), api.Packet{Cmd: api.CmdSumRequest, Id: 1, Block: 2, Sum: zero}, api.Packet{Cmd: api.CmdSumRequest, Id: 2, Block: 5, Sum: zero})
	d.sends("P1713", d.say(packet(api.CmdInSync, 1, 2)), packet(api.CmdSyncAck, 1, 2))
	d.sends("P1713", d.say(api.Packet{Cmd: api.CmdSyncData, Id: 2, Block: 5, Data: fill(128, 4)}), packet(api.CmdSyncAck, 2, 5), api.Packet{Cmd: api.CmdSyncDone, Count: 1})
	// It waits for the source's word.
	d.is("P1709", api.SyncTarget, api.OK)
	if pr := d.node().Progress(); pr != (api.Progress{Same: 1, Shipped: 1}) {
		t.Errorf("P1709: %+v", pr)
	}
	d.sends("P1714", d.tickNode())
	d.flags("P1709", api.FlagOutdated|api.FlagCrashed)
	d.peers("P1709", api.Primary, api.UpToDate)
	d.say(stateOf(api.Primary, api.Outdated))
	d.sends("P1713", d.say(gensOf(api.Gens{Current: 2000, Bitmap: 3, Old1: 1024, Old2: 7})))
	d.is("P1713", api.Connected, api.OK)
	d.gens("P1713", api.Gens{Current: 2000, Old1: 1024, Old2: 7})
	d.flags("P1713", api.FlagConsistent)
	d.peers("P1713", api.Primary, api.UpToDate)
	if b := d.read(0, 5); b[0] != 4 {
		t.Error("P1713: the block has not come over")
	}
	if s := d.status(); s.OutOfSync != 0 {
		t.Errorf("P1713: %+v", s)
	}
}

// TestResyncNothing: no block is marked: the target's first word is that it is done.
func TestResyncNothing(t *testing.T) {
	d := newDesk(t, resource(), 0)
	d.joins(func(s *api.Self) { s.Gens = api.Gens{Current: 2000, Bitmap: 1024} })
	d.is("P1712", api.SyncTarget, api.OK)
	d.sends("P1713", d.say(gensOf(api.Gens{Current: 2000, Bitmap: 1024})), api.Packet{Cmd: api.CmdSyncDone})
	d.is("P1709", api.SyncTarget, api.OK)
	d.say(gensOf(api.Gens{Current: 2000, Old1: 1024}))
	d.is("P1713", api.Connected, api.OK)
}

// TestResyncSource: a run at the source, with its flags and its end.
func TestResyncSource(t *testing.T) {
	for _, primary := range []bool{false, true} {
		d := onDisk(t, resource(), 0, api.Gens{Current: 20, Bitmap: 1024, Old1: 7}, api.FlagConsistent|api.FlagOutdated|api.FlagCrashed)
		if primary {
			d.must("", d.promote(0, true))
		}
		d.joins(func(s *api.Self) { s.Bits = []uint64{2}; s.Disk, s.Flags = api.Inconsistent, 0 })
		d.is("P1712", api.SyncSource, api.OK)
		d.sends("P1713", d.say(api.Packet{Cmd: api.CmdSumRequest, Id: 1, Block: 1, Flags: 1}), api.Packet{Cmd: api.CmdSyncData, Id: 1, Block: 1, Data: fill(128, 0)})
		d.sends("P1713", d.say(packet(api.CmdSyncAck, 1, 1)))
		if primary {
			d.must("", d.write(0, 6, 1))
			d.exchange()
			d.sends("P1715", d.heard(), api.Packet{Cmd: api.CmdData, Id: 1, Block: 6, Epoch: 1, Data: fill(128, 1)})
		}
		want := api.Gens{Current: 20, Old1: 1024, Old2: 7}
		d.sends("P1709", d.say(api.Packet{Cmd: api.CmdSyncDone, Count: 1}), gensOf(want))
		d.is("P1709", api.Connected, api.OK)
		d.gens("P1709", want)
		d.peers("P1709", api.Secondary, api.UpToDate)
		flags := api.FlagConsistent
		if primary {
			flags |= api.FlagPrimary
		}
		d.flags("P1709", flags)
	}
}

// TestVerifyEnds: both sides of a verify.
func TestVerifyEnds(t *testing.T) {
	d := newDesk(t, with(func(c *api.Config) { c.Blocks = 4 }), 0)
	d.joins(func(s *api.Self) {})
	d.must("", d.promote(0, false))
	d.must("P1707", d.verify(0))
	d.exchange()
	d.heard()
	if got := d.tickNode(); len(got) != 4 {
		t.Fatalf("P1714: %s", tellPackets(got))
	}
	for id := range uint32(3) {
		d.sends("P1713", d.say(api.Packet{Cmd: api.CmdVerifyReply, Id: id + 1, Block: id}))
	}
	d.is("P1713", api.VerifySource, api.OK)
	d.sends("P1709", d.say(api.Packet{Cmd: api.CmdVerifyReply, Id: 4, Block: 3, Flags: 1}), api.Packet{Cmd: api.CmdVerifyDone, Count: 1})
	d.is("P1709", api.Connected, api.OK)
	if s, pr := d.status(), d.node().Progress(); s.OutOfSync != 1 || pr != (api.Progress{Same: 3, Found: 1}) {
		t.Errorf("P1709: %+v, %+v", s, pr)
	}
	d.must("P1707: and again", d.verify(0))

	d = newDesk(t, resource(), 1)
	d.joins(func(s *api.Self) { s.Role = api.Primary })
	d.sends("P1713", d.say(api.Packet{Cmd: api.CmdVerifyRequest, Id: 1, Block: 2, Sum: sha256.Sum256(fill(128, 0))}), packet(api.CmdVerifyReply, 1, 2))
	d.is("P1713", api.VerifyTarget, api.OK)
	d.sends("P1713", d.say(api.Packet{Cmd: api.CmdVerifyRequest, Id: 2, Block: 3}), api.Packet{Cmd: api.CmdVerifyReply, Id: 2, Block: 3, Flags: 1})
	d.sends("P1714", d.tickNode())
	d.is("P1713", api.VerifyTarget, api.OK)
	d.sends("P1713", d.say(api.Packet{Cmd: api.CmdVerifyDone, Count: 1}))
	d.is("P1709", api.Connected, api.OK)
	if pr := d.node().Progress(); pr != (api.Progress{Same: 1, Found: 1}) {
		t.Errorf("P1709: %+v", pr)
	}
	// A verify of which nothing but the end is heard.
	d.sends("P1713", d.say(api.Packet{Cmd: api.CmdVerifyDone}))
	d.is("P1709", api.Connected, api.OK)
	if pr := d.node().Progress(); pr != (api.Progress{}) {
		t.Errorf("P1713: a run of its own: %+v", pr)
	}
}

// TestVerifyTick: a source whose blocks cannot be read ends by a Tick.
func TestVerifyTick(t *testing.T) {
	d := newDesk(t, with(func(c *api.Config) { c.Blocks = 2 }), 0)
	d.joins(func(s *api.Self) {})
	d.must("", d.promote(0, false))
	d.exchange()
	d.heard()
	d.d[0].Spoil(0)
	d.d[0].Spoil(1)
	d.must("P1707", d.verify(0))
	d.sends("P1709", d.tickNode(), api.Packet{Cmd: api.CmdVerifyDone, Count: 2})
	d.is("P1709", api.Connected, api.OK)
}

// TestHold: no client write slips in between the bitmap and the deal.
func TestHold(t *testing.T) {
	d := newDesk(t, resource(), 0)
	d.must("", d.promote(0, false))
	d.must("", d.write(0, 0, 1))
	d.answers1("P1715", api.Answer{Id: 1})
	d.meet(false)
	d.must("", d.write(0, 4, 2))
	d.submit(0, api.OpRead, 0, nil)
	d.submit(0, api.OpFlush, 0, nil)
	d.answers1("P1712: held")
	if s := d.status(); s.Pending != 3 || s.OutOfSync != 1 {
		t.Errorf("P1712: %+v", s)
	}
	_, behind := d.greets(d.self())
	d.sends("P1712", behind, gensOf(d.node().Gens()), api.Packet{Cmd: api.CmdData, Id: 2, Block: 4, Epoch: 1, Data: fill(128, 2)}, api.Packet{Cmd: api.CmdBarrier, Epoch: 1, Count: 1})
	d.answers1("P1712", api.Answer{Id: 3, Data: fill(128, 1)})
}

// TestHoldNoSync, TestHoldRefused: what was held goes on at the end of every handshake.
func TestHoldNoSync(t *testing.T) {
	d := onDisk(t, resource(), 0, api.Gens{Current: 20, Bitmap: 10}, api.FlagConsistent)
	d.must("", d.promote(0, false))
	d.meet(false)
	d.must("", d.write(0, 4, 2))
	s := d.self()
	s.Gens = api.Gens{Current: 20, Bitmap: 10}
	_, behind := d.greets(s)
	if len(behind) == 0 || behind[len(behind)-1].Cmd != api.CmdData {
		t.Errorf("P1712: %s", tellPackets(behind))
	}
}

func TestHoldRefused(t *testing.T) {
	d := newDesk(t, resource(), 0)
	d.must("", d.promote(0, false))
	for k, end := range []func(){
		func() { d.say(packet(api.CmdRecvAck, 1, 1)) },
		func() { d.sayBytes([]byte{0}) },
		func() { d.must("P1704", d.disconnect(0)) },
		func() { d.l.Close(); d.exchange() },
		func() {
			for range d.c.Dead {
				d.tick(0)
			}
		},
	} {
		if d.status().Conn == api.StandAlone {
			d.must("", d.connect(0, false))
		}
		d.open()
		d.must("", d.write(0, k, 2))
		d.answers1("P1712: held")
		end()
		d.answers1("P1710: let go", api.Answer{Id: d.ids})
		d.must("", d.write(0, k, 2))
		d.answers1("P1710: nothing is held any more", api.Answer{Id: d.ids})
		d.exchange()
		d.heard()
	}
	d.is("P1710", api.Connecting, api.ErrDown)
}

// TestGreetingRefused: each error of a handshake is the reason.
func TestGreetingRefused(t *testing.T) {
	for _, k := range []struct {
		want   api.Errno
		change func(s *api.Self)
	}{
		{api.ErrProto, func(s *api.Self) { s.Node = 1 - s.Node }},
		{api.ErrAuth, func(s *api.Self) { s.Secret = "" }},
		{api.ErrAuth, func(s *api.Self) { s.Secret = "other" }},
		{api.ErrSizes, func(s *api.Self) { s.Protocol = api.ProtoA }},
		{api.ErrSizes, func(s *api.Self) { s.Size = 1024 }},
		{api.ErrSizes, func(s *api.Self) { s.Sb1 = api.SbConsensus }},
		{api.ErrUnrelated, func(s *api.Self) { s.Gens.Current = 55 }},
		{api.ErrSplit, func(s *api.Self) { s.Gens = api.Gens{Current: 22, Bitmap: 1024} }},
		{api.ErrPrimary, func(s *api.Self) { s.Role = api.Primary }},
	} {
		d := newDesk(t, with(func(c *api.Config) { c.Secret = "green" }), 0)
		d.must("", d.promote(0, false))
		d.meet(false)
		s := d.self()
		k.change(&s)
		image := d.durable(0)
		seq := d.super().Seq
		d.greets(s)
		d.is("P1712", api.StandAlone, k.want)
		d.peers("P1710", api.NoRole, api.NoDisk)
		if d.super().Seq != seq || !slices.Equal(image, d.durable(0)) {
			t.Errorf("P1712: a handshake that is refused has written")
		}
		if d.l.State() != api.LinkClosed {
			t.Errorf("P1710: the link is not closed: %d", d.l.State())
		}
	}
	// The peer's version.
	d := newDesk(t, resource(), 0)
	d.meet(false)
	d.say(api.Packet{Cmd: api.CmdFeature, Id: 91, Count: 95, Flags: 2})
	d.is("P1712", api.StandAlone, api.ErrVersion)
	// Both disks are worth nothing.
	d = onDisk(t, resource(), 0, api.Gens{Current: 20, Bitmap: 10}, 0)
	d.meet(false)
	s := d.self()
	s.Gens, s.Disk, s.Flags = api.Gens{Current: 10}, api.Inconsistent, 0
	d.greets(s)
	d.is("P1712", api.StandAlone, api.ErrDisk)
}
