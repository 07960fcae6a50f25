package node

import (
	"bytes"
	"crypto/sha256"
	"slices"
	"testing"

	"replica/api"
	"replica/disk"
	"replica/ident"
	"replica/meta"
	"replica/store"
	"replica/wire"
)

// TestDisk is P1701.
func TestDisk(t *testing.T) {
	bad := with(func(c *api.Config) { c.Blocks = 0 })
	for _, k := range []struct {
		c     api.Config
		clean bool
		first uint64
		want  api.Errno
	}{
		{bad, true, 0, api.ErrValue}, {bad, true, 1024, api.ErrValue}, {bad, false, 0, api.ErrValue},
		{resource(), true, 0, api.ErrArg}, {resource(), true, api.JustCreated, api.ErrArg},
		{resource(), true, 1, api.OK}, {resource(), true, 3, api.OK}, {resource(), true, 5, api.OK}, {resource(), true, 1<<64 - 1, api.OK},
		{resource(), false, 0, api.OK}, {resource(), false, api.JustCreated, api.OK}, {resource(), false, 77, api.OK},
	} {
		d, e := Disk(k.c, k.clean, k.first)
		if e != k.want || (d == nil) != (e != api.OK) {
			t.Fatalf("P1701: Disk(%v, %d): %v, want %v", k.clean, k.first, e, k.want)
		}
		if d == nil {
			continue
		}
		x, want := superOf(t, d), api.Super{Seq: 1, Blocks: 8, Size: 128, Slots: 2, Gens: api.Gens{Current: 4}}
		marked := 8
		if k.clean {
			want.Gens.Current, want.Flags, want.Mark, marked = k.first, api.FlagConsistent, 8, 0
		}
		if x != want || storeOf(t, d).Marked() != marked {
			t.Errorf("P1701: Disk(%v, %d): %+v, want %+v", k.clean, k.first, x, want)
		}
	}
}

func TestDiskGeometry(t *testing.T) {
	for _, c := range []api.Config{
		resource(),
		with(func(c *api.Config) { c.Blocks, c.Size, c.Slots = 1, 1024, 16 }),
		with(func(c *api.Config) { c.Blocks, c.Size, c.Slots = 4096, 128, 9 }),
	} {
		l, _ := meta.Plan(c.Blocks, c.Size, c.Slots)
		for _, clean := range []bool{true, false} {
			d, e := Disk(c, clean, 9)
			if e != api.OK {
				t.Fatalf("P1701: %v", e)
			}
			if blocks, size := d.Geometry(); blocks != l.Total || size != c.Size {
				t.Errorf("P1701: %d blocks of %d bytes, want %d of %d", blocks, size, l.Total, c.Size)
			}
			if data := d.Image()[:c.Blocks*c.Size]; !bytes.Equal(data, make([]byte, len(data))) || len(d.Cached()) > 0 {
				t.Error("P1701: the data are not zero")
			}
			if s := storeOf(t, d); clean != (s.Marked() == 0) || !clean && s.Marked() != c.Blocks {
				t.Errorf("P1701: %d blocks are marked", s.Marked())
			}
		}
	}
}

// TestNewRefuses: the errors of P1702, the first that applies.
func TestNewRefuses(t *testing.T) {
	good, _ := Disk(resource(), true, 1024)
	blank, _ := disk.New(12, 128)
	wrong, _ := disk.Load(13, 128, append(make([]byte, 128), good.Image()...))
	bad := with(func(c *api.Config) { c.Dead = c.Resend })
	off, _ := Disk(resource(), true, 1024)
	off.Fuse(0)
	off.Flush()
	for k, x := range []struct {
		d    *disk.Disk
		c    api.Config
		node int
		want api.Errno
	}{
		{nil, bad, 0, api.ErrArg}, {good, bad, 2, api.ErrArg}, {good, bad, -1, api.ErrArg}, {nil, resource(), 0, api.ErrArg},
		{good, resource(), 2, api.ErrArg}, {good, resource(), -1, api.ErrArg}, {good, resource(), 1 << 40, api.ErrArg},
		{blank, bad, 0, api.ErrValue}, {good, bad, 0, api.ErrValue},
		{blank, resource(), 0, api.ErrSuper}, {wrong, resource(), 1, api.ErrField}, {off, resource(), 1, api.ErrPower},
		{blank, with(func(c *api.Config) { c.Slots = 3 }), 0, api.ErrSuper},
		{good, with(func(c *api.Config) { c.Blocks = 9 }), 0, api.ErrField},
		{good, with(func(c *api.Config) { c.Blocks = 7 }), 0, api.ErrField},
		{good, with(func(c *api.Config) { c.Size = 256 }), 0, api.ErrField},
		{good, with(func(c *api.Config) { c.Slots = 1 }), 0, api.ErrField},
		{good, resource(), 0, api.OK}, {good, resource(), 1, api.OK},
		{good, with(func(c *api.Config) { c.Protocol, c.Name, c.Queue = api.ProtoA, "other", 1 }), 1, api.OK},
	} {
		n, e := New(x.d, x.c, x.node)
		if e != x.want || (n == nil) != (e != api.OK) {
			t.Errorf("P1702: case %d: %v, want %v", k, e, x.want)
		}
	}
	if superOf(t, good).Seq != 1 {
		t.Error("P1702: New has written to a disk that was not a primary's")
	}
}

// TestNewFresh: example 1, and a disk that is not clean.
func TestNewFresh(t *testing.T) {
	for _, clean := range []bool{true, false} {
		p := newPair(t, resource(), clean)
		for i := range 2 {
			want := api.Status{Conn: api.StandAlone, Role: api.Secondary, Peer: api.NoRole, Disk: api.UpToDate, Pdsk: api.NoDisk, Protocol: api.ProtoC}
			gens := api.Gens{Current: 1024}
			if !clean {
				want.Disk, want.OutOfSync, gens.Current = api.Inconsistent, 8, api.JustCreated
			}
			n := p.n[i]
			if s := n.Status(); s != want || n.Gens() != gens || n.Why() != api.OK || n.Progress() != (api.Progress{}) {
				t.Errorf("P1702: %+v, %v, %v, %+v", s, n.Gens(), n.Why(), n.Progress())
			}
			if c := n.Covered(); clean != (len(c) == 0) || !clean && !slices.Equal(c, []int{0, 1}) {
				t.Errorf("P1716: Covered %v", c)
			}
		}
	}
}

// TestNewCrashed: a node that was primary, with its flags as they may be.
func TestNewCrashed(t *testing.T) {
	for flags := uint32(0); flags < 16; flags++ {
		d, _ := disk.New(12, 128)
		gens := api.Gens{Current: 10, Bitmap: 9, Old1: 8, Old2: 7}
		store.Format(d, 8, 2, gens, flags, false)
		n, e := New(d, resource(), 1)
		want, seq := flags, uint64(1)
		if flags&api.FlagPrimary != 0 {
			want, seq = flags-api.FlagPrimary|api.FlagCrashed, 2
		}
		x := superOf(t, d)
		if e != api.OK || x.Flags != want || x.Seq != seq || x.Gens != gens || n.Gens() != gens {
			t.Fatalf("P1702: flags %d: %v, %+v", flags, e, x)
		}
		state := api.UpToDate
		if flags&api.FlagOutdated != 0 {
			state = api.Outdated
		}
		if flags&api.FlagConsistent == 0 {
			state = api.Inconsistent
		}
		if s := n.Status(); s.Disk != state || s.Role != api.Secondary || s.Conn != api.StandAlone {
			t.Errorf("P1702: flags %d: %+v", flags, s)
		}
	}
}

// TestNewPower: where the power fails in New that is told.
func TestNewPower(t *testing.T) {
	d, _ := disk.New(12, 128)
	store.Format(d, 8, 2, api.Gens{Current: 10}, api.FlagPrimary|api.FlagConsistent, false)
	s, _, _ := store.Open(d)
	s.Begin(5)
	for steps, want := range []api.Errno{api.ErrPower, api.ErrPower, api.OK} { // the marks of the hot extent, the superblock
		other, _ := disk.Load(12, 128, d.Image())
		other.Fuse(steps)
		if n, e := New(other, resource(), 0); e != want || (n == nil) != (e != api.OK) {
			t.Errorf("P1702: power for %d steps: %v, want %v", steps, e, want)
		}
	}
}

// firstFrame reads what a node gave as one frame.
func firstFrame(t *testing.T, o api.NodeOut) api.Frame {
	t.Helper()
	if len(o.Frames) != 1 {
		t.Fatalf("%d frames, want 1", len(o.Frames))
	}
	f, e := wire.DecodeFrame(o.Frames[0])
	if e != api.OK {
		t.Fatalf("no frame: %v", e)
	}
	return f
}

// TestConnect is P1703: the session's number follows the superblock's.
func TestConnect(t *testing.T) {
	p := newPair(t, resource(), true)
	n := p.n[0]
	o, e := n.Connect(false)
	p.must("P1703", e)
	want := api.Frame{Kind: api.FrameOpen, From: 3, Seq: 3 * 2654435761 & (1<<32 - 1)}
	if f := firstFrame(t, o); f.Kind != want.Kind || f.From != want.From || f.To != 0 || f.Seq != want.Seq {
		t.Errorf("P1703: %+v, want %+v", f, want)
	}
	if x := superOf(t, p.d[0]); x.Seq != 2 || x.Flags != api.FlagConsistent || x.Gens != (api.Gens{Current: 1024}) {
		t.Errorf("P1703: %+v", x)
	}
	if s := n.Status(); s.Conn != api.Connecting || s.Peer != api.NoRole || s.Pdsk != api.NoDisk {
		t.Errorf("P1703: %+v", s)
	}
	for _, discard := range []bool{false, true} {
		if o, e := n.Connect(discard); e != api.ErrState || len(o.Frames) > 0 {
			t.Errorf("P1703: Connect again: %v", e)
		}
	}
	p.must("P1704", p.disconnect(0))
	p.must("P1705", p.promote(0, false))
	p.want("P1703: a primary gives up", p.connect(0, true), api.ErrRole)
	if n.Status().Conn != api.StandAlone {
		t.Error("P1703: refused, and yet something has changed")
	}
	o, e = n.Connect(false)
	p.must("P1703", e)
	if f := firstFrame(t, o); f.From != 5 || f.Seq != 5*2654435761&(1<<32-1) { // Seq: 1, connected 2, promoted 3, connected 4
		t.Errorf("P1703: the second session: %+v", f)
	}
	p.want("P1703: a primary that is not alone", p.connect(0, true), api.ErrState)
}

// TestSessions: the session's number at the edges of a superblock's.
func TestSessions(t *testing.T) {
	for _, k := range []struct {
		seq  uint64
		mine uint32
	}{{1, 3}, {1<<32 - 4, 1<<32 - 2}, {1<<32 - 3, 1<<32 - 1}, {1<<32 - 2, 1}, {1<<32 - 1, 2}, {1 << 32, 3}, {2*(1<<32-1) - 1, 1}, {1 << 61, 1<<29 + 2}} {
		d, _ := Disk(resource(), true, 1024)
		seal, _ := meta.Seal(api.Super{Seq: k.seq, Blocks: 8, Size: 128, Slots: 2, Gens: api.Gens{Current: 1024}, Flags: api.FlagConsistent, Mark: 8})
		d.Through(11, seal)
		n, e := New(d, resource(), 0)
		if e != api.OK {
			t.Fatalf("P1702: %v", e)
		}
		o, _ := n.Connect(false)
		if f := firstFrame(t, o); f.From != k.mine || f.Seq != k.mine*2654435761 {
			t.Errorf("P1703: Seq %d: %+v, want From %d", k.seq, f, k.mine)
		}
	}
}

// TestConnectForgetsWhy: a new Connect begins without a reason.
func TestConnectForgetsWhy(t *testing.T) {
	d := newDesk(t, resource(), 0)
	d.meet(false)
	d.sayBytes([]byte{99})
	d.is("P1711", api.StandAlone, api.ErrProto)
	d.must("P1703", d.connect(0, false))
	d.is("P1703", api.Connecting, api.OK)
}

// TestDisconnect is P1704: who is left behind a primary is outdated.
func TestDisconnect(t *testing.T) {
	p := newPair(t, resource(), true)
	for i := range 2 {
		p.want("P1704: alone", p.disconnect(i), api.ErrState)
	}
	p.must("", p.connect(0, false))
	p.must("P1704: Connecting", p.disconnect(0))
	if s := p.n[0].Status(); s.Conn != api.StandAlone || s.Disk != api.UpToDate {
		t.Errorf("P1704: %+v", s)
	}
	p.way = [2][][]byte{}
	p.join()
	p.must("P1704: from a secondary", p.disconnect(1))
	p.rounds(1)
	if s := p.n[1].Status(); s.Conn != api.StandAlone || s.Disk != api.UpToDate || s.Peer != api.NoRole || s.Pdsk != api.NoDisk || p.n[1].Why() != api.OK {
		t.Errorf("P1704: %+v", s)
	}
	if s := p.n[0].Status(); s.Conn != api.Connecting || p.n[0].Why() != api.ErrDown {
		t.Errorf("P1710: the peer has heard of it: %+v, why %d", s, p.n[0].Why())
	}
	p.must("P1703", p.connect(1, false))
	p.rounds(20)
	p.inSync("P1711")
	p.must("P1705", p.promote(0, false))
	p.rounds(2)
	p.must("P1704: a primary", p.disconnect(0))
	if s := p.n[0].Status(); s.Disk != api.UpToDate || s.Role != api.Primary {
		t.Errorf("P1704: %+v", s)
	}
	p.rounds(2)
	if s := p.n[1].Status(); s.Disk != api.UpToDate {
		t.Errorf("P1704: a secondary that is left: %+v", s)
	}
	p.must("P1703", p.connect(0, false))
	p.rounds(60)
	p.inSync("P1712")
	p.must("P1704: a secondary leaves its primary", p.disconnect(1))
	if s := p.n[1].Status(); s.Disk != api.Outdated || superOf(t, p.d[1]).Flags != api.FlagConsistent|api.FlagOutdated {
		t.Errorf("P1704: %+v", s)
	}
	p.want("P1705: of an outdated disk", p.promote(1, false), api.ErrDisk)
	p.must("P1705: by force", p.promote(1, true))
	if f := superOf(t, p.d[1]).Flags; f != api.FlagConsistent|api.FlagPrimary {
		t.Errorf("P1705: flags %d", f)
	}
}

// TestDisconnectTarget: the target of a resync is told nothing new by it.
func TestDisconnectTarget(t *testing.T) {
	d := newDesk(t, resource(), 1)
	d.joins(func(s *api.Self) {
		s.Gens, s.Role, s.Bits = api.Gens{Current: 2000, Bitmap: 1024}, api.Primary, []uint64{1}
	})
	d.is("P1712", api.SyncTarget, api.OK)
	seq := d.super().Seq
	d.must("P1704", d.disconnect(1))
	if d.super().Seq != seq {
		t.Error("P1704: a target has written identifiers")
	}
	d.is("P1704", api.StandAlone, api.OK)
}

// TestDisconnectVerify: also a node that is compared is left behind.
func TestDisconnectVerify(t *testing.T) {
	d := newDesk(t, resource(), 1)
	d.joins(func(s *api.Self) { s.Role = api.Primary })
	d.say(api.Packet{Cmd: api.CmdVerifyRequest, Id: 1, Block: 2, Sum: sha256.Sum256(fill(128, 0))})
	d.is("P1713", api.VerifyTarget, api.OK)
	d.must("P1704", d.disconnect(1))
	d.flags("P1704", api.FlagConsistent|api.FlagOutdated)
	d.exchange()
	if d.l.State() != api.LinkClosed {
		t.Error("P1704: the peer does not hear of it")
	}
}

// TestPromote is P1705, alone.
func TestPromote(t *testing.T) {
	p := newPair(t, resource(), true)
	p.must("P1705", p.promote(1, false))
	if x := superOf(t, p.d[1]); x.Seq != 2 || x.Flags != api.FlagConsistent|api.FlagPrimary || x.Gens != (api.Gens{Current: ident.Fresh(1, 2), Bitmap: 1024}) {
		t.Errorf("P1705: %+v", x)
	}
	for _, force := range []bool{false, true} {
		p.want("P1705: again", p.promote(1, force), api.ErrState)
	}
	p.must("P1706", p.demote(1))
	p.must("P1705: with a bitmap", p.promote(1, false))
	if x := superOf(t, p.d[1]); x.Seq != 4 || x.Gens != (api.Gens{Current: ident.Fresh(1, 2), Bitmap: 1024}) {
		t.Errorf("P1705: they turn once: %+v", x)
	}
	// While it looks for a peer.
	p.must("", p.connect(0, false))
	p.must("P1705: Connecting", p.promote(0, false))
	if x := superOf(t, p.d[0]); x.Gens != (api.Gens{Current: ident.Fresh(0, 3), Bitmap: 1024}) || p.n[0].Status().Conn != api.Connecting {
		t.Errorf("P1705: %+v", x)
	}
}

// TestPromoteByForce is example 6.
func TestPromoteByForce(t *testing.T) {
	p := newPair(t, resource(), false)
	for _, conn := range []int{api.StandAlone, api.Connecting} {
		p.want("P1705", p.promote(0, false), api.ErrDisk)
		p.must("P1705: by force", p.promote(0, true))
		if s := p.n[0].Status(); s.Conn != conn || s.Disk != api.UpToDate || s.Role != api.Primary {
			t.Errorf("P1705: %+v", s)
		}
		p.format(0, false)
		p.up(0)
		p.must("", p.connect(0, false))
	}
	p.format(0, false)
	p.up(0)
	p.must("P1705: by force", p.promote(0, true))
	if g := p.n[0].Gens(); g != (api.Gens{Current: 72, Bitmap: 4}) {
		t.Errorf("P1705: %v", g)
	}
	p.way = [2][][]byte{}
	p.must("", p.connect(0, false))
	p.must("", p.connect(1, false))
	for range 10 {
		p.rounds(1)
		if p.n[1].Status().Conn == api.SyncTarget {
			break
		}
	}
	if s := p.n[1].Status(); s.Conn != api.SyncTarget || s.OutOfSync != 8 {
		t.Errorf("P1712: %+v", s)
	}
	p.rounds(30)
	p.inSync("P1712")
}

// TestPromoteJoined: beside a peer.
func TestPromoteJoined(t *testing.T) {
	p := newPair(t, resource(), true)
	p.join()
	seq := superOf(t, p.d[1]).Seq
	p.must("P1705", p.promote(1, false))
	if x := superOf(t, p.d[1]); x.Seq != seq+1 || x.Gens != (api.Gens{Current: 1024}) || x.Flags != api.FlagConsistent|api.FlagPrimary {
		t.Errorf("P1705: joined, the identifiers stay: %+v", x)
	}
	if s := p.n[0].Status(); s.Peer != api.Secondary {
		t.Errorf("P1713: %+v", s)
	}
	p.rounds(1)
	if s := p.n[0].Status(); s.Peer != api.Primary || s.Pdsk != api.UpToDate {
		t.Errorf("P1705: its State has not come: %+v", s)
	}
	for _, force := range []bool{false, true} {
		p.want("P1705: beside a primary", p.promote(0, force), api.ErrPeer)
	}
	p.want("P1705: again", p.promote(1, true), api.ErrState)
}

// TestPromoteRefused: while greeting, and where the disk does not allow it.
func TestPromoteRefused(t *testing.T) {
	for _, force := range []bool{false, true} {
		d := newDesk(t, resource(), 0)
		d.meet(false)
		d.want("P1705: Greeting", d.promote(0, force), api.ErrState)
		d.greets(func() api.Self {
			s := d.self()
			s.Gens, s.Bits = api.Gens{Current: 2000, Bitmap: 1024}, []uint64{1}
			return s
		}())
		d.is("P1712", api.SyncTarget, api.OK)
		d.want("P1705: a target", d.promote(0, force), api.ErrDisk)
		d.say(gensOf(api.Gens{Current: 2000, Bitmap: 1024}))
		d.want("P1705: a target", d.promote(0, force), api.ErrDisk)
		d.say(stateOf(api.Primary, api.UpToDate))
		d.want("P1705: ErrPeer stands first", d.promote(0, force), api.ErrPeer)
		if f := d.super().Flags; f != api.FlagOutdated {
			t.Errorf("P1713: flags %d", f)
		}
	}
}

// TestDemote is P1706.
func TestDemote(t *testing.T) {
	p := newPair(t, resource(), true)
	p.want("P1706: a secondary", p.demote(0), api.ErrState)
	p.must("", p.promote(0, false))
	p.must("P1715", p.write(0, 3, 7))
	if p.d[0].Waiting(3) != 1 {
		t.Fatal("P1715: a write alone is not cached")
	}
	flushes, seq := p.d[0].Counts().Flushes, superOf(t, p.d[0]).Seq
	p.must("P1706", p.demote(0))
	if x := superOf(t, p.d[0]); x.Flags != api.FlagConsistent || x.Seq != seq+1 || p.d[0].Waiting(3) != 0 || p.d[0].Counts().Flushes != flushes+1 {
		t.Errorf("P1706: %+v", x)
	}
	if s := p.n[0].Status(); s.Role != api.Secondary {
		t.Errorf("P1706: %+v", s)
	}
	p.want("P1706: again", p.demote(0), api.ErrState)
	if _, e := p.submit(0, api.OpRead, 0, nil); e != api.ErrRole {
		t.Errorf("P1715: at a secondary: %v", e)
	}
}

// TestDemoteJoined: not while something is on its way to the peer.
func TestDemoteJoined(t *testing.T) {
	d := newDesk(t, resource(), 0)
	d.joins(func(s *api.Self) {})
	d.must("", d.promote(0, false))
	d.exchange()
	d.sends("P1705", d.heard(), stateOf(api.Primary, api.UpToDate))
	d.must("", d.write(0, 3, 7))
	d.want("P1706: an operation without an answer", d.demote(0), api.ErrState)
	d.exchange()
	d.heard()
	d.sends("P1713", d.say(packet(api.CmdWriteAck, 1, 3)))
	d.want("P1706: a write in the log", d.demote(0), api.ErrState)
	d.submit(0, api.OpFlush, 0, nil)
	d.exchange()
	d.sends("P1715", d.heard(), api.Packet{Cmd: api.CmdBarrier, Epoch: 1, Count: 1})
	d.say(api.Packet{Cmd: api.CmdBarrierAck, Epoch: 1, Count: 1})
	d.answers1("P1715", api.Answer{Id: 1}, api.Answer{Id: 2})
	d.must("P1706", d.demote(0))
	d.exchange()
	d.sends("P1706", d.heard(), stateOf(api.Secondary, api.UpToDate))
	d.flags("P1706", api.FlagConsistent)
}

// TestDemoteRefused: while greeting, and while verifying.
func TestDemoteRefused(t *testing.T) {
	d := newDesk(t, resource(), 0)
	d.must("", d.promote(0, false))
	d.meet(false)
	d.want("P1706: Greeting", d.demote(0), api.ErrState)
	d.greets(d.self())
	d.is("P1712", api.SyncSource, api.OK)
	d.say(api.Packet{Cmd: api.CmdSyncDone})
	d.is("P1709", api.Connected, api.OK)
	d.must("P1707", d.verify(0))
	d.want("P1706: VerifySource", d.demote(0), api.ErrState)
}

// TestDemoteSource: a source may be demoted; its resync goes on.
func TestDemoteSource(t *testing.T) {
	d := newDesk(t, resource(), 0)
	d.must("", d.promote(0, false))
	d.must("", d.write(0, 5, 1))
	d.joins(func(s *api.Self) {})
	d.must("P1706", d.demote(0))
	d.exchange()
	d.sends("P1706", d.heard(), stateOf(api.Secondary, api.UpToDate))
	d.is("P1706", api.SyncSource, api.OK)
	d.sends("P1713", d.say(api.Packet{Cmd: api.CmdSumRequest, Id: 1, Block: 5, Flags: 1}), api.Packet{Cmd: api.CmdSyncData, Id: 1, Block: 5, Data: fill(128, 1)})
}

// TestVerify is P1707, and example 7.
func TestVerify(t *testing.T) {
	d := newDesk(t, resource(), 0)
	d.want("P1707: a secondary", d.verify(0), api.ErrRole)
	d.must("", d.promote(0, false))
	d.want("P1707: alone", d.verify(0), api.ErrState)
	d.must("", d.write(0, 5, 1))
	d.meet(false)
	d.want("P1707: Greeting", d.verify(0), api.ErrState)
	d.greets(d.self())
	d.want("P1707: SyncSource", d.verify(0), api.ErrState)
	d.say(api.Packet{Cmd: api.CmdSumRequest, Id: 1, Block: 5, Flags: 1}, packet(api.CmdSyncAck, 1, 5), api.Packet{Cmd: api.CmdSyncDone, Count: 1})
	d.is("P1709", api.Connected, api.OK)
	for _, state := range []int{api.Inconsistent, api.Outdated} {
		d.say(stateOf(api.Secondary, state))
		d.want("P1707: the peer's disk", d.verify(0), api.ErrDisk)
	}
	d.say(stateOf(api.Secondary, api.UpToDate))
	d.must("P1707", d.verify(0))
	d.is("P1707", api.VerifySource, api.OK)
	if pr := d.node().Progress(); pr != (api.Progress{Mode: api.ModeVerifySource, Left: 8}) {
		t.Errorf("P1707: %+v", pr)
	}
	d.want("P1707: again", d.verify(0), api.ErrState)
	if got := d.tickNode(); len(got) != 4 || got[0].Cmd != api.CmdVerifyRequest || got[3].Block != 3 {
		t.Errorf("P1714: %s", tellPackets(got))
	}
}

// TestPromoteOutdated: two outdated nodes are joined, and none of them becomes primary there, even by force.
func TestPromoteOutdated(t *testing.T) {
	d := newDesk(t, resource(), 0)
	d.d[0], _ = disk.New(12, 128)
	store.Format(d.d[0], 8, 2, api.Gens{Current: 1024}, api.FlagConsistent|api.FlagOutdated, false)
	d.up(0)
	d.joins(func(s *api.Self) { s.Flags, s.Disk = api.FlagConsistent|api.FlagOutdated, api.Outdated })
	d.is("P1712", api.Connected, api.OK)
	d.want("P1705", d.promote(0, true), api.ErrDisk)
}

// TestInvalidate is P1708, and example 8.
func TestInvalidate(t *testing.T) {
	p := newPair(t, with(func(c *api.Config) { c.Blocks = 70 }), true)
	seq := superOf(t, p.d[1]).Seq
	p.must("P1708", p.invalidate(1))
	if s := p.n[1].Status(); s.OutOfSync != 70 || s.Disk != api.Inconsistent {
		t.Errorf("P1708: %+v", s)
	}
	x := storeOf(t, p.d[1])
	if u := x.Super(); u.Flags != 0 || u.Seq != seq+1 || u.Gens != (api.Gens{Current: 1024}) || !slices.Equal(x.Stored(), []uint64{1<<64 - 1, 63}) {
		t.Errorf("P1708: %+v, %v", u, x.Stored())
	}
	p.want("P1708", p.promote(1, false), api.ErrDisk)
	p.must("P1708: again", p.invalidate(1))
	p.must("", p.connect(1, false))
	p.want("P1708: Connecting", p.invalidate(1), api.ErrState)
	p.must("", p.promote(0, false))
	p.want("P1708: a primary", p.invalidate(0), api.ErrRole)
	p.must("", p.connect(0, false))
	p.want("P1708: ErrRole stands first", p.invalidate(0), api.ErrRole)
	p.rounds(80)
	p.inSync("P1708: the peer is the source")
}

// TestInvalidateKeeps: what an invalidate leaves alone.
func TestInvalidateKeeps(t *testing.T) {
	d, _ := disk.New(12, 128)
	gens := api.Gens{Current: 10, Bitmap: 9, Old1: 8, Old2: 7}
	store.Format(d, 8, 2, gens, api.FlagConsistent|api.FlagOutdated|api.FlagCrashed, false)
	n, _ := New(d, resource(), 1)
	if _, e := n.Invalidate(); e != api.OK {
		t.Fatalf("P1708: %v", e)
	}
	if x := superOf(t, d); x.Gens != gens || x.Flags != api.FlagOutdated|api.FlagCrashed {
		t.Errorf("P1708: %+v", x)
	}
}
