package greet

import (
	"math"
	"reflect"
	"slices"
	"strings"
	"testing"

	"replica/api"
	"replica/bitmap"
	"replica/digest"
)

// TestNewRefuses: P1501: each number outside its domain, and the order of the errors.
func TestNewRefuses(t *testing.T) {
	change := func(f func(s *api.Self)) api.Self {
		s := bring(0, calm)
		f(&s)
		return s
	}
	wrong := []struct {
		what string
		err  api.Errno
		self api.Self
	}{
		{"node 2", api.ErrArg, change(func(s *api.Self) { s.Node = 2 })},
		{"node -1", api.ErrArg, change(func(s *api.Self) { s.Node = -1 })},
		{"a secret of 65 bytes", api.ErrArg, change(func(s *api.Self) { s.Secret = strings.Repeat("x", 65) })},
		{"no block", api.ErrArg, change(func(s *api.Self) { s.Blocks, s.Bits = 0, nil })},
		{"blocks below 0", api.ErrArg, change(func(s *api.Self) { s.Blocks = math.MinInt })},
		{"4097 blocks", api.ErrArg, change(func(s *api.Self) { *s = withBlocks(*s, 4097) })},
		{"blocks without end", api.ErrArg, change(func(s *api.Self) { s.Blocks = math.MaxInt })},
		{"flags 32", api.ErrArg, change(func(s *api.Self) { s.Flags = 32 })},
		{"flags 1<<31", api.ErrArg, change(func(s *api.Self) { s.Flags = 1 << 31 })},
		{"nonce of 15", api.ErrSize, change(func(s *api.Self) { s.Nonce = s.Nonce[:15] })},
		{"nonce of 17", api.ErrSize, change(func(s *api.Self) { s.Nonce = append(s.Nonce, 1) })},
		{"no nonce", api.ErrSize, change(func(s *api.Self) { s.Nonce = nil })},
		{"no bits", api.ErrSize, change(func(s *api.Self) { s.Bits = nil })},
		{"a word too few", api.ErrSize, change(func(s *api.Self) { s.Bits = s.Bits[:1] })},
		{"a word too many", api.ErrSize, change(func(s *api.Self) { s.Bits = append(s.Bits, 0) })},
		{"bit 70", api.ErrRange, change(func(s *api.Self) { s.Bits[1] = 64 })},
		{"bit 127", api.ErrRange, change(func(s *api.Self) { s.Bits[1] = 1 << 63 })},
		{"no nonce, bit 70", api.ErrSize, change(func(s *api.Self) { s.Nonce, s.Bits[1] = nil, 64 })},
		{"role 2, no nonce", api.ErrArg, change(func(s *api.Self) { s.Role, s.Nonce = 2, nil })},
		{"sb2 1, no bits", api.ErrArg, change(func(s *api.Self) { s.Sb2, s.Bits = 1, nil })},
	}
	for _, w := range wrong {
		if m, e := New(w.self); m != nil || e != w.err {
			t.Errorf("P1501: New with %s: %v, %v, want %v", w.what, m, e, w.err)
		}
	}
}

// TestNewDomains: P1501: of every small number each field takes just those that the promise names.
func TestNewDomains(t *testing.T) {
	fields := []struct {
		name  string
		field func(s *api.Self) *int
		good  []int
	}{
		{"Node", func(s *api.Self) *int { return &s.Node }, []int{0, 1}},
		{"Size", func(s *api.Self) *int { return &s.Size }, []int{128, 256, 512, 1024}},
		{"Protocol", func(s *api.Self) *int { return &s.Protocol }, []int{1, 2, 3}},
		{"Role", func(s *api.Self) *int { return &s.Role }, []int{api.Secondary, api.Primary}},
		{"Disk", func(s *api.Self) *int { return &s.Disk }, []int{api.Inconsistent, api.Outdated, api.UpToDate}},
		{"Sb0", func(s *api.Self) *int { return &s.Sb0 }, []int{api.SbDisconnect, api.SbZero, api.SbLeast, api.SbNode0, api.SbNode1}},
		{"Sb1", func(s *api.Self) *int { return &s.Sb1 }, []int{api.SbDisconnect, api.SbSecondary, api.SbConsensus}},
		{"Sb2", func(s *api.Self) *int { return &s.Sb2 }, []int{api.SbDisconnect}},
	}
	for _, f := range fields {
		for _, x := range slices.Concat(numbers(-3, 2050), []int{math.MinInt, math.MaxInt, 1 << 32, 1<<32 + 1}) {
			s := bring(0, calm)
			*f.field(&s) = x
			m, e := New(s)
			if good := slices.Contains(f.good, x); (m != nil) != good || good && e != api.OK || !good && e != api.ErrArg {
				t.Errorf("P1501: New with %s %d: %v, %v", f.name, x, m != nil, e)
			}
		}
	}
	for flags := range uint32(40) {
		s := bring(1, calm)
		s.Flags = flags
		if _, e := New(s); (e == api.OK) != (flags <= 31) {
			t.Errorf("P1501: New with flags %d: %v", flags, e)
		}
	}
	for _, blocks := range []int{1, 63, 64, 65, 4095, 4096} {
		if m, e := New(withBlocks(bring(0, calm), blocks, blocks-1)); m == nil || e != api.OK {
			t.Errorf("P1501: New with %d blocks, the last one marked: %v", blocks, e)
		}
		if blocks%64 == 0 {
			continue
		}
		s := withBlocks(bring(0, calm), blocks)
		s.Bits[len(s.Bits)-1] = 1 << (blocks % 64)
		if m, e := New(s); m != nil || e != api.ErrRange {
			t.Errorf("P1501: New with %d blocks, one behind them marked: %v", blocks, e)
		}
	}
	s := bring(0, calm)
	s.Secret = strings.Repeat("x", 64)
	if m, e := New(s); m == nil || e != api.OK {
		t.Errorf("P1501: New with a secret of 64 bytes: %v", e)
	}
}

func numbers(from, to int) []int {
	var list []int
	for x := from; x < to; x++ {
		list = append(list, x)
	}
	return list
}

// TestStart: P1502 and example 1.
func TestStart(t *testing.T) {
	for node := range 2 {
		for secret := range 2 {
			s := bring(node, calm)
			s.Secret = strings.Repeat("x", secret)
			m, p := begin(t, s)
			want := api.Packet{Cmd: api.CmdFeature, Id: 86, Count: 90, Flags: uint32(2*node + secret)}
			if tell(p) != tell(want) {
				t.Errorf("P1502: Start of node %d, secret %q: %s, want %s", node, s.Secret, tell(p), tell(want))
			}
			if out, e := m.Start(); len(out) != 0 || e != api.ErrState {
				t.Errorf("P1502: Start again: %s, %v", tellPackets(out), e)
			}
			peer := want
			peer.Flags ^= 2
			if _, _, e := m.Receive(peer); e != api.OK {
				t.Errorf("P1502: Start again changes something: %v", e)
			}
		}
	}
	m, _ := begin(t, bring(0, calm))
	sizes, ids, state := goodPacket(api.CmdSizes), goodPacket(api.CmdIds), goodPacket(api.CmdState)
	wantReceive(t, "P1503: example 1", m, goodPacket(api.CmdFeature), []api.Packet{sizes, ids, state}, false, api.OK)
}

// TestNotDue: P1503: a machine that is new, done or has refused takes nothing, and stays as it is.
func TestNotDue(t *testing.T) {
	m, e := New(bring(0, calm))
	if e != api.OK {
		t.Fatal(e)
	}
	for cmd := -1; cmd < 27; cmd++ {
		wantReceive(t, "P1503: ahead of Start", m, goodPacket(cmd), nil, false, api.ErrState)
	}
	if d, e := m.Deal(); !reflect.DeepEqual(d, api.Deal{}) || e != api.ErrState {
		t.Errorf("P1506: Deal of a new machine: %+v, %v", d, e)
	}
	if out, e := m.Start(); len(out) != 1 || e != api.OK {
		t.Errorf("P1502: Start behind packets that were not due: %s, %v", tellPackets(out), e)
	}
	for _, cmd := range []int{api.CmdFeature, api.CmdSizes, api.CmdIds, api.CmdState} {
		if d, e := m.Deal(); !reflect.DeepEqual(d, api.Deal{}) || e != api.ErrState {
			t.Errorf("P1506: Deal ahead of the end: %+v, %v", d, e)
		}
		if _, done, e := m.Receive(goodPacket(cmd)); done != (cmd == api.CmdState) || e != api.OK {
			t.Fatalf("P1503: command %d: %v, %v", cmd, done, e)
		}
	}
	want := api.Deal{Version: 90, Verdict: api.Verdict{Kind: api.NoSync, Rule: 6}, Peer: calm, Disk: api.UpToDate, Bits: []uint64{0, 0}}
	for cmd := -1; cmd < 27; cmd++ {
		wantReceive(t, "P1503: done", m, goodPacket(cmd), nil, false, api.ErrState)
		if d, e := m.Deal(); !reflect.DeepEqual(d, want) || e != api.OK {
			t.Fatalf("P1506: Deal: %+v, %v, want %+v", d, e, want)
		}
	}
	if out, e := m.Start(); len(out) != 0 || e != api.ErrState {
		t.Errorf("P1502: Start of a machine that is done: %s, %v", tellPackets(out), e)
	}
}

// at brings a machine of node 0 to where it waits for cmd.
func at(t *testing.T, cmd int) *Machine {
	t.Helper()
	s := bring(0, gens(20, 10, 8, 0))
	if cmd == api.CmdChallenge || cmd == api.CmdResponse {
		s.Secret = "green"
	}
	m, _ := begin(t, s)
	for c := api.CmdFeature; c < cmd; c++ {
		p := goodPacket(c)
		switch {
		case c == api.CmdFeature && s.Secret != "":
			p.Flags = 3
		case c == api.CmdIds:
			p.Gens = gens(10, 0, 8, 0)
		case c == api.CmdResponse || c == api.CmdChallenge && s.Secret == "":
			continue
		}
		if _, _, e := m.Receive(p); e != api.OK {
			t.Fatalf("P1503: on the way to %d: %s: %v", cmd, tell(p), e)
		}
	}
	return m
}

// TestOtherCommands: P1503: whatever a machine waits for, every other command is refused, and so is a packet with a field that its command does not carry.
func TestOtherCommands(t *testing.T) {
	for due := api.CmdFeature; due <= api.CmdBits; due++ {
		good := goodPacket(due)
		if _, _, e := at(t, due).Receive(good); due != api.CmdResponse && e != api.OK {
			t.Errorf("P1503: %s where it is due: %v", tell(good), e)
		}
		for cmd := -1; cmd <= 26; cmd++ {
			if cmd != due {
				wantRefusal(t, "P1503: another command", at(t, due), wholePacket(cmd), api.ErrProto)
			}
		}
		wantRefusal(t, "P1503: an epoch", at(t, due), with(due, func(p *api.Packet) { p.Epoch = 1 }), api.ErrProto)
		if due != api.CmdFeature {
			wantRefusal(t, "P1503: an id", at(t, due), with(due, func(p *api.Packet) { p.Id = 1 }), api.ErrProto)
		}
		if due != api.CmdIds {
			wantRefusal(t, "P1503: identifiers", at(t, due), with(due, func(p *api.Packet) { p.Gens.Old2 = 1 }), api.ErrProto)
		}
		if due != api.CmdResponse {
			wantRefusal(t, "P1503: a digest", at(t, due), with(due, func(p *api.Packet) { p.Sum[31] = 1 }), api.ErrProto)
		}
		if due != api.CmdChallenge && due != api.CmdBits {
			wantRefusal(t, "P1503: data", at(t, due), with(due, func(p *api.Packet) { p.Data = []byte{0} }), api.ErrProto)
		}
	}
	wantRefusal(t, "P1503: a challenge of 15 bytes", at(t, api.CmdChallenge), api.Packet{Cmd: api.CmdChallenge, Data: make([]byte, 15)}, api.ErrProto)
	wantRefusal(t, "P1503: a challenge of 17 bytes", at(t, api.CmdChallenge), api.Packet{Cmd: api.CmdChallenge, Data: make([]byte, 17)}, api.ErrProto)
	wantRefusal(t, "P1503: no challenge", at(t, api.CmdChallenge), api.Packet{Cmd: api.CmdChallenge}, api.ErrProto)
}

// wholePacket is a well-formed packet of any command.
func wholePacket(cmd int) api.Packet {
	p := goodPacket(cmd)
	switch {
	case cmd == api.CmdData:
		p.Id, p.Epoch, p.Data = 1, 1, []byte{1}
	case cmd == api.CmdBarrier || cmd == api.CmdBarrierAck:
		p.Epoch, p.Count = 1, 1
	case cmd > api.CmdBits:
		p.Id = 1
	}
	return p
}

func with(cmd int, change func(p *api.Packet)) api.Packet {
	p := goodPacket(cmd)
	change(&p)
	return p
}

// TestFeature: P1503: every pair of versions near the bounds, all flags, with and without a secret, at both nodes.
func TestFeature(t *testing.T) {
	versions := []uint32{0, 1, 80, 85, 86, 87, 89, 90, 91, 95, 1 << 31, math.MaxUint32}
	for _, low := range versions {
		for _, high := range versions {
			for _, flags := range []uint32{0, 1, 2, 3, 4, 6, math.MaxUint32} {
				for node := range 2 {
					oneFeature(t, node, "", low, high, flags)
					oneFeature(t, node, "green", low, high, flags)
				}
			}
		}
	}
}

func oneFeature(t *testing.T, node int, secret string, low, high, flags uint32) {
	t.Helper()
	s := bring(node, calm)
	s.Secret = secret
	m, _ := begin(t, s)
	p := api.Packet{Cmd: api.CmdFeature, Id: low, Count: high, Flags: flags}
	version := min(high, 90)
	switch {
	case flags > 3 || int(flags/2) == node || low > high:
		wantRefusal(t, "P1503: Feature", m, p, api.ErrProto)
	case version < 86 || version < low:
		wantRefusal(t, "P1503: Feature", m, p, api.ErrVersion)
	case flags%2 == 1 != (secret != ""):
		wantRefusal(t, "P1503: Feature", m, p, api.ErrAuth)
	case secret != "":
		wantReceive(t, "P1503: Feature", m, p, []api.Packet{{Cmd: api.CmdChallenge, Data: s.Nonce}}, false, api.OK)
	default:
		wantReceive(t, "P1503: Feature", m, p, []api.Packet{goodPacket(api.CmdSizes), goodPacket(api.CmdIds), goodPacket(api.CmdState)}, false, api.OK)
		for _, cmd := range []int{api.CmdSizes, api.CmdIds, api.CmdState} {
			m.Receive(goodPacket(cmd))
		}
		if d, e := m.Deal(); d.Version != int(version) || e != api.OK {
			t.Errorf("P1506: behind Feature %d to %d: the version %d, %v", low, high, d.Version, e)
		}
	}
}

// TestVersions: example 9.
func TestVersions(t *testing.T) {
	for _, x := range []struct {
		low, high uint32
		err       api.Errno
	}{{91, 95, api.ErrVersion}, {80, 85, api.ErrVersion}, {80, 88, api.OK}, {95, 91, api.ErrProto}} {
		m, _ := begin(t, bring(0, calm))
		if _, _, e := m.Receive(api.Packet{Cmd: api.CmdFeature, Id: x.low, Count: x.high, Flags: 2}); e != x.err {
			t.Errorf("P1503: example 9: versions %d to %d: %v, want %v", x.low, x.high, e, x.err)
		}
	}
	m, _ := begin(t, bring(0, calm))
	m.Receive(goodPacket(api.CmdFeature))
	wantRefusal(t, "P1503: example 9: Ids where Sizes is due", m, goodPacket(api.CmdIds), api.ErrProto)
}

// TestProof: P1503: what is challenged and proved, at both nodes; each bit of the proof counts.
func TestProof(t *testing.T) {
	for node := range 2 {
		s := bring(node, calm)
		s.Secret = "green"
		challenge := nonceOf(77)
		toResponse := func() *Machine {
			m, _ := begin(t, s)
			wantReceive(t, "P1503: Feature", m, api.Packet{Cmd: 1, Id: 86, Count: 90, Flags: uint32(3 - 2*node)}, []api.Packet{{Cmd: api.CmdChallenge, Data: s.Nonce}}, false, api.OK)
			sum := digest.Mac([]byte("green"), slices.Concat(challenge, []byte{byte(node)}))
			wantReceive(t, "P1503: Challenge", m, api.Packet{Cmd: api.CmdChallenge, Data: challenge}, []api.Packet{{Cmd: api.CmdResponse, Sum: sum}}, false, api.OK)
			return m
		}
		good := digest.Mac([]byte("green"), slices.Concat(s.Nonce, []byte{byte(1 - node)}))
		m := toResponse()
		wantReceive(t, "P1503: Response", m, api.Packet{Cmd: api.CmdResponse, Sum: good}, []api.Packet{goodPacket(api.CmdSizes), goodPacket(api.CmdIds), goodPacket(api.CmdState)}, false, api.OK)
		if m.self.Secret != "" || m.self.Nonce != nil {
			t.Errorf("the secret and the nonce are kept behind the proof")
		}
		for bit := range 256 {
			bad := good
			bad[bit/8] ^= 1 << (bit % 8)
			wantRefusal(t, "P1503: a bit of the proof", toResponse(), api.Packet{Cmd: api.CmdResponse, Sum: bad}, api.ErrAuth)
		}
		for _, bad := range [][]byte{nil, s.Nonce, slices.Concat(s.Nonce, []byte{byte(node)}), slices.Concat(challenge, []byte{byte(1 - node)}), slices.Concat([]byte{byte(1 - node)}, s.Nonce)} {
			wantRefusal(t, "P1503: another proof", toResponse(), api.Packet{Cmd: api.CmdResponse, Sum: digest.Mac([]byte("green"), bad)}, api.ErrAuth)
		}
		wantRefusal(t, "P1503: no key", toResponse(), api.Packet{Cmd: api.CmdResponse, Sum: digest.Sum256(slices.Concat(s.Nonce, []byte{byte(1 - node)}))}, api.ErrAuth)
	}
}

// TestReflection: P1507: a node that is given what it said itself refuses.
func TestReflection(t *testing.T) {
	for node := range 2 {
		s := bring(node, calm)
		s.Secret = "green"
		m, _ := begin(t, s)
		challenge, _, e := m.Receive(api.Packet{Cmd: api.CmdFeature, Id: 86, Count: 90, Flags: uint32(3 - 2*node)})
		if len(challenge) != 1 || e != api.OK {
			t.Fatalf("P1503: Feature: %s, %v", tellPackets(challenge), e)
		}
		response, _, e := m.Receive(challenge[0])
		if len(response) != 1 || e != api.OK {
			t.Fatalf("P1503: the own Challenge: %s, %v", tellPackets(response), e)
		}
		wantRefusal(t, "P1507: the own Response", m, response[0], api.ErrAuth)
	}
}

// TestSecrets: example 4, and the secrets that are one key.
func TestSecrets(t *testing.T) {
	pair := func(a, b string) (api.Self, api.Self) {
		x, y := bring(0, calm), bring(1, calm)
		x.Secret, y.Secret = a, b
		return x, y
	}
	same := api.Verdict{Kind: api.NoSync, Rule: 6}
	for _, s := range []string{"", "a", "green", strings.Repeat("\xff", 64)} {
		a, b := pair(s, s)
		wantDeals(t, "P1507: one secret", a, b, same, same, []uint64{0, 0}, []uint64{0, 0})
	}
	a, b := pair("a", "a\x00")
	wantDeals(t, "P1507: two secrets of one key", a, b, same, same, []uint64{0, 0}, []uint64{0, 0})
	a, b = pair("green", "")
	wantBothRefuse(t, "P1503: example 4", a, b, api.ErrAuth, api.CmdFeature)
	a, b = pair("", "green")
	wantBothRefuse(t, "P1503: example 4", a, b, api.ErrAuth, api.CmdFeature)
	a, b = pair("green", "blue")
	wantBothRefuse(t, "P1503: example 4", a, b, api.ErrAuth, api.CmdResponse)
	a, b = pair("\x00", "")
	wantBothRefuse(t, "P1503: a secret of one byte 0", a, b, api.ErrAuth, api.CmdFeature)
}

// TestSizes: P1503 and example 5: each part of Sizes counts, and what they carry.
func TestSizes(t *testing.T) {
	changes := []func(s *api.Self){
		func(s *api.Self) { s.Protocol = api.ProtoA },
		func(s *api.Self) { s.Protocol = api.ProtoB },
		func(s *api.Self) { s.Size = 256 },
		func(s *api.Self) { *s = withBlocks(*s, 71) },
		func(s *api.Self) { *s = withBlocks(*s, 1) },
		func(s *api.Self) { s.Sb0 = api.SbLeast },
		func(s *api.Self) { s.Sb0 = api.SbNode1 },
		func(s *api.Self) { s.Sb1 = api.SbSecondary },
		func(s *api.Self) { s.Sb1 = api.SbConsensus },
	}
	for i, change := range changes {
		for side := range 2 {
			pair := []api.Self{bring(0, calm), bring(1, calm)}
			change(&pair[side])
			wantBothRefuse(t, "P1503: example 5: change "+string(rune('0'+i)), pair[0], pair[1], api.ErrSizes, api.CmdSizes)
		}
	}
	s := withBlocks(bring(0, calm), 4096)
	s.Size, s.Protocol, s.Sb0, s.Sb1 = 1024, api.ProtoB, api.SbNode1, api.SbConsensus
	m, _ := begin(t, s)
	out, _, e := m.Receive(goodPacket(api.CmdFeature))
	if len(out) != 3 || e != api.OK || tell(out[0]) != tell(api.Packet{Cmd: api.CmdSizes, Block: 4096, Count: 1024, Flags: 2 + 4*4 + 32*6}) {
		t.Errorf("P1503: Sizes: %s, %v", tellPackets(out), e)
	}
	wantReceive(t, "P1503: the same Sizes", m, api.Packet{Cmd: api.CmdSizes, Block: 4096, Count: 1024, Flags: 210}, nil, false, api.OK)
	for _, flags := range []uint32{0, 2, 4, 7, 3 + 1<<31, 3 + 256} {
		wantRefusal(t, "P1503: other flags", at(t, api.CmdSizes), with(api.CmdSizes, func(p *api.Packet) { p.Flags = flags }), api.ErrSizes)
	}
	for _, count := range []uint32{0, 127, 129, 2048} {
		wantRefusal(t, "P1503: no size", at(t, api.CmdSizes), with(api.CmdSizes, func(p *api.Packet) { p.Count = count }), api.ErrProto)
	}
	for _, block := range []uint32{0, 4097} {
		wantRefusal(t, "P1503: no number of blocks", at(t, api.CmdSizes), with(api.CmdSizes, func(p *api.Packet) { p.Block = block }), api.ErrProto)
	}
}

// TestIds: P1503: the bounds of Ids, and what they carry.
func TestIds(t *testing.T) {
	wantReceive(t, "P1503: Ids", at(t, api.CmdIds), api.Packet{Cmd: api.CmdIds, Flags: 31, Count: 70, Gens: gens(1, 2, 3, math.MaxUint64)}, nil, false, api.OK)
	for _, count := range []uint32{71, 128, 4096, 4097, math.MaxUint32} {
		wantRefusal(t, "P1503: Ids with more marked than blocks", at(t, api.CmdIds), api.Packet{Cmd: api.CmdIds, Count: count}, api.ErrProto)
	}
	for _, flags := range []uint32{32, 63, math.MaxUint32} {
		wantRefusal(t, "P1503: Ids with other flags", at(t, api.CmdIds), api.Packet{Cmd: api.CmdIds, Flags: flags}, api.ErrProto)
	}
	s := withBlocks(bring(1, gens(5, 6, 7, 8)), 130, 0, 1, 63, 64, 129)
	s.Flags, s.Role, s.Disk = 27, api.Primary, api.Outdated
	m, _ := begin(t, s)
	out, _, e := m.Receive(with(api.CmdFeature, func(p *api.Packet) { p.Flags = 0 }))
	if len(out) != 3 || e != api.OK || tell(out[1]) != tell(api.Packet{Cmd: api.CmdIds, Gens: s.Gens, Flags: 27, Count: 5}) || tell(out[2]) != tell(api.Packet{Cmd: api.CmdState, Flags: 5}) {
		t.Errorf("P1503: Ids and State: %s, %v", tellPackets(out), e)
	}
}

// TestState: P1503: of all small numbers just six are a State; the deal has the peer's role and disk of it.
func TestState(t *testing.T) {
	for flags := range uint32(300) {
		m := at(t, api.CmdState)
		p := api.Packet{Cmd: api.CmdState, Flags: flags}
		if flags%4 > 1 || flags/4 > 2 {
			wantRefusal(t, "P1503: no State", m, p, api.ErrProto)
			continue
		}
		if _, _, e := m.Receive(p); e == api.ErrProto {
			t.Errorf("P1503: State %d: %v", flags, e)
		}
	}
	for _, flags := range []uint32{0, 1, 4, 5, 8, 9} {
		s := bring(0, gens(4, 0, 0, 0))
		s.Disk = int(flags / 4) // like the peer's: no resync
		m, _ := begin(t, s)
		for _, p := range []api.Packet{goodPacket(api.CmdFeature), goodPacket(api.CmdSizes), {Cmd: api.CmdIds, Flags: 19, Gens: gens(4, 1, 2, 3)}} {
			m.Receive(p)
		}
		m.Receive(api.Packet{Cmd: api.CmdState, Flags: flags})
		d, e := m.Deal()
		if d.Role != int(flags%4) || d.Disk != int(flags/4) || d.Flags != 19 || d.Peer != gens(4, 1, 2, 3) || e != api.OK {
			t.Errorf("P1506: behind State %d: %+v, %v", flags, d, e)
		}
	}
}

// TestBothNodeNull: example 10.
func TestBothNodeNull(t *testing.T) {
	wantBothRefuse(t, "P1503: example 10", bring(0, calm), bring(0, calm), api.ErrProto, api.CmdFeature)
	wantBothRefuse(t, "P1503: both node 1", bring(1, calm), bring(1, calm), api.ErrProto, api.CmdFeature)
}

func verdict(kind, rule int) api.Verdict { return api.Verdict{Kind: kind, Rule: rule} }

// TestVerdicts: P1504 and examples 2, 3, 6 and 8.
func TestVerdicts(t *testing.T) {
	a, b := bring(0, gens(20, 10, 8, 0), 0, 69), bring(1, gens(10, 0, 8, 0), 3)
	b.Flags = api.FlagConsistent
	wantDeals(t, "P1504: example 2", a, b, verdict(api.SourceBits, 9), verdict(api.TargetBits, 9), []uint64{9, 32}, []uint64{9, 32})

	a, b = bring(0, gens(4, 0, 0, 0), 1, 2), bring(1, gens(4, 0, 0, 0), 5)
	a.Disk, b.Disk = api.Inconsistent, api.Inconsistent
	wantDeals(t, "P1504: example 3", a, b, verdict(api.NoSync, 1), verdict(api.NoSync, 1), []uint64{6, 0}, []uint64{32, 0})
	a.Disk, b.Disk = api.Outdated, api.Outdated
	wantDeals(t, "P1504: both outdated", a, b, verdict(api.NoSync, 1), verdict(api.NoSync, 1), []uint64{6, 0}, []uint64{32, 0})
	full := []uint64{math.MaxUint64, 63}
	wantDeals(t, "P1504: example 3", bring(0, calm, 3), bring(1, gens(4, 0, 0, 0)), verdict(api.SourceFull, 2), verdict(api.TargetFull, 2), full, full)

	a, b = bring(0, gens(20, 10, 0, 0), 0, 1), bring(1, gens(22, 10, 0, 0), 0)
	wantBothRefuse(t, "P1504: example 6", a, b, api.ErrSplit, api.CmdState)
	a.Sb0, b.Sb0 = api.SbLeast, api.SbLeast
	wantDeals(t, "P1504: example 6", a, b, verdict(api.SourceBits, 22), verdict(api.TargetBits, 22), []uint64{3, 0}, []uint64{3, 0})
	a.Flags = api.FlagDiscard
	wantDeals(t, "P1504: node 0 gives up", a, b, verdict(api.TargetBits, 21), verdict(api.SourceBits, 21), []uint64{3, 0}, []uint64{3, 0})
	a, b = bring(0, gens(30, 20, 10, 0)), bring(1, gens(22, 14, 10, 0))
	wantBothRefuse(t, "P1504: a full split", a, b, api.ErrSplit, api.CmdState)
	b.Disk = api.Inconsistent
	wantDeals(t, "P1504: a full split and one is inconsistent", a, b, verdict(api.SourceFull, 20), verdict(api.TargetFull, 20), full, full)
}

// TestMarks: P1504, the rule 23: which side is the source, and where it does not come.
func TestMarks(t *testing.T) {
	for roles := range 3 {
		for marks := 1; marks < 4; marks++ {
			a, b := bring(0, calm), bring(1, calm)
			a.Role, b.Role = roles&1, roles>>1
			a.Bits[0], b.Bits[0] = uint64(marks&1)<<5, uint64(marks>>1)<<5
			va, vb := verdict(api.SourceBits, 23), verdict(api.TargetBits, 23)
			if b.Role == api.Primary {
				va, vb = vb, va
			}
			wantDeals(t, "P1504: example 8", a, b, va, vb, []uint64{32, 0}, []uint64{32, 0})
		}
	}
	a, b := bring(0, calm), bring(1, calm)
	wantDeals(t, "P1504: no mark", a, b, verdict(api.NoSync, 6), verdict(api.NoSync, 6), []uint64{0, 0}, []uint64{0, 0})
	a.Bits[0], a.Disk = 4, api.Outdated
	wantDeals(t, "P1504: one outdated", a, b, verdict(api.TargetBits, 20), verdict(api.SourceBits, 20), []uint64{4, 0}, []uint64{4, 0})
	b.Disk = api.Outdated
	wantDeals(t, "P1504: both outdated", a, b, verdict(api.NoSync, 6), verdict(api.NoSync, 6), []uint64{4, 0}, []uint64{0, 0})
	a, b = bring(0, gens(4, 0, 0, 0), 2), bring(1, gens(4, 0, 0, 0))
	wantDeals(t, "P1504: both new and up to date", a, b, verdict(api.SourceBits, 23), verdict(api.TargetBits, 23), []uint64{4, 0}, []uint64{4, 0})
}

// TestRefusals: P1504 and example 7: the order of the refusals.
func TestRefusals(t *testing.T) {
	pair := func(g, h api.Gens, roles, diskA, diskB int) (api.Self, api.Self) {
		a, b := bring(0, g), bring(1, h)
		a.Role, b.Role, a.Disk, b.Disk = roles&1, roles>>1, diskA, diskB
		return a, b
	}
	newer, older := gens(20, 10, 0, 0), gens(10, 0, 0, 0)
	for _, x := range []struct {
		what         string
		g, h         api.Gens
		roles        int
		diskA, diskB int
		err          api.Errno
	}{
		{"example 7: node 1 would be the target", newer, older, 2, 2, 2, api.ErrPrimary},
		{"node 0 would be the target", older, newer, 1, 2, 2, api.ErrPrimary},
		{"node 1 would be the target, full", calm, gens(4, 0, 0, 0), 2, 2, 2, api.ErrPrimary},
		{"node 0 would be the target, full", gens(4, 0, 0, 0), calm, 1, 2, 2, api.ErrPrimary},
		{"an inconsistent primary", calm, calm, 1, 0, 2, api.ErrPrimary},
		{"example 7: both primary", calm, calm, 3, 2, 2, api.ErrPrimary},
		{"both primary and a resync", newer, older, 3, 2, 2, api.ErrPrimary},
		{"both inconsistent", newer, older, 0, 0, 0, api.ErrDisk},
		{"both inconsistent and primary", newer, older, 3, 0, 0, api.ErrDisk},
		{"unrelated", newer, gens(40, 30, 0, 0), 0, 2, 2, api.ErrUnrelated},
		{"unrelated and inconsistent", newer, gens(40, 30, 0, 0), 0, 0, 0, api.ErrUnrelated},
		{"unrelated and primary", newer, gens(40, 30, 0, 0), 3, 2, 2, api.ErrUnrelated},
		{"a split and primary", newer, gens(22, 10, 0, 0), 3, 2, 2, api.ErrSplit},
		{"a full split and primary", gens(30, 20, 10, 0), gens(22, 14, 10, 0), 3, 2, 2, api.ErrSplit},
		{"a split and inconsistent", newer, gens(22, 10, 0, 0), 0, 0, 0, api.ErrSplit},
	} {
		a, b := pair(x.g, x.h, x.roles, x.diskA, x.diskB)
		wantBothRefuse(t, "P1504: "+x.what, a, b, x.err, api.CmdState)
	}
	a, b := pair(newer, older, 1, 2, 2)
	wantDeals(t, "P1504: a primary as the source", a, b, verdict(api.SourceBits, 9), verdict(api.TargetBits, 9), []uint64{0, 0}, []uint64{0, 0})
	a, b = pair(calm, calm, 2, 2, 2)
	wantDeals(t, "P1504: a primary and no resync", a, b, verdict(api.NoSync, 6), verdict(api.NoSync, 6), []uint64{0, 0}, []uint64{0, 0})
}

// partsOf: a bitmap in Bits packets, word by word as the chapter tells it.
func partsOf(blocks int, words []uint64) []api.Packet {
	var packets []api.Packet
	for w := 0; w < len(words); w += 8 {
		k := min(8, len(words)-w)
		code, _ := bitmap.Encode(min(64*k, blocks-64*w), words[w:w+k])
		packets = append(packets, api.Packet{Cmd: api.CmdBits, Block: uint32(w), Count: uint32(k), Data: code})
	}
	return packets
}

// toBits brings a machine of node 0 with that many blocks to where it has given its bitmap.
func toBits(t *testing.T, blocks int, bits []uint64) (*Machine, []api.Packet) {
	t.Helper()
	s := withBlocks(bring(0, gens(20, 10, 8, 0)), blocks)
	s.Bits = bits
	m, _ := begin(t, s)
	m.Receive(goodPacket(api.CmdFeature))
	m.Receive(with(api.CmdSizes, func(p *api.Packet) { p.Block = uint32(blocks) }))
	m.Receive(api.Packet{Cmd: api.CmdIds, Gens: gens(10, 0, 8, 0)})
	out, done, e := m.Receive(goodPacket(api.CmdState))
	if done || e != api.OK {
		t.Fatalf("P1504: State: %s, %v, %v", tellPackets(out), done, e)
	}
	return m, out
}

func randomWords(d *dice, blocks int) []uint64 {
	words := make([]uint64, (blocks+63)/64)
	kind := d.below(5)
	for i := range blocks {
		if kind == 0 || kind == 1 && d.below(2) == 0 || kind == 2 && d.below(40) == 0 || kind == 3 && i%2 == 0 {
			words[i/64] |= 1 << (i % 64)
		}
	}
	return words
}

// TestBitsPackets: P1504, P1505 and example 11: bitmaps of many lengths, as they are given and as they are taken.
func TestBitsPackets(t *testing.T) {
	d := dice(1)
	for _, blocks := range []int{1, 2, 63, 64, 65, 70, 127, 128, 511, 512, 513, 575, 576, 577, 1023, 1024, 1025, 3583, 3584, 3585, 4095, 4096} {
		for range 8 {
			own, other := randomWords(&d, blocks), randomWords(&d, blocks)
			m, out := toBits(t, blocks, own)
			if !samePackets(out, partsOf(blocks, own)) {
				t.Errorf("P1504: the bitmap of %d blocks: %s", blocks, tellPackets(out))
			}
			parts := partsOf(blocks, other)
			for i, p := range parts {
				if _, e := m.Deal(); e != api.ErrState {
					t.Errorf("P1506: Deal ahead of Bits: %v", e)
				}
				wantReceive(t, "P1505: Bits", m, p, nil, i == len(parts)-1, api.OK)
			}
			union := make([]uint64, len(own))
			for i := range own {
				union[i] = own[i] | other[i]
			}
			if deal, e := m.Deal(); !slices.Equal(deal.Bits, union) || e != api.OK {
				t.Errorf("P1505: the union of %d blocks: %x, %v, want %x", blocks, deal.Bits, e, union)
			}
		}
	}
	_, out := toBits(t, 4096, make([]uint64, 64))
	for i, p := range out {
		if len(out) != 8 || p.Block != uint32(8*i) || p.Count != 8 {
			t.Errorf("P1504: example 11: %s", tellPackets(out))
		}
	}
}

// TestBitsPlaces: P1505: at every place in a row of packets just one Block and one Count are the next ones.
func TestBitsPlaces(t *testing.T) {
	for _, blocks := range []int{70, 512, 640, 1200} {
		words := make([]uint64, (blocks+63)/64)
		parts := partsOf(blocks, words)
		for due, good := range parts {
			for block := range uint32(65) {
				for count := range uint32(10) {
					m, _ := toBits(t, blocks, words)
					for _, p := range parts[:due] {
						m.Receive(p)
					}
					p := api.Packet{Cmd: api.CmdBits, Block: block, Count: count, Data: good.Data}
					if block == good.Block && count == good.Count {
						wantReceive(t, "P1505: the next Bits", m, p, nil, due == len(parts)-1, api.OK)
					} else {
						wantRefusal(t, "P1505: not the next Bits", m, p, api.ErrProto)
					}
				}
			}
		}
	}
}

// TestBitsCodes: P1505: Data that is no code of that part, at the first packet and at the last.
func TestBitsCodes(t *testing.T) {
	const blocks = 582 // a part of 512 bits and one of 70
	words := make([]uint64, 10)
	parts := partsOf(blocks, words)
	codeOf := func(bits int) []byte {
		code, _ := bitmap.Encode(bits, make([]uint64, (bits+63)/64))
		return code
	}
	for due, bits := range []int{512, 70} {
		for _, code := range [][]byte{nil, {}, {0}, {0xff}, make([]byte, 256), make([]byte, 257), make([]byte, 70000), codeOf(bits + 1), codeOf(bits - 1), append(codeOf(bits), 0), codeOf(bits)[:1], codeOf(582 - bits)} {
			m, _ := toBits(t, blocks, words)
			for _, p := range parts[:due] {
				m.Receive(p)
			}
			p := parts[due]
			p.Data = code
			wantRefusal(t, "P1505: no code", m, p, api.ErrProto)
		}
	}
}

// TestMarkedNotCounted: P1505: the peer's bitmap may have more or fewer bits than its Ids said.
func TestMarkedNotCounted(t *testing.T) {
	for _, count := range []uint32{0, 1, 2, 70} {
		m, _ := begin(t, bring(0, gens(20, 10, 8, 0), 1))
		m.Receive(goodPacket(api.CmdFeature))
		m.Receive(goodPacket(api.CmdSizes))
		m.Receive(api.Packet{Cmd: api.CmdIds, Gens: gens(10, 0, 8, 0), Count: count})
		m.Receive(goodPacket(api.CmdState))
		wantReceive(t, "P1505: Bits", m, partsOf(70, []uint64{4, 0})[0], nil, true, api.OK)
		if d, e := m.Deal(); !slices.Equal(d.Bits, []uint64{6, 0}) || e != api.OK {
			t.Errorf("P1505: with %d marked in Ids: %x, %v", count, d.Bits, e)
		}
	}
}

// TestDoneKeepsDealAlone: what is kept once the greeting is over.
func TestDoneKeepsDealAlone(t *testing.T) {
	sides := greetings(t, bring(0, gens(20, 10, 8, 0), 1), bring(1, gens(10, 0, 8, 0)), inTurn())
	for _, side := range sides {
		d, _ := side.m.Deal()
		if !reflect.DeepEqual(*side.m, Machine{stage: isDone, deal: d}) {
			t.Errorf("a machine that is done keeps %+v", *side.m)
		}
	}
}
