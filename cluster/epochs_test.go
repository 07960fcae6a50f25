package cluster

import (
	"fmt"
	"slices"
	"strings"

	"replica/api"
)

// sent: a write as a primary has put it on the way.
type sent struct {
	block, epoch int
	value        string
}

// session: what a node sent in one of its sessions.
type session struct {
	base   []string        // its blocks as the two were joined, or as it became primary since
	writes map[uint32]sent // by their payloads' numbers
	ships  map[uint32]int  // the SyncData among its payloads
}

// epochs watches the frames: what each node has sent to the other, and in which epochs.
type epochs struct {
	story    *story
	sessions [2]map[uint32]*session
	mine     [2]uint32   // the session that each node is in
	peer     [2]uint32   // the other's session that each node has joined, as a backup; 0: none
	length   [2]int      // of the queues ahead of an event
	from     uint32      // of the frame that the event delivers
	to       int         // to whom
	shipped  map[int]int // blocks of SyncData
}

func (p *epochs) reset() {
	p.sessions = [2]map[uint32]*session{{}, {}}
	p.shipped = map[int]int{}
}

func (p *epochs) session(i int, number uint32) *session {
	if p.sessions[i][number] == nil {
		p.sessions[i][number] = &session{writes: map[uint32]sent{}, ships: map[uint32]int{}}
	}
	return p.sessions[i][number]
}

// ahead of an event: which frame is delivered.
func (p *epochs) ahead(line string) {
	c := p.story.c
	p.from, p.to = 0, -1
	for i := range 2 {
		p.length[i] = len(c.sides[i].queue)
	}
	w := strings.Fields(line)
	if w[0] != "deliver" && w[0] != "drop" {
		return
	}
	i := strings.Index(nodeNames, w[1])
	if p.length[i] == 0 {
		return
	}
	place := 0
	fmt.Sscan(w[2], &place)
	if w[0] == "deliver" {
		f, _, _ := packetOf(c.sides[i].queue[place%p.length[i]])
		p.from, p.to = f.From, i
	}
	p.length[i]--
}

// behind an event: what was put on the way, who has come to greet or join.
func (p *epochs) behind() {
	y := p.story
	for i := range 2 {
		for _, frame := range y.c.sides[1-i].queue[p.length[1-i]:] {
			p.put(i, frame)
		}
	}
	for i := range 2 {
		now, was := y.status(i).Conn, y.before[i].status.Conn
		if now == api.Greeting {
			p.session(i, p.mine[i]).base = logical(y.t, y.c, i)
		}
		if now >= api.Connected && was < api.Connected && p.to == i {
			p.peer[i] = p.from
			if now == api.SyncSource || y.isPrimary(i) { // it is no backup
				p.peer[i] = 0
			}
		}
	}
	line := y.lines[len(y.lines)-1]
	for i := range 2 {
		if strings.HasPrefix(line, "promote "+nodeName(i)) && y.isPrimary(i) && y.before[i].status.Role != api.Primary {
			p.peer[i] = 0
			if y.isJoined(i) {
				s := p.session(i, p.mine[i])
				s.base, s.writes = logical(y.t, y.c, i), map[uint32]sent{}
				if y.isJoined(1-i) && !y.isPrimary(1-i) {
					p.peer[1-i] = p.mine[i]
				}
			}
		}
	}
}

func (p *epochs) put(i int, frame []byte) {
	f, packet, ok := packetOf(frame)
	if f.From > p.mine[i] {
		p.mine[i] = f.From
	}
	if !ok {
		return
	}
	switch packet.Cmd {
	case api.CmdData:
		p.session(i, f.From).writes[f.Seq] = sent{int(packet.Block), int(packet.Epoch), briefly(packet.Data)}
	case api.CmdZero:
		p.session(i, f.From).writes[f.Seq] = sent{int(packet.Block), int(packet.Epoch), "00"}
	case api.CmdSyncData: // the link may lay it on the net more than once
		if s := p.session(i, f.From); s.ships[f.Seq] == 0 {
			s.ships[f.Seq] = 1
			p.shipped[int(packet.Block)] = 1
		}
	}
}

// isBackup tells whether P12 speaks of a node that lost its power.
func (p *epochs) isBackup(i int) bool {
	was := p.story.before[i]
	return was.up && was.status.Role == api.Secondary && was.status.Disk == api.UpToDate && p.peer[i] != 0
}

// lostPower: P12. What is left on a backup is what an epoch that was not flushed may leave.
func (p *epochs) lostPower(i int, now []string) {
	y := p.story
	y.t.Helper()
	flags := openCopy(y.t, y.c.sides[i].disk).Super().Flags
	stayed := flags&(api.FlagConsistent|api.FlagOutdated) == api.FlagConsistent // one frame may bring much, and the power goes behind it
	if p.isBackup(i) && stayed {
		p.look(i, now)
	}
	p.peer[i] = 0
}

func (p *epochs) look(i int, now []string) {
	y := p.story
	y.t.Helper()
	s := p.sessions[1-i][p.peer[i]]
	if s == nil || s.base == nil {
		return
	}
	first := p.peer[i] * 2654435761
	var numbers []uint32
	for number := range s.writes {
		numbers = append(numbers, number-first)
	}
	slices.Sort(numbers)
	highest := 0
	for _, w := range s.writes {
		highest = max(highest, w.epoch)
	}
	for open := 0; open <= highest+1; open++ {
		if p.fits(s, first, numbers, open, now) {
			y.seen["a crash of a backup"]++
			if len(numbers) > 0 {
				y.seen["a crash of a backup with writes"]++
			}
			return
		}
	}
	y.fatal("P12: the crash leaves %v on %s, from %v and the writes %v (%v)", now, nodeName(i), s.base, s.writes, numbers)
}

// fits: of the epochs below open every write is there, of those above it none.
func (p *epochs) fits(s *session, first uint32, numbers []uint32, open int, now []string) bool {
	choice := make([][]string, len(now))
	for b := range now {
		choice[b] = []string{s.base[b]}
	}
	for _, number := range numbers {
		w := s.writes[number+first]
		switch {
		case w.epoch < open:
			choice[w.block] = []string{w.value}
		case w.epoch == open:
			choice[w.block] = append(choice[w.block], w.value)
		}
	}
	for b := range now {
		if !slices.Contains(choice[b], now[b]) {
			return false
		}
	}
	return true
}

// fork plays the story anew up to here, and takes a backup's power away there.
func (p *epochs) fork() {
	y := p.story
	y.t.Helper()
	for i := range 2 {
		y.before[i] = y.moment(i)
	}
	for i := range 2 {
		if !p.isBackup(i) {
			continue
		}
		c := newCluster(y.t, resourceOf(y.c.config))
		play(y.t, c, y.lines...)
		play(y.t, c, "crash "+nodeName(i)+" "+y.dice.picks())
		p.look(i, blocksOf(durable(y.t, c, i), c.config.Size))
		y.seen["fork"]++
	}
}
