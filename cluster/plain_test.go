package cluster

import (
	"bytes"
	"encoding/hex"
	"fmt"
	"regexp"
	"slices"
	"strconv"
	"strings"

	"replica/api"
	"replica/conf"
	"replica/digest"
	"replica/disk"
	"replica/node"
	"replica/store"
)

// forms are the lines of the chapter's table.
var forms = []string{
	"up NODE", "crash NODE PICKS", "wipe NODE", "scribble NODE NUMBER FILL", "spoil NODE NUMBER", "fuse NODE NUMBER PICKS",
	"connect NODE", "connect NODE discard", "disconnect NODE", "promote NODE", "promote NODE force", "demote NODE", "verify NODE", "invalidate NODE",
	"read NODE NUMBER", "write NODE NUMBER FILL", "write NODE NUMBER FILL NUMBER", "zero NODE NUMBER", "flush NODE",
	"tick NODE", "deliver NODE NUMBER", "drop NODE NUMBER", "copy NODE NUMBER", "part", "heal", "run NUMBER",
	"status NODE", "progress NODE", "gens NODE", "why NODE", "covered NODE", "data NODE", "net",
}

var shapes = func() []*regexp.Regexp {
	var list []*regexp.Regexp
	for _, form := range forms {
		text := strings.NewReplacer(
			" ", "\x20+", "NODE", "[ab]", "NUMBER", "(?:0|[1-9][0-9]{0,8})", "FILL", "(?:(?:[0-9a-f]{2}){1}|(?:[0-9a-f]{2}){2}|(?:[0-9a-f]{2}){4}|(?:[0-9a-f]{2}){8}|(?:[0-9a-f]{2}){16})",
			"PICKS", "(?:-|(?:[0-9a-f]{2}){1,16})").Replace(form)
		list = append(list, regexp.MustCompile(`\A\x20*`+text+`\x20*\z`))
	}
	return list
}()

// isEvent tells whether a line is one of the table, or none at all.
func isEvent(line string) api.Errno {
	switch {
	case len(line) > 200:
		return api.ErrLong
	case strings.Trim(line, " ") == "", strings.Trim(line, " ")[0] == '#':
		return api.OK
	}
	for k, shape := range shapes {
		if !shape.MatchString(line) {
			continue
		}
		w := strings.Split(strings.Trim(line, " "), " ")
		last, _ := strconv.Atoi(w[len(w)-1])
		if w[0] == "run" && last > 9999 || strings.HasSuffix(forms[k], "FILL NUMBER") && last > 4096 {
			return api.ErrLine
		}
		return api.OK
	}
	return api.ErrLine
}

// plain: a cluster by the chapter's words, one behind the other.
type plain struct {
	config api.Config
	disk   [2]*disk.Disk
	node   [2]*node.Node
	picks  [2][]byte
	queue  [2][]string
	parted bool
	id     int
	told   []string
}

func newPlain(resource string) *plain {
	p := &plain{}
	p.config, _, _ = conf.Parse(resource)
	for i := range 2 {
		p.disk[i], _ = node.Disk(p.config, true, 1024)
		p.node[i], _ = node.New(p.disk[i], p.config, i)
	}
	return p
}

func (p *plain) tell(format string, args ...any) {
	p.told = append(p.told, fmt.Sprintf(format, args...))
}

// power is what stands under that word; false: it is gone.
func (p *plain) power(i int) bool {
	if p.disk[i].On() {
		return true
	}
	p.disk[i].Crash(p.picks[i])
	p.node[i] = nil
	p.tell("%s lost power", "ab"[i:i+1])
	return false
}

// gave: frames on their way, answers told.
func (p *plain) gave(i int, out api.NodeOut) {
	for _, frame := range out.Frames {
		if !p.parted && len(p.queue[1-i]) < 1024 {
			p.queue[1-i] = append(p.queue[1-i], string(frame))
		}
	}
	for _, a := range out.Answers {
		what := "ok"
		if a.Err != api.OK {
			what = fmt.Sprint("error ", int(a.Err))
		} else if a.Data != nil {
			what = "read " + briefly(a.Data)
		}
		p.tell("%s %d %s", "ab"[i:i+1], a.Id, what)
	}
}

func (p *plain) take(i, place int) {
	frame := p.queue[i][place]
	p.queue[i] = append(slices.Clone(p.queue[i][:place]), p.queue[i][place+1:]...)
	if p.node[i] != nil {
		out := p.node[i].Take([]byte(frame))
		if p.power(i) {
			p.gave(i, out)
		}
	}
}

func (p *plain) tick(i int) {
	if p.node[i] != nil {
		out := p.node[i].Tick()
		if p.power(i) {
			p.gave(i, out)
		}
	}
}

func (p *plain) round() {
	for i := range 2 {
		for k := len(p.queue[i]); k > 0; k-- {
			p.take(i, 0)
		}
	}
	p.tick(0)
	p.tick(1)
}

func (p *plain) do(line string) ([]string, api.Errno) {
	p.told = nil
	if e := isEvent(line); e != api.OK {
		return nil, e
	}
	w := strings.Fields(line)
	if len(w) == 0 || w[0][0] == '#' {
		return nil, api.OK
	}
	switch w[0] {
	case "part", "heal":
		p.parted = w[0] == "part"
	case "net":
		p.tell("net %d %d", len(p.queue[0]), len(p.queue[1]))
	case "run":
		for range number(w[1]) {
			p.round()
		}
	default:
		p.onNode(w, strings.Index("ab", w[1]))
	}
	return p.told, api.OK
}

func number(word string) int {
	n, _ := strconv.Atoi(word)
	return n
}

func unhex(word string) []byte {
	list, _ := hex.DecodeString(word)
	return list
}

func (p *plain) onNode(w []string, i int) {
	switch w[0] {
	case "up", "crash", "wipe", "scribble", "spoil", "fuse":
		if e := p.onDisk(w, i); e != api.OK {
			p.tell("%s %s refused %d", w[1], w[0], int(e))
			p.power(i)
		}
	case "tick":
		p.tick(i)
	case "deliver", "drop", "copy":
		p.onNet(w, i)
	case "data":
		p.tell("%s data %s", w[1], digest.Hex(digest.Sum256(p.durable(i))))
	case "status", "progress", "gens", "why", "covered":
		p.say(w, i)
	default:
		p.call(w, i)
	}
}

func (p *plain) onDisk(w []string, i int) api.Errno {
	up := p.node[i] != nil
	switch {
	case up && (w[0] == "up" || w[0] == "wipe" || w[0] == "scribble"):
		return api.ErrState
	case !up && (w[0] == "crash" || w[0] == "fuse"):
		return api.ErrOff
	}
	var e api.Errno
	switch w[0] {
	case "up":
		p.node[i], e = node.New(p.disk[i], p.config, i)
	case "crash":
		p.disk[i].Crash(unhex(w[2]))
		p.node[i] = nil
	case "wipe":
		p.disk[i], _ = node.Disk(p.config, false, 0)
	case "scribble":
		if number(w[2]) >= p.config.Blocks {
			return api.ErrRange
		}
		p.disk[i].Through(number(w[2]), bytes.Repeat(unhex(w[3]), p.config.Size)[:p.config.Size])
	case "spoil":
		if p.disk[i].Spoil(number(w[2])) != nil {
			return api.ErrRange
		}
	case "fuse":
		p.disk[i].Fuse(number(w[2]))
		p.picks[i] = unhex(w[3])
	}
	return e
}

func (p *plain) onNet(w []string, i int) {
	if len(p.queue[i]) == 0 {
		return
	}
	place := number(w[2]) % len(p.queue[i])
	switch w[0] {
	case "deliver":
		p.take(i, place)
	case "drop":
		p.queue[i] = append(slices.Clone(p.queue[i][:place]), p.queue[i][place+1:]...)
	case "copy":
		if len(p.queue[i]) < 1024 {
			p.queue[i] = append(p.queue[i], p.queue[i][place])
		}
	}
}

func (p *plain) call(w []string, i int) {
	var out api.NodeOut
	e := api.ErrOff
	op := api.Op{Kind: 1 + slices.Index([]string{"read", "write", "zero", "flush"}, w[0])}
	if op.Kind > 0 {
		p.id++
		op.Id = p.id
		if len(w) > 2 {
			op.Block = number(w[2])
		}
		if w[0] == "write" {
			length := p.config.Size
			if len(w) == 5 {
				length = number(w[4])
			}
			op.Data = bytes.Repeat(unhex(w[3]), 4096)[:length]
		}
	}
	if n := p.node[i]; n != nil {
		switch w[0] {
		case "connect":
			out, e = n.Connect(len(w) == 3)
		case "disconnect":
			out, e = n.Disconnect()
		case "promote":
			out, e = n.Promote(len(w) == 3)
		case "demote":
			out, e = n.Demote()
		case "verify":
			out, e = n.Verify()
		case "invalidate":
			out, e = n.Invalidate()
		default:
			out, e = n.Submit(op)
		}
		if !p.power(i) {
			return
		}
	}
	if e != api.OK {
		p.tell("%s %s refused %d", w[1], w[0], int(e))
		return
	}
	p.gave(i, out)
}

func (p *plain) say(w []string, i int) {
	n := p.node[i]
	if n == nil {
		p.tell("%s down", w[1])
		return
	}
	text := ""
	switch w[0] {
	case "status":
		line, _ := conf.Status(n.Status())
		text = " " + line
	case "progress":
		g := n.Progress()
		text = fmt.Sprintf(" mode %d left %d flight %d shipped %d same %d found %d", g.Mode, g.Left, g.Flight, g.Shipped, g.Same, g.Found)
	case "gens":
		g := n.Gens()
		text = fmt.Sprintf(" %016x %016x %016x %016x", g.Current, g.Bitmap, g.Old1, g.Old2)
	case "why":
		text = fmt.Sprintf(" %d", int(n.Why()))
	case "covered":
		for _, e := range n.Covered() {
			text += fmt.Sprint(" ", e)
		}
	}
	p.tell("%s %s%s", w[1], w[0], text)
}

func (p *plain) durable(i int) []byte {
	var all []byte
	for b := range p.config.Blocks {
		block, err := p.disk[i].Durable(b)
		if err != nil {
			block = make([]byte, p.config.Size)
		}
		all = append(all, block...)
	}
	return all
}

func (p *plain) covered(i int) []int {
	if p.node[i] != nil {
		return p.node[i].Covered()
	}
	total, size := p.disk[i].Geometry()
	d, _ := disk.Load(total, size, p.disk[i].Image())
	s, _, e := store.Open(d)
	if e == api.OK {
		return s.Covered()
	}
	var all []int
	for b := range p.config.Blocks {
		if b%4 == 0 {
			all = append(all, b/4)
		}
	}
	return all
}
