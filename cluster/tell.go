package cluster

import (
	"bytes"
	"strconv"
	"strings"

	"replica/api"
	"replica/conf"
	"replica/digest"
	"replica/node"
)

const (
	nodeNames = "ab"
	hexDigits = "0123456789abcdef"
	genDigits = 16
)

func nodeName(i int) string { return nodeNames[i : i+1] }

// sentence tells one line of a node.
func sentence(i int, words ...string) []string {
	return []string{nodeName(i) + " " + strings.Join(words, " ")}
}

// refused tells that nothing has come of an event.
func (ev event) refused(e api.Errno) []string {
	return sentence(ev.node, ev.name, "refused", strconv.Itoa(int(e)))
}

func tellAnswers(i int, answers []api.Answer) []string {
	var told []string
	for _, a := range answers {
		told = append(told, tellAnswer(i, a)...)
	}
	return told
}

// tellAnswer: what has data is the answer to a read.
func tellAnswer(i int, a api.Answer) []string {
	id := strconv.Itoa(a.Id)
	switch {
	case a.Err != api.OK:
		return sentence(i, id, "error", strconv.Itoa(int(a.Err)))
	case len(a.Data) > 0:
		return sentence(i, id, "read", spelt(shortest(a.Data)))
	}
	return sentence(i, id, "ok")
}

// shortest gives the fill of a block: the least of its first parts that makes it up, if it is repeated.
func shortest(block []byte) []byte {
	length := 1
	for !bytes.Equal(block[length:], block[:len(block)-length]) {
		length *= 2
	}
	return block[:length]
}

func spelt(list []byte) string {
	var digits []byte
	for _, b := range list {
		digits = append(digits, hexDigits[b>>4], hexDigits[b&15])
	}
	return string(digits)
}

// tellOf tells what a node says, if it is up.
func (c *Cluster) tellOf(ev event, say func(n *node.Node) []string) []string {
	n := c.sides[ev.node].node
	if n == nil {
		return sentence(ev.node, "down")
	}
	return sentence(ev.node, append([]string{ev.name}, say(n)...)...)
}

func (c *Cluster) tellStatus(ev event) []string { return c.tellOf(ev, sayStatus) }

func (c *Cluster) tellProgress(ev event) []string { return c.tellOf(ev, sayProgress) }

func (c *Cluster) tellGens(ev event) []string { return c.tellOf(ev, sayGens) }

func (c *Cluster) tellWhy(ev event) []string { return c.tellOf(ev, sayWhy) }

func (c *Cluster) tellCovered(ev event) []string { return c.tellOf(ev, sayCovered) }

func sayStatus(n *node.Node) []string {
	line, _ := conf.Status(n.Status())
	return []string{line}
}

func sayProgress(n *node.Node) []string {
	p := n.Progress()
	return []string{
		"mode", strconv.Itoa(p.Mode), "left", strconv.Itoa(p.Left), "flight", strconv.Itoa(p.Flight),
		"shipped", strconv.Itoa(p.Shipped), "same", strconv.Itoa(p.Same), "found", strconv.Itoa(p.Found),
	}
}

func sayGens(n *node.Node) []string {
	g := n.Gens()
	return []string{speltGen(g.Current), speltGen(g.Bitmap), speltGen(g.Old1), speltGen(g.Old2)}
}

func speltGen(gen uint64) string {
	digits := strconv.FormatUint(gen, 16)
	return strings.Repeat("0", genDigits-len(digits)) + digits
}

func sayWhy(n *node.Node) []string { return []string{strconv.Itoa(int(n.Why()))} }

func sayCovered(n *node.Node) []string {
	var words []string
	for _, extent := range n.Covered() {
		words = append(words, strconv.Itoa(extent))
	}
	return words
}

func (c *Cluster) tellData(ev event) []string {
	data, _ := c.Durable(ev.node)
	return sentence(ev.node, ev.name, digest.Hex(digest.Sum256(data)))
}

func (c *Cluster) tellNet(ev event) []string {
	line := ev.name
	for i := range c.sides {
		line += " " + strconv.Itoa(len(c.sides[i].queue))
	}
	return []string{line}
}
