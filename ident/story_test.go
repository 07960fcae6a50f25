package ident

import (
	"testing"

	"replica/api"
)

// couple is two nodes that meet, part, and go on alone.
type couple struct {
	t      *testing.T
	gens   [2]api.Gens
	number uint64
}

func (c *couple) fresh(node int) uint64 {
	c.number++
	return Fresh(node, c.number)
}

func (c *couple) alone(node int) { c.gens[node] = Rotate(c.gens[node], c.fresh(node)) }

// meet holds both nodes' verdicts against what is wanted at node 0.
func (c *couple) meet(kind int, rule int) {
	c.t.Helper()
	want := api.Verdict{Kind: kind, Rule: rule}
	if got := Compare(0, c.gens[0], 0, c.gens[1], 0); got != want {
		c.t.Fatalf("%v meet: %v at node 0, want %v", c.gens, got, want)
	}
	if got := Compare(1, c.gens[1], 0, c.gens[0], 0); got != Mirror(want) {
		c.t.Fatalf("%v meet: %v at node 1, want %v", c.gens, got, Mirror(want))
	}
}

func (c *couple) begin(source int) {
	c.gens[source] = BeginSource(c.gens[source], c.fresh(source))
	c.gens[1-source] = BeginTarget(c.gens[1-source], c.gens[source])
}

func (c *couple) end(source int) {
	c.gens[source] = EndSource(c.gens[source])
	c.gens[1-source] = EndTarget(c.gens[1-source], c.gens[source])
}

// P601 to P607 in a row: a new device comes to its data, breaks off, is joined; either goes on alone; then both do.
func TestStory(t *testing.T) {
	for first := range 2 {
		second := 1 - first
		sides := [2][3]int{{api.SourceFull, api.SourceBits, api.TargetBits}, {api.TargetFull, api.TargetBits, api.SourceBits}}
		full, bits, back := sides[first][0], sides[first][1], sides[first][2]

		c := &couple{t: t}
		c.gens[0].Current, c.gens[1].Current = api.JustCreated, api.JustCreated
		c.meet(api.NoSync, 1)
		c.alone(first)
		c.meet(full, 2)
		c.begin(first)
		c.meet(bits, 9)
		c.alone(first)
		c.meet(bits, 9)
		c.begin(first)
		c.end(first)
		c.meet(api.NoSync, 6)

		c.alone(second)
		c.alone(second)
		c.meet(back, 9)
		c.begin(second)
		before := c.gens[second]
		c.end(second)
		c.gens[second], before = before, c.gens[second]
		c.meet(back, 5)
		c.gens[second] = before
		c.meet(api.NoSync, 6)

		c.alone(first)
		c.alone(second)
		c.meet(api.SplitBits, 12)
	}
}

// P603: a resync of equal data, which the operator or a verify asked for, is taken up by bits if it breaks off.
func TestStoryOfEqualOnes(t *testing.T) {
	c := &couple{t: t, gens: [2]api.Gens{gens(20, 0, 10, 8), gens(20, 0, 10, 8)}}
	c.begin(0)
	c.meet(api.SourceBits, 9)
	c.begin(0)
	c.meet(api.SourceBits, 9)
	c.end(0)
	c.meet(api.NoSync, 6)
}
