package cluster

import (
	"slices"
	"testing"

	"replica/api"
	"replica/conf"
)

func resourceOf(c api.Config) string {
	text, _ := conf.Print(c)
	return text
}

// randomConfig: small devices, with little room everywhere.
func randomConfig(d *dice, split bool) api.Config {
	c := api.Config{
		Name: "r0", Blocks: d.one(1, 4, 5, 8, 10, 10, 13, 70), Size: 128, Slots: d.one(1, 1, 2, 3), Protocol: d.one(1, 2, 3),
		Window: d.one(1, 2, 8), Resend: d.one(1, 2, 3), Epoch: d.one(1, 2, 3, 16), Queue: d.one(1, 3, 6, 32),
		Rate: d.one(1, 2, 4), Burst: d.one(1, 2, 8), Ahead: d.one(1, 2, 4),
	}
	c.Dead = 4*c.Resend + 4 + d.below(8)
	if d.below(5) == 0 {
		c.Dead = c.Resend + 1 + d.below(6)
	}
	c.Backlog = 16 + 2*c.Ahead + 2*c.Queue + 8*c.Epoch
	if d.below(3) == 0 {
		c.Secret = "open sesame"
	}
	if split {
		c.Sb0, c.Sb1 = d.one(0, 1, 2, 3, 4), d.one(0, 5, 6)
	}
	return c
}

// sawAll: the stories have come to what they are told for.
func sawAll(t *testing.T, seen map[string]int, list ...string) {
	t.Helper()
	for _, what := range list {
		if seen[what] == 0 && *storyCount >= 60 {
			t.Errorf("the stories have not seen %q", what)
		}
	}
	for _, why := range []string{"why 141", "why 4"} {
		if seen[why] > 0 {
			t.Errorf("two nodes that keep to the rules were parted: %q", why)
		}
	}
	if testing.Verbose() {
		t.Log(seen)
	}
}

func playStories(t *testing.T, first int, free, split bool) map[string]int {
	t.Helper()
	seen := map[string]int{}
	for k := range *storyCount {
		seed := first + *storySeed + k
		d := dice(seed)
		d.below(2)
		c := randomConfig(&d, split)
		y := newStory(t, resourceOf(c), seed, free, seen)
		for range 250 {
			y.event()
		}
		if !free {
			y.become()
		}
		y.again()
	}
	return seen
}

// again: P1807. Two clusters that are given the same lines, by turns, tell the same.
func (y *story) again() {
	y.t.Helper()
	one, other := newCluster(y.t, resourceOf(y.c.config)), newCluster(y.t, resourceOf(y.c.config))
	for k, line := range y.lines {
		if a, b := play(y.t, one, line), play(y.t, other, line); !slices.Equal(a, y.told[k]) || !slices.Equal(b, y.told[k]) {
			y.t.Fatalf("P1807: line %d, %q, tells %q, then %q and %q", k, line, y.told[k], a, b)
		}
	}
}

// TestStories: nodes are promoted as P3 says. It looks at P3, P4, P5, P6, P7, P9, P10 and P12.
func TestStories(t *testing.T) {
	seen := playStories(t, 1000, false, false)
	sawAll(t, seen,
		"calm", "shipped in calm", "in sync", "lost power", "started twice", "a crash of a primary with cached writes", "a crash of a backup with writes", "fork",
		"promote: promote refused 172", "promote: promote refused 5", "the other node is promoted", "demote", "verify",
		"read answered", "write answered", "zero answered", "flush answered", "operation refused 4", "refused 171", "refused 174", "refused 2", "refused 3",
		"conn 2", "conn 4", "conn 5", "conn 6", "conn 7", "why 142")
}

// TestFreeStories: nodes are promoted wherever they take it. It looks at P4, P5, P6, P8, P9, P10 and P12.
func TestFreeStories(t *testing.T) {
	seen := playStories(t, 1000000, true, false)
	sawAll(t, seen, "split brain", "the other node is promoted", "a crash of a backup with writes", "in sync", "conn 7", "why 154", "why 156")
}

// TestSplitStories: a split brain may be settled by the policies.
func TestSplitStories(t *testing.T) {
	seen := playStories(t, 2000000, true, true)
	sawAll(t, seen, "the other node is promoted", "a crash of a backup with writes", "in sync", "conn 7", "why 154")
}
