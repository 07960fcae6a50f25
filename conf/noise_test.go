package conf

import (
	"sync"
	"testing"

	"replica/api"
)

// told: what the calls answer, of one of each kind of argument.
type told struct {
	c       api.Config
	s       api.Status
	text    string
	line    string
	places  [2]int
	numbers [5]api.Errno
}

func asked(text string, c api.Config, line string, s api.Status) told {
	var x told
	x.c, x.places[0], x.numbers[0] = Parse(text)
	x.numbers[1] = Check(c)
	x.text, x.numbers[2] = Print(c)
	x.line, x.numbers[3] = Status(s)
	x.s, x.places[1], x.numbers[4] = ParseStatus(line)
	return x
}

// noise: bytes of every kind, more often those that the texts are made of.
func noise(d *dice, length int) string {
	const usual = "resource net { } ; \" \\u{41} \n # 0K cs:Connected ro:/"
	b := make([]byte, length)
	for i := range b {
		if b[i] = byte(d.below(256)); d.below(4) > 0 {
			b[i] = usual[d.below(len(usual))]
		}
	}
	return string(b)
}

// P1207: whatever is given no call panics; asked again, in another order and by many at once, each answers the same.
func TestNoise(t *testing.T) {
	d := dice(21)
	type given struct {
		text string
		c    api.Config
		line string
		s    api.Status
	}
	var all []given
	var first []told
	for i := range 4000 {
		g := given{text: noise(&d, d.below(200)), c: rolledConfig(&d), line: noise(&d, d.below(200))}
		switch i % 4 {
		case 0:
			g.text, g.line = example[:d.below(len(example)+1)]+g.text, line8[:d.below(len(line8)+1)]+g.line
		case 1:
			g.text, g.line, g.s = samples[d.below(len(samples))], line8, s8
		case 2:
			g.text, g.c.Name, g.c.Secret = noise(&d, 4090+d.below(10)), g.text, g.line
			for _, field := range append(enums(&g.s), counts(&g.s)...) {
				*field = odd[d.below(len(odd))]
			}
			for _, r := range rows {
				if r.field != nil {
					*r.field(&g.c) = odd[d.below(len(odd))]
				}
			}
		}
		all = append(all, g)
		first = append(first, asked(g.text, g.c, g.line, g.s))
	}
	var many sync.WaitGroup
	for range 4 {
		many.Go(func() {
			for i := len(all) - 1; i >= 0; i-- {
				if g := all[i]; asked(g.text, g.c, g.line, g.s) != first[i] {
					t.Errorf("P1207: asked again of %q, %+v, %q, %+v the answers are others", g.text, g.c, g.line, g.s)
				}
			}
		})
	}
	many.Wait()
}
