package walk

import "replica/api"

// Pace: a bucket of tokens. NewPace makes it.
type Pace struct {
	rate, burst int
	tokens      int
}

// NewPace gives a full bucket of burst tokens, into which rate tokens come a tick.
func NewPace(rate int, burst int) (*Pace, api.Errno) {
	if rate < 1 || rate > api.MaxRate || burst < 1 || burst > api.MaxRate {
		return nil, api.ErrArg
	}
	return &Pace{rate: rate, burst: burst, tokens: burst}, api.OK
}

// Tick lets one tick go by.
func (p *Pace) Tick() { p.tokens = min(p.tokens+p.rate, p.burst) }

// Take takes n tokens, if there are so many.
func (p *Pace) Take(n int) bool {
	if n < 1 || n > p.tokens {
		return false
	}
	p.tokens -= n
	return true
}

// Level tells how many tokens there are.
func (p *Pace) Level() int { return p.tokens }
