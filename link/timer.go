package link

// timer counts ticks from when it is made. To begin anew is to make another one.
type timer struct {
	rings func() bool // lets a tick go by, and tells whether the timer is due with it
}

// every makes a timer that rings at each n-th tick.
func every(n int) timer {
	count := 0
	return timer{rings: func() bool {
		count = (count + 1) % n
		return count == 0
	}}
}
