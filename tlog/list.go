package tlog

import "replica/api"

// at is the write that has that turn.
func (l *Log) at(turn int) api.Entry { return l.list[turn-l.gone] }

// oldest is the first write's epoch. A closed epoch has a write, so no epoch of the log is older; without a write there is the open one alone.
func (l *Log) oldest() int {
	if len(l.list) == 0 {
		return l.open
	}
	return l.list[0].Epoch
}

// front is how many writes the oldest epoch has.
func (l *Log) front() int {
	count := 0
	for count < len(l.list) && l.list[count].Epoch == l.list[0].Epoch {
		count++
	}
	return count
}

// joined is how many writes the open epoch has.
func (l *Log) joined() int {
	count := 0
	for count < len(l.list) && l.list[len(l.list)-1-count].Epoch == l.open {
		count++
	}
	return count
}

// leave takes the first writes out of the log. They are the caller's from then on: their list ends where the log's begins, so that nothing appended to it runs into the writes behind.
func (l *Log) leave(count int) []api.Entry {
	left := l.list[:count:count]
	l.list = l.list[count:]
	l.gone += count
	for _, w := range left {
		delete(l.stands, w.Id)
	}
	return left
}
