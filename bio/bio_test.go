package bio

import (
	"bytes"
	"math"
	"testing"

	"replica/api"
)

func TestNewBounds(t *testing.T) {
	for _, c := range [][3]int{{1, 128, 1}, {4096, 128, 256}, {1, 256, 2}, {7, 512, 3}, {4096, 1024, 256}} {
		q := made(t, c[0], c[1], c[2])
		q.pending(0, 0)
	}
	low, high := math.MinInt, math.MaxInt
	for _, c := range [][3]int{
		{0, 128, 1}, {-1, 128, 1}, {4097, 128, 1}, {low, 128, 1}, {high, 128, 1},
		{4, 0, 1}, {4, 1, 1}, {4, 2, 1}, {4, 64, 1}, {4, 127, 1}, {4, 129, 1}, {4, 192, 1}, {4, 384, 1}, {4, 1023, 1}, {4, 1025, 1}, {4, 2048, 1}, {4, -128, 1}, {4, low, 1}, {4, high, 1}, {4, 1 << 62, 1},
		{4, 128, 0}, {4, 128, -1}, {4, 128, 257}, {4, 128, low}, {4, 128, high},
		{0, 0, 0}, {low, low, low}, {high, high, high},
	} {
		if q, e := New(c[0], c[1], c[2]); q != nil || e != api.ErrArg {
			t.Errorf("P2102: New%v: %v", c, e)
		}
	}
}

func TestExampleWhole(t *testing.T) {
	q := made(t, 4, 128, 2)
	w := run(256, 1)
	q.asked(api.Request{Id: 1, Kind: api.ReqWrite, Offset: 128, Length: 256, Data: w}, hands(write(1, 1, w[:128]), write(2, 2, w[128:])))
	q.pending(1, 2)
	q.answered(ok(2), gives{})
	q.pending(1, 1)
	q.answered(ok(1), replies(api.Reply{Id: 1}))
	q.pending(0, 0)
}

func TestExampleParts(t *testing.T) {
	q := made(t, 4, 128, 2)
	w, b0, b1 := run(40, 200), run(128, 5), run(128, 50)
	q.asked(api.Request{Id: 1, Kind: api.ReqWrite, Offset: 100, Length: 40, Data: w}, hands(read(1, 0), read(2, 1)))
	q.answered(api.Answer{Id: 2, Data: b1}, hands(write(3, 1, w[28:], b1[12:])))
	q.answered(api.Answer{Id: 1, Data: b0}, hands(write(4, 0, b0[:100], w[:28])))
	q.answered(ok(4), gives{})
	q.answered(ok(3), replies(api.Reply{Id: 1}))
}

func TestExampleRow(t *testing.T) {
	q := made(t, 4, 128, 2)
	w := run(256, 1)
	q.asked(api.Request{Id: 1, Kind: api.ReqWrite, Offset: 128, Length: 256, Data: w}, hands(write(1, 1, w[:128]), write(2, 2, w[128:])))
	q.asked(api.Request{Id: 2, Kind: api.ReqRead, Offset: 200, Length: 1}, gives{})
	q.asked(api.Request{Id: 3, Kind: api.ReqRead, Offset: 511, Length: 1}, gives{})
	q.pending(3, 2)
	q.answered(ok(1), hands(read(3, 3)))
	q.answered(ok(2), replies(api.Reply{Id: 1}).and(read(4, 1)))
	q.answered(api.Answer{Id: 3, Data: run(128, 7)}, replies(api.Reply{Id: 3, Data: []byte{7 + 127}}))
	q.answered(api.Answer{Id: 4, Data: run(128, 9)}, replies(api.Reply{Id: 2, Data: []byte{9 + 72}}))
}

func TestExampleSync(t *testing.T) {
	q := made(t, 4, 128, 2)
	q.asked(api.Request{Id: 9, Kind: api.ReqSync}, hands(flush(1)))
	q.answered(ok(1), replies(api.Reply{Id: 9}))
	q.asked(api.Request{Id: 1, Kind: api.ReqRead, Length: 2}, hands(read(2, 0)))
	q.asked(api.Request{Id: 2, Kind: api.ReqDiscard, Offset: 384, Length: 128}, hands(zero(3, 3)))
	q.asked(api.Request{Id: 9, Kind: api.ReqSync}, gives{})
	q.answered(api.Answer{Id: 2, Data: run(128, 4)}, replies(api.Reply{Id: 1, Data: []byte{4, 5}}))
	q.answered(ok(3), replies(api.Reply{Id: 2}).and(flush(4)))
	q.answered(ok(4), replies(api.Reply{Id: 9}))
}

// TestSyncs: a sync waits for syncs too; what comes behind it does not wait for it.
func TestSyncs(t *testing.T) {
	q := made(t, 4, 128, 8)
	q.asked(api.Request{Id: 1, Kind: api.ReqSync}, hands(flush(1)))
	q.asked(api.Request{Id: 2, Kind: api.ReqSync}, gives{})
	q.asked(api.Request{Id: 3, Kind: api.ReqRead, Length: 1}, hands(read(2, 0)))
	q.asked(api.Request{Id: 4, Kind: api.ReqSync}, gives{})
	q.answered(api.Answer{Id: 2, Data: run(128, 4)}, replies(api.Reply{Id: 3, Data: []byte{4}}))
	q.answered(api.Answer{Id: 1, Err: api.ErrPower, Data: run(3, 3)}, replies(api.Reply{Id: 1, Err: api.ErrPower}).and(flush(3)))
	q.answered(api.Answer{Id: 3, Data: run(3, 3)}, replies(api.Reply{Id: 2}).and(flush(4)))
	q.answered(ok(4), replies(api.Reply{Id: 4}))
}

func TestExampleError(t *testing.T) {
	q := made(t, 4, 128, 2)
	q.asked(api.Request{Id: 1, Kind: api.ReqDiscard, Length: 512}, hands(zero(1, 0), zero(2, 1)))
	q.answered(api.Answer{Id: 1, Err: api.ErrMedium}, gives{})
	q.pending(1, 1)
	q.answered(ok(2), replies(api.Reply{Id: 1, Err: api.ErrMedium}))
	q.pending(0, 0)
}

// TestFirstError: of several errors the first that is answered counts; the request is replied to behind the last of its operations.
func TestFirstError(t *testing.T) {
	q := made(t, 4, 128, 4)
	q.asked(api.Request{Id: 1, Kind: api.ReqRead, Length: 512}, hands(read(1, 0), read(2, 1), read(3, 2), read(4, 3)))
	q.asked(api.Request{Id: 2, Kind: api.ReqRead, Length: 1}, gives{})
	q.answered(api.Answer{Id: 4, Data: run(128, 1)}, gives{})
	q.answered(api.Answer{Id: 3, Err: -7}, gives{})
	q.answered(api.Answer{Id: 1, Err: api.ErrMedium}, gives{})
	q.answered(api.Answer{Id: 2, Data: run(128, 1)}, replies(api.Reply{Id: 1, Err: -7}).and(read(5, 0)))
	q.answered(api.Answer{Id: 5, Err: 123456, Data: run(128, 1)}, replies(api.Reply{Id: 2, Err: 123456}))
}

// TestFailedRoom: a failed request hands out nothing more, and its free place goes to others.
func TestFailedRoom(t *testing.T) {
	q := made(t, 8, 128, 2)
	w := run(200, 1)
	q.asked(api.Request{Id: 1, Kind: api.ReqWrite, Offset: 28, Length: 200, Data: w}, hands(read(1, 0), read(2, 1)))
	q.asked(api.Request{Id: 2, Kind: api.ReqWrite, Offset: 512, Length: 128, Data: w[:128]}, gives{})
	q.asked(api.Request{Id: 3, Kind: api.ReqWrite, Offset: 128, Length: 128, Data: w[:128]}, gives{})
	q.answered(api.Answer{Id: 1, Err: api.ErrMedium}, hands(write(3, 4, w[:128])))
	q.answered(ok(3), replies(api.Reply{Id: 2}))
	q.answered(api.Answer{Id: 2, Data: run(128, 9)}, replies(api.Reply{Id: 1, Err: api.ErrMedium}).and(write(4, 1, w[:128])))
	q.answered(ok(4), replies(api.Reply{Id: 3}))
	q.pending(0, 0)
}

func TestExampleRefused(t *testing.T) {
	q := made(t, 4, 128, 2)
	for _, c := range []struct {
		r    api.Request
		want api.Errno
	}{
		{api.Request{Id: 0, Kind: api.ReqRead, Length: 1}, api.ErrArg},
		{api.Request{Id: -1, Kind: api.ReqRead, Length: 1}, api.ErrArg},
		{api.Request{Id: math.MinInt, Kind: api.ReqSync}, api.ErrArg},
		{api.Request{Id: 1, Kind: 5, Length: 1}, api.ErrArg},
		{api.Request{Id: 1, Kind: 0, Length: 1}, api.ErrArg},
		{api.Request{Id: 1, Kind: -1, Length: 1}, api.ErrArg},
		{api.Request{Id: 1, Kind: api.ReqRead}, api.ErrArg},
		{api.Request{Id: 1, Kind: api.ReqWrite}, api.ErrArg},
		{api.Request{Id: 1, Kind: api.ReqDiscard, Length: -1}, api.ErrArg},
		{api.Request{Id: 1, Kind: api.ReqRead, Length: math.MinInt}, api.ErrArg},
		{api.Request{Id: 1, Kind: api.ReqSync, Length: 1}, api.ErrArg},
		{api.Request{Id: 1, Kind: api.ReqSync, Length: -1}, api.ErrArg},
		{api.Request{Id: 1, Kind: api.ReqSync, Offset: 1}, api.ErrArg},
		{api.Request{Id: 1, Kind: api.ReqSync, Offset: -1}, api.ErrArg},
		{api.Request{Id: 1, Kind: api.ReqRead, Offset: 512, Length: 1}, api.ErrRange},
		{api.Request{Id: 1, Kind: api.ReqRead, Offset: 511, Length: 2}, api.ErrRange},
		{api.Request{Id: 1, Kind: api.ReqRead, Length: 513}, api.ErrRange},
		{api.Request{Id: 1, Kind: api.ReqRead, Offset: -1, Length: 1}, api.ErrRange},
		{api.Request{Id: 1, Kind: api.ReqRead, Offset: math.MinInt, Length: 1}, api.ErrRange},
		{api.Request{Id: 1, Kind: api.ReqRead, Offset: 1, Length: math.MaxInt}, api.ErrRange},
		{api.Request{Id: 1, Kind: api.ReqRead, Offset: math.MaxInt, Length: math.MaxInt}, api.ErrRange},
		{api.Request{Id: 1, Kind: api.ReqRead, Offset: math.MaxInt, Length: 1}, api.ErrRange},
		{api.Request{Id: 1, Kind: api.ReqRead, Offset: math.MinInt, Length: math.MaxInt}, api.ErrRange},
		{api.Request{Id: 1, Kind: api.ReqWrite, Length: 3, Data: []byte("ab")}, api.ErrSize},
		{api.Request{Id: 1, Kind: api.ReqWrite, Length: 3, Data: []byte("abcd")}, api.ErrSize},
		{api.Request{Id: 1, Kind: api.ReqWrite, Length: 3}, api.ErrSize},
		{api.Request{Id: 1, Kind: api.ReqRead, Length: 1, Data: []byte("a")}, api.ErrSize},
		{api.Request{Id: 1, Kind: api.ReqDiscard, Length: 1, Data: []byte("a")}, api.ErrSize},
		{api.Request{Id: 1, Kind: api.ReqSync, Data: []byte("a")}, api.ErrSize},
	} {
		q.refusesRequest(c.r, c.want)
	}
	q.asked(api.Request{Id: 1, Kind: api.ReqRead, Length: 1, Data: []byte{}}, hands(read(1, 0)))
	q.refusesRequest(api.Request{Id: 1, Kind: api.ReqRead, Length: 1}, api.ErrTwice)
	q.refusesRequest(api.Request{Id: 1, Kind: api.ReqSync}, api.ErrTwice)
	q.asked(api.Request{Id: math.MaxInt, Kind: api.ReqRead, Offset: 511, Length: 1}, hands(read(2, 3)))
}

// TestFirstThatApplies: of each two errors that apply at once, the one that the chapter names first.
func TestFirstThatApplies(t *testing.T) {
	q := made(t, 1024, 128, 1)
	const total = 1024 * 128
	q.asked(api.Request{Id: 1, Kind: api.ReqSync}, hands(flush(1)))
	q.refusesRequest(api.Request{Id: 0, Kind: api.ReqRead, Offset: -1, Length: 1}, api.ErrArg)
	q.refusesRequest(api.Request{Id: 1, Kind: 9, Offset: total, Length: 1, Data: []byte("ab")}, api.ErrArg)
	q.refusesRequest(api.Request{Id: 1, Kind: api.ReqSync, Length: 1, Data: []byte("ab")}, api.ErrArg)
	q.refusesRequest(api.Request{Id: 1, Kind: api.ReqRead, Offset: 1, Length: total, Data: []byte("ab")}, api.ErrRange)
	q.refusesRequest(api.Request{Id: 1, Kind: api.ReqWrite, Length: api.MaxRequest + 1, Data: []byte("ab")}, api.ErrSize)
	q.refusesRequest(api.Request{Id: 1, Kind: api.ReqRead, Length: api.MaxRequest + 1, Data: make([]byte, api.MaxRequest+1)}, api.ErrSize)
	q.refusesRequest(api.Request{Id: 1, Kind: api.ReqSync, Data: make([]byte, api.MaxRequest+1)}, api.ErrSize)
	q.refusesRequest(api.Request{Id: 1, Kind: api.ReqRead, Length: api.MaxRequest + 1}, api.ErrLong)
	q.refusesRequest(api.Request{Id: 1, Kind: api.ReqDiscard, Length: total}, api.ErrLong)
	q.refusesRequest(api.Request{Id: 2, Kind: api.ReqWrite, Length: api.MaxRequest + 1, Data: make([]byte, api.MaxRequest+1)}, api.ErrLong)
	for id := 2; id <= api.MaxRequests; id++ {
		q.asked(api.Request{Id: id, Kind: api.ReqRead, Offset: id, Length: 1}, gives{})
	}
	q.pending(256, 1)
	q.refusesRequest(api.Request{Id: 256, Kind: api.ReqRead, Length: 1}, api.ErrTwice)
	q.refusesRequest(api.Request{Id: 257, Kind: api.ReqRead, Length: 1}, api.ErrFull)
	q.refusesRequest(api.Request{Id: 257, Kind: api.ReqSync}, api.ErrFull)
	q.refusesRequest(api.Request{Id: 257, Kind: api.ReqRead, Length: api.MaxRequest + 1}, api.ErrLong)
	q.answered(ok(1), replies(api.Reply{Id: 1}).and(read(2, 0)))
	q.asked(api.Request{Id: 1, Kind: api.ReqRead, Length: 1}, gives{})
	q.refusesRequest(api.Request{Id: 257, Kind: api.ReqRead, Length: 1}, api.ErrFull)
}

// TestLongest: a request of 65,536 bytes that begins and ends within blocks.
func TestLongest(t *testing.T) {
	const size, depth = 256, 3
	q := made(t, 4096, size, depth)
	data := make([]byte, api.MaxRequest)
	d := dice(1)
	copy(data, d.some(len(data)))
	device := bytes.Repeat([]byte{77}, 4096*size)
	offset := 4096*size - api.MaxRequest - 100
	taken := 0
	play := func(ops []api.Op, list []api.Reply, e api.Errno) []api.Reply {
		for e == api.OK && len(ops) > 0 {
			op := ops[0]
			taken++
			a := api.Answer{Id: op.Id}
			at := device[op.Block*size : (op.Block+1)*size]
			if op.Kind == api.OpRead {
				a.Data = bytes.Clone(at)
			}
			copy(at, op.Data)
			more, told, fault := q.Answered(a)
			ops, list, e = append(ops[1:], more...), append(list, told...), fault
		}
		if e != api.OK {
			t.Fatal(e)
		}
		return list
	}
	list := play(q.Request(api.Request{Id: 1, Kind: api.ReqWrite, Offset: offset, Length: len(data), Data: data}))
	if len(list) != 1 || taken != len(data)/size+1+2 {
		t.Errorf("P2110: %d operations, the replies %v", taken, list)
	}
	if !bytes.Equal(device[offset:offset+len(data)], data) || bytes.Count(device[:offset], []byte{77}) != offset || bytes.Count(device[offset+len(data):], []byte{77}) != 100 {
		t.Error("P2108: the device has other bytes")
	}
	list = play(q.Request(api.Request{Id: 1, Kind: api.ReqRead, Offset: offset, Length: len(data)}))
	if len(list) != 1 || !bytes.Equal(list[0].Data, data) {
		t.Error("P2108: other bytes are read")
	}
}

func TestExampleAnswers(t *testing.T) {
	q := made(t, 4, 128, 2)
	for _, id := range []int{1, 0, -1, math.MaxInt, math.MinInt} {
		q.refusesAnswer(ok(id), api.ErrState)
		q.refusesAnswer(api.Answer{Id: id, Err: api.ErrMedium}, api.ErrState)
	}
	q.asked(api.Request{Id: 1, Kind: api.ReqRead, Length: 1}, hands(read(1, 0)))
	q.refusesAnswer(api.Answer{Id: 1, Data: run(127, 1)}, api.ErrSize)
	q.refusesAnswer(api.Answer{Id: 1, Data: run(129, 1)}, api.ErrSize)
	q.refusesAnswer(ok(1), api.ErrSize)
	q.refusesAnswer(ok(2), api.ErrState)
	q.answered(api.Answer{Id: 1, Err: api.ErrMedium, Data: run(127, 1)}, replies(api.Reply{Id: 1, Err: api.ErrMedium}))
	q.refusesAnswer(api.Answer{Id: 1, Data: run(128, 1)}, api.ErrState)
}

// TestSizeOfFailed: a read of a request that has failed has to be of the right size too.
func TestSizeOfFailed(t *testing.T) {
	q := made(t, 4, 128, 2)
	q.asked(api.Request{Id: 1, Kind: api.ReqDiscard, Offset: 1, Length: 200}, hands(read(1, 0), read(2, 1)))
	q.refusesAnswer(api.Answer{Id: 1, Data: run(200, 1)}, api.ErrSize)
	q.answered(api.Answer{Id: 1, Err: api.ErrMedium}, gives{})
	q.refusesAnswer(api.Answer{Id: 2, Data: run(127, 1)}, api.ErrSize)
	q.answered(api.Answer{Id: 2, Data: run(128, 1)}, replies(api.Reply{Id: 1, Err: api.ErrMedium}))
}

// TestOtherData: what comes with the answers of writes, zeroes and flushes does not matter.
func TestOtherData(t *testing.T) {
	q := made(t, 4, 128, 4)
	w := run(128, 1)
	q.asked(api.Request{Id: 1, Kind: api.ReqWrite, Length: 128, Data: w}, hands(write(1, 0, w)))
	q.asked(api.Request{Id: 2, Kind: api.ReqDiscard, Offset: 128, Length: 128}, hands(zero(2, 1)))
	q.asked(api.Request{Id: 3, Kind: api.ReqWrite, Offset: 256, Length: 1, Data: w[:1]}, hands(read(3, 2)))
	q.answered(api.Answer{Id: 3, Data: run(128, 60)}, hands(write(4, 2, w[:1], run(127, 61))))
	q.answered(api.Answer{Id: 4, Data: w[:5]}, replies(api.Reply{Id: 3}))
	q.answered(api.Answer{Id: 2, Data: run(128, 5)}, replies(api.Reply{Id: 2}))
	q.answered(api.Answer{Id: 1, Data: run(127, 5)}, replies(api.Reply{Id: 1}))
}

func TestExampleLost(t *testing.T) {
	q := made(t, 4, 128, 2)
	q.loses()
	q.asked(api.Request{Id: 4, Kind: api.ReqRead, Length: 256}, hands(read(1, 0), read(2, 1)))
	q.asked(api.Request{Id: 2, Kind: api.ReqRead, Length: 1}, gives{})
	q.asked(api.Request{Id: 7, Kind: api.ReqSync}, gives{})
	q.answered(api.Answer{Id: 1, Data: run(128, 1)}, gives{})
	q.loses(4, 2, 7)
	q.loses()
	q.refusesAnswer(api.Answer{Id: 2, Data: run(128, 1)}, api.ErrState)
	q.refusesAnswer(api.Answer{Id: 3, Data: run(128, 1)}, api.ErrState)
	q.asked(api.Request{Id: 7, Kind: api.ReqRead, Offset: 130, Length: 1}, hands(read(3, 1)))
	q.answered(api.Answer{Id: 3, Data: run(128, 1)}, replies(api.Reply{Id: 7, Data: []byte{3}}))
}

// TestPartsOfOneBlock: a range within a block; a range that has the first and the last block wholly.
func TestPartsOfOneBlock(t *testing.T) {
	q := made(t, 4, 128, 8)
	b := run(128, 100)
	q.asked(api.Request{Id: 1, Kind: api.ReqDiscard, Offset: 129, Length: 126}, hands(read(1, 1)))
	q.answered(api.Answer{Id: 1, Data: b}, hands(write(2, 1, b[:1], make([]byte, 126), b[127:])))
	q.answered(ok(2), replies(api.Reply{Id: 1}))
	q.asked(api.Request{Id: 2, Kind: api.ReqDiscard, Length: 512}, hands(zero(3, 0), zero(4, 1), zero(5, 2), zero(6, 3)))
	q.loses(2)
	q.asked(api.Request{Id: 3, Kind: api.ReqDiscard, Offset: 127, Length: 258}, hands(read(7, 0), zero(8, 1), zero(9, 2), read(10, 3)))
	q.answered(api.Answer{Id: 10, Data: b}, hands(write(11, 3, []byte{0}, b[1:])))
	q.answered(api.Answer{Id: 7, Data: b}, hands(write(12, 0, b[:127], []byte{0})))
}

// TestFirstPiece: with one operation at a time a piece is written ahead of the next one's being read.
func TestFirstPiece(t *testing.T) {
	q := made(t, 4, 128, 1)
	b, w := run(128, 100), run(130, 1)
	q.asked(api.Request{Id: 1, Kind: api.ReqWrite, Offset: 127, Length: 130, Data: w}, hands(read(1, 0)))
	q.asked(api.Request{Id: 2, Kind: api.ReqRead, Offset: 384, Length: 1}, gives{})
	q.answered(api.Answer{Id: 1, Data: b}, hands(write(2, 0, b[:127], w[:1])))
	q.answered(ok(2), hands(write(3, 1, w[1:129])))
	q.answered(ok(3), hands(read(4, 2)))
	q.answered(api.Answer{Id: 4, Data: b}, hands(write(5, 2, w[129:], b[1:])))
	q.answered(ok(5), replies(api.Reply{Id: 1}).and(read(6, 3)))
}

// TestRowOfThree: who waits for one waits for those ahead of it alone, and comes ahead of later ones when its way is free.
func TestRowOfThree(t *testing.T) {
	q := made(t, 4, 128, 1)
	b := run(128, 100)
	q.asked(api.Request{Id: 1, Kind: api.ReqRead, Length: 1}, hands(read(1, 0)))
	q.asked(api.Request{Id: 2, Kind: api.ReqRead, Offset: 127, Length: 2}, gives{})
	q.asked(api.Request{Id: 3, Kind: api.ReqRead, Offset: 128, Length: 1}, gives{})
	q.asked(api.Request{Id: 4, Kind: api.ReqRead, Offset: 256, Length: 1}, gives{})
	q.asked(api.Request{Id: 5, Kind: api.ReqRead, Offset: 128, Length: 256}, gives{})
	q.answered(api.Answer{Id: 1, Data: b}, replies(api.Reply{Id: 1, Data: b[:1]}).and(read(2, 0)))
	q.answered(api.Answer{Id: 2, Data: b}, hands(read(3, 1)))
	q.answered(api.Answer{Id: 3, Data: b}, replies(api.Reply{Id: 2, Data: []byte{b[127], b[0]}}).and(read(4, 1)))
	q.answered(api.Answer{Id: 4, Data: b}, replies(api.Reply{Id: 3, Data: b[:1]}).and(read(5, 2)))
	q.answered(api.Answer{Id: 5, Data: b}, replies(api.Reply{Id: 4, Data: b[:1]}).and(read(6, 1)))
	q.answered(api.Answer{Id: 6, Data: b}, hands(read(7, 2)))
	q.answered(api.Answer{Id: 7, Data: b}, replies(api.Reply{Id: 5, Data: join(b, b)}))
}
