package walk

import (
	"bytes"
	"crypto/sha256"
	"math"
	"runtime"
	"slices"
	"strings"
	"testing"

	"replica/api"
	"replica/digest"
)

// randomBlocks: blocks of up to that many bytes, nil ones among them; some are the same memory.
func randomBlocks(d *dice, count int, most int) [][]byte {
	blocks := make([][]byte, count)
	for i := range blocks {
		switch d.below(8) {
		case 0:
		case 1:
			blocks[i] = blocks[d.below(i+1)]
		default:
			blocks[i] = make([]byte, d.below(most+1))
			for k := range blocks[i] {
				blocks[i][k] = byte(d.below(256))
			}
		}
	}
	return blocks
}

// plainSums: the digests by the library, one after the other.
func plainSums(blocks [][]byte) [][32]byte {
	sums := make([][32]byte, len(blocks))
	for i, block := range blocks {
		sums[i] = sha256.Sum256(block)
	}
	return sums
}

func plainDiffer(blocks [][]byte, sums [][32]byte) int {
	for i, block := range blocks {
		if sha256.Sum256(block) != sums[i] {
			return i
		}
	}
	return -1
}

func wantSums(t *testing.T, blocks [][]byte, workers int, want [][32]byte) {
	t.Helper()
	if got, e := Sums(blocks, workers); e != api.OK || !slices.Equal(got, want) {
		t.Fatalf("P1308, P1310: Sums of %d blocks by %d workers: %d sums, %v", len(blocks), workers, len(got), e)
	}
}

func wantDiffer(t *testing.T, blocks [][]byte, sums [][32]byte, workers int, want int) {
	t.Helper()
	if got, e := Differ(blocks, sums, workers); got != want || e != api.OK {
		t.Fatalf("P1309, P1310: Differ of %d blocks by %d workers: %d, %v, want %d", len(blocks), workers, got, e, want)
	}
}

func unhex(t *testing.T, s string) [32]byte {
	t.Helper()
	sum, e := digest.Unhex(strings.ReplaceAll(s, " ", ""))
	if e != api.OK {
		t.Fatalf("%s: %v", s, e)
	}
	return sum
}

// Examples 5 and 6.
func TestDigestExamples(t *testing.T) {
	abc := unhex(t, "ba7816bf 8f01cfea 414140de 5dae2223 b00361a3 96177a9c b410ff61 f20015ad")
	empty := unhex(t, "e3b0c442 98fc1c14 9afbf4c8 996fb924 27ae41e4 649b934c a495991b 7852b855")
	three := [][]byte{[]byte("abc"), {}, nil}
	for workers := 1; workers <= 16; workers++ {
		wantSums(t, three, workers, [][32]byte{abc, empty, empty})
		wantDiffer(t, three, [][32]byte{abc, abc, abc}, workers, 1)
		wantDiffer(t, three, [][32]byte{abc, empty, empty}, workers, -1)
		wantSums(t, nil, workers, nil)
		wantSums(t, [][]byte{}, workers, nil)
		wantDiffer(t, nil, nil, workers, -1)
		wantDiffer(t, [][]byte{}, [][32]byte{}, workers, -1)
		if i, e := Differ(three, [][32]byte{abc, empty}, workers); i != 0 || e != api.ErrSize {
			t.Errorf("P1309: two sums of three blocks: %d, %v", i, e)
		}
	}
	if sums, e := Sums(nil, 0); len(sums) != 0 || e != api.ErrArg {
		t.Errorf("P1308: Sums(nil, 0): %v, %v", sums, e)
	}
	if i, e := Differ(three, [][32]byte{abc, empty, empty}, 17); i != 0 || e != api.ErrArg {
		t.Errorf("P1309: 17 workers: %d, %v", i, e)
	}
}

// P1308, P1309: each error, and which is told where several apply.
func TestDigestRefuses(t *testing.T) {
	for _, workers := range []int{math.MinInt, -1, 0, 1, 2, 15, 16, 17, 1 << 32, math.MaxInt} {
		for _, count := range []int{0, 1, 5, 4095, 4096, 4097, 9000} {
			for _, more := range []int{-count, -1, 0, 1, 4096} {
				wantRefusal(t, count, max(count+more, 0), workers)
			}
		}
	}
}

func wantRefusal(t *testing.T, count, sums, workers int) {
	t.Helper()
	want, index := api.OK, 0
	switch {
	case workers < 1 || workers > 16:
		want = api.ErrArg
	case count > 4096:
		want = api.ErrLong
	}
	got, e := Sums(make([][]byte, count), workers)
	if e != want || e != api.OK && len(got) != 0 || e == api.OK && len(got) != count {
		t.Errorf("P1308: %d blocks, %d workers: %d sums, %v, want %v", count, workers, len(got), e, want)
	}
	switch {
	case want != api.OK:
	case sums != count:
		want = api.ErrSize
	case count == 0:
		index = -1
	}
	// Of no block is all zero the digest: the first differs, if there is one.
	if i, e := Differ(make([][]byte, count), make([][32]byte, sums), workers); i != index || e != want {
		t.Errorf("P1309: %d blocks, %d sums, %d workers: %d, %v, want %d, %v", count, sums, workers, i, e, index, want)
	}
}

// P1308, P1310: any blocks, any number of workers, fewer and more than blocks.
func TestSumsOfAny(t *testing.T) {
	d := dice(1308)
	for _, procs := range []int{1, 2, 8} {
		old := runtime.GOMAXPROCS(procs)
		for workers := 1; workers <= 16; workers++ {
			for _, count := range []int{0, 1, 2, workers - 1, workers, workers + 1, 3*workers + 1, d.below(200)} {
				blocks := randomBlocks(&d, count, 300)
				wantSums(t, blocks, workers, plainSums(blocks))
			}
		}
		runtime.GOMAXPROCS(old)
	}
	full := randomBlocks(&d, 4096, 1024)
	want := plainSums(full)
	for _, workers := range []int{1, 3, 16} {
		wantSums(t, full, workers, want)
		wantDiffer(t, full, want, workers, -1)
	}
}

// P1308: lengths about the edges of a chunk, and great ones beside small ones.
func TestSumsOfLengths(t *testing.T) {
	var blocks [][]byte
	for _, length := range []int{1 << 20, 0, 1, 55, 56, 57, 63, 64, 65, 119, 120, 127, 128, 129, 1023, 1024, 1025, 1 << 18} {
		blocks = append(blocks, bytes.Repeat([]byte{0xa5, byte(length)}, length)[:length])
	}
	for workers := 1; workers <= 16; workers++ {
		wantSums(t, blocks, workers, plainSums(blocks))
	}
}

// P1309, P1310: the least of those that differ, wherever they stand.
func TestDifferOfAny(t *testing.T) {
	d := dice(1309)
	for _, procs := range []int{1, 2, 8} {
		old := runtime.GOMAXPROCS(procs)
		for workers := 1; workers <= 16; workers++ {
			for range 30 {
				blocks := randomBlocks(&d, d.below(80), 200)
				sums := plainSums(blocks)
				wantDiffer(t, blocks, sums, workers, -1)
				for range d.below(5) {
					if len(sums) > 0 {
						sums[d.below(len(sums))][d.below(32)] ^= 1 << d.below(8)
					}
				}
				wantDiffer(t, blocks, sums, workers, plainDiffer(blocks, sums))
			}
		}
		runtime.GOMAXPROCS(old)
	}
}

// P1309: one that differs, at each place, and in each byte of its digest.
func TestDifferAtEach(t *testing.T) {
	d := dice(9)
	blocks := randomBlocks(&d, 33, 100)
	sums := plainSums(blocks)
	for i := range blocks {
		for _, workers := range []int{1, 2, 5, 16} {
			sums[i][i%32] ^= 0x80
			wantDiffer(t, blocks, sums, workers, i)
			sums[i][i%32] ^= 0x80
		}
	}
}

// P1309, P1310: a great block that differs ahead of small ones that do: these are found first, and it is told all the same.
func TestDifferWithASlowFirst(t *testing.T) {
	blocks := [][]byte{[]byte("same"), make([]byte, 1<<20)}
	for range 60 {
		blocks = append(blocks, []byte{1})
	}
	sums := plainSums(blocks)
	for i := 1; i < len(sums); i++ {
		sums[i][0]++
	}
	for workers := 1; workers <= 16; workers++ {
		wantDiffer(t, blocks, sums, workers, 1)
	}
	sums[1][0]--
	for workers := 1; workers <= 16; workers++ {
		wantDiffer(t, blocks, sums, workers, 2)
	}
}

// P1301: what is handed in stays as it is, its spare room too, and an answer is new memory.
func TestDigestsShareNothing(t *testing.T) {
	d := dice(1301)
	whole := randomBlocks(&d, 20, 50)
	for i, block := range whole {
		whole[i] = append(slices.Clone(block), 1, 2, 3)[:len(block)]
	}
	kept := slices.Clone(whole)
	room := make([][]byte, len(whole))
	for i, block := range whole {
		room[i] = slices.Clone(block[:cap(block)])
	}
	blocks := whole[:15]
	one, _ := Sums(blocks, 4)
	two, _ := Sums(blocks, 4)
	given := append(slices.Clone(one), [32]byte{7}, [32]byte{8})
	wantDiffer(t, blocks, given[:15], 4, -1)
	if !slices.Equal(given, append(slices.Clone(one), [32]byte{7}, [32]byte{8})) {
		t.Errorf("P1301: the sums that were handed in were changed")
	}
	for i, block := range whole {
		if len(block) != len(kept[i]) || !bytes.Equal(block[:cap(block)], room[i]) {
			t.Errorf("P1301: block %d was changed", i)
		}
	}
	want := plainSums(blocks)
	one = one[:cap(one)]
	for i := range one {
		one[i] = [32]byte{0xff}
	}
	for i := range blocks {
		clear(blocks[i])
	}
	if !slices.Equal(two, want) {
		t.Errorf("P1301: an answer changed behind its call")
	}
}

// digesting tells how many goroutines are at work on a digest.
func digesting() int {
	buffer := make([]byte, 1<<20)
	return strings.Count(string(buffer[:runtime.Stack(buffer, true)]), "replica/digest.Sum256(")
}

// P1310: great blocks behind the one that differs are at work when the answer stands; the call waits for their workers.
func TestDifferWaitsForItsWorkers(t *testing.T) {
	great := make([]byte, 1<<22)
	blocks := [][]byte{nil, great, great, great, great, great, great}
	for workers := 1; workers <= 16; workers += 3 {
		wantDiffer(t, blocks, make([][32]byte, len(blocks)), workers, 0)
		if n := digesting(); n != 0 {
			t.Fatalf("P1310: %d workers are at work behind the call", n)
		}
	}
}
