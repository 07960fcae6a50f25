package meta

import (
	"math"
	"testing"

	"replica/actlog"
	"replica/api"
)

var (
	sizes = []int{128, 256, 512, 1024}
	// noSizes: near the four, their negatives, other powers of two, the ends of the numbers.
	noSizes = []int{math.MinInt, -1024, -128, -1, 0, 1, 2, 64, 100, 127, 129, 192, 255, 257, 384, 511, 513, 768, 1023, 1025, 2048, 1<<32 + 128, math.MaxInt}
)

func wantPlan(t *testing.T, want api.Layout) {
	t.Helper()
	if l, e := Plan(want.Blocks, want.Size, want.Slots); l != want || e != api.OK {
		t.Errorf("Plan(%d, %d, %d): %+v, %d, want %+v", want.Blocks, want.Size, want.Slots, l, e, want)
	}
}

func wantNoPlan(t *testing.T, blocks, size, slots int) {
	t.Helper()
	if l, e := Plan(blocks, size, slots); l != (api.Layout{}) || e != api.ErrArg {
		t.Errorf("Plan(%d, %d, %d): %+v, %d, want ErrArg", blocks, size, slots, l, e)
	}
}

// P502.
func TestPlan(t *testing.T) {
	wantPlan(t, api.Layout{Blocks: 4, Size: 128, Slots: 1, Bitmap: 4, BitmapBlocks: 1, Log: 5, LogBlocks: 1, Super: 6, Total: 8})
	wantPlan(t, api.Layout{Blocks: 1024, Size: 128, Slots: 16, Bitmap: 1024, BitmapBlocks: 1, Log: 1025, LogBlocks: 4, Super: 1029, Total: 1031})
	wantPlan(t, api.Layout{Blocks: 1025, Size: 128, Slots: 5, Bitmap: 1025, BitmapBlocks: 2, Log: 1027, LogBlocks: 2, Super: 1029, Total: 1031})
	wantPlan(t, api.Layout{Blocks: 4096, Size: 128, Slots: 9, Bitmap: 4096, BitmapBlocks: 4, Log: 4100, LogBlocks: 4, Super: 4104, Total: 4106})
	wantPlan(t, api.Layout{Blocks: 1, Size: 1024, Slots: 4, Bitmap: 1, BitmapBlocks: 1, Log: 2, LogBlocks: 1, Super: 3, Total: 5})
}

// P502: every device there is; the bitmap's area is held against counting, the log against the ring of layer 4.
func TestEveryPlan(t *testing.T) {
	for _, size := range sizes {
		area, room := 0, 0
		for blocks := 1; blocks <= api.MaxBlocks; blocks++ {
			if room == 0 {
				area, room = area+1, 8*size
			}
			room--
			for slots := 1; slots <= api.MaxSlots; slots++ {
				ring := actlog.Ring(slots)
				wantPlan(t, api.Layout{
					Blocks: blocks, Size: size, Slots: slots,
					Bitmap: blocks, BitmapBlocks: area,
					Log: blocks + area, LogBlocks: ring,
					Super: blocks + area + ring,
					Total: blocks + area + ring + 2,
				})
			}
		}
	}
}

// P502.
func TestPlanRefused(t *testing.T) {
	for _, blocks := range []int{math.MinInt, -4, -1, 0, 4097, 1<<32 + 4, math.MaxInt} {
		wantNoPlan(t, blocks, 128, 1)
	}
	for _, size := range noSizes {
		wantNoPlan(t, 4, size, 1)
	}
	for _, slots := range []int{math.MinInt, -1, 0, 17, 1<<32 + 1, math.MaxInt} {
		wantNoPlan(t, 4, 128, slots)
	}
	wantNoPlan(t, 0, 0, 0)
}

func wantArea(t *testing.T, i, size, want int, wantErr api.Errno) {
	t.Helper()
	if at, e := Area(i, size); at != want || e != wantErr {
		t.Errorf("Area(%d, %d): %d, %d, want %d, %d", i, size, at, e, want, wantErr)
	}
}

// P508: every bit of every size.
func TestArea(t *testing.T) {
	for _, size := range sizes {
		for i := range api.MaxBits {
			wantArea(t, i, size, i/8/size, api.OK)
		}
	}
	wantArea(t, 1023, 128, 0, api.OK)
	wantArea(t, 1024, 128, 1, api.OK)
	wantArea(t, 65535, 1024, 7, api.OK)
}

// P508.
func TestAreaRefused(t *testing.T) {
	for _, i := range []int{math.MinInt, -1024, -1, 65536, 65537, 1 << 32, math.MaxInt} {
		for _, size := range sizes {
			wantArea(t, i, size, 0, api.ErrRange)
		}
		wantArea(t, i, 100, 0, api.ErrArg)
	}
	for _, size := range noSizes {
		wantArea(t, 0, size, 0, api.ErrArg)
		wantArea(t, 65535, size, 0, api.ErrArg)
	}
}
