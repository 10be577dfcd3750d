package tests

import (
	"math"
	"math/rand"
	"testing"

	"loop.example/quoin/impl"
)

const (
	offTop  = 1<<29 - 1
	wideTop = 1<<16 - 1
	segTop  = 1<<32 - 1
)

// points are pointers that can be written: each part at its bounds.
func points() []impl.Point {
	out := []impl.Point{{}}
	for _, off := range []int{0, 1, -1, -2, 2, offTop, -offTop, -offTop - 1} {
		for _, n := range []int{0, 1, 255, 256, 32768, wideTop} {
			out = append(out, impl.Point{Kind: impl.PointStruct, Off: off, Data: n, Ptrs: 1}, impl.Point{Kind: impl.PointStruct, Off: off, Data: 1, Ptrs: n})
			if off != 0 {
				out = append(out, impl.Point{Kind: impl.PointStruct, Off: off})
			}
		}
		for size := impl.SizeVoid; size <= impl.SizeMany; size++ {
			for _, count := range []int{0, 1, 2, 1 << 28, offTop} {
				out = append(out, impl.Point{Kind: impl.PointList, Off: off, Size: size, Count: count})
			}
		}
	}
	for _, off := range []int{0, 1, 1 << 28, offTop} {
		for _, seg := range []int{0, 1, 5, 1 << 31, segTop} {
			out = append(out, impl.Point{Kind: impl.PointFar, Off: off, Seg: seg}, impl.Point{Kind: impl.PointFar, Off: off, Seg: seg, Two: true})
		}
	}
	return append(out, impl.Point{Kind: impl.PointStruct, Data: 1}, impl.Point{Kind: impl.PointStruct, Ptrs: 1})
}

// badPoints are pointers that cannot be written.
func badPoints() []impl.Point {
	out := []impl.Point{
		{Off: 1}, {Data: 1}, {Ptrs: 1}, {Size: 1}, {Count: 1}, {Seg: 1}, {Two: true}, {Off: -1},
		{Kind: impl.PointStruct}, // it would be read as nothing
		{Kind: impl.PointStruct, Data: 1, Size: 1}, {Kind: impl.PointStruct, Data: 1, Count: 1}, {Kind: impl.PointStruct, Data: 1, Seg: 1}, {Kind: impl.PointStruct, Data: 1, Two: true},
		{Kind: impl.PointStruct, Data: wideTop + 1}, {Kind: impl.PointStruct, Ptrs: wideTop + 1}, {Kind: impl.PointStruct, Data: -1}, {Kind: impl.PointStruct, Ptrs: -1, Data: 1},
		{Kind: impl.PointStruct, Off: offTop + 1}, {Kind: impl.PointStruct, Off: -offTop - 2},
		{Kind: impl.PointList, Data: 1}, {Kind: impl.PointList, Ptrs: 1}, {Kind: impl.PointList, Seg: 1}, {Kind: impl.PointList, Two: true},
		{Kind: impl.PointList, Size: -1}, {Kind: impl.PointList, Size: 8}, {Kind: impl.PointList, Count: -1}, {Kind: impl.PointList, Count: offTop + 1},
		{Kind: impl.PointList, Off: offTop + 1}, {Kind: impl.PointList, Off: -offTop - 2},
		{Kind: impl.PointFar, Data: 1}, {Kind: impl.PointFar, Ptrs: 1}, {Kind: impl.PointFar, Size: 1}, {Kind: impl.PointFar, Count: 1},
		{Kind: impl.PointFar, Off: -1}, {Kind: impl.PointFar, Off: offTop + 1}, {Kind: impl.PointFar, Seg: -1}, {Kind: impl.PointFar, Seg: segTop + 1},
		{Kind: impl.PointBad}, {Kind: impl.PointBad, Off: 1}, {Kind: 5}, {Kind: -1},
	}
	for _, odd := range []int{math.MinInt, math.MaxInt, 1 << 32, -1 << 32, 1 << 30, -1 << 30} {
		out = append(out, impl.Point{Kind: odd}, impl.Point{Off: odd}, impl.Point{Seg: odd},
			impl.Point{Kind: impl.PointStruct, Data: 1, Off: odd}, impl.Point{Kind: impl.PointStruct, Data: odd}, impl.Point{Kind: impl.PointStruct, Ptrs: odd},
			impl.Point{Kind: impl.PointList, Off: odd}, impl.Point{Kind: impl.PointList, Size: odd}, impl.Point{Kind: impl.PointList, Count: odd},
			impl.Point{Kind: impl.PointFar, Off: odd}, impl.Point{Kind: impl.PointFar, Seg: odd - 1<<33})
	}
	return out
}

// Promise 6.
func TestPointIsReadBack(t *testing.T) {
	for _, p := range points() {
		w := impl.PointPut(p)
		if !impl.PointOk(p) || len(w) != 8 || impl.PointGet(w) != p {
			t.Errorf("%+v: %x, %+v", p, w, impl.PointGet(w))
		}
	}
	for _, p := range badPoints() {
		if impl.PointOk(p) || impl.PointPut(p) != "" {
			t.Errorf("%+v: %x", p, impl.PointPut(p))
		}
	}
}

// Promise 6: from the word on.
func TestWordOfPointIsWrittenBack(t *testing.T) {
	r := rand.New(rand.NewSource(6))
	for range 20000 {
		w := []byte(someWord(r))
		if r.Intn(4) == 0 {
			w[0] = byte(r.Intn(4))
		}
		p := impl.PointGet(string(w))
		if w[0]&3 == 3 {
			if p != (impl.Point{Kind: impl.PointBad}) || impl.PointPut(p) != "" {
				t.Fatalf("%x: %+v", w, p)
			}
			continue
		}
		if !impl.PointOk(p) || impl.PointPut(p) != string(w) {
			t.Fatalf("%x: %+v, %x", w, p, impl.PointPut(p))
		}
	}
	for _, none := range append(noWords(), "", noughts(2), "\x00\x00\x00\x00") {
		if p := impl.PointGet(none); p != (impl.Point{Kind: impl.PointBad}) {
			t.Errorf("%d bytes: %+v", len(none), p)
		}
	}
}

// Promise 6: where each part stands.
func TestWordsOfPoints(t *testing.T) {
	for _, c := range []struct {
		p   impl.Point
		hex string
	}{
		{impl.Point{}, "0000000000000000"},
		{impl.Point{Kind: impl.PointStruct, Off: 1}, "0400000000000000"},
		{impl.Point{Kind: impl.PointStruct, Off: -1}, "fcffffff00000000"},
		{impl.Point{Kind: impl.PointStruct, Off: -1 << 29}, "0000008000000000"},
		{impl.Point{Kind: impl.PointStruct, Off: offTop}, "fcffff7f00000000"},
		{impl.Point{Kind: impl.PointStruct, Data: 0x0102, Ptrs: 0xf304}, "00000000020104f3"},
		{impl.Point{Kind: impl.PointList}, "0100000000000000"},
		{impl.Point{Kind: impl.PointList, Off: -1, Size: impl.SizeMany, Count: offTop}, "fdffffffffffffff"},
		{impl.Point{Kind: impl.PointList, Off: -1 << 29, Size: impl.SizeBit, Count: 2}, "0100008011000000"},
		{impl.Point{Kind: impl.PointFar}, "0200000000000000"},
		{impl.Point{Kind: impl.PointFar, Off: offTop, Seg: 1 << 31}, "faffffff00000080"},
		{impl.Point{Kind: impl.PointFar, Two: true, Seg: segTop}, "06000000ffffffff"},
	} {
		if got := impl.Hex(impl.PointPut(c.p)); got != c.hex {
			t.Errorf("%+v: %s, not %s", c.p, got, c.hex)
		}
	}
}

// Promise 7.
func TestListWords(t *testing.T) {
	bits := []int{0, 1, 8, 16, 32, 64, 64}
	counts := []int{0, 1, 2, 3, 4, 5, 7, 8, 9, 15, 16, 17, 63, 64, 65, 127, 128, 129, 999999, 1000000}
	for size, each := range bits {
		for _, count := range counts {
			n := impl.ListWords(size, count)
			if n*64 < count*each || n > 0 && (n-1)*64 >= count*each || n < 0 {
				t.Errorf("%d of size %d: %d", count, size, n)
			}
		}
		for _, count := range append(strange(), 1000001) {
			if impl.ListWords(size, count) != -1 {
				t.Errorf("%d of size %d: %d", count, size, impl.ListWords(size, count))
			}
		}
	}
	for _, size := range append(strange(), impl.SizeMany, 8) {
		if impl.ListWords(size, 0) != -1 || impl.ListWords(size, 1) != -1 {
			t.Errorf("size %d: %d", size, impl.ListWords(size, 1))
		}
	}
}

// Promises 6 and 7: the numbers of kinds and sizes are those that stand in words.
func TestNumbersOfKindsAndSizes(t *testing.T) {
	kinds := [5]int{impl.PointNone, impl.PointStruct, impl.PointList, impl.PointFar, impl.PointBad}
	sizes := [8]int{impl.SizeVoid, impl.SizeBit, impl.SizeOne, impl.SizeTwo, impl.SizeFour, impl.SizeEight, impl.SizePoint, impl.SizeMany}
	if kinds != [5]int{0, 1, 2, 3, 4} || sizes != [8]int{0, 1, 2, 3, 4, 5, 6, 7} || impl.SegMax != 6 || impl.WordMax != 200 {
		t.Error(kinds, sizes, impl.SegMax, impl.WordMax)
	}
}
