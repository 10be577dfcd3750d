package tests

import (
	"encoding/hex"
	"math"
	"math/rand"
	"testing"

	"loop.example/quoin/impl"
)

// numbersOf are numbers that fit so many bytes, those at the bounds among them.
func numbersOf(r *rand.Rand, size int) []int {
	if size == 8 {
		return []int{0, 1, -1, -2, math.MinInt, math.MaxInt, math.MinInt + 1, 0x0102030405060708, int(r.Uint64())}
	}
	top := 1<<(8*size) - 1
	return []int{0, 1, top, top - 1, top / 2, top/2 + 1, r.Intn(top + 1)}
}

// bytesAt is what Get must be, told byte by byte.
func bytesAt(text string, at, size int) int {
	n := uint64(0)
	for i := range size {
		if at+i < len(text) {
			n += uint64(text[at+i]) << (8 * i)
		}
	}
	return int(n)
}

// Promise 1.
func TestNumberThatWasPutIsGot(t *testing.T) {
	r := rand.New(rand.NewSource(1))
	for range 20 {
		text := someWords(r, 5) + someWord(r)
		for _, size := range []int{1, 2, 4, 8} {
			for at := 0; at < len(text); at += size {
				was := impl.Get(text, at, size)
				if was != bytesAt(text, at, size) {
					t.Fatalf("Get of %x at %d size %d is %d", text, at, size, was)
				}
				for _, n := range numbersOf(r, size) {
					x := put(t, text, at, size, n)
					if impl.Get(x, at, size) != n || len(x) != len(text) || x[:at] != text[:at] || x[at+size:] != text[at+size:] {
						t.Fatalf("Put of %d at %d size %d is %x", n, at, size, x)
					}
					if put(t, x, at, size, was) != text {
						t.Fatalf("Put of what was at %d size %d does not lead back", at, size)
					}
				}
			}
		}
	}
}

// Promise 1: at the bounds of what a message is.
func TestNumberAtTheLastWord(t *testing.T) {
	text := noughts(impl.WordMax)
	for _, size := range []int{1, 2, 4, 8} {
		at := len(text) - size
		x := put(t, text, at, size, 200)
		if impl.Get(x, at, size) != 200 || x[at] != 200 {
			t.Errorf("size %d", size)
		}
	}
}

// Promise 1: highest bit 1.
func TestNumberWithTheHighestBit(t *testing.T) {
	for _, c := range []struct {
		size, n int
		hex     string
	}{
		{1, 128, "8000000000000000"}, {1, 255, "ff00000000000000"},
		{2, 32768, "0080000000000000"}, {2, 65535, "ffff000000000000"},
		{4, 2147483648, "0000008000000000"}, {4, 4294967295, "ffffffff00000000"},
		{8, math.MinInt, "0000000000000080"}, {8, -1, "ffffffffffffffff"}, {8, -2, "feffffffffffffff"},
		{8, math.MaxInt, "ffffffffffffff7f"},
	} {
		x := put(t, noughts(1), 0, c.size, c.n)
		if impl.Hex(x) != c.hex || impl.Get(x, 0, c.size) != c.n {
			t.Errorf("size %d of %d: %s, %d", c.size, c.n, impl.Hex(x), impl.Get(x, 0, c.size))
		}
	}
}

// Promise 1: what may not be is told by one fixed answer.
func TestNumberThatMayNotBe(t *testing.T) {
	text := "abcdefghijklmnop"
	for _, c := range [][3]int{
		{1, 2, 0}, {2, 4, 0}, {4, 8, 0}, {7, 8, 0}, // at no multiple of size
		{16, 1, 0}, {16, 2, 0}, {16, 4, 0}, {16, 8, 0}, {1600, 1, 0}, {1600, 8, 0}, {1608, 8, 0}, // behind the end
		{0, 0, 0}, {0, 3, 0}, {0, 5, 0}, {0, 6, 0}, {0, 7, 0}, {0, 16, 0}, {0, -1, 0}, {0, -8, 0}, // no size
		{0, 1, 256}, {0, 2, 65536}, {0, 4, 4294967296}, {0, 1, -1}, {0, 2, -1}, {0, 4, -1}, // too great, below 0
		{0, 4, math.MinInt}, {0, 4, math.MaxInt}, {0, 1, math.MinInt}, {0, 1, math.MaxInt},
		{-1, 1, 0}, {-2, 2, 0}, {-4, 4, 0}, {-8, 8, 0},
	} {
		if x, ok := impl.Put(text, c[0], c[1], c[2]); ok || x != text {
			t.Errorf("Put at %d size %d of %d: %q, %v", c[0], c[1], c[2], x, ok)
		}
		if n := impl.Get(text, c[0], c[1]); c[2] == 0 && n != 0 {
			t.Errorf("Get at %d size %d: %d", c[0], c[1], n)
		}
	}
	for _, odd := range strange() {
		x, ok := impl.Put(text, odd, 8, 0)
		y, fine := impl.Put(text, 0, odd, 0)
		if ok || fine || x != text || y != text || impl.Get(text, odd, 8) != 0 || impl.Get(text, odd, 1) != 0 || impl.Get(text, 0, odd) != 0 {
			t.Errorf("with %d", odd)
		}
	}
	for _, none := range noWords() {
		if x, ok := impl.Put(none, 0, 1, 1); ok || x != "" {
			t.Errorf("Put into %d bytes: %q, %v", len(none), x, ok)
		}
		for _, size := range []int{1, 2, 4, 8} {
			if impl.Get(none, 0, size) != 0 {
				t.Errorf("Get of %d bytes", len(none))
			}
		}
	}
	if x, ok := impl.Put("", 0, 1, 0); ok || x != "" || impl.Get("", 0, 8) != 0 {
		t.Errorf("of no words: %q, %v", x, ok)
	}
}

// Promise 2.
func TestNumberOfTwoHalves(t *testing.T) {
	r := rand.New(rand.NewSource(2))
	for range 100 {
		text := someWords(r, 4)
		for _, half := range []int{1, 2, 4} {
			for at := 0; at <= len(text); at += 2 * half {
				low, high := uint64(impl.Get(text, at, half)), uint64(impl.Get(text, at+half, half))
				if impl.Get(text, at, 2*half) != int(low|high<<(8*half)) {
					t.Fatalf("%x at %d: %d and %d", text, at, low, high)
				}
			}
		}
	}
	if impl.Get("\x01\x02\x03\x04\x05\x06\x07\x88", 0, 2) != 0x0201 || impl.Get("\x01\x02\x03\x04\x05\x06\x07\x88", 4, 4) != 0x88070605 {
		t.Error("the lowest byte is not the first")
	}
}

// Promise 3.
func TestBitThatWasPutIsGot(t *testing.T) {
	r := rand.New(rand.NewSource(3))
	for range 20 {
		text := someWords(r, 3) + someWord(r)
		for at := range 8 * len(text) {
			was := impl.BitGet(text, at)
			if was != int(text[at/8]>>(at%8)&1) {
				t.Fatalf("BitGet of %x at %d is %d", text, at, was)
			}
			x, ok := impl.BitPut(text, at, 1-was)
			back, fine := impl.BitPut(x, at, was)
			same, too := impl.BitPut(text, at, was)
			if !ok || !fine || !too || back != text || same != text || impl.BitGet(x, at) != 1-was {
				t.Fatalf("BitPut of %x at %d", text, at)
			}
			for other := range 8 * len(text) {
				if other != at && impl.BitGet(x, other) != impl.BitGet(text, other) {
					t.Fatalf("BitPut at %d changes %d", at, other)
				}
			}
		}
		for at := range len(text) {
			n := 0
			for i := range 8 {
				n += impl.BitGet(text, 8*at+i) << i
			}
			if impl.Get(text, at, 1) != n {
				t.Fatalf("byte %d of %x is not its bits", at, text)
			}
		}
	}
}

// Promise 3: what may not be.
func TestBitThatMayNotBe(t *testing.T) {
	text := "\xff\xff\xff\xff\xff\xff\xff\xff"
	for _, at := range append(strange(), 64, 65, 128, 12800) {
		x, ok := impl.BitPut(text, at, 1)
		if ok || x != text || impl.BitGet(text, at) != 0 {
			t.Errorf("at %d: %q, %v", at, x, ok)
		}
	}
	for _, bit := range append(strange(), 2, 3, 256, 257) {
		if x, ok := impl.BitPut(text, 0, bit); ok || x != text {
			t.Errorf("bit %d: %q, %v", bit, x, ok)
		}
	}
	for _, none := range append(noWords(), text+"\xff") {
		if x, ok := impl.BitPut(none, 0, 1); ok || x != "" || impl.BitGet(none, 0) != 0 {
			t.Errorf("%d bytes: %q, %v", len(none), x, ok)
		}
	}
	if impl.BitGet("x", 3) != 0 || impl.BitGet("", 0) != 0 {
		t.Error("a bit that is not there is 1")
	}
	last := 64*impl.WordMax - 1
	x, ok := impl.BitPut(noughts(impl.WordMax), last, 1)
	if !ok || impl.BitGet(x, last) != 1 || x[len(x)-1] != 128 {
		t.Error("the last bit is not put")
	}
}

// Promise 4.
func TestTrim(t *testing.T) {
	r := rand.New(rand.NewSource(4))
	for range 300 {
		text := someWords(r, 6) + noughts(r.Intn(4))
		x := impl.Trim(text)
		if len(x) > len(text) || text[:len(x)] != x || len(x)%8 != 0 {
			t.Fatalf("%x: %x", text, x)
		}
		if len(x) > 0 && x[len(x)-8:] == noughts(1) {
			t.Fatalf("%x ends with noughts", x)
		}
		for at := 0; at < len(text); at += 8 {
			if impl.Get(x, at, 8) != impl.Get(text, at, 8) {
				t.Fatalf("%x: %x", text, x)
			}
		}
	}
	for _, c := range [][2]string{
		{"", ""}, {noughts(1), ""}, {noughts(impl.WordMax), ""},
		{"\x01" + noughts(1)[1:], "\x01" + noughts(1)[1:]}, {noughts(1)[1:] + "\x01", noughts(1)[1:] + "\x01"},
		{"abcdefgh" + noughts(3), "abcdefgh"}, {noughts(2) + "abcdefgh" + noughts(1), noughts(2) + "abcdefgh"},
		{"\x00\x00\x00\x00\x00\x00\x00\x80" + noughts(2), "\x00\x00\x00\x00\x00\x00\x00\x80"},
		{noughts(impl.WordMax-1) + "abcdefgh", noughts(impl.WordMax-1) + "abcdefgh"},
	} {
		if impl.Trim(c[0]) != c[1] {
			t.Errorf("%x: %x", c[0], impl.Trim(c[0]))
		}
	}
	for _, none := range noWords() {
		if impl.Trim(none) != "" {
			t.Errorf("%d bytes: %q", len(none), impl.Trim(none))
		}
	}
}

// Promise 5.
func TestHex(t *testing.T) {
	all := make([]byte, 256)
	for i := range all {
		all[i] = byte(i)
	}
	text := string(all) + "héllo" + noughts(impl.WordMax) + "x"
	if impl.Hex(text) != hex.EncodeToString([]byte(text)) || impl.Hex("") != "" || impl.Hex("\x00\x09\x0a\xf0\xff") != "00090af0ff" {
		t.Error(impl.Hex(text))
	}
	for cut := range len(text) {
		if impl.Hex(text[:cut])+impl.Hex(text[cut:]) != impl.Hex(text) {
			t.Fatalf("cut at %d", cut)
		}
	}
}

// Promise 35.
func TestNumbersPutInEitherOrder(t *testing.T) {
	r := rand.New(rand.NewSource(5))
	sizes := []int{1, 2, 4, 8}
	for range 3000 {
		text := someWords(r, 3) + someWord(r)
		a, b := sizes[r.Intn(4)], sizes[r.Intn(4)]
		x, y := r.Intn(len(text)/a)*a, r.Intn(len(text)/b)*b
		if x < y+b && y < x+a {
			continue
		}
		m, n := numbersOf(r, a), numbersOf(r, b)
		first, second := m[r.Intn(len(m))], n[r.Intn(len(n))]
		one := put(t, put(t, text, x, a, first), y, b, second)
		other := put(t, put(t, text, y, b, second), x, a, first)
		if one != other || impl.Get(one, x, a) != first || impl.Get(one, y, b) != second {
			t.Fatalf("%x: %d at %d, %d at %d: %x and %x", text, first, x, second, y, one, other)
		}
	}
}
