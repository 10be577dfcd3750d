package tests

import (
	"math/rand"
	"strings"
	"testing"

	"loop.example/quoin/impl"
)

// someSegs is segments that are ok.
func someSegs(r *rand.Rand) []string {
	var out []string
	for range 1 + r.Intn(impl.SegMax) {
		out = append(out, someWords(r, 5))
	}
	return out
}

// boundSegs are segments at the bounds of what is ok.
func boundSegs() [][]string {
	full := strings.Repeat("abcdefgh", impl.WordMax)
	return [][]string{
		{""}, {"", ""}, {"", "", "", "", "", ""}, {"abcdefgh"}, {noughts(1)}, {noughts(3), "", noughts(1)},
		{full}, {"", full}, {full[:800], full[:800]}, {full[:8], full[:8], full[:8], full[:8], full[:8], full[:1560]},
	}
}

// badSegs are texts that are no segments.
func badSegs() [][]string {
	full := strings.Repeat("abcdefgh", impl.WordMax)
	return [][]string{
		nil, {}, {"", "", "", "", "", "", ""}, {"x"}, {"abcdefg"}, {"abcdefgh", "abcdefghi"}, {"abcd", "efgh"},
		{full + "abcdefgh"}, {full, "abcdefgh"}, {full[:800], full[:808]}, {full, full},
	}
}

// Promise 8: what is ok.
func TestFrameOk(t *testing.T) {
	for i, segs := range boundSegs() {
		if !impl.FrameOk(segs) {
			t.Errorf("bound %d is not ok", i)
		}
	}
	for i, segs := range badSegs() {
		if impl.FrameOk(segs) || impl.FramePut(segs) != "" {
			t.Errorf("bad %d is ok", i)
		}
	}
}

// Promise 8.
func TestSegmentsAreReadBack(t *testing.T) {
	r := rand.New(rand.NewSource(7))
	all := boundSegs()
	for range 300 {
		all = append(all, someSegs(r))
	}
	for _, segs := range all {
		was := strings.Join(segs, "|")
		text := impl.FramePut(segs)
		for _, behind := range []string{"", "x", "\x00", "\xff\xff\xff\xff", text, noughts(impl.WordMax + 1)} {
			back, n := impl.FrameGet(text + behind)
			if n != len(text) || !sameTexts(back, segs) || impl.FramePut(back) != text {
				t.Fatalf("%q: %q, %d", segs, back, n)
			}
		}
		if strings.Join(segs, "|") != was {
			t.Fatal("the segments were written into")
		}
	}
}

// Promise 8: what is read of any bytes is written as they are.
func TestFrameOfAnyBytes(t *testing.T) {
	r := rand.New(rand.NewSource(8))
	for range 20000 {
		text := make([]byte, r.Intn(60))
		for i := range text {
			if r.Intn(3) == 0 {
				text[i] = byte(r.Intn(4))
			}
		}
		segs, n := impl.FrameGet(string(text))
		if n > 0 && impl.FramePut(segs) != string(text[:n]) || n <= 0 && len(segs) != 0 || n < -1 {
			t.Fatalf("%x: %q, %d", text, segs, n)
		}
	}
}

// Promise 8: the first of what is wrong.
func TestFrameThatIsNone(t *testing.T) {
	full := strings.Repeat("abcdefgh", impl.WordMax)
	for i, c := range []struct {
		text string
		n    int
	}{
		{"", 0}, {"\xff\xff\xff", 0}, {"\x00\x00\x00", 0},
		{"\x06\x00\x00\x00", -1}, {"\xff\xff\xff\xff", -1}, {"\xff\xff\xff\x7f", -1}, {"\x00\x00\x00\x80", -1}, {"\x05\x01\x00\x00", -1}, {"\x06\x00\x00\x00" + noughts(9), -1},
		{"\x00\x00\x00\x00", 0}, {"\x05\x00\x00\x00", 0}, {"\x05\x00\x00\x00" + noughts(2), 0}, {"\x05\x00\x00\x00" + noughts(3) + "\x00\x00\x00", 0}, {"\x05\x00\x00\x00" + noughts(3) + "\x00\x00\x00\x00", 32},
		{"\x00\x00\x00\x00\xff\xff\xff", 0}, {"\x01\x00\x00\x00\xff\xff\xff\xff\xff\xff\xff\xff\xff\xff\xff", 0},
		{"\x00\x00\x00\x00\xc8\x00\x00\x00", 0}, {"\x00\x00\x00\x00\xc9\x00\x00\x00", -1}, {"\x00\x00\x00\x00\xff\xff\xff\xff", -1}, {"\x00\x00\x00\x00\x00\x00\x00\x80", -1},
		{"\x00\x00\x00\x00\xc8\x00\x00\x00" + full, 1608}, {"\x00\x00\x00\x00\xc8\x00\x00\x00" + full[1:], 0}, {"\x00\x00\x00\x00\xc9\x00\x00\x00" + full + full, -1},
		{"\x02\x00\x00\x00\x64\x00\x00\x00\x64\x00\x00\x00\x01\x00\x00\x00", -1}, {"\x02\x00\x00\x00\x64\x00\x00\x00\x64\x00\x00\x00\x00\x00\x00\x00", 0},
		{"\x01\x00\x00\x00" + noughts(1) + "\x01\x00\x00\x00", -1}, {"\x01\x00\x00\x00" + noughts(1) + "\x00\x00\x00\x80", -1}, {"\x01\x00\x00\x00" + noughts(1) + "\x00\x00\x00\x00", 16},
		{"\x01\x00\x00\x00\x01\x00\x00\x00\x00\x00\x00\x00\x00\x01\x00\x00", -1}, // both the fill and the segments are wrong
		{"\x01\x00\x00\x00" + noughts(1) + "\x01\x00\x00", 0},
		{"\x00\x00\x00\x00\x01\x00\x00\x00abcdefg", 0}, {"\x00\x00\x00\x00\x01\x00\x00\x00abcdefgh", 16},
	} {
		segs, n := impl.FrameGet(c.text)
		if n != c.n || n <= 0 && len(segs) != 0 {
			t.Errorf("case %d: %q, %d, not %d", i, segs, n, c.n)
		}
	}
}

// Promise 9.
func TestFrameThatBreaksOff(t *testing.T) {
	r := rand.New(rand.NewSource(9))
	all := boundSegs()
	for range 50 {
		all = append(all, someSegs(r))
	}
	for _, segs := range all {
		text := impl.FramePut(segs)
		for cut := range len(text) {
			if back, n := impl.FrameGet(text[:cut]); n != 0 || len(back) != 0 {
				t.Fatalf("%d of %d bytes: %q, %d", cut, len(text), back, n)
			}
		}
	}
}

// Promise 37.
func TestFramesOneBehindTheOther(t *testing.T) {
	r := rand.New(rand.NewSource(10))
	for range 300 {
		a, b := someSegs(r), someSegs(r)
		text := impl.FramePut(a) + impl.FramePut(b)
		first, n := impl.FrameGet(text)
		if n <= 0 {
			t.Fatalf("%q: %d", a, n)
		}
		second, m := impl.FrameGet(text[n:])
		if !sameTexts(first, a) || !sameTexts(second, b) || n+m != len(text) {
			t.Fatalf("%q, %q: %q, %d, %q, %d", a, b, first, n, second, m)
		}
	}
}

// Promise 84.
func TestLengthOfFrame(t *testing.T) {
	r := rand.New(rand.NewSource(11))
	all := boundSegs()
	for range 300 {
		all = append(all, someSegs(r))
	}
	for _, segs := range all {
		text := impl.FramePut(segs)
		head := 4 + 4*len(segs)
		if head%8 != 0 {
			head += 4
		}
		if len(text) != head+len(strings.Join(segs, "")) || text[head:] != strings.Join(segs, "") {
			t.Fatalf("%q: %x", segs, text)
		}
		if int(text[0]) != len(segs)-1 {
			t.Fatalf("%q: %x", segs, text)
		}
		for i, seg := range segs {
			at := 4 + 4*i
			if int(text[at]) != len(seg)/8 || text[at+1:at+4] != "\x00\x00\x00" {
				t.Fatalf("%q: %x", segs, text)
			}
		}
	}
	for _, c := range []struct {
		segs []string
		hex  string
	}{
		{[]string{""}, "0000000000000000"},
		{[]string{"abcdefgh"}, "00000000010000006162636465666768"},
		{[]string{"", "ABCDEFGH"}, "010000000000000001000000000000004142434445464748"},
		{[]string{"", "", ""}, "02000000000000000000000000000000"},
	} {
		if got := impl.Hex(impl.FramePut(c.segs)); got != c.hex {
			t.Errorf("%q: %s", c.segs, got)
		}
	}
	if got := impl.FramePut([]string{noughts(impl.WordMax)}); impl.Hex(got[:8]) != "00000000c8000000" {
		t.Errorf("%x", got[:8])
	}
}
