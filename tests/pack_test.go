package tests

import (
	"math/bits"
	"math/rand"
	"strings"
	"testing"

	"loop.example/quoin/impl"
)

// maskOf tells which bytes of a word are not 0.
func maskOf(w string) byte {
	m := byte(0)
	for i := range 8 {
		if w[i] != 0 {
			m |= 1 << i
		}
	}
	return m
}

// packed is what Pack must be, told from the document: at each word, what stands for it and those taken with it.
func packed(text string) string {
	out := ""
	for at := 0; at < len(text); {
		w := text[at : at+8]
		at += 8
		m := maskOf(w)
		out += string([]byte{m}) + strings.ReplaceAll(w, "\x00", "")
		from := at
		for at < len(text) && at-from < 255*8 {
			next := maskOf(text[at : at+8])
			if m == 0 && next != 0 || m == 255 && bits.OnesCount8(next) < 7 || m != 0 && m != 255 {
				break
			}
			at += 8
		}
		if m == 0 || m == 255 {
			out += string([]byte{byte((at - from) / 8)})
		}
		if m == 255 {
			out += text[from:at]
		}
	}
	return out
}

// Promise 10.
func TestWordsThatWerePackedAreUnpacked(t *testing.T) {
	r := rand.New(rand.NewSource(12))
	for range 3000 {
		text := someWords(r, 30)
		x := impl.Pack(text)
		back, ok := impl.Unpack(x)
		if !ok || back != text || x != packed(text) || len(x) > 10*(len(text)/8) {
			t.Fatalf("%x: %x, %x", text, x, back)
		}
	}
	full := strings.Repeat("abcdefgh", impl.WordMax)
	for _, text := range []string{full, strings.Repeat("abcdefg\x00", impl.WordMax), strings.Repeat("a\x00b\x00c\x00d\x00", impl.WordMax), strings.Repeat("abcdefgh"+noughts(1), impl.WordMax/2)} {
		x := impl.Pack(text)
		back, ok := impl.Unpack(x)
		if !ok || back != text || x != packed(text) || len(x) > len(text)/8*10 {
			t.Errorf("%x: %x", text[:16], x)
		}
	}
	for i, none := range noWords() {
		if impl.Pack(none) != "" {
			t.Errorf("no words %d: %x", i, impl.Pack(none))
		}
	}
}

// Promise 10: a word with one nought, two noughts, a run of noughts at the end.
func TestPackedWords(t *testing.T) {
	for _, c := range []struct{ words, hex string }{
		{"", ""},
		{"\x00\x00\x00\x00\x00\x00\x00\x80", "8080"},
		{"a" + noughts(1)[1:], "0161"},
		{"abcdefg\x00", "7f61626364656667"},
		{"\x00bcdefgh", "fe62636465666768"},
		{"abcdefg\x00abcdefg\x00", "7f616263646566677f61626364656667"},
		{"abcdefgh", "ff616263646566676800"},
		{"abcdefghabcdefgh", "ff6162636465666768016162636465666768"},
		{"abcdefghabcd\x00fgh", "ff6162636465666768016162636400666768"},
		{"abcdefghabcd\x00fg\x00", "ff6162636465666768006f616263646667"},
		{"abcdefgh" + noughts(1), "ff6162636465666768000000"},
		{"abcdefgh" + noughts(3), "ff6162636465666768000002"},
		{noughts(1) + "abcdefgh", "0000ff616263646566676800"},
		{noughts(2) + "abcdefg\x00" + noughts(1), "00017f616263646566670000"},
		{"a" + noughts(1)[1:] + noughts(2), "01610001"},
		{"abcdefgh" + "\x00bcdefgh" + "a\x00cdefgh" + "abcdefgh" + "a\x00\x00defgh", "ff6162636465666768030062636465666768610063646566676861626364656667" + "68f96164656667" + "68"},
	} {
		if got := impl.Hex(impl.Pack(c.words)); got != c.hex {
			t.Errorf("%x: %s, not %s", c.words, got, c.hex)
		}
		back, ok := impl.Unpack(impl.Pack(c.words))
		if !ok || back != c.words {
			t.Errorf("%x: %x, %v", c.words, back, ok)
		}
	}
}

// Promise 11.
func TestWhatIsUnpackedIsWords(t *testing.T) {
	r := rand.New(rand.NewSource(13))
	fine := 0
	for range 50000 {
		text := make([]byte, r.Intn(24))
		for i := range text {
			text[i] = []byte{0, 1, 2, 255, 127, 3, byte(r.Intn(256))}[r.Intn(7)]
		}
		words, ok := impl.Unpack(string(text))
		if !ok {
			if words != "" {
				t.Fatalf("%x: %x", text, words)
			}
			continue
		}
		fine++
		back, too := impl.Unpack(impl.Pack(words))
		if len(words)%8 != 0 || len(words) > 8*impl.WordMax || !too || back != words {
			t.Fatalf("%x: %x, %x", text, words, back)
		}
	}
	if fine < 1000 {
		t.Errorf("just %d were unpacked", fine)
	}
}

// Promise 11: what Pack does not write is unpacked too, if all bytes are there.
func TestUnpackOfWhatPackDoesNotWrite(t *testing.T) {
	for _, c := range []struct{ text, words string }{
		{"\x00\x00\x00\x00", noughts(2)},
		{"\x01\x00", noughts(1)},
		{"\xffabcdefgh\x00\xffabcdefgh\x00", "abcdefghabcdefgh"},
		{"\xff" + noughts(1) + "\x01" + noughts(1), noughts(2)},
		{"\xffabcdefgh\x01\x00\x00\x00\x00\x00\x00\x00a", "abcdefgh\x00\x00\x00\x00\x00\x00\x00a"},
		{"\x81a\x00", "a" + noughts(1)[1:]},
		{"\x00\xc7", noughts(200)},
		{"\xffabcdefgh\xc7" + strings.Repeat("abcdefgh", 199), strings.Repeat("abcdefgh", 200)},
	} {
		words, ok := impl.Unpack(c.text)
		if !ok || words != c.words {
			t.Errorf("%x: %x, %v", c.text, words, ok)
		}
	}
}

// Promise 11: bytes are missing, or words are too many.
func TestUnpackOfWhatIsNotPacked(t *testing.T) {
	full := "\xffabcdefgh\xc7" + strings.Repeat("abcdefgh", 199)
	for i, text := range []string{
		"\x00", "\x01", "\x80", "\x03a", "\xff", "\xffabcdefg", "\xffabcdefgh", "\xffabcdefgh\x01", "\xffabcdefgh\x01abcdefg", "\xffabcdefgh\x02abcdefgh", "\x01a\x00", "\x01a\x01", "\x00\x00\xff",
		"\x00\xc8", "\x00\xff", "\x00\xc7\x00\x00", "\x00\xc7\x01a", "\x01a\x00\xc7", full + "\x01a", full + "\x00\x00", full + "\xffabcdefgh\x00",
		"\xffabcdefgh\xc8" + strings.Repeat("abcdefgh", 200), "\xffabcdefgh\xff" + strings.Repeat("abcdefgh", 255), "\x01a" + full,
		strings.Repeat("\x00\xff", 1000), strings.Repeat("\x01a", 201),
	} {
		if words, ok := impl.Unpack(text); ok || words != "" {
			t.Errorf("case %d: %d bytes, %v", i, len(words), ok)
		}
	}
	if words, ok := impl.Unpack(""); !ok || words != "" {
		t.Errorf("of nothing: %x, %v", words, ok)
	}
	if words, ok := impl.Unpack(strings.Repeat("\x01a", 200)); !ok || len(words) != 1600 {
		t.Errorf("of all words: %d bytes, %v", len(words), ok)
	}
}

// Promise 36.
func TestWordsPackedOneBehindTheOther(t *testing.T) {
	r := rand.New(rand.NewSource(14))
	for range 3000 {
		a, b := someWords(r, 20), someWords(r, 20)
		both, ok := impl.Unpack(impl.Pack(a) + impl.Pack(b))
		if !ok || both != a+b || len(impl.Pack(a+b)) > len(impl.Pack(a))+len(impl.Pack(b)) {
			t.Fatalf("%x, %x: %x", a, b, both)
		}
	}
	for cut := 0; cut <= impl.WordMax; cut++ {
		for _, w := range []string{noughts(1), "abcdefgh", "abcdefg\x00", "a\x00b\x00c\x00d\x00"} {
			a, b := strings.Repeat(w, cut), strings.Repeat(w, impl.WordMax-cut)
			both, ok := impl.Unpack(impl.Pack(a) + impl.Pack(b))
			if !ok || both != a+b || len(impl.Pack(a+b)) > len(impl.Pack(a))+len(impl.Pack(b)) {
				t.Fatalf("%x cut at %d", w, cut)
			}
		}
	}
}

// Promises 10 and 83.
func TestPackOfNoughts(t *testing.T) {
	for count := 1; count <= impl.WordMax; count++ {
		x := impl.Pack(noughts(count))
		back, ok := impl.Unpack(x)
		if x != string([]byte{0, byte(count - 1)}) || !ok || back != noughts(count) {
			t.Errorf("%d words: %x", count, x)
		}
	}
	if impl.Pack("") != "" {
		t.Errorf("no words: %x", impl.Pack(""))
	}
}
