package tests

import (
	"math/rand"
	"strings"
	"testing"

	"loop.example/quoin/impl"
)

// someText is a text of so many bytes, none of them 0.
func someText(r *rand.Rand, count int) string {
	out := make([]byte, count)
	for i := range out {
		out[i] = byte(1 + r.Intn(255))
	}
	return string(out)
}

// Promise 33.
func TestTextIsReadBack(t *testing.T) {
	r := rand.New(rand.NewSource(64))
	for count := range 101 {
		for range 20 {
			text := someText(r, count)
			n := impl.TextNode(text)
			if !impl.NodeOk(n) || !impl.NodeSame(n, dataNode(impl.SizeOne, count+1, text+"\x00")) {
				t.Fatalf("%q is %+v", text, n)
			}
			if back, ok := impl.TextOf(n); !ok || back != text {
				t.Fatalf("%q is read back as %q, %v", text, back, ok)
			}
		}
	}
}

// Promise 33: what is no text that may be.
func TestTextThatMayNotBe(t *testing.T) {
	r := rand.New(rand.NewSource(65))
	for _, count := range []int{101, 102, 108, 199, 1591, 1592, 100000} {
		if n := impl.TextNode(someText(r, count)); !isNothing(n) {
			t.Errorf("%d bytes are %+v", count, n)
		}
	}
	for count := 1; count <= 101; count++ {
		text := someText(r, count)
		at := r.Intn(count)
		for _, with := range []string{text[:at] + "\x00" + text[at+1:], "\x00" + text[1:], text[:count-1] + "\x00", noughts(13)[:count]} {
			if n := impl.TextNode(with); !isNothing(n) {
				t.Errorf("%q is %+v", with, n)
			}
		}
	}
}

// Promise 33: texts of any length are read, and what is read is written again, if it is not too long.
func TestTextOfAnyList(t *testing.T) {
	r := rand.New(rand.NewSource(66))
	for _, count := range []int{0, 1, 99, 100, 101, 500, 1590, 1591, 1592, 5000, 12799, 12800, 20000} {
		text := someText(r, count)
		if back, ok := impl.TextOf(dataNode(impl.SizeOne, count+1, text+"\x00")); !ok || back != text {
			t.Errorf("%d bytes are read back as %d, %v", count, len(back), ok)
		}
	}
	for i, n := range append(okNodes(66, 3000), badNodes()...) {
		text, ok := impl.TextOf(n)
		if ok && len(text) <= 100 && !isNothing(n) && !impl.NodeSame(impl.TextNode(text), n) {
			t.Errorf("node %d is read as %q", i, text)
		}
		if !ok && text != "" {
			t.Errorf("node %d is none, and read as %q", i, text)
		}
	}
}

// Promise 33: what is no list of a text.
func TestWhatIsNoText(t *testing.T) {
	if text, ok := impl.TextOf(impl.Node{}); !ok || text != "" {
		t.Errorf("nothing is read as %q, %v", text, ok)
	}
	if text, ok := impl.TextOf(impl.Node{Ptrs: []impl.Node{}, Items: []impl.Node{}}); !ok || text != "" {
		t.Errorf("nothing is read as %q, %v", text, ok)
	}
	with := func(do func(n *impl.Node)) impl.Node {
		n := impl.TextNode("hi")
		do(&n)
		return n
	}
	bad := []impl.Node{
		dataNode(impl.SizeOne, 0, ""), dataNode(impl.SizeOne, 1, "a"), dataNode(impl.SizeOne, 2, "ab"), dataNode(impl.SizeOne, 2, "\x00a"), dataNode(impl.SizeOne, 2, "\x00\x00"), dataNode(impl.SizeOne, 4, "a\x00b\x00"), dataNode(impl.SizeOne, 3, "a\x00\x00"),
		structNode(""), structNode(noughts(1)), structNode("abcdefg\x00"), pointNode(), manyNode(), dataNode(impl.SizeVoid, 0, ""), dataNode(impl.SizeVoid, 1, ""), dataNode(impl.SizeBit, 1, "\x00"), dataNode(impl.SizeTwo, 1, "a\x00"), dataNode(impl.SizeFour, 1, "abc\x00"), dataNode(impl.SizeEight, 1, "abcdefg\x00"),
		with(func(n *impl.Node) { n.Count = 2 }), with(func(n *impl.Node) { n.Count = 4 }), with(func(n *impl.Node) { n.Count = 0 }), with(func(n *impl.Node) { n.Count = -1 }), with(func(n *impl.Node) { n.Kind = impl.NodeStruct }), with(func(n *impl.Node) { n.Kind = impl.NodeNone }), with(func(n *impl.Node) { n.Kind = 3 }),
		with(func(n *impl.Node) { n.Size = impl.SizeBit }), with(func(n *impl.Node) { n.Size = impl.SizeMany }), with(func(n *impl.Node) { n.Ptrs = []impl.Node{{}} }), with(func(n *impl.Node) { n.Items = []impl.Node{{}} }),
		{Data: "\x00"}, {Size: impl.SizeOne}, {Count: 1}, {Ptrs: []impl.Node{{}}}, {Items: []impl.Node{{}}}, {Kind: -1}, {Kind: 3},
	}
	for i, n := range append(bad, loops()...) {
		if text, ok := impl.TextOf(n); ok || text != "" {
			t.Errorf("node %d is read as %q, %v", i, text, ok)
		}
	}
}

// Promise 47.
func TestTextsSayTheSameIfTheyAreTheSame(t *testing.T) {
	r := rand.New(rand.NewSource(67))
	texts := []string{"", "a", "b", "ab", "ba", "A", "aa", strings.Repeat("a", 7), strings.Repeat("a", 8), strings.Repeat("a", 9), strings.Repeat("a", 99), strings.Repeat("a", 100), "\x01", "\xff", " ", "a "}
	for range 100 {
		texts = append(texts, someText(r, r.Intn(20)))
	}
	for _, a := range texts {
		for _, b := range texts {
			if got := impl.Alike(impl.TextNode(a), impl.TextNode(b)); got != (a == b) {
				t.Errorf("%q and %q say the same: %v", a, b, got)
			}
		}
	}
}
