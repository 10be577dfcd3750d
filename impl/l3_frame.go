package impl

import (
	"math/bits"
	"slices"
	"strings"
)

// numberBytes is how many bytes a number of a frame's head takes.
const numberBytes = 4

// runMax is how many words may stand together behind byte 0 or 255, as one byte counts them.
const runMax = 255

// FrameOk says whether texts are segments: words, not too many.
func FrameOk(segs []string) bool {
	if len(segs) < 1 || len(segs) > SegMax {
		return false
	}
	sum := 0
	for _, seg := range segs {
		if !isWords(seg) {
			return false
		}
		sum += len(seg)
	}
	return sum <= WordMax*wordBytes
}

// headBytes is how long the head of so many segments is, filled to whole words.
func headBytes(segs int) int {
	return (segs/2 + 1) * wordBytes
}

// putNumber is a number of a frame's head.
func putNumber(n int) string {
	return wordOf(uint64(n)).text()[:numberBytes]
}

// getNumber is a number of a frame's head, by its place, which must be there.
func getNumber(head string, place int) int {
	var w word
	copy(w[:], head[place*numberBytes:(place+1)*numberBytes])
	return int(w.number(0, numberBytes))
}

// FramePut writes segments, how many and how long ahead.
func FramePut(segs []string) string {
	if !FrameOk(segs) {
		return ""
	}
	var out strings.Builder
	out.WriteString(putNumber(len(segs) - 1))
	for _, seg := range segs {
		out.WriteString(putNumber(len(seg) / wordBytes))
	}
	if out.Len() < headBytes(len(segs)) {
		out.WriteString(putNumber(0))
	}
	for _, seg := range segs {
		out.WriteString(seg)
	}
	return out.String()
}

// FrameGet reads segments; how many bytes they take, 0 if it is not whole, -1 if it is none.
func FrameGet(text string) ([]string, int) {
	if len(text) < numberBytes {
		return nil, 0
	}
	count := getNumber(text, 0) + 1
	if count > SegMax {
		return nil, -1
	}
	head := headBytes(count)
	if len(text) < head {
		return nil, 0
	}
	sizes, ok := frameSizes(text[:head], count)
	if !ok {
		return nil, -1
	}
	return cutSegments(text, head, sizes)
}

// frameSizes is how many bytes each segment has, and whether the whole head may be.
func frameSizes(head string, count int) ([]int, bool) {
	var sizes []int
	sum := 0
	for i := range count {
		size := getNumber(head, i+1) * wordBytes
		sizes = append(sizes, size)
		sum += size
	}
	filled := strings.Trim(head[(count+1)*numberBytes:], "\x00") == ""
	return sizes, filled && sum <= WordMax*wordBytes
}

// cutSegments cuts segments of such sizes out of a text, from a byte on, and tells where they end; nothing and 0, if the text ends before.
func cutSegments(text string, at int, sizes []int) ([]string, int) {
	var segs []string
	for _, size := range sizes {
		if len(text) < at+size {
			return nil, 0
		}
		segs = append(segs, text[at:at+size])
		at += size
	}
	return segs, at
}

// packState does a part, and tells the state that goes on; nil at the end.
type packState func() packState

// run goes on from a state until the end.
func (s packState) run() {
	for s != nil {
		s = s()
	}
}

// packer writes words packed; left are those that it has not written yet.
type packer struct {
	strings.Builder
	left []word
}

// tagged writes a word as a byte that tells which of its bytes follow.
func (p *packer) tagged() packState {
	if len(p.left) == 0 {
		return nil
	}
	w := p.left[0]
	p.left = p.left[1:]
	mask := w.mask()
	p.WriteByte(mask)
	for _, b := range w {
		if b != 0 {
			p.WriteByte(b)
		}
	}
	switch mask {
	case 0:
		return p.noughts
	case 255:
		return p.plain
	}
	return p.tagged
}

// noughts writes how many words of noughts are taken with the one ahead.
func (p *packer) noughts() packState {
	p.take(func(w word) bool { return w == word{} })
	return p.tagged
}

// plain writes words as they are, as long as that is no longer than to tell their bytes.
func (p *packer) plain() packState {
	for _, w := range p.take(isFull) {
		p.WriteString(w.text())
	}
	return p.tagged
}

// isFull says whether a word has at most one byte 0.
func isFull(w word) bool {
	return bits.OnesCount8(w.mask()) >= wordBytes-1
}

// take takes the words ahead that are such, and writes how many they are.
func (p *packer) take(such func(word) bool) []word {
	count := 0
	for count < len(p.left) && count < runMax && such(p.left[count]) {
		count++
	}
	taken := p.left[:count]
	p.left = p.left[count:]
	p.WriteByte(byte(count))
	return taken
}

// Pack makes words shorter: a byte tells which bytes of a word are not 0, and words of noughts, and words as they are, stand together.
func Pack(text string) string {
	if !isWords(text) {
		return ""
	}
	p := &packer{left: slices.Collect(wordsOf(text))}
	packState(p.tagged).run()
	return p.String()
}

// unpacker writes the words that were packed; left are the bytes that it has not read yet.
type unpacker struct {
	strings.Builder
	left string
	bad  bool
}

// tagged reads a word of which a byte tells what bytes follow.
func (u *unpacker) tagged() packState {
	if u.left == "" {
		return nil
	}
	mask := u.left[0]
	u.left = u.left[1:]
	some, ok := u.take(bits.OnesCount8(mask))
	if !ok {
		return u.broken
	}
	next := packState(u.tagged)
	switch mask {
	case 0:
		next = u.noughts
	case 255:
		next = u.plain
	}
	return u.write(spread(mask, some), next)
}

// noughts reads how many words of noughts are taken with the one ahead.
func (u *unpacker) noughts() packState {
	count, ok := u.take(1)
	if !ok {
		return u.broken
	}
	return u.write(strings.Repeat("\x00", int(count[0])*wordBytes), u.tagged)
}

// plain reads words that stand as they are.
func (u *unpacker) plain() packState {
	count, ok := u.take(1)
	if !ok {
		return u.broken
	}
	words, ok := u.take(int(count[0]) * wordBytes)
	if !ok {
		return u.broken
	}
	return u.write(words, u.tagged)
}

// broken ends it, as bytes are missing, or words are too many.
func (u *unpacker) broken() packState {
	u.bad = true
	return nil
}

// take takes so many bytes, and says whether they are there.
func (u *unpacker) take(count int) (string, bool) {
	if count > len(u.left) {
		return "", false
	}
	taken := u.left[:count]
	u.left = u.left[count:]
	return taken, true
}

// write writes words, and goes on with a state, if there is room for them.
func (u *unpacker) write(words string, next packState) packState {
	if u.Len()+len(words) > WordMax*wordBytes {
		return u.broken
	}
	u.WriteString(words)
	return next
}

// spread is the word that has some bytes where a mask tells so.
func spread(mask byte, some string) string {
	var w word
	for at := range w {
		if mask>>at&1 == 1 {
			w[at] = some[0]
			some = some[1:]
		}
	}
	return w.text()
}

// Unpack is words that were packed.
func Unpack(text string) (string, bool) {
	u := &unpacker{left: text}
	packState(u.tagged).run()
	if u.bad {
		return "", false
	}
	return u.String(), true
}
