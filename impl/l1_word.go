// Package impl: records in words with pointers.
package impl

import (
	"iter"
	"strings"
)

// Limits of messages.
const (
	SegMax  = 6
	WordMax = 200
)

// wordBytes is how many bytes a word has, wordBits how many bits.
const (
	wordBytes = 8
	wordBits  = 64
)

// hexFigures are the figures of Hex, by what they stand for.
const hexFigures = "0123456789abcdef"

// word is eight bytes, the lowest first.
type word [wordBytes]byte

// wordOf is a number as a word.
func wordOf(n uint64) word {
	var w word
	return w.put(0, wordBytes, n)
}

// number is what the size bytes from at on are together.
func (w word) number(at int, size int) uint64 {
	n := uint64(0)
	for i := at + size - 1; i >= at; i-- {
		n = n<<8 | uint64(w[i])
	}
	return n
}

// put is the word with n in the size bytes from at on.
func (w word) put(at int, size int, n uint64) word {
	for i := at; i < at+size; i++ {
		w[i] = byte(n)
		n >>= 8
	}
	return w
}

// bit is 0 or 1.
func (w word) bit(at int) int {
	return int(w[at/8] >> (at % 8) & 1)
}

// putBit is the word with a bit that is 0 or 1.
func (w word) putBit(at int, bit int) word {
	w[at/8] = w[at/8]&^(1<<(at%8)) | byte(bit)<<(at%8)
	return w
}

// mask tells which bytes are not 0, the lowest bit for the first.
func (w word) mask() byte {
	mask := byte(0)
	for at, b := range w {
		if b != 0 {
			mask |= 1 << at
		}
	}
	return mask
}

// text is the bytes of the word.
func (w word) text() string {
	return string(w[:])
}

// isWords says whether a text is words, and not too many.
func isWords(text string) bool {
	return len(text)%wordBytes == 0 && len(text) <= WordMax*wordBytes
}

// wordAt is a word of words, by its place, which must be there.
func wordAt(text string, place int) word {
	var w word
	copy(w[:], text[place*wordBytes:])
	return w
}

// withWord is words with another one at a place, which must be there.
func withWord(text string, place int, w word) string {
	at := place * wordBytes
	return text[:at] + w.text() + text[at+wordBytes:]
}

// wordsOf goes through words one by one.
func wordsOf(text string) iter.Seq[word] {
	return func(yield func(word) bool) {
		for place := range len(text) / wordBytes {
			if !yield(wordAt(text, place)) {
				return
			}
		}
	}
}

// isWidth says whether a number may have so many bytes.
func isWidth(size int) bool {
	switch size {
	case 1, 2, 4, 8:
		return true
	}
	return false
}

// isPlace says whether a number of so many bytes may stand at a byte. It never reaches over the end of a word then.
func isPlace(at int, size int) bool {
	return isWidth(size) && at >= 0 && at <= WordMax*wordBytes && at%size == 0
}

// fitsBytes says whether a number may stand in so many bytes. In eight any does, as the highest bit is the sign.
func fitsBytes(n int, size int) bool {
	return size == wordBytes || n >= 0 && uint64(n) < 1<<(8*size)
}

// Get is the number that some bytes of a text are, the lowest first; 0 beyond its end.
func Get(text string, at int, size int) int {
	if !isWords(text) || !isPlace(at, size) || at >= len(text) {
		return 0
	}
	return int(wordAt(text, at/wordBytes).number(at%wordBytes, size))
}

// Put puts a number into some bytes of a text, the lowest first.
func Put(text string, at int, size int, n int) (string, bool) {
	if !isWords(text) {
		return "", false
	}
	if !isPlace(at, size) || at >= len(text) || !fitsBytes(n, size) {
		return text, false
	}
	w := wordAt(text, at/wordBytes).put(at%wordBytes, size, uint64(n))
	return withWord(text, at/wordBytes, w), true
}

// isBit says whether words have a bit.
func isBit(text string, at int) bool {
	return at >= 0 && at < len(text)*8
}

// BitGet is a bit of a text; 0 beyond its end.
func BitGet(text string, at int) int {
	if !isWords(text) || !isBit(text, at) {
		return 0
	}
	return wordAt(text, at/wordBits).bit(at % wordBits)
}

// BitPut puts a bit into a text.
func BitPut(text string, at int, bit int) (string, bool) {
	if !isWords(text) {
		return "", false
	}
	if !isBit(text, at) || bit != 0 && bit != 1 {
		return text, false
	}
	w := wordAt(text, at/wordBits).putBit(at%wordBits, bit)
	return withWord(text, at/wordBits, w), true
}

// Trim is a text without words of noughts at its end.
func Trim(text string) string {
	if !isWords(text) {
		return ""
	}
	at, end := 0, 0
	for w := range wordsOf(text) {
		at += wordBytes
		if w != (word{}) {
			end = at
		}
	}
	return text[:end]
}

// Hex writes bytes, two figures for each.
func Hex(text string) string {
	var out strings.Builder
	for _, b := range []byte(text) {
		out.WriteByte(hexFigures[b>>4])
		out.WriteByte(hexFigures[b&15])
	}
	return out.String()
}
