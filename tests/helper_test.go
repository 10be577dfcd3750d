package tests

import (
	"math"
	"math/rand"
	"strings"
	"testing"

	"loop.example/quoin/impl"
)

// noughts is so many words of noughts.
func noughts(count int) string {
	return strings.Repeat("\x00", 8*count)
}

// someWord is a word of noughts, a full one, one with one nought, or one with noughts here and there.
func someWord(r *rand.Rand) string {
	w := make([]byte, 8)
	kind := r.Intn(5)
	for i := range w {
		if kind == 1 || kind == 2 || kind > 2 && r.Intn(2) == 0 {
			w[i] = byte(1 + r.Intn(255))
		}
	}
	if kind == 2 {
		w[r.Intn(8)] = 0
	}
	return string(w)
}

// someWords is words of which some stand several times, one behind the other.
func someWords(r *rand.Rand, most int) string {
	var out strings.Builder
	for n := r.Intn(most + 1); n > 0; {
		w := someWord(r)
		for times := 1 + r.Intn(4); times > 0 && n > 0; times-- {
			out.WriteString(w)
			n--
		}
	}
	return out.String()
}

// strange are numbers that no place, size or count may be.
func strange() []int {
	return []int{-1, -8, math.MinInt, math.MinInt + 7, math.MaxInt, math.MaxInt - 7, 1 << 32, -1 << 32}
}

// noWords are texts that are no words: of no whole words, and of one word too many.
func noWords() []string {
	long := strings.Repeat("abcdefgh", impl.WordMax)
	return []string{"x", "abcdefg", "abcdefghi", long + "x", long + "abcdefgh", long + long}
}

// sameTexts says whether two lists of texts are the same.
func sameTexts(a, b []string) bool {
	if len(a) != len(b) {
		return false
	}
	for i := range a {
		if a[i] != b[i] {
			return false
		}
	}
	return true
}

// put is Put of what must be put.
func put(t *testing.T, text string, at, size, n int) string {
	t.Helper()
	out, ok := impl.Put(text, at, size, n)
	if !ok {
		t.Fatalf("Put at %d size %d of %d is refused", at, size, n)
	}
	return out
}
