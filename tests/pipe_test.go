package tests

import (
	"math/rand"
	"slices"
	"strings"
	"testing"

	"loop.example/quoin/impl"
)

// feedMost is how many bytes are fed at once at most.
const feedMost = 4000

// fedIn is what is left of a pipe that is fed, and the frames that it tells, told from the document.
func fedIn(p impl.Pipe, text string) (impl.Pipe, [][]string) {
	if p.Broken {
		return p, nil
	}
	segs, n := impl.FrameGet(p.Left + text)
	switch n {
	case 0:
		return impl.Pipe{Left: p.Left + text}, nil
	case -1:
		return impl.Pipe{Broken: true}, nil
	}
	p, told := fedIn(impl.Pipe{}, (p.Left + text)[n:])
	return p, append([][]string{segs}, told...)
}

// sameFrames says whether two lists of frames are the same.
func sameFrames(a, b [][]string) bool {
	return slices.EqualFunc(a, b, sameTexts)
}

// checkFed checks that a pipe that is fed leaves a pipe that is ok, and tells frames.
func checkFed(t *testing.T, p impl.Pipe, text string, left impl.Pipe, frames [][]string) {
	t.Helper()
	q, told := impl.PipeFeed(p, text)
	if q != left || !sameFrames(told, frames) || !impl.PipeOk(q) {
		t.Fatalf("%+v fed with %.1000q leaves %+v, not %+v, and tells %q, not %q", p, text, q, left, told, frames)
	}
}

// checkNotFed checks that a pipe is not fed.
func checkNotFed(t *testing.T, p impl.Pipe, text string) {
	t.Helper()
	if q, told := impl.PipeFeed(p, text); q != (impl.Pipe{}) || len(told) != 0 {
		t.Errorf("%.1000q fed with %d bytes leaves %+v, and tells %q", p.Left, len(text), q, told)
	}
}

// noFrames are bytes with which no frame begins.
func noFrames() []string {
	return []string{"\x06\x00\x00\x00", "\xff\xff\xff\xff", "\x00\x00\x00\x00\xc9\x00\x00\x00", "\x01\x00\x00\x00\x00\x00\x00\x00\x00\x00\x00\x00\x01\x00\x00\x00", "\x02\x00\x00\x00\x64\x00\x00\x00\x64\x00\x00\x00\x01\x00\x00\x00"}
}

// stream is frames one behind the other, at most as many bytes as are fed at once.
type stream struct {
	text   string
	frames [][]string
}

// add puts a frame behind, if there is room for it.
func (s *stream) add(segs []string) {
	if text := impl.FramePut(segs); len(s.text)+len(text) <= feedMost {
		s.text += text
		s.frames = append(s.frames, segs)
	}
}

// someStream is some frames.
func someStream(r *rand.Rand, most int) stream {
	var s stream
	bounds := boundSegs()
	for range r.Intn(most + 1) {
		if r.Intn(4) == 0 {
			s.add(bounds[r.Intn(len(bounds))])
		} else {
			s.add(someSegs(r))
		}
	}
	return s
}

// someTail is bytes behind frames: none, a frame that breaks off, or what is none, whatever is behind it.
func someTail(r *rand.Rand) string {
	text := impl.FramePut(someSegs(r))
	switch r.Intn(4) {
	case 1:
		return text[:r.Intn(len(text))]
	case 2:
		return noFrames()[r.Intn(len(noFrames()))]
	case 3:
		return noFrames()[r.Intn(len(noFrames()))] + text
	}
	return ""
}

// Promise 65: whether a pipe is ok.
func TestWhatPipesAreOk(t *testing.T) {
	full := impl.FramePut([]string{strings.Repeat("abcdefgh", impl.WordMax)})
	six := impl.FramePut([]string{strings.Repeat("abcdefgh", impl.WordMax), "", "", "", "", ""})
	for _, text := range []string{"", "x", "\x00", "\xff\xff\xff", "\x00\x00\x00\x00", "\x05\x00\x00\x00", full[:7], full[:8], full[:len(full)-1], six[:len(six)-1], "\x01\x00\x00\x00\xff\xff\xff\xff\xff\xff\xff\xff"} {
		if !impl.PipeOk(impl.Pipe{Left: text}) {
			t.Errorf("%.100q is not ok", text)
		}
		if impl.PipeOk(impl.Pipe{Left: text, Broken: true}) != (text == "") {
			t.Errorf("%.100q is ok broken: %v", text, text != "")
		}
	}
	bad := append(noFrames(), full, full+"x", full+full, six, noughts(1), noughts(1)+"x", strings.Repeat("x", impl.PipeMax), strings.Repeat("x", impl.PipeMax+1), noughts(225), noughts(1000))
	for _, text := range bad {
		for _, broken := range []bool{false, true} {
			p := impl.Pipe{Left: text, Broken: broken}
			if impl.PipeOk(p) {
				t.Errorf("%.100q is ok", text)
			}
			for _, more := range []string{"", "x", full} {
				checkNotFed(t, p, more)
			}
		}
	}
	checkNotFed(t, impl.Pipe{Left: "x", Broken: true}, "")
	checkNotFed(t, impl.Pipe{Left: "\x00", Broken: true}, full)
}

// Promise 65: as many bytes as may be fed at once, and one more.
func TestHowMuchIsFedAtOnce(t *testing.T) {
	empty := impl.FramePut([]string{""})
	most := strings.Repeat(empty, feedMost/len(empty))
	checkFed(t, impl.Pipe{}, most, impl.Pipe{}, times([]string{""}, feedMost/len(empty)))
	checkFed(t, impl.Pipe{Broken: true}, most, impl.Pipe{Broken: true}, nil)
	full := impl.FramePut([]string{strings.Repeat("abcdefgh", impl.WordMax)})
	half := impl.Pipe{Left: full[:len(full)-1]}
	text := full[len(full)-1:] + most[:feedMost-1]
	told := append([][]string{{full[8:]}}, times([]string{""}, (feedMost-1)/8)...)
	checkFed(t, half, text, impl.Pipe{Left: most[:(feedMost-1)%8]}, told)
	for _, p := range []impl.Pipe{{}, {Broken: true}, half, {Left: "\x00"}} {
		checkNotFed(t, p, most+"x")
		checkNotFed(t, p, most+most)
		checkNotFed(t, p, strings.Repeat("\xff", feedMost+1))
	}
}

// Promise 65.
func TestFramesThatComeInPieces(t *testing.T) {
	r := rand.New(rand.NewSource(100))
	seen := map[bool]int{}
	for range 300 {
		s := someStream(r, 4)
		text := s.text + someTail(r)
		if len(text) > feedMost {
			continue
		}
		for _, p := range []impl.Pipe{{}, {Broken: true}} {
			left, frames := fedIn(p, text)
			checkFed(t, p, text, left, frames)
			seen[left.Broken]++
			cuts := []int{0, 1, 3, 4, 7, 8, len(text) - 1, len(text), r.Intn(len(text) + 1), r.Intn(len(text) + 1), r.Intn(len(text) + 1)}
			for _, cut := range cuts {
				if cut < 0 || cut > len(text) {
					continue
				}
				first, some := impl.PipeFeed(p, text[:cut])
				second, more := impl.PipeFeed(first, text[cut:])
				if second != left || !sameFrames(append(some, more...), frames) || !impl.PipeOk(first) {
					t.Fatalf("%q cut at %d leaves %+v, then %+v, not %+v", text, cut, first, second, left)
				}
				q, told := fedIn(p, text[:cut])
				checkFed(t, p, text[:cut], q, told)
			}
		}
	}
	if seen[true] < 100 || seen[false] < 100 {
		t.Errorf("%v of broken", seen)
	}
}

// Promise 65: each cut of two frames and what breaks off, and of what is none.
func TestEachCutOfFrames(t *testing.T) {
	a, b := []string{"abcdefgh", "", "ABCDEFGH"}, []string{""}
	frames := impl.FramePut(a) + impl.FramePut(b)
	for _, tail := range append(noFrames(), "", "\x00", "\x00\x00\x00\x00\x01\x00\x00\x00abcdefg") {
		text := frames + tail
		for cut := range len(text) + 1 {
			first, some := impl.PipeFeed(impl.Pipe{}, text[:cut])
			second, more := impl.PipeFeed(first, text[cut:])
			want := impl.Pipe{Left: tail}
			if slices.Contains(noFrames(), tail) {
				want = impl.Pipe{Broken: true}
			}
			if second != want || !sameFrames(append(some, more...), [][]string{a, b}) {
				t.Errorf("%q cut at %d leaves %+v, and tells %q and %q", text, cut, second, some, more)
			}
			told := 0
			for _, end := range []int{len(impl.FramePut(a)), len(frames)} {
				if cut >= end {
					told++
				}
			}
			if len(some) != told || first.Broken && first.Left != "" {
				t.Errorf("%q up to %d tells %q, and leaves %+v", text, cut, some, first)
			}
		}
	}
}

// Promise 65: any bytes.
func TestAnyBytesThatAreFed(t *testing.T) {
	r := rand.New(rand.NewSource(101))
	for range 20000 {
		text := make([]byte, r.Intn(60))
		for i := range text {
			if r.Intn(4) == 0 {
				text[i] = byte(r.Intn(4))
			}
		}
		var p impl.Pipe
		for _, piece := range []string{string(text[:len(text)/3]), string(text[len(text)/3:])} {
			left, frames := fedIn(p, piece)
			checkFed(t, p, piece, left, frames)
			p = left
		}
	}
}

// Promise 66.
func TestTwoFramesThatAreFed(t *testing.T) {
	r := rand.New(rand.NewSource(102))
	for i := range 500 {
		a, b := someSegs(r), someSegs(r)
		if bounds := boundSegs(); i < len(bounds)*len(bounds) {
			a, b = bounds[i%len(bounds)], bounds[i/len(bounds)]
		}
		text := impl.FramePut(a) + impl.FramePut(b)
		checkFed(t, impl.Pipe{}, text, impl.Pipe{}, [][]string{a, b})
		checkFed(t, impl.Pipe{Broken: true}, text, impl.Pipe{Broken: true}, nil)
		checkFed(t, impl.Pipe{}, impl.FramePut(a), impl.Pipe{}, [][]string{a})
		checkFed(t, impl.Pipe{}, "", impl.Pipe{}, nil)
		checkFed(t, impl.Pipe{Broken: true}, "", impl.Pipe{Broken: true}, nil)

		// From what is none on nothing is told, but what is ahead of it is.
		for _, none := range noFrames() {
			checkFed(t, impl.Pipe{}, impl.FramePut(a)+none+impl.FramePut(b), impl.Pipe{Broken: true}, [][]string{a})
			checkFed(t, impl.Pipe{}, none+text, impl.Pipe{Broken: true}, nil)
		}
	}
}

// Promise 89.
func TestFramesThatComeByteByByte(t *testing.T) {
	r := rand.New(rand.NewSource(103))
	for i := range 60 {
		s := someStream(r, 3)
		if i == 0 {
			for range 2 {
				s.add([]string{strings.Repeat("abcdefgh", impl.WordMax), "", "", "", "", ""})
			}
		}
		text := s.text + someTail(r)
		if len(text) > feedMost {
			continue
		}
		left, frames := impl.PipeFeed(impl.Pipe{}, text)
		var p impl.Pipe
		var all [][]string
		for at := range len(text) {
			q, told := impl.PipeFeed(p, text[at:at+1])
			if want, _ := fedIn(impl.Pipe{}, text[:at+1]); q != want || len(told) > 1 {
				t.Fatalf("%q up to %d leaves %+v, not %+v, and tells %q", text, at, q, want, told)
			}
			p, all = q, append(all, told...)
		}
		if p != left || !sameFrames(all, frames) || !sameFrames(frames, s.frames) {
			t.Fatalf("%q byte by byte leaves %+v, not %+v, and tells %q, not %q", text, p, left, all, frames)
		}
	}
}

// Frames that are told share no memory.
func TestFramesShareNoMemory(t *testing.T) {
	a, b := []string{"abcdefgh", ""}, []string{"ABCDEFGH"}
	text := impl.FramePut(a) + impl.FramePut(b)
	_, told := impl.PipeFeed(impl.Pipe{}, text)
	clear(told[0][:cap(told[0])])
	if !sameTexts(told[1], b) {
		t.Errorf("the second frame is %q", told[1])
	}
	if _, again := impl.PipeFeed(impl.Pipe{}, text); !sameFrames(again, [][]string{a, b}) {
		t.Errorf("again it tells %q", again)
	}
}
