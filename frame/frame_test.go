package frame_test

import (
	"bytes"
	"math"
	"slices"
	"strings"
	"testing"

	"garland/api"
	"garland/frame"
)

const longest = 112 // bytes of a payload

// sumRows are bytes and their sums, written out.
var sumRows = []struct {
	b   string
	sum uint32
}{
	{"", 0xdc4cc210}, {"\x00", 0x6d19007e}, {"\x01", 0x19028ca9}, {"\x80", 0x3e3aa917}, {"\xff", 0x232d4a7d},
	{"\x00\x00", 0x95c16346}, {"\x00\x00\x00\x00", 0xe5c5f93e}, {"\xff\xff\xff\xff", 0x39893b2e},
	{"a", 0x795d5172}, {"abc", 0x67d66440}, {"123456789", 0x8d8df67a}, {"garland", 0x8604fcbf},
	{"\x47\x01\x00\x00", 0x6ffc597f}, {"\x01\x02\x03", 0x348695f5}, {"\x03\x02\x01", 0xff4a241c},
	{strings.Repeat("z", 20), 0x134de609}, {strings.Repeat("\x00", 116), 0x9d38169d}, {strings.Repeat("\xff", 500), 0x9cdcf91c},
}

// stepRows are states, and those behind a bit 0 and a bit 1.
var stepRows = [][3]uint32{
	{0, 0, 1}, {1, 2, 3}, {2, 4, 5}, {0x12345678, 0x2468acf0, 0x2468acf1},
	{1 << 30, 1 << 31, 1<<31 + 1}, {1<<31 - 1, 0xfffffffe, 0xffffffff},
	{1 << 31, 0x741b8cd7, 0x741b8cd6}, {1<<31 + 1, 0x741b8cd5, 0x741b8cd4}, {1<<31 + 1<<30, 0xf41b8cd7, 0xf41b8cd6},
	{0xba0dc66b, 1, 0}, {0xffffffff, 0x8be47329, 0x8be47328},
}

// frameRows are payloads and their frames, written out.
var frameRows = []struct {
	payload string
	frame   []byte
}{
	{"", []byte{71, 1, 0, 0, 111, 252, 89, 127}},
	{"\x00", []byte{71, 1, 0, 1, 0, 62, 232, 41, 58}},
	{"a", []byte{71, 1, 0, 1, 97, 42, 172, 120, 54}},
	{"\xff\xff", []byte{71, 1, 0, 2, 255, 255, 3, 226, 243, 85}},
	{"garland", []byte{71, 1, 0, 7, 103, 97, 114, 108, 97, 110, 100, 143, 74, 90, 13}},
	{strings.Repeat("\x00", longest), slices.Concat([]byte{71, 1, 0, 112}, make([]byte, longest), []byte{13, 29, 210, 21})},
}

// divided is the sum of b by long division: 32 bits 1 ahead of its bits, 32 bits 0 behind them, and what is left of them all by the divisor.
func divided(b []byte) (left uint32) {
	var bits []uint32
	for _, x := range slices.Concat([]byte{255, 255, 255, 255}, b, []byte{0, 0, 0, 0}) {
		for i := 7; i >= 0; i-- {
			bits = append(bits, uint32(x)/(1<<i)%2)
		}
	}
	last := len(bits) - 32
	for i := range last {
		if bits[i] == 0 {
			continue
		}
		for k := range 32 {
			bits[i+1+k] ^= 0x741b8cd7 >> (31 - k) & 1
		}
	}
	for _, bit := range bits[last:] {
		left = 2*left + bit
	}
	return left
}

// payload is n bytes of many kinds, others for each kind.
func payload(n, kind int) []byte {
	b := make([]byte, n)
	for i := range b {
		b[i] = byte(i*i*kind + 31*i + 97*kind)
	}
	return b
}

// payloads gives some of each length that may be.
func payloads() (all [][]byte) {
	for n := range longest + 1 {
		all = append(all, make([]byte, n), bytes.Repeat([]byte{255}, n))
		for kind := range 4 {
			all = append(all, payload(n, kind))
		}
	}
	return all
}

// summed is b and its sum behind it.
func summed(b ...byte) []byte {
	s := divided(b)
	return append(slices.Clone(b), byte(s>>24), byte(s>>16), byte(s>>8), byte(s))
}

// closed is the frame that p must have.
func closed(t *testing.T, p []byte) []byte {
	t.Helper()
	b, e := frame.Close(p)
	if e != api.OK {
		t.Fatalf("Close of %d bytes: %d", len(p), e)
	}
	return b
}

// refuses holds that b is not opened.
func refuses(t *testing.T, what string, b []byte, want api.Errno) {
	t.Helper()
	if p, e := frame.Open(b); e != want || len(p) != 0 {
		t.Fatalf("%s: Open(%v) = %v, %d; want nothing, %d", what, b, p, e, want)
	}
}

// P5.1.
func TestStep(t *testing.T) {
	for _, c := range stepRows {
		if a, b := frame.Step(c[0], false), frame.Step(c[0], true); a != c[1] || b != c[2] {
			t.Errorf("Step(%x) = %x, %x; want %x, %x", c[0], a, b, c[1], c[2])
		}
	}
}

// P5.1: each bit of a state alone, and all but it.
func TestStepOfBits(t *testing.T) {
	for i := range 31 {
		if s := frame.Step(1<<i, false); s != 1<<(i+1) {
			t.Errorf("Step of bit %d = %x", i, s)
		}
		if s, want := frame.Step(math.MaxUint32-1<<i, true), uint32(math.MaxUint32-1<<(i+1))^0x741b8cd7; s != want {
			t.Errorf("Step of all but bit %d = %x; want %x", i, s, want)
		}
	}
}

// P5.1.
func TestSum(t *testing.T) {
	for _, c := range sumRows {
		if s := frame.Sum([]byte(c.b)...); s != c.sum {
			t.Errorf("Sum(%q) = %x; want %x", c.b, s, c.sum)
		}
	}
	if a, b, c := frame.Sum(), frame.Sum(nil...), frame.Sum([]byte{}...); a != 0xdc4cc210 || b != a || c != a {
		t.Errorf("the sum of nothing: %x, %x, %x", a, b, c)
	}
}

// P5.1: by steps, and by long division.
func TestSumIsLeft(t *testing.T) {
	for _, p := range append(payloads(), payload(113, 3), payload(121, 5), payload(1000, 1), payload(70000, 2)) {
		steps := uint32(math.MaxUint32)
		for _, b := range append(slices.Clone(p), 0, 0, 0, 0) {
			for i := 128; i > 0; i /= 2 {
				steps = frame.Step(steps, int(b)/i%2 == 1)
			}
		}
		if s := frame.Sum(p...); s != steps || s != divided(p) {
			t.Fatalf("Sum(%v) = %x; by steps %x, by division %x", p, s, steps, divided(p))
		}
	}
}

// P5.1: of each byte alone.
func TestSumOfBytes(t *testing.T) {
	seen := map[uint32]int{}
	for n := range 256 {
		s := frame.Sum(byte(n))
		if first, ok := seen[s]; ok || s != divided([]byte{byte(n)}) {
			t.Fatalf("Sum(%d) = %x; that of %d, %t", n, s, first, ok)
		}
		seen[s] = n
	}
}

// P5.2.
func TestClose(t *testing.T) {
	for _, c := range frameRows {
		if b, e := frame.Close([]byte(c.payload)); e != api.OK || !bytes.Equal(b, c.frame) {
			t.Errorf("Close(%q) = %v, %d; want %v", c.payload, b, e, c.frame)
		}
	}
	for _, p := range payloads() {
		want := summed(append([]byte{71, 1, byte(len(p) / 256), byte(len(p) % 256)}, p...)...)
		if b := closed(t, p); !bytes.Equal(b, want) || len(b) > api.MaxBytes {
			t.Fatalf("Close(%v) = %v; want %v", p, b, want)
		}
	}
	for _, none := range [][]byte{nil, {}, make([]byte, 0, 9)} {
		if b := closed(t, none); !bytes.Equal(b, frameRows[0].frame) {
			t.Errorf("Close of nothing = %v", b)
		}
	}
}

// P5.2: payloads of more bytes than may be; some are so many that two bytes tell few.
func TestCloseWrong(t *testing.T) {
	for _, n := range []int{113, 114, 119, 120, 121, 255, 256, 257, 368, 65535, 65536, 65537, 65648, 65649, 1 << 20} {
		if b, e := frame.Close(make([]byte, n)); e != api.ErrArg || len(b) != 0 {
			t.Errorf("Close of %d bytes = %v, %d; want nothing, ErrArg", n, b, e)
		}
	}
}

// P5.2.
func TestSize(t *testing.T) {
	for n := range longest + 1 {
		if s := frame.Size(n); s != n+8 || s != len(closed(t, make([]byte, n))) {
			t.Errorf("Size(%d) = %d", n, s)
		}
	}
	for _, n := range []int{-1, -2, -8, -9, -112, math.MinInt, math.MinInt + 1, 113, 120, 121, 256, 65536, 65540, 1 << 32, 1<<32 + 1, math.MaxInt, math.MaxInt - 8} {
		if s := frame.Size(n); s != 0 {
			t.Errorf("Size(%d) = %d; want 0", n, s)
		}
	}
}

// P5.3, P5.4: what is closed is opened, and has just that frame.
func TestOpen(t *testing.T) {
	for _, c := range frameRows {
		if p, e := frame.Open(c.frame); e != api.OK || string(p) != c.payload {
			t.Errorf("Open(%v) = %v, %d; want %q", c.frame, p, e, c.payload)
		}
	}
	for _, want := range payloads() {
		b := closed(t, want)
		p, e := frame.Open(b)
		if e != api.OK || !bytes.Equal(p, want) {
			t.Fatalf("Open(%v) = %v, %d; want %v", b, p, e, want)
		}
		if again := closed(t, p); !bytes.Equal(again, b) {
			t.Fatalf("%v is opened; its payload's frame is %v", b, again)
		}
	}
}

// P5.3: fewer than 8 bytes, whatever they are: beginnings of frames, too.
func TestOpenShort(t *testing.T) {
	refuses(t, "nil", nil, api.ErrShort)
	for n := range 8 {
		refuses(t, "noughts", make([]byte, n), api.ErrShort)
		for _, c := range frameRows {
			refuses(t, "a beginning", c.frame[:n], api.ErrShort)
			refuses(t, "an end", c.frame[len(c.frame)-n:], api.ErrShort)
		}
		refuses(t, "with a sum", append(summed(), make([]byte, n)...)[:n], api.ErrShort)
	}
}

// P5.3: each part wrong alone, with the sum that is right behind it.
func TestOpenParts(t *testing.T) {
	for _, n := range []int{0, 1, 7, longest} {
		for part := range 4 {
			for x := range 256 {
				b := append([]byte{71, 1, 0, byte(n)}, payload(n, 1)...)
				if b[part] == byte(x) {
					continue
				}
				b[part] = byte(x)
				refuses(t, "a wrong part", summed(b...), api.ErrForm)
			}
		}
		b := summed(append([]byte{71, 1, 0, byte(n)}, payload(n, 1)...)...)
		if _, e := frame.Open(b); e != api.OK {
			t.Errorf("nothing wrong: %d", e)
		}
	}
}

// P5.3: more than a frame may have, with all else right.
func TestOpenLong(t *testing.T) {
	for _, n := range []int{113, 114, 120, 128, 255, 256, 257, 368, 1000, 65535, 65536, 65537, 65648, 1 << 18} {
		b := append([]byte{71, 1, byte(n >> 8), byte(n)}, make([]byte, n)...)
		if p, e := frame.Open(summed(b...)); e != api.ErrForm || len(p) != 0 {
			t.Errorf("Open of a frame of %d = %d bytes, %d; want nothing, ErrForm", n, len(p), e)
		}
	}
}

// P5.3: all of it: more bytes, or fewer.
func TestOpenAllOfIt(t *testing.T) {
	for _, p := range [][]byte{nil, {0}, {0, 0, 0, 0, 0, 0, 0, 0, 0}, payload(30, 2), payload(111, 1), payload(longest, 3)} {
		b := closed(t, p)
		for _, more := range [][]byte{{0}, {255}, {71}, {0, 0, 0, 0}, b} {
			refuses(t, "more behind", slices.Concat(b, more), api.ErrForm)
			refuses(t, "more ahead", slices.Concat(more, b), api.ErrForm)
		}
		for n := 8; n < len(b); n++ {
			refuses(t, "fewer", b[:n], api.ErrForm)
			refuses(t, "fewer ahead", b[len(b)-n:], api.ErrForm)
		}
	}
}

// P5.3: no frames at all; a sum that is another way about, or of other bytes.
func TestOpenNone(t *testing.T) {
	for n := 8; n < 200; n++ {
		refuses(t, "noughts", make([]byte, n), api.ErrForm)
		refuses(t, "ones", bytes.Repeat([]byte{255}, n), api.ErrForm)
		refuses(t, "many kinds", payload(n, 7), api.ErrForm)
	}
	for _, c := range frameRows {
		at := len(c.frame) - 4
		turned := slices.Clone(c.frame)
		slices.Reverse(turned[at:])
		refuses(t, "the sum turned about", turned, api.ErrForm)
		refuses(t, "the payload's sum", slices.Concat(c.frame[:at], summed([]byte(c.payload)...)[len(c.payload):]), api.ErrForm)
		refuses(t, "no sum", slices.Concat(c.frame[:at], make([]byte, 4)), api.ErrForm)
	}
}

// harmed is b with those of the 32 bits from the bit at on put together with run's, the highest first; none are beyond its end.
func harmed(b []byte, at int, run uint32) []byte {
	c := slices.Clone(b)
	for i := range 32 {
		if run<<i>>31 == 1 && at+i < 8*len(c) {
			c[(at+i)/8] ^= 128 >> ((at + i) % 8)
		}
	}
	return c
}

// P5.4: one bit, wherever it is; two; and all of up to 32 side by side.
func TestFewHarmed(t *testing.T) {
	for _, p := range [][]byte{nil, {5}, payload(9, 1), payload(60, 2), payload(longest, 3)} {
		b := closed(t, p)
		for at := range 8 * len(b) {
			for long := range 32 {
				two, all := uint32(1<<31|1<<(31-long)), uint32(math.MaxUint32<<(31-long))
				refuses(t, "two harmed", harmed(b, at, two), api.ErrForm)
				refuses(t, "all harmed", harmed(b, at, all), api.ErrForm)
			}
		}
	}
}

// P5.4: many runs of up to 32 bits side by side, wherever they begin; the divisor's own among them, with what stands ahead of it and without.
func TestRunsHarmed(t *testing.T) {
	for _, p := range [][]byte{nil, payload(8, 1), payload(41, 2), payload(longest, 3)} {
		b := closed(t, p)
		runs := []uint32{0x741b8cd7, 0xba0dc66b, 0xe83719ae, 0x80000001, 0xd85c1f35}
		for n := uint32(1); n <= 60; n++ {
			runs = append(runs, (2654435761*n^n<<13)|1<<31)
		}
		for at := range 8 * len(b) {
			for _, run := range runs {
				if c := harmed(b, at, run); !bytes.Equal(c, b) {
					refuses(t, "a run harmed", c, api.ErrForm)
				}
			}
		}
	}
}

// P5.4: of a frame of no bytes, all runs of 16 bits, wherever they begin.
func TestAllShortRunsHarmed(t *testing.T) {
	b := closed(t, nil)
	for at := range 8*len(b) - 15 {
		for run := uint32(1); run < 1<<16; run++ {
			if p, e := frame.Open(harmed(b, at, run<<16)); e != api.ErrForm || len(p) != 0 {
				t.Fatalf("the run %x from %d on: %v, %d", run, at, p, e)
			}
		}
	}
}

// R4: what is handed in stays as it is, spare room too.
func TestStays(t *testing.T) {
	whole := append(closed(t, []byte("garland")), bytes.Repeat([]byte{9}, 200)...)
	old := slices.Clone(whole)
	for end := range 30 {
		frame.Close(whole[:end])
		frame.Open(whole[:end])
		frame.Sum(whole[:end]...)
		if !bytes.Equal(whole, old) {
			t.Fatalf("%v became %v", old, whole)
		}
	}
}

// R3, R4: what is told is nobody else's, and is told again.
func TestAnswersAreOwn(t *testing.T) {
	p := []byte("garland")
	b, again := closed(t, p), closed(t, p)
	clear(b[:cap(b)])
	if string(p) != "garland" || !bytes.Equal(again, frameRows[4].frame) {
		t.Errorf("clearing a frame: payload %q, the other frame %v", p, again)
	}
	one, _ := frame.Open(again)
	other, _ := frame.Open(again)
	clear(one[:cap(one)])
	if string(other) != "garland" || !bytes.Equal(again, frameRows[4].frame) {
		t.Errorf("clearing a payload: the other %q, the frame %v", other, again)
	}
	frame.Close(make([]byte, 113))
	frame.Open(nil)
	if b := closed(t, p); !bytes.Equal(b, again) {
		t.Errorf("told again: %v", b)
	}
}
