package num_test

import (
	"bytes"
	"fmt"
	"math"
	"slices"
	"strings"
	"testing"

	"garland/api"
	"garland/num"
)

// tails is what may stand behind the bytes of a thing.
var tails = [][]byte{nil, {0}, {1}, {255}, {1, 0}, {7, 7, 7}, bytes.Repeat([]byte{6}, 300)}

// numberRows are numbers and their bytes, written out.
var numberRows = []struct {
	n int
	b []byte
}{
	{0, []byte{0}},
	{1, []byte{1, 1}},
	{2, []byte{1, 2}},
	{128, []byte{1, 128}},
	{255, []byte{1, 255}},
	{256, []byte{2, 1, 0}},
	{257, []byte{2, 1, 1}},
	{300, []byte{2, 1, 44}},
	{65535, []byte{2, 255, 255}},
	{65536, []byte{3, 1, 0, 0}},
	{2097155, []byte{3, 32, 0, 3}},
	{1<<24 - 1, []byte{3, 255, 255, 255}},
	{1 << 24, []byte{4, 1, 0, 0, 0}},
	{1<<31 - 1, []byte{4, 127, 255, 255, 255}},
	{1 << 31, []byte{4, 128, 0, 0, 0}},
	{1<<32 - 1, []byte{4, 255, 255, 255, 255}},
	{1 << 32, []byte{5, 1, 0, 0, 0, 0}},
	{0x0102030405, []byte{5, 1, 2, 3, 4, 5}},
	{api.MaxNum - 1, []byte{5, 255, 255, 255, 255, 255}},
	{api.MaxNum, []byte{6, 1, 0, 0, 0, 0, 0}},
}

// notNumbers are numbers that may not be put.
var notNumbers = []int{-1, -2, -255, -256, -api.MaxNum, math.MinInt, math.MinInt + 1, api.MaxNum + 1, api.MaxNum + 2, 2 * api.MaxNum, 1<<48 - 1, 1 << 48, math.MaxInt}

// P1.1.
func TestPut(t *testing.T) {
	for _, c := range numberRows {
		b, e := num.Put(c.n)
		if e != api.OK || !bytes.Equal(b, c.b) {
			t.Errorf("Put(%d) = %v, %d; want %v", c.n, b, e, c.b)
		}
	}
}

// P1.1.
func TestPutWrong(t *testing.T) {
	for _, n := range notNumbers {
		b, e := num.Put(n)
		if e != api.ErrArg || len(b) != 0 {
			t.Errorf("Put(%d) = %v, %d; want nothing, ErrArg", n, b, e)
		}
	}
}

// P1.1, P1.4.
func TestTake(t *testing.T) {
	for _, c := range numberRows {
		for _, tail := range tails {
			n, rest, e := num.Take(slices.Concat(c.b, tail))
			if e != api.OK || n != c.n || !bytes.Equal(rest, tail) {
				t.Errorf("Take(%v and %v) = %d, %v, %d", c.b, tail, n, rest, e)
			}
		}
	}
}

// P1.1: each error, and which of several comes first.
func TestTakeWrong(t *testing.T) {
	for _, c := range []struct {
		b []byte
		e api.Errno
	}{
		{nil, api.ErrShort},
		{[]byte{}, api.ErrShort},
		{[]byte{7}, api.ErrForm},
		{[]byte{7, 1}, api.ErrForm},
		{[]byte{7, 1, 0, 0, 0, 0, 0, 0}, api.ErrForm},
		{[]byte{7, 0, 0, 0, 0, 0, 0, 1}, api.ErrForm},
		{[]byte{8}, api.ErrForm},
		{[]byte{255}, api.ErrForm},
		{[]byte{1}, api.ErrShort},
		{[]byte{2, 1}, api.ErrShort},
		{[]byte{2, 0}, api.ErrShort},
		{[]byte{6}, api.ErrShort},
		{[]byte{6, 1, 0, 0, 0, 0}, api.ErrShort},
		{[]byte{6, 0, 0, 0, 0, 0}, api.ErrShort},
		{[]byte{6, 255, 255, 255, 255, 255}, api.ErrShort},
		{[]byte{1, 0}, api.ErrForm},
		{[]byte{1, 0, 1}, api.ErrForm},
		{[]byte{2, 0, 1}, api.ErrForm},
		{[]byte{5, 0, 255, 255, 255, 255}, api.ErrForm},
		{[]byte{6, 0, 1, 0, 0, 0, 0}, api.ErrForm},
		{[]byte{6, 0, 0, 0, 0, 0, 0}, api.ErrForm},
		{[]byte{6, 1, 0, 0, 0, 0, 1}, api.ErrForm},
		{[]byte{6, 1, 0, 0, 0, 1, 0}, api.ErrForm},
		{[]byte{6, 1, 1, 0, 0, 0, 0}, api.ErrForm},
		{[]byte{6, 2, 0, 0, 0, 0, 0}, api.ErrForm},
		{[]byte{6, 255, 255, 255, 255, 255, 255, 1}, api.ErrForm},
	} {
		n, rest, e := num.Take(c.b)
		if e != c.e || n != 0 || len(rest) != 0 {
			t.Errorf("Take(%v) = %d, %v, %d; want nothing, %d", c.b, n, rest, e, c.e)
		}
	}
}

// P1.4: numbers of all sizes, whatever stands behind them.
func TestNumbersPutAreTaken(t *testing.T) {
	for i := range 41 {
		for d := -300; d <= 300; d++ {
			n := 1<<i + d
			if n < 0 || n > api.MaxNum {
				continue
			}
			b, e := num.Put(n)
			if e != api.OK || len(b) == 0 || int(b[0]) != len(b)-1 || len(b) > 1 && b[1] == 0 {
				t.Fatalf("Put(%d) = %v, %d", n, b, e)
			}
			m, rest, e := num.Take(append(b, 1, 9))
			if e != api.OK || m != n || !bytes.Equal(rest, []byte{1, 9}) {
				t.Fatalf("Take of the bytes of %d = %d, %v, %d", n, m, rest, e)
			}
		}
	}
}

// rows gives all rows of at most long of these bytes.
func rows(long int, of ...byte) [][]byte {
	all := [][]byte{nil}
	for from := 0; long > 0; long-- {
		end := len(all)
		for _, b := range all[from:end] {
			for _, x := range of {
				all = append(all, append(slices.Clone(b), x))
			}
		}
		from = end
	}
	return all
}

// P1.4: what is taken, of any bytes, has just the bytes that were there.
func TestAnyBytesTaken(t *testing.T) {
	taken := [3]int{}
	for _, b := range append(rows(5, 0, 1, 2, 3, 7, 255), rows(8, 0, 1, 6)...) {
		if n, rest, e := num.Take(b); e == api.OK {
			taken[0]++
			p, f := num.Put(n)
			if f != api.OK || !bytes.Equal(slices.Concat(p, rest), b) {
				t.Fatalf("Take(%v) = %d, %v; Put of it %v", b, n, rest, p)
			}
		}
		if s, rest, e := num.TakeText(b); e == api.OK {
			taken[1]++
			p, f := num.Text(s)
			if f != api.OK || !bytes.Equal(slices.Concat(p, rest), b) {
				t.Fatalf("TakeText(%v) = %q, %v; Text of it %v", b, s, rest, p)
			}
		}
		if l, rest, e := num.TakeList(b); e == api.OK {
			taken[2]++
			p, f := num.List(l...)
			if f != api.OK || !bytes.Equal(slices.Concat(p, rest), b) {
				t.Fatalf("TakeList(%v) = %v, %v; List of it %v", b, l, rest, p)
			}
		}
	}
	for i, many := range taken {
		if many == 0 {
			t.Error("nothing was taken by call", i)
		}
	}
}

// P1.4: bytes are taken just when they begin with what some number has.
func TestTakenJustWhenPut(t *testing.T) {
	put := map[string]int{}
	for n := range 1 << 16 {
		b, _ := num.Put(n)
		put[string(b)] = n
	}
	for _, b := range rows(3, 0, 1, 2, 3, 44, 255) {
		want, found := 0, false
		for end := 1; end <= len(b) && !found; end++ {
			want, found = put[string(b[:end])]
		}
		n, _, e := num.Take(b)
		if (e == api.OK) != found || n != want {
			t.Errorf("Take(%v) = %d, %d; want %d, %t", b, n, e, want, found)
		}
	}
}

// P1.2, P1.4.
func TestTexts(t *testing.T) {
	texts := []string{"", "a", "a b c", "\x00", "\x00\x00", "\xff\xfe", "\u00e9\u4e16", "line\nline"}
	for n := range 256 {
		texts = append(texts, strings.Repeat("x", n))
	}
	for _, s := range texts {
		b, e := num.Text(s)
		if want := append([]byte{byte(len(s))}, s...); e != api.OK || !bytes.Equal(b, want) {
			t.Errorf("Text(%q) = %v, %d", s, b, e)
		}
		for _, tail := range tails {
			x, rest, e := num.TakeText(slices.Concat(b, tail))
			if e != api.OK || x != s || !bytes.Equal(rest, tail) {
				t.Errorf("TakeText of %q and %v = %q, %v, %d", s, tail, x, rest, e)
			}
		}
	}
}

// P1.2: bytes are counted, not letters.
func TestTextWrong(t *testing.T) {
	for _, s := range []string{strings.Repeat("x", 256), strings.Repeat("x", 257), strings.Repeat("x", 511), strings.Repeat("x", 512), strings.Repeat("x", 1<<20), strings.Repeat("\u00e9", 128)} {
		b, e := num.Text(s)
		if e != api.ErrArg || len(b) != 0 {
			t.Errorf("Text of %d bytes = %v, %d; want nothing, ErrArg", len(s), b, e)
		}
	}
}

// P1.2.
func TestTakeTextWrong(t *testing.T) {
	for _, b := range [][]byte{nil, {}, {1}, {2, 65}, {3, 1, 2}, {7}, {255}, append([]byte{255}, make([]byte, 254)...)} {
		s, rest, e := num.TakeText(b)
		if e != api.ErrShort || s != "" || len(rest) != 0 {
			t.Errorf("TakeText(%v) = %q, %v, %d; want nothing, ErrShort", b, s, rest, e)
		}
	}
}

// listRows are lists and their bytes, written out.
var listRows = []struct {
	l []int
	b []byte
}{
	{nil, []byte{0}},
	{[]int{}, []byte{0}},
	{[]int{0}, []byte{1, 0}},
	{[]int{1}, []byte{1, 1, 1}},
	{[]int{1, 0}, []byte{2, 1, 1, 0}},
	{[]int{0, 1}, []byte{2, 0, 1, 1}},
	{[]int{1, 0, 300}, []byte{3, 1, 1, 0, 2, 1, 44}},
	{[]int{255, 256}, []byte{2, 1, 255, 2, 1, 0}},
	{[]int{5, 5, 5}, []byte{3, 1, 5, 1, 5, 1, 5}},
	{[]int{api.MaxNum, 0}, []byte{2, 6, 1, 0, 0, 0, 0, 0, 0}},
}

// P1.3, P1.4.
func TestLists(t *testing.T) {
	for _, c := range listRows {
		b, e := num.List(c.l...)
		if e != api.OK || !bytes.Equal(b, c.b) {
			t.Errorf("List(%v) = %v, %d; want %v", c.l, b, e, c.b)
		}
		for _, tail := range tails {
			l, rest, e := num.TakeList(slices.Concat(c.b, tail))
			if e != api.OK || !slices.Equal(l, c.l) || !bytes.Equal(rest, tail) {
				t.Errorf("TakeList(%v and %v) = %v, %v, %d", c.b, tail, l, rest, e)
			}
		}
	}
}

// P1.3, P1.4: all lengths that may be, of numbers of all sizes.
func TestLongLists(t *testing.T) {
	for many := range 256 {
		l := make([]int, many)
		want := []byte{byte(many)}
		for i := range l {
			l[i] = 1 << (i % 41)
			b, _ := num.Put(l[i])
			want = append(want, b...)
		}
		b, e := num.List(l...)
		if e != api.OK || !bytes.Equal(b, want) {
			t.Fatalf("List of %d numbers = %v, %d", many, b, e)
		}
		x, rest, e := num.TakeList(append(b, 9))
		if e != api.OK || !slices.Equal(x, l) || !bytes.Equal(rest, []byte{9}) {
			t.Fatalf("TakeList of %d numbers = %v, %v, %d", many, x, rest, e)
		}
	}
}

// P1.3.
func TestListWrong(t *testing.T) {
	wrong := [][]int{make([]int, 256), make([]int, 257), make([]int, 512), make([]int, 1<<16)}
	for _, n := range notNumbers {
		wrong = append(wrong, []int{n}, []int{n, 1}, []int{1, n}, []int{1, n, 1}, append(make([]int, 254), n), append(make([]int, 255), n))
	}
	for i, l := range wrong {
		b, e := num.List(l...)
		if e != api.ErrArg || len(b) != 0 {
			t.Errorf("%d: List of %d numbers = %v, %d; want nothing, ErrArg", i, len(l), b, e)
		}
	}
}

// P1.3: the first number that cannot be taken tells the error.
func TestTakeListWrong(t *testing.T) {
	for _, c := range []struct {
		b []byte
		e api.Errno
	}{
		{nil, api.ErrShort},
		{[]byte{}, api.ErrShort},
		{[]byte{1}, api.ErrShort},
		{[]byte{255}, api.ErrShort},
		{[]byte{1, 1}, api.ErrShort},
		{[]byte{1, 7}, api.ErrForm},
		{[]byte{1, 1, 0}, api.ErrForm},
		{[]byte{2, 1, 1}, api.ErrShort},
		{[]byte{2, 1, 1, 7}, api.ErrForm},
		{[]byte{2, 7, 1, 1}, api.ErrForm},
		{[]byte{2, 7}, api.ErrForm},
		{[]byte{3, 0, 2, 1}, api.ErrShort},
		{[]byte{3, 0, 2, 0, 1}, api.ErrForm},
		{[]byte{2, 2, 7, 7, 2, 7}, api.ErrShort},
		{[]byte{1, 6, 1, 0, 0, 0, 0, 1}, api.ErrForm},
		{append([]byte{255}, make([]byte, 254)...), api.ErrShort},
		{append(append([]byte{255}, make([]byte, 254)...), 8), api.ErrForm},
	} {
		l, rest, e := num.TakeList(c.b)
		if e != c.e || len(l) != 0 || len(rest) != 0 {
			t.Errorf("TakeList(%v) = %v, %v, %d; want nothing, %d", c.b, l, rest, e, c.e)
		}
	}
}

// spoil overwrites b, and its spare room.
func spoil(b []byte) {
	b = b[:cap(b)]
	for i := range b {
		b[i] = 0xee
	}
}

// R4: what is handed in, with its room, stays; what is told is in memory of its own.
func TestTakesOwnMemory(t *testing.T) {
	const given = "\x01\x03\x02\x01\x2cwhat stands behind"
	for name, take := range map[string]func([]byte) ([]byte, string){
		"Take":     func(b []byte) ([]byte, string) { n, rest, _ := num.Take(b); return rest, fmt.Sprint(n) },
		"TakeText": func(b []byte) ([]byte, string) { s, rest, _ := num.TakeText(b); return rest, s },
		"TakeList": func(b []byte) ([]byte, string) { l, rest, _ := num.TakeList(b); return rest, fmt.Sprint(l) },
	} {
		for end := range len(given) + 1 {
			whole := []byte(given)
			b := whole[:end]
			rest, told := take(b)
			other, _ := take(b)
			if string(whole) != given {
				t.Fatalf("%s changed %q to %q", name, given, whole)
			}
			spoil(rest)
			if again, _ := take(b); string(whole) != given || !bytes.Equal(again, other) {
				t.Errorf("%s of %q: the rest shares memory", name, b)
			}
			kept := slices.Clone(other)
			old := strings.Clone(told)
			spoil(whole)
			if told != old || !bytes.Equal(other, kept) {
				t.Errorf("%s of %q: the answer shares memory", name, given[:end])
			}
		}
	}
}

// R4: likewise of what is put.
func TestPutsOwnMemory(t *testing.T) {
	l := []int{1, 0, 300, 7}
	for name, put := range map[string]func() ([]byte, api.Errno){
		"Put":  func() ([]byte, api.Errno) { return num.Put(0) },
		"Text": func() ([]byte, api.Errno) { return num.Text("") },
		"List": func() ([]byte, api.Errno) { return num.List(l[:3]...) },
	} {
		b, _ := put()
		want := slices.Clone(b)
		spoil(b)
		if again, e := put(); e != api.OK || !bytes.Equal(again, want) {
			t.Errorf("%s: two answers share memory", name)
		}
	}
	if !slices.Equal(l, []int{1, 0, 300, 7}) {
		t.Error("List changed its numbers:", l)
	}
}

// R4: two lists taken of the same bytes are in memory of their own.
func TestListsOwnMemory(t *testing.T) {
	b := []byte{3, 1, 1, 1, 2, 1, 3}
	x, _, _ := num.TakeList(b)
	y, _, _ := num.TakeList(b)
	x[0] = 9
	if !slices.Equal(y, []int{1, 2, 3}) {
		t.Error("two lists share memory:", y)
	}
}
