package mix_test

import (
	"math"
	"slices"
	"strings"
	"testing"

	"garland/api"
	"garland/mix"
)

const last = 65535 // the last place

// nextRows are places, bytes, and the places behind them, written out.
var nextRows = []struct {
	at   int
	b    byte
	next int
}{
	{0, 0, 1}, {0, 1, 2}, {0, 97, 98}, {0, 254, 255}, {0, 255, 256},
	{1, 0, 40504}, {1, 255, 40759}, {2, 0, 15471}, {7, 97, 21475}, {7, 0, 21378}, {7, 255, 21633},
	{255, 0, 39114}, {256, 0, 14081}, {32767, 0, 57802}, {32768, 0, 32769}, {32768, 255, 33024},
	{65534, 0, 50067}, {65534, 255, 50322}, {last, 0, 25034}, {last, 255, 25289},
}

// restRows are numbers that are no places, bytes, and the places behind them.
var restRows = []struct {
	at   int
	b    byte
	next int
}{
	{65536, 0, 1}, {65537, 255, 40759}, {65543, 97, 21475}, {-1, 0, 25034}, {-65535, 0, 40504}, {-65536, 3, 4}, {-65529, 97, 21475},
	{1 << 40, 9, 10}, {1 << 62, 9, 10}, {math.MaxInt, 0, 25034}, {math.MaxInt, 255, 25289}, {math.MaxInt - 1, 255, 50322},
	{math.MinInt, 0, 1}, {math.MinInt, 255, 256}, {math.MinInt + 1, 0, 40504}, {math.MinInt + 65535, 1, 25035},
}

// beforeRows are places and numbers that are none, bytes, and the places ahead of them.
var beforeRows = []struct {
	at     int
	b      byte
	before int
}{
	{1, 0, 0}, {256, 255, 0}, {21475, 97, 7}, {40504, 0, 1}, {0, 0, 34937}, {0, 255, 30976}, {255, 255, 34937}, {last, 0, 4338}, {last, 255, 377},
	{65536, 0, 34937}, {-1, 0, 4338}, {-65535, 0, 0}, {65792, 255, 0}, {87011, 97, 7}, {-44061, 97, 7},
	{1 << 62, 0, 34937}, {math.MaxInt, 0, 4338}, {math.MaxInt, 255, 377}, {math.MinInt, 0, 34937}, {math.MinInt, 255, 30976}, {math.MinInt + 1, 0, 0},
}

// rests are ints and their rests by Places.
var rests = [][2]int{
	{0, 0}, {1, 1}, {7, 7}, {last, last}, {65536, 0}, {65543, 7}, {70000, 4464}, {131072, 0}, {-1, last}, {-65529, 7}, {-65536, 0}, {-65537, last},
	{1<<40 + 7, 7}, {-1<<40 - 7, 65529}, {math.MaxInt, last}, {math.MaxInt - 65528, 7}, {math.MinInt, 0}, {math.MinInt + 7, 7},
}

// keyRows are keys and their places, written out.
var keyRows = []struct {
	key   string
	place int
}{
	{"a", 21475}, {"b", 21476}, {"c", 21477}, {"\x00", 21378}, {"\x80", 21506}, {"\xff", 21633},
	{"\x00\x00", 11503}, {"\x00\x01", 11504}, {"\x01\x00", 52006}, {"aa", 8231}, {"ab", 8232}, {"ba", 48734},
	{"abc", 39164}, {"cab", 55910}, {"key", 53729}, {"garland", 53141}, {"abcdefghijklmnopqrst", 55953},
	{"\xc3\xa9", 45437}, {"\xff\xfe", 50870}, // one rune; bytes that are none
	{strings.Repeat("z", 19), 63716}, {strings.Repeat("z", 20), 12663}, {strings.Repeat("\x00", 20), 7063}, {strings.Repeat("\xff", 20), 54759},
}

// notKeys are rows of bytes that are no keys.
var notKeys = []string{"", strings.Repeat("z", 21), strings.Repeat("\x00", 21), strings.Repeat("é", 11), strings.Repeat("a", 255), strings.Repeat("a", 256), strings.Repeat("a", 276), strings.Repeat("a", 65540)}

// P4.1.
func TestNext(t *testing.T) {
	for _, c := range slices.Concat(nextRows, restRows) {
		if p := mix.Next(c.at, c.b); p != c.next {
			t.Errorf("Next(%d, %d) = %d; want %d", c.at, c.b, p, c.next)
		}
	}
}

// P4.1: of all places, by each byte, by adding alone.
func TestNextOfAll(t *testing.T) {
	for b := range 256 {
		want := b + 1
		for at := range api.Places {
			if p := mix.Next(at, byte(b)); p != want {
				t.Fatalf("Next(%d, %d) = %d; want %d", at, b, p, want)
			}
			want += 40503
			if want > last {
				want -= api.Places
			}
		}
	}
}

// P4.1.
func TestBefore(t *testing.T) {
	for _, c := range beforeRows {
		if p := mix.Before(c.at, c.b); p != c.before {
			t.Errorf("Before(%d, %d) = %d; want %d", c.at, c.b, p, c.before)
		}
	}
	for _, c := range nextRows {
		if p := mix.Before(c.next, c.b); p != c.at {
			t.Errorf("Before(%d, %d) = %d; want %d", c.next, c.b, p, c.at)
		}
	}
}

// P4.3, P4.1: Before takes Next back, and Next takes Before back.
func TestBeforeTakesBack(t *testing.T) {
	for b := range 256 {
		for at := range api.Places {
			if p := mix.Before(mix.Next(at, byte(b)), byte(b)); p != at {
				t.Fatalf("by %d and back from %d: %d", b, at, p)
			}
			if p := mix.Next(mix.Before(at, byte(b)), byte(b)); p != at {
				t.Fatalf("back by %d and on from %d: %d", b, at, p)
			}
		}
	}
}

// P4.1, P4.3: a number that is no place is taken by its rest.
func TestByRests(t *testing.T) {
	for _, c := range rests {
		for b := range 256 {
			next, before := mix.Next(c[0], byte(b)), mix.Before(c[0], byte(b))
			if next != mix.Next(c[1], byte(b)) || before != mix.Before(c[1], byte(b)) {
				t.Errorf("of %d by %d: Next %d, Before %d; not as of %d", c[0], b, next, before, c[1])
			}
			if mix.Before(next, byte(b)) != c[1] || mix.Next(before, byte(b)) != c[1] {
				t.Errorf("of %d by %d: there and back is not %d", c[0], b, c[1])
			}
		}
	}
}

// P4.1.
func TestGo(t *testing.T) {
	for _, c := range rests {
		if p := mix.Go(c[0], ""); p != c[1] {
			t.Errorf("Go(%d) by no bytes = %d; want %d", c[0], p, c[1])
		}
	}
	for _, c := range slices.Concat(nextRows, restRows) {
		if p := mix.Go(c.at, string([]byte{c.b})); p != c.next {
			t.Errorf("Go(%d) by %d = %d; want %d", c.at, c.b, p, c.next)
		}
	}
	for _, c := range keyRows {
		for _, at := range []int{7, 65543, -65529, math.MinInt + 7} {
			if p := mix.Go(at, c.key); p != c.place {
				t.Errorf("Go(%d, %q) = %d; want %d", at, c.key, p, c.place)
			}
		}
	}
	for _, c := range []struct {
		at   int
		key  string
		goes int
	}{{0, "a", 98}, {0, "\x00\x00", 40504}, {0, "\xff\x00", 14081}, {1, "\xff\xff", 10193}, {last, "ab", 41376}, {32768, "\x00", 32769}} {
		if p := mix.Go(c.at, c.key); p != c.goes {
			t.Errorf("Go(%d, %q) = %d; want %d", c.at, c.key, p, c.goes)
		}
	}
}

// P4.1: bytes one by one lead where all at once do, and back; more of them, too, than a key may have.
func TestGoByBytes(t *testing.T) {
	long := strings.Repeat("garland\x00\xff é", 500)
	for _, c := range rests {
		for _, key := range []string{"a", "ab", "\xff\xfe", long[:20], long[:21], long} {
			at := c[0]
			for i := range len(key) {
				at = mix.Next(at, key[i])
			}
			if p := mix.Go(c[0], key); p != at {
				t.Errorf("Go(%d) by %d bytes = %d; want %d", c[0], len(key), p, at)
			}
			for i := len(key) - 1; i >= 0; i-- {
				at = mix.Before(at, key[i])
			}
			if at != c[1] {
				t.Errorf("back from where %d goes by %d bytes: %d; want %d", c[0], len(key), at, c[1])
			}
			if p := mix.Go(mix.Go(c[0], key[:1]), key[1:]); p != mix.Go(c[0], key) {
				t.Errorf("Go(%d) by %d bytes in two parts = %d", c[0], len(key), p)
			}
		}
	}
}

// P4.2.
func TestOf(t *testing.T) {
	for _, c := range keyRows {
		if p, e := mix.Of(c.key); p != c.place || e != api.OK {
			t.Errorf("Of(%q) = %d, %d; want %d", c.key, p, e, c.place)
		}
	}
	for n := 1; n <= api.MaxKey; n++ {
		key := strings.Repeat("k", n)
		if p, e := mix.Of(key); p != mix.Go(7, key) || e != api.OK {
			t.Errorf("Of(%q) = %d, %d", key, p, e)
		}
	}
}

// P4.2.
func TestOfWrong(t *testing.T) {
	for _, key := range notKeys {
		if p, e := mix.Of(key); p != 0 || e != api.ErrArg {
			t.Errorf("Of %d bytes = %d, %d; want 0, ErrArg", len(key), p, e)
		}
	}
}

// P4.2: each one's place, in order.
func TestRow(t *testing.T) {
	var keys []string
	var want []int
	for _, c := range keyRows {
		keys, want = append(keys, c.key), append(want, c.place)
		if l, e := mix.Row(keys...); e != api.OK || !slices.Equal(l, want) {
			t.Errorf("Row(%q) = %v, %d; want %v", keys, l, e, want)
		}
	}
	for _, none := range [][]string{nil, {}} {
		if l, e := mix.Row(none...); e != api.OK || len(l) != 0 {
			t.Errorf("Row of none = %v, %d", l, e)
		}
	}
	if l, e := mix.Row("b", "a", "b", "b"); e != api.OK || !slices.Equal(l, []int{21476, 21475, 21476, 21476}) {
		t.Errorf("Row of keys, some twice = %v, %d", l, e)
	}
}

// P4.2: one that is no key, wherever it stands.
func TestRowWrong(t *testing.T) {
	for _, not := range notKeys {
		for at := range 4 {
			keys := slices.Insert([]string{"a", "b", "c"}, at, not)
			if l, e := mix.Row(keys...); e != api.ErrArg || len(l) != 0 {
				t.Errorf("Row of %d bytes at %d = %v, %d; want nothing, ErrArg", len(not), at, l, e)
			}
		}
		if l, e := mix.Row(not); e != api.ErrArg || len(l) != 0 {
			t.Errorf("Row of %d bytes alone = %v, %d; want nothing, ErrArg", len(not), l, e)
		}
	}
	if l, e := mix.Row(notKeys...); e != api.ErrArg || len(l) != 0 {
		t.Errorf("Row of no keys at all = %v, %d; want nothing, ErrArg", l, e)
	}
}

// P4.3: one byte another one, the place is another one.
func TestOneByteDiffers(t *testing.T) {
	for _, c := range keyRows {
		for i := range len(c.key) {
			seen := map[int]int{}
			for b := range 256 {
				key := []byte(c.key)
				key[i] = byte(b)
				p, e := mix.Of(string(key))
				if first, ok := seen[p]; ok || e != api.OK {
					t.Fatalf("%q with %d or %d at %d: the place %d, %d", c.key, first, b, i, p, e)
				}
				seen[p] = b
			}
		}
	}
}

// R3, R4: a row stays as it is, spare room too; what was told is nobody else's, and is told again.
func TestRowIsOwn(t *testing.T) {
	whole := []string{"a", "b", "c", "d"}
	first, _ := mix.Row(whole[:2]...)
	again, _ := mix.Row(whole[:2]...)
	first[0] = -1
	_ = append(first, -1)
	if !slices.Equal(again, []int{21475, 21476}) || !slices.Equal(whole, []string{"a", "b", "c", "d"}) {
		t.Errorf("changing one answer: the other %v, the row %v", again, whole)
	}
	mix.Row("a", "")
	if l, e := mix.Row(whole[:2]...); e != api.OK || !slices.Equal(l, again) {
		t.Errorf("told again: %v, %d", l, e)
	}
}
