package arc_test

import (
	"math"
	"slices"
	"testing"

	"garland/api"
	"garland/arc"
)

const last = 65535 // the last place

// placeRows are ints and their places, written out.
var placeRows = [][2]int{
	{0, 0}, {1, 1}, {300, 300}, {32768, 32768}, {65534, 65534}, {65535, 65535},
	{65536, 0}, {65537, 1}, {131071, 65535}, {131072, 0}, {131073, 1},
	{-1, 65535}, {-2, 65534}, {-65535, 1}, {-65536, 0}, {-65537, 65535}, {-131072, 0}, {-131073, 65535},
	{1 << 31, 0}, {1<<32 - 1, 65535}, {1 << 32, 0}, {1<<40 + 7, 7}, {-1 << 40, 0}, {-1<<40 - 7, 65529}, {1 << 62, 0},
	{math.MaxInt, 65535}, {math.MaxInt - 1, 65534}, {math.MaxInt - 65535, 0}, {math.MaxInt - 65536, 65535},
	{math.MinInt, 0}, {math.MinInt + 1, 1}, {math.MinInt + 65535, 65535}, {math.MinInt + 65536, 0},
}

// edges are places beside which something may go wrong.
var edges = []int{0, 1, 2, 3, 255, 256, 257, 16383, 16384, 32766, 32767, 32768, 32769, 49152, 65279, 65280, 65533, 65534, 65535}

// others are ints, all of the place p.
func others(p int) []int {
	return []int{p, p + api.Places, p - api.Places, p + 2*api.Places, p - 3*api.Places, p + 1<<40, p - 1<<40, p + math.MinInt, p + math.MaxInt - 65535}
}

// after is the place one further.
func after(p int) int {
	if p == last {
		return 0
	}
	return p + 1
}

// steps is how many steps lead from the place a to b.
func steps(a, b int) int {
	n := 0
	for ; a != b; n++ {
		a = after(a)
	}
	return n
}

// between marks the places that are stepped on from a on ahead of b.
func between(a, b int) []bool {
	marks := make([]bool, api.Places)
	for p := after(a); p != a && p != b; p = after(p) {
		marks[p] = true
	}
	return marks
}

// met is the first place of l that is stepped on from key on.
func met(l []int, key int) int {
	for !slices.Contains(l, key) {
		key = after(key)
	}
	return key
}

// P3.1.
func TestPlace(t *testing.T) {
	for _, c := range placeRows {
		if p := arc.Place(c[0]); p != c[1] {
			t.Errorf("Place(%d) = %d; want %d", c[0], p, c[1])
		}
	}
	want := 0
	for n := -3 * api.Places; n <= 3*api.Places; n++ {
		if p := arc.Place(n); p != want {
			t.Fatalf("Place(%d) = %d; want %d", n, p, want)
		}
		want = after(want)
	}
}

// P3.1.
func TestFar(t *testing.T) {
	for _, c := range []struct{ a, b, far int }{
		{0, 0, 0}, {7, 7, 0}, {last, last, 0}, {last, 1, 2}, {1, last, 65534}, {0, 1, 1}, {1, 0, last}, {0, last, last}, {last, 0, 1},
		{5, 9, 4}, {9, 5, 65532}, {7, 6, last}, {0, 32768, 32768}, {32768, 0, 32768}, {32769, 0, 32767}, {40000, 100, 25636},
		{-1, 0, 1}, {0, -1, last}, {-1, -1, 0}, {-3, -1, 2}, {65536, 5, 5}, {5, 65536, 65531}, {65536, 131072, 0}, {-65536, 65537, 1},
		{1 << 62, -3, 65533}, {-3, 1 << 62, 3}, {math.MinInt, math.MaxInt, last}, {math.MaxInt, math.MinInt, 1},
		{math.MaxInt, math.MaxInt, 0}, {math.MinInt, math.MinInt, 0}, {math.MaxInt, -1, 0}, {math.MinInt, -1, last}, {1, math.MinInt, last}, {math.MaxInt, 0, 1},
	} {
		if far := arc.Far(c.a, c.b); far != c.far {
			t.Errorf("Far(%d, %d) = %d; want %d", c.a, c.b, far, c.far)
		}
	}
}

// P3.1: from places at the edges, step by step round.
func TestFarRound(t *testing.T) {
	for _, a := range edges {
		p := a
		for want := range api.Places {
			if far := arc.Far(a, p); far != want {
				t.Fatalf("Far(%d, %d) = %d; want %d", a, p, far, want)
			}
			p = after(p)
		}
	}
}

// P3.1: ints are taken by their places.
func TestFarByPlaces(t *testing.T) {
	for _, c := range []struct{ a, b, far int }{{0, 0, 0}, {last, 1, 2}, {1, last, 65534}, {100, 40000, 39900}} {
		for _, a := range others(c.a) {
			for _, b := range others(c.b) {
				if far := arc.Far(a, b); far != c.far {
					t.Errorf("Far(%d, %d) = %d; want %d", a, b, far, c.far)
				}
			}
		}
	}
}

// betweenRows are places, and whether x is strictly between, or up to.
var betweenRows = []struct {
	a, x, b  int
	in, upTo bool
}{
	{5, 4, 9, false, false}, {5, 5, 9, false, false}, {5, 6, 9, true, true}, {5, 8, 9, true, true}, {5, 9, 9, false, true}, {5, 10, 9, false, false},
	{9, 10, 5, true, true}, {9, 4, 5, true, true}, {9, 5, 5, false, true}, {9, 6, 5, false, false}, {9, 9, 5, false, false},
	{last, 0, 1, true, true}, {last, last, 1, false, false}, {last, 1, 1, false, true}, {last, 2, 1, false, false},
	{65530, 2, 10, true, true}, {65530, last, 10, true, true}, {65530, 0, 10, true, true}, {65530, 10, 10, false, true}, {65530, 11, 10, false, false},
	{10, last, 2, true, true}, {10, 0, 2, true, true}, {10, 1, 2, true, true}, {10, 2, 2, false, true}, {10, 3, 2, false, false}, {10, 10, 2, false, false},
	{5, 5, 6, false, false}, {5, 6, 6, false, true}, {5, 7, 6, false, false}, {last, 0, 0, false, true}, {last, 1, 0, false, false}, // side by side
	{6, 5, 5, false, true}, {6, 7, 5, true, true}, {6, 6, 5, false, false},
	{4, 4, 4, false, true}, {4, 5, 4, true, true}, {4, 3, 4, true, true}, {0, 0, 0, false, true}, {0, last, 0, true, true}, {last, last, last, false, true}, {last, 0, last, true, true}, // one place
}

// P3.2: written out, and by ints of the same places.
func TestBetween(t *testing.T) {
	for _, c := range betweenRows {
		for _, a := range others(c.a) {
			for _, x := range others(c.x) {
				for _, b := range others(c.b) {
					if in, upTo := arc.In(a, x, b), arc.UpTo(a, x, b); in != c.in || upTo != c.upTo {
						t.Errorf("%d, %d, %d: In %t, UpTo %t; want %t, %t", a, x, b, in, upTo, c.in, c.upTo)
					}
				}
			}
		}
	}
}

// P3.2: all places, step by step round.
func TestBetweenRound(t *testing.T) {
	for _, a := range edges {
		for _, b := range []int{a, arc.Place(a + 1), arc.Place(a - 1), arc.Place(a + 2), 0, 9, 32768, last} {
			for x, want := range between(a, b) {
				if in, upTo := arc.In(a, x, b), arc.UpTo(a, x, b); in != want || upTo != (want || x == b) {
					t.Fatalf("%d, %d, %d: In %t, UpTo %t; want In %t", a, x, b, in, upTo, want)
				}
			}
		}
	}
}

// P3.3.
func TestStart(t *testing.T) {
	for _, c := range []struct{ a, i, start int }{
		{0, 0, 1}, {0, 1, 2}, {0, 2, 4}, {0, 3, 8}, {0, 4, 16}, {0, 5, 32}, {0, 6, 64}, {0, 7, 128}, {0, 8, 256}, {0, 9, 512},
		{0, 10, 1024}, {0, 11, 2048}, {0, 12, 4096}, {0, 13, 8192}, {0, 14, 16384}, {0, 15, 32768},
		{65534, 0, last}, {65534, 1, 0}, {65534, 2, 2}, {65534, 3, 6}, {last, 0, 0}, {last, 15, 32767}, {32768, 15, 0}, {32767, 15, last}, {9, 15, 32777}, {49152, 14, 0},
		{-1, 0, 0}, {-1, 15, 32767}, {65536, 0, 1}, {-65537, 4, 15},
		{math.MaxInt, 0, 0}, {math.MaxInt, 15, 32767}, {math.MaxInt - 1, 0, last}, {math.MinInt, 0, 1}, {math.MinInt, 15, 32768},
	} {
		if s := arc.Start(c.a, c.i); s != c.start {
			t.Errorf("Start(%d, %d) = %d; want %d", c.a, c.i, s, c.start)
		}
	}
}

// P3.3: of all places, each start, by doubling.
func TestAllStarts(t *testing.T) {
	for a := range api.Places {
		on := 1
		for i := range api.Bits {
			want := a + on
			if want > last {
				want -= api.Places
			}
			if s := arc.Start(a, i); s != want {
				t.Fatalf("Start(%d, %d) = %d; want %d", a, i, s, want)
			}
			on += on
		}
	}
}

// P3.3: there is no such start.
func TestStartWrong(t *testing.T) {
	for _, i := range []int{-1, -2, -15, -16, -64, math.MinInt, math.MinInt + 1, 16, 17, 31, 32, 62, 63, 64, 65, 1 << 32, 1<<32 + 1, math.MaxInt} {
		for _, c := range placeRows {
			if s := arc.Start(c[0], i); s != c[1] {
				t.Errorf("Start(%d, %d) = %d; want %d", c[0], i, s, c[1])
			}
		}
	}
}

// P3.4.
func TestOwner(t *testing.T) {
	for _, c := range []struct {
		l          []int
		key, owner int
	}{
		{[]int{100, 7, 65000}, 0, 7}, {[]int{100, 7, 65000}, 7, 7}, {[]int{100, 7, 65000}, 8, 100}, {[]int{100, 7, 65000}, 100, 100},
		{[]int{100, 7, 65000}, 101, 65000}, {[]int{100, 7, 65000}, 65000, 65000}, {[]int{100, 7, 65000}, 65001, 7}, {[]int{100, 7, 65000}, last, 7},
		{[]int{100, 7, 65000}, -1, 7}, {[]int{100, 7, 65000}, 65544, 100}, {[]int{100, 7, 65000}, -65536 + 101, 65000}, {[]int{100, 7, 65000}, math.MinInt + 8, 100}, {[]int{100, 7, 65000}, math.MaxInt, 7},
		{[]int{5}, 5, 5}, {[]int{5}, 6, 5}, {[]int{5}, 4, 5}, {[]int{0}, 0, 0}, {[]int{0}, 1, 0}, {[]int{0}, last, 0}, {[]int{last}, 0, last}, {[]int{last}, last, last},
		{[]int{0, last}, 0, 0}, {[]int{0, last}, 1, last}, {[]int{last, 0}, 0, 0}, {[]int{last, 0}, last, last},
		{[]int{9, 9, 9}, 10, 9}, {[]int{9, 9, 9}, 9, 9}, {[]int{3, 9, 3, 9}, 4, 9}, {[]int{3, 9, 3, 9}, 10, 3},
		{[]int{-1}, 5, last}, {[]int{65536}, 5, 0}, {[]int{-1, 65546}, 5, 10}, {[]int{-1, 65546}, 11, last}, {[]int{65546, -1}, last, last},
		{[]int{math.MinInt}, 5, 0}, {[]int{math.MaxInt}, 5, last}, {[]int{math.MinInt, math.MaxInt}, 5, last}, {[]int{math.MaxInt, math.MinInt}, 0, 0},
		{[]int{1<<40 + 3, 10}, 2, 3}, {[]int{10, 1<<40 + 3}, 2, 3}, {[]int{10, 1<<40 + 3}, 3, 3}, {[]int{10, 1<<40 + 3}, 4, 10},
	} {
		if p, ok := arc.Owner(c.l, c.key); !ok || p != c.owner {
			t.Errorf("Owner(%v, %d) = %d, %t; want %d", c.l, c.key, p, ok, c.owner)
		}
	}
}

// P3.4.
func TestOwnerOfNone(t *testing.T) {
	for _, l := range [][]int{nil, {}, make([]int, 0, 5)} {
		for _, c := range placeRows {
			if p, ok := arc.Owner(l, c[0]); ok || p != 0 {
				t.Errorf("Owner of none, %d: %d, %t; want 0, no", c[0], p, ok)
			}
		}
	}
}

// P3.4: whatever the order, the owner is the first one that is met from the key on.
func TestOwnerIsMet(t *testing.T) {
	rows := [][]int{{5}, {0, last}, {40, 9}, {1, 5, 9}, {9, 40, 32768}, {65000, 300, 20000, 40000}, edges}
	for _, l := range rows {
		back := slices.Clone(l)
		slices.Reverse(back)
		for _, p := range l {
			for _, key := range []int{arc.Place(p - 1), p, arc.Place(p + 1), arc.Place(p + 100)} {
				want := met(l, key)
				a, ok := arc.Owner(l, key)
				b, is := arc.Owner(back, key)
				if !ok || !is || a != want || b != want {
					t.Errorf("Owner(%v, %d) = %d, %t, of the row turned round %d, %t; want %d", l, key, a, ok, b, is, want)
				}
			}
		}
	}
}

// P3.4: of all places each owns its own key; of all but one the next one owns that one's.
func TestOwnerAmongAll(t *testing.T) {
	all := make([]int, api.Places)
	for p := range all {
		all[p] = p
	}
	for _, p := range edges {
		if o, ok := arc.Owner(all, p); !ok || o != p {
			t.Errorf("Owner among all, %d: %d, %t", p, o, ok)
		}
		if o, ok := arc.Owner(slices.Delete(slices.Clone(all), p, p+1), p); !ok || o != after(p) {
			t.Errorf("Owner among all but %d: %d, %t", p, o, ok)
		}
	}
}

// P3.4.
func TestRises(t *testing.T) {
	for _, c := range []struct {
		a  int
		l  []int
		is bool
	}{
		{0, nil, true}, {9, []int{}, true}, {math.MinInt, nil, true},
		{9, []int{9}, false}, {9, []int{10}, true}, {9, []int{8}, true}, {0, []int{0}, false}, {0, []int{last}, true}, {last, []int{0}, true}, {last, []int{last}, false},
		{9, []int{10, 20, 8}, true}, {9, []int{10, 20, 9}, false}, {9, []int{10, 20, 10}, false}, {9, []int{10, 20, 19}, false}, {9, []int{10, 20, 20}, false}, {9, []int{10, 20, 21}, true},
		{9, []int{10, 10}, false}, {9, []int{8, 10}, false}, {9, []int{8, 8}, false}, {9, []int{9, 10}, false}, {9, []int{10, 9}, false}, {9, []int{9, 9}, false},
		{9, []int{20, 10, 30}, false}, {9, []int{10, 30, 20, 40}, false}, {9, []int{10, 20, 30, 40, 50, 5, 6, 8}, true}, {9, []int{10, 20, 30, 40, 50, 6, 5, 8}, false},
		{last, []int{0, 65534}, true}, {last, []int{0, 1, last}, false}, {0, []int{1, last}, true}, {0, []int{last, 1}, false}, {0, []int{1, 32768, 0}, false}, {32768, []int{last, 0, 32767}, true}, {32768, []int{0, last}, false},
		{-1, []int{65536, -2}, true}, {-1, []int{-1}, false}, {9, []int{65545}, false}, {9, []int{10, 65546}, false}, {9, []int{65546, 11}, true}, {9, []int{-65526, 131083}, true}, {65545, []int{10, 20, 8}, true}, {-65527, []int{9}, false},
		{math.MaxInt, []int{math.MinInt, math.MaxInt - 1}, true}, {math.MaxInt, []int{math.MaxInt}, false}, {math.MinInt, []int{1, math.MaxInt}, true}, {math.MinInt, []int{math.MaxInt, 1}, false}, {0, []int{math.MinInt}, false},
	} {
		if is := arc.Rises(c.a, c.l...); is != c.is {
			t.Errorf("Rises(%d, %v) = %t; want %t", c.a, c.l, is, c.is)
		}
	}
}

// P3.4: all places but a, round from it, rise; with one more, or with two side by side changed, they do not.
func TestRisesRound(t *testing.T) {
	for _, a := range edges {
		var l []int
		for p := after(a); p != a; p = after(p) {
			l = append(l, p)
		}
		if !arc.Rises(a, l...) {
			t.Errorf("all places round from %d: false", a)
		}
		for _, p := range edges {
			if arc.Rises(a, append(slices.Clone(l), p)...) {
				t.Errorf("all places round from %d, and %d: true", a, p)
			}
		}
		for _, i := range []int{0, 1, 255, 32767, len(l) - 2} {
			changed := slices.Clone(l)
			changed[i], changed[i+1] = changed[i+1], changed[i]
			if arc.Rises(a, changed...) {
				t.Errorf("all places round from %d, %d and the next changed: true", a, i)
			}
		}
	}
}

// P3.4: of a few places, all rows of up to three: they rise just if each is stepped on later than the one ahead of it.
func TestRisesJustIfMetInOrder(t *testing.T) {
	few := []int{0, 1, 7, 32768, last}
	for _, a := range few {
		for _, x := range few {
			for _, y := range few {
				for _, z := range few {
					fx, fy, fz := steps(a, x), steps(a, y), steps(a, z)
					if is := arc.Rises(a, x, y, z); is != (0 < fx && fx < fy && fy < fz) {
						t.Errorf("Rises(%d, %d, %d, %d) = %t", a, x, y, z, is)
					}
				}
				fx, fy := steps(a, x), steps(a, y)
				if is := arc.Rises(a, x, y); is != (0 < fx && fx < fy) {
					t.Errorf("Rises(%d, %d, %d) = %t", a, x, y, is)
				}
			}
		}
	}
}

// P3.5: of three places one of the other two lies between, not both.
func TestOneBetween(t *testing.T) {
	for _, a := range edges {
		for _, b := range edges {
			for _, c := range edges {
				if a == b || b == c || c == a {
					continue
				}
				if arc.In(a, b, c) == arc.In(a, c, b) {
					t.Errorf("round from %d: %d and %d: In %t for both", a, b, c, arc.In(a, b, c))
				}
			}
		}
	}
}

// P3.5: ways go on.
func TestWaysGoOn(t *testing.T) {
	ints := slices.Concat(edges, []int{-1, -65536, 65536, 1 << 62, math.MinInt, math.MaxInt})
	for _, a := range ints {
		for _, b := range ints {
			for _, c := range ints {
				sum, far := arc.Far(a, b)+arc.Far(b, c), arc.Far(a, c)
				if sum != far && sum != far+api.Places {
					t.Errorf("from %d to %d, and on to %d: %d; at once: %d", a, b, c, sum, far)
				}
			}
		}
	}
}

// P3.5: the starts are as far from the place as they were put on.
func TestStartsAreSoFar(t *testing.T) {
	for _, c := range placeRows {
		for i := range api.Bits {
			if far := arc.Far(c[0], arc.Start(c[0], i)); far != 1<<i {
				t.Errorf("start %d of %d is %d far", i, c[0], far)
			}
		}
	}
}

// R4: rows that are handed in, with their room, stay as they are.
func TestRowsStay(t *testing.T) {
	whole := []int{-1, 65546, 7, 1 << 40, 9, 9}
	old := slices.Clone(whole)
	for end := range len(whole) + 1 {
		arc.Owner(whole[:end], 8)
		arc.Rises(8, whole[:end]...)
		if !slices.Equal(whole, old) {
			t.Fatalf("the row %v became %v", old, whole)
		}
	}
}
