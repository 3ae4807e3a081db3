package compass_test

import (
	"math"
	"testing"

	"garland/api"
	"garland/compass"
)

const quarter = 16384

// nought is 0 with a sign before it.
var nought = math.Copysign(0, -1)

// pointRows are places and their points, written out.
var pointRows = []struct {
	p int
	z complex128
}{
	{0, 16384},
	{1, 16383 + 1i},
	{2, 16382 + 2i},
	{5000, 11384 + 5000i},
	{8192, 8192 + 8192i},
	{16382, 2 + 16382i},
	{16383, 1 + 16383i},
	{16384, 16384i},
	{16385, -1 + 16383i},
	{16386, -2 + 16382i},
	{24576, -8192 + 8192i},
	{32767, -16383 + 1i},
	{32768, -16384},
	{32769, -16383 - 1i},
	{40000, -9152 - 7232i},
	{40960, -8192 - 8192i},
	{49151, -1 - 16383i},
	{49152, -16384i},
	{49153, 1 - 16383i},
	{57344, 8192 - 8192i},
	{65534, 16382 - 2i},
	{65535, 16383 - 1i},
}

// notPlaces are numbers that are no places.
var notPlaces = []int{-1, -2, -quarter, -quarter - 1, -api.Places + 1, -api.Places, -api.Places - 1, math.MinInt32, -1 << 40, math.MinInt + 1, math.MinInt, api.Places, api.Places + 1, api.Places + quarter, 2 * api.Places, 1<<32 + 5, 1 << 40, math.MaxInt - 1, math.MaxInt}

// notPoints are numbers that are no place's points.
func notPoints() []complex128 {
	nan, inf, hair := math.NaN(), math.Inf(1), math.SmallestNonzeroFloat64
	above, below := math.Nextafter(quarter, inf), math.Nextafter(quarter, 0)
	near, far := math.Nextafter(8192, 0), math.Nextafter(8192, inf)
	l := []complex128{
		0, 1, 1i, 8192, 8192i, 1 + 1i,
		complex(nought, 0), complex(0, nought), complex(nought, nought),
		16383, 16385, 16385i, 16384 + 1i, 1 + 16384i, 16384 + 16384i, 8192 + 8191i, 8191 + 8192i, 8193 + 8192i,
		16385 - 1i, -1 + 16385i, 20000 - 3616i, -3616 + 20000i, 32768 - 16384i,
		complex(above, 0), complex(below, 0), complex(0, above), complex(0, below),
		complex(above, nought), complex(nought, below),
		complex(quarter, hair), complex(hair, quarter), complex(quarter, 1e-20), complex(1e-20, quarter), complex(quarter, 1e-12), complex(1e-300, quarter),
		complex(near, 8192), complex(far, 8192), complex(near, far), complex(far, near), complex(8192, far),
		16383.5 + 0.5i, 0.5 + 16383.5i, 8192.5 + 8191.5i, 8192.25 + 8191.75i, 5000 + 11383.5i,
		1 << 31, 1 << 32, 1 << 63, 1 << 64, complex(1<<53, 1<<53), 1e300 + 1e300i, complex(math.MaxFloat64, math.MaxFloat64), complex(1e300, quarter-1e300),
	}
	for _, x := range []float64{nan, inf, -inf} {
		for _, y := range []float64{0, nought, 1, quarter, -quarter, nan, inf, -inf} {
			l = append(l, complex(x, y), complex(y, x))
		}
	}
	for n := len(l); n > 0; n-- {
		z := l[n-1]
		l = append(l, -z, complex(real(z), -imag(z)), complex(-real(z), imag(z)))
	}
	return l
}

// plain tells whether z has no sign before a nought.
func plain(z complex128) bool {
	return (real(z) != 0 || !math.Signbit(real(z))) && (imag(z) != 0 || !math.Signbit(imag(z)))
}

// P2.1.
func TestPoints(t *testing.T) {
	for _, c := range pointRows {
		if z, e := compass.At(c.p); z != c.z || e != api.OK {
			t.Errorf("At(%d) = %v, %d; want %v", c.p, z, e, c.z)
		}
		if p, e := compass.Of(c.z); p != c.p || e != api.OK {
			t.Errorf("Of(%v) = %d, %d; want %d", c.z, p, e, c.p)
		}
		if !compass.Right(c.z) {
			t.Errorf("Right(%v) = false", c.z)
		}
	}
}

// walk calls at for each place with its point, gone to step by step as the chapter says it.
func walk(at func(p int, x, y int)) {
	x, y := quarter, 0
	for p := range api.Places {
		at(p, x, y)
		switch {
		case p < 16384:
			x, y = x-1, y+1
		case p < 32768:
			x, y = x-1, y-1
		case p < 49152:
			x, y = x+1, y-1
		default:
			x, y = x+1, y+1
		}
	}
}

// P2.1, P2.3: all places have the points that are gone to, and these tell them.
func TestAllPoints(t *testing.T) {
	walk(func(p, x, y int) {
		want := complex(float64(x), float64(y))
		z, e := compass.At(p)
		if e != api.OK || z != want || !plain(z) {
			t.Fatalf("At(%d) = %v, %d; want %v", p, z, e, want)
		}
		n, e := compass.Of(z)
		if e != api.OK || n != p || !compass.Right(z) {
			t.Fatalf("Of(%v) = %d, %d; want %d", z, n, e, p)
		}
	})
}

// P2.1.
func TestAtWrong(t *testing.T) {
	for _, p := range notPlaces {
		if z, e := compass.At(p); z != 0 || e != api.ErrArg {
			t.Errorf("At(%d) = %v, %d; want 0, ErrArg", p, z, e)
		}
	}
}

// P2.1.
func TestOfWrong(t *testing.T) {
	for _, z := range notPoints() {
		if p, e := compass.Of(z); p != 0 || e != api.ErrArg || compass.Right(z) {
			t.Errorf("Of(%v) = %d, %d, Right %t; want 0, ErrArg, no", z, p, e, compass.Right(z))
		}
	}
}

// P2.1, P2.3: of all numbers of whole or half parts beside the diamond, just the points tell places, each another one.
func TestJustThePoints(t *testing.T) {
	seen := map[int]bool{}
	for x := -quarter - 1; x <= quarter+1; x++ {
		for _, half := range []float64{-1, -0.5, 0, 0.5, 1} {
			for _, sign := range []float64{1, -1} {
				y := sign * (quarter - math.Abs(float64(x)) + half)
				p, e := compass.Of(complex(float64(x), y))
				want := half == 0 && math.Abs(float64(x)) <= quarter || math.Abs(float64(x))+math.Abs(y) == quarter && y == math.Trunc(y)
				if (e == api.OK) != want || compass.Right(complex(float64(x), y)) != want {
					t.Fatalf("Of(%d, %v) = %d, %d; want a place: %t", x, y, p, e, want)
				}
				if want {
					seen[p] = true
				}
			}
		}
	}
	if len(seen) != api.Places {
		t.Error("points tell", len(seen), "places")
	}
}

// P2.1, P2.2: a nought is one, whatever its sign; what is told has none.
func TestSignsOfNought(t *testing.T) {
	for _, c := range []struct {
		p int
		z complex128
	}{{0, complex(quarter, nought)}, {16384, complex(nought, quarter)}, {32768, complex(-quarter, nought)}, {49152, complex(nought, -quarter)}} {
		if p, e := compass.Of(c.z); p != c.p || e != api.OK || !compass.Right(c.z) {
			t.Errorf("Of(%v) = %d, %d, Right %t; want %d", c.z, p, e, compass.Right(c.z), c.p)
		}
		for k := -5; k <= 5; k++ {
			want, _ := compass.At((c.p + quarter*(k+8)) % api.Places)
			if z := compass.Turned(c.z, k); z != want || !plain(z) {
				t.Errorf("Turned(%v, %d) = %v; want %v", c.z, k, z, want)
			}
		}
	}
}

// P2.2: all points, some quarters on and back, as often times i or -i.
func TestTurned(t *testing.T) {
	walk(func(p, x, y int) {
		z := complex(float64(x), float64(y))
		on, back := z, z
		for k := range 10 {
			if w := compass.Turned(z, k); w != on || !plain(w) {
				t.Fatalf("Turned(%v, %d) = %v; want %v", z, k, w, on)
			}
			if w := compass.Turned(z, -k); w != back || !plain(w) {
				t.Fatalf("Turned(%v, %d) = %v; want %v", z, -k, w, back)
			}
			on, back = on*1i, back*-1i
		}
	})
}

// P2.2: great numbers of quarters.
func TestTurnedOften(t *testing.T) {
	const z = 11384 + 5000i
	turns := [...]complex128{z, -5000 + 11384i, -11384 - 5000i, 5000 - 11384i}
	for _, c := range []struct{ quarters, rest int }{
		{4, 0}, {5, 1}, {6, 2}, {7, 3}, {-1, 3}, {-2, 2}, {-3, 1}, {-4, 0}, {-5, 3},
		{api.Places, 0}, {api.Places + 1, 1}, {-api.Places - 1, 3},
		{1 << 40, 0}, {1<<40 + 1, 1}, {-1<<40 - 1, 3}, {1<<32 + 2, 2},
		{math.MaxInt, 3}, {math.MaxInt - 1, 2}, {math.MaxInt - 2, 1}, {math.MaxInt - 3, 0},
		{math.MinInt, 0}, {math.MinInt + 1, 1}, {math.MinInt + 2, 2}, {math.MinInt + 3, 3},
	} {
		if w := compass.Turned(z, c.quarters); w != turns[c.rest] {
			t.Errorf("Turned(%v, %d) = %v; want %v", z, c.quarters, w, turns[c.rest])
		}
	}
}

// P2.2.
func TestTurnedWrong(t *testing.T) {
	for _, z := range notPoints() {
		for _, k := range []int{0, 1, 2, 3, 4, -1, -2, -3, -4, math.MinInt, math.MaxInt} {
			if w := compass.Turned(z, k); w != 0 || !plain(w) {
				t.Errorf("Turned(%v, %d) = %v; want 0", z, k, w)
			}
		}
	}
}

// P2.2.
func TestPlace(t *testing.T) {
	for _, c := range [][2]int{
		{0, 0}, {1, 1}, {65534, 65534}, {65535, 65535}, {65536, 0}, {65537, 1}, {131071, 65535}, {131072, 0}, {131073, 1},
		{-1, 65535}, {-2, 65534}, {-65535, 1}, {-65536, 0}, {-65537, 65535}, {-131072, 0}, {-131073, 65535},
		{1 << 40, 0}, {1<<40 + 7, 7}, {-1 << 40, 0}, {-1<<40 - 7, 65529},
		{math.MaxInt, 65535}, {math.MaxInt - 1, 65534}, {math.MaxInt - 65535, 0}, {math.MinInt, 0}, {math.MinInt + 1, 1}, {math.MinInt + 65535, 65535},
	} {
		if p := compass.Place(c[0]); p != c[1] {
			t.Errorf("Place(%d) = %d; want %d", c[0], p, c[1])
		}
	}
	for n := -3 * api.Places; n <= 3*api.Places; n++ {
		if p := compass.Place(n); p < 0 || p >= api.Places || (n-p)%api.Places != 0 {
			t.Fatalf("Place(%d) = %d", n, p)
		}
	}
}

// P2.2: each quarter's first places and last ones, and what is between.
func TestQuarter(t *testing.T) {
	for _, c := range [][2]int{
		{0, 0}, {1, 0}, {8192, 0}, {16382, 0}, {16383, 0},
		{16384, 1}, {16385, 1}, {32766, 1}, {32767, 1},
		{32768, 2}, {32769, 2}, {49150, 2}, {49151, 2},
		{49152, 3}, {49153, 3}, {65534, 3}, {65535, 3},
	} {
		if q := compass.Quarter(c[0]); q != c[1] {
			t.Errorf("Quarter(%d) = %d; want %d", c[0], q, c[1])
		}
	}
	for p := range api.Places {
		if q := compass.Quarter(p); q*quarter > p || (q+1)*quarter <= p {
			t.Fatalf("Quarter(%d) = %d", p, q)
		}
	}
}

// P2.2.
func TestQuarterWrong(t *testing.T) {
	for _, p := range notPlaces {
		if q := compass.Quarter(p); q != -1 {
			t.Errorf("Quarter(%d) = %d; want -1", p, q)
		}
	}
}

// P2.3: a quarter on is once turned.
func TestQuarterOn(t *testing.T) {
	for p := range api.Places {
		z, _ := compass.At(p)
		for k := -5; k <= 5; k++ {
			want, e := compass.At(compass.Place(p + quarter*k))
			if w := compass.Turned(z, k); e != api.OK || w != want {
				t.Fatalf("the point of %d, %d quarters on: %v; want %v", p, k, w, want)
			}
		}
		if q, on := compass.Quarter(p), compass.Quarter(compass.Place(p+quarter)); on != (q+1)%4 {
			t.Fatalf("%d stands in quarter %d, a quarter on in %d", p, q, on)
		}
	}
}

// P2.3: side by side two points are 1 apart in each part, round the end, too.
func TestSideBySide(t *testing.T) {
	for p := range api.Places {
		z, _ := compass.At(p)
		w, _ := compass.At(compass.Place(p + 1))
		if d := w - z; math.Abs(real(d)) != 1 || math.Abs(imag(d)) != 1 {
			t.Fatalf("the points of %d and of the next place are %v apart", p, d)
		}
	}
}
