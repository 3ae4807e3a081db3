package bag_test

import (
	"bytes"
	"math"
	"slices"
	"testing"

	"garland/api"
	"garland/bag"
)

// gram is a datagram to one, of these bytes.
func gram(to int, b ...byte) api.Gram { return api.Gram{To: to, Bytes: b} }

// harmed is such a one that was harmed.
func harmed(to int, b ...byte) api.Gram { return api.Gram{To: to, Bytes: b, Harmed: true} }

// long is a datagram of n bytes, the first of them 1.
func long(to, n int) api.Gram {
	g := api.Gram{To: to, Bytes: make([]byte, n)}
	if n > 0 {
		g.Bytes[0] = 1
	}
	return g
}

// of is a bag that is written out.
func of(lost int, l ...api.Gram) api.Bag { return api.Bag{Grams: l, Lost: lost} }

// three is a bag of three, one of them harmed, and 2 lost.
func three() api.Bag { return of(2, gram(9, 1, 2), harmed(40, 3), gram(9, 4, 5, 6)) }

// many are n datagrams, to 0, 1, 2 ..
func many(n int) []api.Gram {
	l := make([]api.Gram, n)
	for i := range l {
		l[i] = gram(i, byte(i), byte(i>>8))
	}
	return l
}

// outside are places where a bag of n has none.
func outside(n int) []int {
	return []int{-1, -2, -n, math.MinInt, math.MinInt + 1, math.MinInt32, n, n + 1, 2 * n, 2*n + 1, 1 << 31, 1 << 32, 1<<32 + 1, 1 << 40, math.MaxInt, math.MaxInt - 1}
}

// equal tells, in its own way, whether two bags are the same.
func equal(a, b api.Bag) bool {
	return a.Lost == b.Lost && slices.EqualFunc(a.Grams, b.Grams, func(x, y api.Gram) bool {
		return x.To == y.To && x.Harmed == y.Harmed && bytes.Equal(x.Bytes, y.Bytes)
	})
}

// isBag holds that a call answered that bag.
func isBag(t *testing.T, what string, got, want api.Bag) {
	t.Helper()
	if !equal(got, want) {
		t.Fatalf("%s: %d on their way %v, %d lost, not %d %v, %d lost", what, len(got.Grams), got.Grams, got.Lost, len(want.Grams), want.Grams, want.Lost)
	}
}

// isError holds that a call answered that error.
func isError(t *testing.T, what string, got, want api.Errno) {
	t.Helper()
	if got != want {
		t.Fatalf("%s: error %d, not %d", what, got, want)
	}
}

// P8.1.
func TestSend(t *testing.T) {
	isBag(t, "nothing to nothing", bag.Send(api.Bag{}), api.Bag{})
	isBag(t, "one to nothing", bag.Send(api.Bag{}, gram(9, 1)), of(0, gram(9, 1)))
	isBag(t, "in order", bag.Send(api.Bag{}, gram(9, 1), gram(2), gram(9, 1), gram(-1, 3, 2)), of(0, gram(9, 1), gram(2), gram(9, 1), gram(-1, 3, 2)))
	isBag(t, "behind", bag.Send(three(), gram(5, 7), gram(1, 8)), of(2, append(three().Grams, gram(5, 7), gram(1, 8))...))
	isBag(t, "nothing behind", bag.Send(three()), three())
	isBag(t, "a harmed one", bag.Send(three(), harmed(5, 7)), of(2, append(three().Grams, harmed(5, 7))...))
	isBag(t, "one without bytes", bag.Send(api.Bag{}, api.Gram{}), of(0, api.Gram{}))
	for _, to := range []int{math.MinInt, -1, 65536, math.MaxInt} {
		isBag(t, "to anybody", bag.Send(three(), gram(to, 1)), of(2, append(three().Grams, gram(to, 1))...))
	}
}

// P8.1.
func TestSendLong(t *testing.T) {
	for n := range 400 {
		want := of(1)
		if n <= 120 {
			want = of(0, long(7, n))
		}
		isBag(t, "one of so many bytes", bag.Send(api.Bag{}, long(7, n)), want)
	}
	isBag(t, "long ones between", bag.Send(three(), long(1, 121), gram(2, 2), long(3, 65537), long(4, 120), long(5, 256)), of(5, append(three().Grams, gram(2, 2), long(4, 120))...))
}

// P8.1, P8.4.
func TestSendMany(t *testing.T) {
	for _, n := range []int{0, 1, 398, 399, 400, 401, 402, 800, 1000} {
		l, in := many(n), min(n, 400)
		isBag(t, "many at once", bag.Send(api.Bag{}, l...), of(n-in, l[:in]...))
		var b api.Bag
		for _, g := range l {
			b = bag.Send(b, g)
		}
		isBag(t, "many one by one", b, of(n-in, l[:in]...))
	}
	full := bag.Send(of(7), many(400)...)
	isBag(t, "long ones leave room", bag.Send(bag.Send(of(0), many(399)...), long(1, 121), gram(399, 143, 1), gram(1)), of(2, many(400)...))
	isBag(t, "nothing to a full one", bag.Send(full), of(7, many(400)...))
	isBag(t, "one to a full one", bag.Send(full, gram(1)), of(8, many(400)...))
	isBag(t, "a long one to a full one", bag.Send(full, long(1, 121)), of(8, many(400)...))
}

// P8.1, R1: bags such as nothing makes.
func TestSendOdd(t *testing.T) {
	isBag(t, "more than may be", bag.Send(of(0, many(401)...), gram(1), gram(2)), of(2, many(401)...))
	isBag(t, "a long one is on its way", bag.Send(of(0, long(1, 300)), gram(2)), of(0, long(1, 300), gram(2)))
	isBag(t, "fewer than none lost", bag.Send(of(-5), long(1, 121)), of(-4))
	isBag(t, "nil and empty", bag.Send(api.Bag{Grams: []api.Gram{}}, api.Gram{Bytes: []byte{}}), of(0, api.Gram{}))
	bag.Send(of(math.MaxInt), long(1, 121))
}

// P8.2.
func TestTake(t *testing.T) {
	rows := []struct {
		at   int
		want api.Bag
	}{
		{0, of(2, harmed(40, 3), gram(9, 4, 5, 6))},
		{1, of(2, gram(9, 1, 2), gram(9, 4, 5, 6))},
		{2, of(2, gram(9, 1, 2), harmed(40, 3))},
	}
	for _, c := range rows {
		b, g, ok := bag.Take(three(), c.at)
		if !ok {
			t.Fatalf("Take at %d: no", c.at)
		}
		isBag(t, "Take", b, c.want)
		isBag(t, "what was taken", of(0, g), of(0, three().Grams[c.at]))
	}
	b, g, ok := bag.Take(of(3, gram(9, 1)), 0)
	if !ok {
		t.Fatal("Take of the only one: no")
	}
	isBag(t, "Take of the only one", b, of(3))
	isBag(t, "the only one", of(0, g), of(0, gram(9, 1)))
}

// P8.2.
func TestTakeNone(t *testing.T) {
	for _, b := range []api.Bag{{}, of(4), three(), of(1, many(400)...)} {
		for _, at := range outside(len(b.Grams)) {
			o, g, ok := bag.Take(b, at)
			if ok || !equal(of(0, g), of(0, api.Gram{})) {
				t.Fatalf("Take at %d of %d: %v, %t", at, len(b.Grams), g, ok)
			}
			isBag(t, "Take of none", o, b)
		}
	}
	if _, _, ok := bag.Take(api.Bag{}, 0); ok {
		t.Error("Take of nothing: yes")
	}
}

// P8.2.
func TestDrop(t *testing.T) {
	rows := []api.Bag{of(3, harmed(40, 3), gram(9, 4, 5, 6)), of(3, gram(9, 1, 2), gram(9, 4, 5, 6)), of(3, gram(9, 1, 2), harmed(40, 3))}
	for at, want := range rows {
		b, e := bag.Drop(three(), at)
		isError(t, "Drop", e, api.OK)
		isBag(t, "Drop", b, want)
	}
	b, e := bag.Drop(of(0, gram(9, 1)), 0)
	isError(t, "Drop of the only one", e, api.OK)
	isBag(t, "Drop of the only one", b, of(1))
	bag.Drop(of(math.MaxInt, gram(9, 1)), 0)
}

// P8.2.
func TestTwice(t *testing.T) {
	for at := range 3 {
		b, e := bag.Twice(three(), at)
		isError(t, "Twice", e, api.OK)
		isBag(t, "Twice", b, of(2, append(three().Grams, three().Grams[at])...))
	}
	b, e := bag.Twice(of(0, many(399)...), 5)
	isError(t, "Twice, room for one", e, api.OK)
	isBag(t, "Twice, room for one", b, of(0, append(many(399), gram(5, 5, 0))...))
	b, e = bag.Twice(of(4, many(400)...), 399)
	isError(t, "Twice, no room", e, api.OK)
	isBag(t, "Twice, no room", b, of(5, many(400)...))
	b, e = bag.Twice(of(4, gram(1), long(2, 121)), 1)
	isError(t, "Twice of a long one", e, api.OK)
	isBag(t, "Twice of a long one", b, of(5, gram(1), long(2, 121)))
}

// P8.2.
func TestDropTwiceNone(t *testing.T) {
	for _, b := range []api.Bag{{}, of(4), three(), of(1, many(400)...)} {
		for _, at := range outside(len(b.Grams)) {
			o, e := bag.Drop(b, at)
			isError(t, "Drop of none", e, api.ErrArg)
			isBag(t, "Drop of none", o, b)
			o, e = bag.Twice(b, at)
			isError(t, "Twice of none", e, api.ErrArg)
			isBag(t, "Twice of none", o, b)
		}
	}
}

// P8.3.
func TestHarm(t *testing.T) {
	b := of(2, gram(9, 1, 2), harmed(40, 3), gram(9, 4, 5, 6))
	rows := []struct {
		at, i int
		by    byte
		want  api.Gram
	}{
		{0, 0, 1, harmed(9, 0, 2)}, {0, 1, 1, harmed(9, 1, 3)}, {0, 0, 255, harmed(9, 254, 2)}, {0, 1, 128, harmed(9, 1, 130)},
		{2, 0, 4, harmed(9, 0, 5, 6)}, {2, 1, 7, harmed(9, 4, 2, 6)}, {2, 2, 2, harmed(9, 4, 5, 4)},
	}
	for _, c := range rows {
		o, e := bag.Harm(b, c.at, c.i, c.by)
		isError(t, "Harm", e, api.OK)
		want := three()
		want.Grams[c.at] = c.want
		isBag(t, "Harm", o, want)
	}
	for by := range 255 {
		o, e := bag.Harm(of(0, gram(1, 99)), 0, 0, byte(by+1))
		isError(t, "Harm by any", e, api.OK)
		isBag(t, "Harm by any", o, of(0, harmed(1, 99^byte(by+1))))
	}
	o, e := bag.Harm(of(0, long(1, 120)), 0, 119, 3)
	want := long(1, 120)
	want.Bytes[119], want.Harmed = 3, true
	isError(t, "Harm of the last byte", e, api.OK)
	isBag(t, "Harm of the last byte", o, of(0, want))
}

// P8.3.
func TestHarmWrong(t *testing.T) {
	wrong := func(b api.Bag, at, i int, by byte) {
		t.Helper()
		o, e := bag.Harm(b, at, i, by)
		isError(t, "Harm", e, api.ErrArg)
		isBag(t, "Harm", o, b)
	}
	for _, b := range []api.Bag{{}, of(4), three(), of(1, many(400)...)} {
		for _, at := range outside(len(b.Grams)) {
			wrong(b, at, 0, 1)
			wrong(b, at, -1, 0)
		}
	}
	for _, i := range outside(2) {
		wrong(three(), 0, i, 1)
	}
	for _, i := range outside(3) {
		wrong(three(), 2, i, 255)
	}
	for _, i := range outside(0) {
		wrong(of(0, api.Gram{}), 0, i, 1)
	}
	wrong(three(), 0, 0, 0)
	wrong(three(), 2, 2, 0)
	wrong(three(), 1, 0, 1) // it was harmed
	wrong(three(), 1, 1, 0)
}

// P8.4: harmed once at most, by Twice or Send neither.
func TestHarmedOnce(t *testing.T) {
	b, e := bag.Harm(of(0, gram(1, 5, 6)), 0, 0, 3)
	isError(t, "the first harm", e, api.OK)
	b, e = bag.Twice(b, 0)
	isError(t, "Twice", e, api.OK)
	b = bag.Send(b, b.Grams[0])
	isBag(t, "harmed ones", b, of(0, harmed(1, 6, 6), harmed(1, 6, 6), harmed(1, 6, 6)))
	for at := range 3 {
		for i := range 2 {
			o, e := bag.Harm(b, at, i, 3)
			isError(t, "a harm more", e, api.ErrArg)
			isBag(t, "a harm more", o, b)
		}
	}
}

// P8.3: one of two that are alike is harmed, not the other.
func TestHarmOne(t *testing.T) {
	b, _ := bag.Twice(of(0, gram(1, 5)), 0)
	o, e := bag.Harm(b, 1, 0, 1)
	isError(t, "Harm", e, api.OK)
	isBag(t, "the second is harmed", o, of(0, gram(1, 5), harmed(1, 4)))
	o, e = bag.Harm(o, 0, 0, 2)
	isError(t, "Harm", e, api.OK)
	isBag(t, "both are harmed", o, of(0, harmed(1, 7), harmed(1, 4)))
}

// P8.3.
func TestFor(t *testing.T) {
	b := of(0, gram(9, 1), gram(-1), gram(9), harmed(9, 3), gram(math.MaxInt), gram(0, 9), gram(math.MinInt), gram(-1))
	rows := []struct {
		to   int
		want []int
	}{
		{9, []int{0, 2, 3}}, {-1, []int{1, 7}}, {math.MaxInt, []int{4}}, {0, []int{5}}, {math.MinInt, []int{6}},
		{1, nil}, {8, nil}, {10, nil}, {-2, nil}, {-9, nil}, {1<<32 + 9, nil}, {65536 + 9, nil}, {math.MaxInt - 1, nil},
	}
	for _, c := range rows {
		if l := bag.For(b, c.to); !slices.Equal(l, c.want) {
			t.Errorf("For(%d) = %v", c.to, l)
		}
		if l := bag.For(api.Bag{}, c.to); len(l) != 0 {
			t.Errorf("For(%d) of nothing = %v", c.to, l)
		}
	}
	full := of(0, many(400)...)
	for to := range 400 {
		if l := bag.For(full, to); !slices.Equal(l, []int{to}) {
			t.Fatalf("For(%d) = %v", to, l)
		}
	}
}

// different are bags, no two of which are the same.
func different() []api.Bag {
	return []api.Bag{
		{}, of(1), of(-1), of(math.MaxInt), of(math.MinInt), of(0, api.Gram{}), of(1, api.Gram{}), of(0, api.Gram{}, api.Gram{}),
		of(0, gram(1)), of(0, gram(-1)), of(0, harmed(0)), of(0, gram(0, 0)), of(0, gram(0, 0, 0)), of(0, gram(0, 1)), of(0, harmed(0, 1)),
		of(0, gram(1, 1)), of(0, gram(1, 1), gram(2, 2)), of(0, gram(2, 2), gram(1, 1)), of(0, gram(2, 2)), of(0, gram(1, 2), gram(2, 1)), of(0, gram(1, 1, 2), gram(2)),
		of(0, gram(1, 1), harmed(2, 2)), of(0, harmed(1, 1), gram(2, 2)), of(0, gram(1, 1), gram(2, 3)), of(0, gram(1, 1), gram(3, 2)), of(1, gram(1, 1), gram(2, 2)),
		three(), of(0, many(399)...), of(0, many(400)...), of(0, many(401)...), of(0, long(0, 120)), of(0, long(0, 121)),
	}
}

// P8.1.
func TestSame(t *testing.T) {
	l, m := different(), different()
	for i := range l {
		for k := range m {
			if bag.Same(l[i], m[k]) != (i == k) {
				t.Fatalf("Same(%v, %v) = %t", l[i], m[k], i != k)
			}
		}
	}
	if !bag.Same(api.Bag{}, api.Bag{Grams: []api.Gram{}}) || !bag.Same(of(0, api.Gram{}), of(0, api.Gram{Bytes: []byte{}})) {
		t.Error("nil and empty are not the same")
	}
}

// P8.1.
func TestOwn(t *testing.T) {
	for _, b := range different() {
		o := bag.Own(b)
		isBag(t, "Own", o, b)
		if !bag.Same(o, b) || !bag.Same(b, o) {
			t.Fatalf("Own(%v) is not the same", b)
		}
	}
}

// calls are one of each call, of which b is asked, and of its datagram at a place; what they answer is told as bags.
func calls(b api.Bag, at int) map[string]func() []api.Bag {
	one := func(o api.Bag, _ api.Errno) []api.Bag { return []api.Bag{o} }
	return map[string]func() []api.Bag{
		"Send": func() []api.Bag { return []api.Bag{bag.Send(b, b.Grams...)} },
		"Take": func() []api.Bag {
			o, g, _ := bag.Take(b, at)
			return []api.Bag{o, of(0, g)}
		},
		"Drop":  func() []api.Bag { return one(bag.Drop(b, at)) },
		"Twice": func() []api.Bag { return one(bag.Twice(b, at)) },
		"Harm":  func() []api.Bag { return one(bag.Harm(b, at, 0, 255)) },
		"Own":   func() []api.Bag { return []api.Bag{bag.Own(b)} },
		"For": func() []api.Bag {
			var o api.Bag
			for _, at := range bag.For(b, 9) {
				o.Grams = append(o.Grams, gram(at))
			}
			return []api.Bag{o}
		},
		"Same": func() []api.Bag {
			if bag.Same(b, b) {
				return nil
			}
			return []api.Bag{b}
		},
	}
}

// roomy is three, each list with room behind it that is filled, and what tells whether all of it is as it was.
func roomy() (api.Bag, func() bool) {
	room := func(b []byte) []byte { return append(append([]byte(nil), b...), 77, 77)[:len(b)] }
	row := append(three().Grams, gram(55, 55), gram(55, 55))
	for i := range row {
		row[i].Bytes = room(row[i].Bytes)
	}
	whole := append(three().Grams, gram(55, 55), gram(55, 55))
	b := api.Bag{Grams: row[:3], Lost: 2}
	return b, func() bool {
		for i, g := range row {
			n := len(whole[i].Bytes)
			if len(g.Bytes) != n || !slices.Equal(g.Bytes[:n+2], append(append([]byte(nil), whole[i].Bytes...), 77, 77)) {
				return false
			}
		}
		return equal(of(0, row...), of(0, whole...))
	}
}

// spoil changes all that there is of a bag, spare room behind its lists too.
func spoil(b api.Bag) {
	for i := range b.Grams[:cap(b.Grams)] {
		g := &b.Grams[:cap(b.Grams)][i]
		for k := range g.Bytes[:cap(g.Bytes)] {
			g.Bytes[:cap(g.Bytes)][k] ^= 90
		}
		*g = api.Gram{To: 12345}
	}
}

// areBags holds that a call answered those bags.
func areBags(t *testing.T, what string, got, want []api.Bag) {
	t.Helper()
	if len(got) != len(want) {
		t.Fatalf("%s: %v, not %v", what, got, want)
	}
	for i := range got {
		isBag(t, what, got[i], want[i])
	}
}

// R3, R4.
func TestMemory(t *testing.T) {
	for at := -1; at <= 3; at++ {
		b, asItWas := roomy()
		for what, call := range calls(b, at) {
			for i := range call() {
				x, y := call(), call()
				areBags(t, what+" again", x, y)
				spoil(x[i])
				areBags(t, what+", another answer", y, call())
				x[i] = y[i]
				areBags(t, what+", another part of the answer", x, y)
			}
			if !asItWas() {
				t.Fatalf("%s at %d changed, or told, what it was handed", what, at)
			}
		}
	}
	l := bag.For(three(), 9)
	clear(l)
	if l = bag.For(three(), 9); !slices.Equal(l, []int{0, 2}) {
		t.Errorf("For(9) again: %v", l)
	}
}

// R4: datagrams of one answer share no bytes, those that were sent twice neither, nor with what was sent.
func TestApart(t *testing.T) {
	for i := range 6 {
		g := gram(9, 1, 2)
		b := bag.Send(api.Bag{}, g, g)
		b, _ = bag.Twice(b, 1)
		b = bag.Send(b, b.Grams...)
		spoil(of(0, b.Grams[i]))
		isBag(t, "what was sent", of(0, g), of(0, gram(9, 1, 2)))
		for k, x := range b.Grams {
			if k != i && !slices.Equal(x.Bytes, []byte{1, 2}) {
				t.Fatalf("the bytes at %d are those at %d too", i, k)
			}
		}
	}
}

// chance tells numbers below n, each time the same ones.
func chance(state *uint32, n int) int {
	*state = *state*1664525 + 1013904223
	return int(*state>>8) % n
}

// tale is a bag and, beside it, what became of each that was sent: all that are on their way, in order, and how many were sent, taken, lost.
type tale struct {
	b                 api.Bag
	way               []api.Gram
	sent, taken, lost int
}

// send sends one, or so it ought to be.
func (x *tale) send(g api.Gram) {
	x.sent++
	if len(x.way) < 400 && len(g.Bytes) <= 120 {
		x.way = append(x.way, api.Gram{To: g.To, Bytes: bytes.Clone(g.Bytes), Harmed: g.Harmed})
	} else {
		x.lost++
	}
}

// leave takes one off.
func (x *tale) leave(at int) {
	x.way = append(append([]api.Gram(nil), x.way[:at]...), x.way[at+1:]...)
}

// step does one of the calls, at a place that may have a datagram or not, and to the tale what ought to come of it.
func (x *tale) step(t *testing.T, state *uint32) {
	at := chance(state, len(x.way)+4) - 2
	there := at >= 0 && at < len(x.way)
	var e api.Errno
	want := api.OK
	if !there {
		want = api.ErrArg
	}
	switch chance(state, 8) {
	case 0, 1, 2, 3:
		g := long(x.sent, chance(state, 130))
		x.b, want = bag.Send(x.b, g), api.OK
		x.send(g)
	case 4:
		o, g, ok := bag.Take(x.b, at)
		if ok != there || ok && !equal(of(0, g), of(0, x.way[at])) {
			t.Fatalf("Take(%d) of %d: %v, %t", at, len(x.way), g, ok)
		}
		if x.b, want = o, api.OK; there {
			x.leave(at)
			x.taken++
		}
	case 5:
		if x.b, e = bag.Drop(x.b, at); there {
			x.leave(at)
			x.lost++
		}
	case 6:
		if x.b, e = bag.Twice(x.b, at); there {
			x.send(x.way[at])
		}
	case 7:
		i, by := chance(state, 130)-2, byte(chance(state, 4))
		x.b, e = bag.Harm(x.b, at, i, by)
		if there && !x.way[at].Harmed && by != 0 && i >= 0 && i < len(x.way[at].Bytes) {
			x.way[at].Bytes[i] ^= by
			x.way[at].Harmed = true
		} else {
			want = api.ErrArg
		}
	}
	isError(t, "a call of a tale", e, want)
}

// P8.4.
func TestTales(t *testing.T) {
	for seed := range uint32(8) {
		state := seed * 7919
		var x tale
		if seed > 4 { // it begins nearly full
			x.b = bag.Send(x.b, many(395)...)
			for _, g := range many(395) {
				x.send(g)
			}
		}
		for range 600 {
			x.step(t, &state)
			if len(x.b.Grams) > 400 || x.sent != len(x.b.Grams)+x.taken+x.b.Lost {
				t.Fatalf("%d sent, %d on their way, %d taken, %d lost", x.sent, len(x.b.Grams), x.taken, x.b.Lost)
			}
			if want := of(x.lost, x.way...); !equal(x.b, want) || !bag.Same(x.b, want) {
				isBag(t, "a tale", x.b, want)
			}
		}
	}
}
