package msg_test

import (
	"math"
	"slices"
	"strings"
	"testing"

	"garland/api"
	"garland/msg"
)

const (
	longestKey = "01234567890123456789"
	tooLongKey = "012345678901234567890"
)

// odd are numbers that are neither a place nor a value.
var odd = []int{-1, -2, -65536, math.MinInt, math.MinInt + 1, math.MinInt32, 1<<20 + 1, 1 << 32, 1<<32 + 1, 1 << 40, math.MaxInt, math.MaxInt - 1}

// pairRows are pairs, and whether they may be.
var pairRows = []struct {
	x    api.Item
	want bool
}{
	{api.Item{Key: "k"}, true}, {api.Item{Key: "k", Gone: true}, true}, {api.Item{Key: longestKey, Value: 1, Version: 2}, true},
	{api.Item{Key: "k", Value: 1048576, Version: 1048576, Gone: true}, true}, {api.Item{Key: "\x00"}, true}, {api.Item{Key: "\xff\xfe"}, true}, {api.Item{Key: strings.Repeat("ä", 10)}, true},
	{api.Item{}, false}, {api.Item{Value: 1, Version: 1}, false}, {api.Item{Gone: true}, false}, {api.Item{Key: tooLongKey}, false}, {api.Item{Key: strings.Repeat("ä", 11)}, false}, {api.Item{Key: strings.Repeat("k", 276)}, false}, {api.Item{Key: strings.Repeat("k", 65537)}, false},
}

// callRows are places, which call, and its number.
var callRows = [][3]int{
	{0, 1, 1}, {0, 2, 2}, {0, 1048576, 1048576}, {1, 1, 1048577}, {1, 1048576, 2097152}, {2, 3, 2097155}, {9, 1, 9437185}, {40, 17, 41943057},
	{32768, 5, 34359738373}, {65535, 1, 68718428161}, {65535, 1048575, 68719476735}, {65535, 1048576, 68719476736},
}

// first is the number of id's first call.
func first(id int) int { return id*1048576 + 1 }

// asks are an ask of each kind, of 3 to 9, that may be.
func asks() []api.Msg {
	l := make([]api.Msg, 6)
	for i := range l {
		l[i] = api.Msg{Kind: uint8(i + 1), Call: first(3), From: 3, To: 9}
	}
	l[3].Key = 65535
	l[4].Item = api.Item{Key: "k", Value: 5, Version: 7, Gone: true}
	l[5].Item.Key = "k"
	return l
}

// tells are what is told to each, that may be.
func tells() []api.Msg {
	l := make([]api.Msg, 6)
	for i := range l {
		l[i] = api.Msg{Kind: uint8(i + 7), Call: first(3), From: 9, To: 3}
	}
	l[0].Pred, l[0].List = 5, []int{3, 12, 40}
	l[3].Place = 65535
	l[5].Item = api.Item{Key: "k", Value: 5, Version: 7, Gone: true}
	return l
}

// all are a message of each kind, that may be.
func all() []api.Msg { return append(asks(), tells()...) }

// change is something that a message may be given, by its name.
type change struct {
	what string
	do   func(m *api.Msg)
}

// more are what messages may be given that only those of some kinds may have.
func more() []change {
	return []change{
		{"Key", func(m *api.Msg) { m.Key = 4 }}, {"Slow", func(m *api.Msg) { m.Slow = !m.Slow }}, {"Done", func(m *api.Msg) { m.Done = !m.Done }},
		{"Place", func(m *api.Msg) { m.Place = 4 }}, {"Pred", func(m *api.Msg) { m.Pred = 4 }}, {"List", func(m *api.Msg) { m.List = []int{4} }},
		{"Item.Key", func(m *api.Msg) { m.Item.Key = "q" }}, {"Item.Value", func(m *api.Msg) { m.Item.Value++ }},
		{"Item.Version", func(m *api.Msg) { m.Item.Version++ }}, {"Item.Gone", func(m *api.Msg) { m.Item.Gone = !m.Item.Gone }},
		{"nobody ahead", func(m *api.Msg) { m.Pred = -1 }}, {"ErrFull", func(m *api.Msg) { m.Code = api.ErrFull }},
	}
}

// may names what a message of each kind may be given of that.
func may() [12][]string {
	pair := []string{"Item.Key", "Item.Value", "Item.Version", "Item.Gone"}
	return [12][]string{3: {"Key", "Slow"}, 4: pair, 5: {"Item.Key"}, 6: {"Pred", "List", "nobody ahead"}, 9: {"Place", "Done"}, 10: {"ErrFull"}, 11: pair}
}

// holds that m may be, or not, and that it is the same as ever.
func holds(t *testing.T, what string, m api.Msg, want bool) {
	t.Helper()
	if msg.Right(m) != want {
		t.Fatalf("%s: Right(%+v) = %t", what, m, !want)
	}
	if !msg.Same(m, m) || !msg.Same(m, msg.Own(m)) {
		t.Fatalf("%s: %+v is not the same as itself", what, m)
	}
}

// P6.1.
func TestPair(t *testing.T) {
	for _, c := range pairRows {
		if msg.Pair(c.x) != c.want {
			t.Errorf("Pair(%+v) = %t", c.x, !c.want)
		}
	}
	for n := range 300 {
		if msg.Pair(api.Item{Key: strings.Repeat("k", n)}) != (n >= 1 && n <= 20) {
			t.Errorf("a key of %d bytes", n)
		}
	}
	for _, n := range odd {
		if msg.Pair(api.Item{Key: "k", Value: n}) || msg.Pair(api.Item{Key: "k", Version: n}) {
			t.Errorf("the value or version %d", n)
		}
	}
	for _, n := range []int{0, 1, 65536, 1048575, 1048576} {
		if !msg.Pair(api.Item{Key: "k", Value: n}) || !msg.Pair(api.Item{Key: "k", Version: n}) {
			t.Errorf("no value or version %d", n)
		}
	}
}

// P6.1.
func TestCall(t *testing.T) {
	for _, c := range callRows {
		if n, e := msg.Call(c[0], c[1]); n != c[2] || e != api.OK {
			t.Errorf("Call(%d, %d) = %d, %d; want %d", c[0], c[1], n, e, c[2])
		}
	}
	for _, x := range append(slices.Clone(odd), 65536, 65537, 1<<20) {
		if n, e := msg.Call(x, 1); n != 0 || e != api.ErrArg {
			t.Errorf("Call(%d, 1) = %d, %d; want 0, ErrArg", x, n, e)
		}
	}
	for _, x := range append(slices.Clone(odd), 0) {
		for _, id := range []int{0, 1, 5, 65535, 65536, -1} {
			if n, e := msg.Call(id, x); n != 0 || e != api.ErrArg {
				t.Errorf("Call(%d, %d) = %d, %d; want 0, ErrArg", id, x, n, e)
			}
		}
	}
}

// P6.1: no two calls have one number, and each has one that follows the one ahead.
func TestCallsRise(t *testing.T) {
	last := 0
	for id := range 200 {
		for _, n := range []int{1, 2, 3, 1000, 1048575, 1048576} {
			c, e := msg.Call(id, n)
			if e != api.OK || c <= last || n == 1 && c != last+1 {
				t.Fatalf("Call(%d, %d) = %d, %d behind %d", id, n, c, e, last)
			}
			last = c
		}
	}
}

// P6.1: a message of each kind, and of no kind.
func TestRight(t *testing.T) {
	for _, m := range all() {
		holds(t, "each kind", m, true)
		for kind := 13; kind < 256; kind++ {
			m.Kind = uint8(kind)
			holds(t, "a kind that is none", m, false)
		}
		m.Kind = 0
		holds(t, "no kind", m, false)
	}
	for kind := range 256 {
		m := api.Msg{Kind: uint8(kind), Call: first(3), From: 3, To: 9}
		if kind > 6 {
			m.From, m.To = 9, 3
		}
		bare := kind >= 1 && kind <= 11 && kind != 5 && kind != 6
		holds(t, "without anything", m, bare)
	}
	holds(t, "nothing", api.Msg{}, false)
}

// P6.1: each kind has what it may, and nothing else.
func TestRightNothingElse(t *testing.T) {
	for i, m := range all() {
		for _, c := range more() {
			x := msg.Own(m)
			c.do(&x)
			holds(t, c.what, x, slices.Contains(may()[i], c.what))
			if msg.Same(x, m) || msg.Same(m, x) {
				t.Fatalf("%s: %+v is the same as %+v", c.what, x, m)
			}
		}
	}
}

// P6.1: from whom, and to whom.
func TestRightEnds(t *testing.T) {
	for _, m := range all() {
		for _, x := range append(slices.Clone(odd), 65536, 65537) {
			to, from := m, m
			to.To, from.From = x, x
			holds(t, "to no place", to, false)
			holds(t, "from no place", from, false)
			from.To = x
			holds(t, "between no places", from, false)
		}
		for _, ends := range [][2]int{{0, 1}, {1, 0}, {0, 65535}, {65535, 0}, {32768, 100}} {
			x := m
			x.From, x.To, x.List = ends[0], ends[1], nil
			x.Call = first(msg.Asker(x))
			holds(t, "other ends", x, true)
			x.Call = first(x.From + x.To - msg.Asker(x))
			holds(t, "the other's call", x, false)
		}
		for _, p := range []int{0, 3, 9, 65535} {
			x := m
			x.From, x.To, x.List, x.Call = p, p, nil, first(p)
			holds(t, "to itself", x, false)
		}
	}
}

// P6.1: the calls of who asks, all of them, and no others.
func TestRightCall(t *testing.T) {
	for _, m := range all() {
		for _, id := range []int{0, 3, 65535} {
			x := m
			x.From, x.To, x.List = 9, id, nil
			if msg.Asks(x) {
				x.From, x.To = id, 9
			}
			for _, n := range []int{1, 2, 4097, 1048575, 1048576} {
				x.Call = id*1048576 + n
				holds(t, "a call", x, true)
			}
			for _, n := range []int{0, -1, -1048576, 1048577, 2097152} {
				x.Call = id*1048576 + n
				holds(t, "another's call", x, false)
			}
			for _, x.Call = range append(slices.Clone(odd), 0, 1<<37) {
				if x.Call != 1<<20+1 && x.Call != 1<<32+1 {
					holds(t, "nobody's call", x, false)
				}
			}
		}
	}
}

// P6.1: what is looked for, and where on.
func TestRightHop(t *testing.T) {
	ask, told := asks()[3], tells()[3]
	for _, p := range []int{0, 1, 3, 9, 4000, 65534, 65535} {
		for _, yes := range []bool{false, true} {
			ask.Key, ask.Slow, told.Place, told.Done = p, yes, p, yes
			holds(t, "a hop is asked", ask, true)
			holds(t, "a hop is told", told, true)
		}
	}
	for _, p := range append(slices.Clone(odd), 65536, 65537) {
		ask.Key, told.Place = p, p
		holds(t, "no place's hop is asked", ask, false)
		holds(t, "a hop to no place is told", told, false)
	}
}

// P6.1: pairs that are put, keys that are got.
func TestRightPair(t *testing.T) {
	put, get, got := asks()[4], asks()[5], tells()[5]
	for _, c := range pairRows {
		put.Item, get.Item, got.Item = c.x, api.Item{Key: c.x.Key}, c.x
		holds(t, "a pair is put", put, c.want)
		holds(t, "a key is asked for", get, c.want)
		holds(t, "a pair is told", got, c.want)
	}
	for _, n := range odd {
		put.Item, got.Item = api.Item{Key: "k", Value: n}, api.Item{Key: "k", Version: n}
		holds(t, "no value", put, false)
		holds(t, "no version", got, false)
		put.Item, got.Item = got.Item, put.Item
		holds(t, "no version", put, false)
		holds(t, "no value", got, false)
	}
}

// P6.1: who is ahead.
func TestRightPred(t *testing.T) {
	for _, m := range all() {
		for _, m.Pred = range []int{-1, 0, 1, 3, 9, 65534, 65535} {
			holds(t, "somebody ahead", m, m.Kind == 7 || m.Pred == 0)
		}
		for _, m.Pred = range append(slices.Clone(odd[1:]), 65536, 65537) {
			holds(t, "no place ahead", m, false)
		}
	}
}

// P6.1: who is behind; the message is of 9 to 3.
func TestRightList(t *testing.T) {
	m := tells()[0]
	for _, m.List = range [][]int{nil, {}, {3}, {0}, {65535}, {5}, {40, 3}, {3, 40}, {0, 65535, 1}, {10, 11, 12}, {12, 11, 10}} {
		holds(t, "a list", m, true)
	}
	for _, m.List = range [][]int{
		{9}, {9, 3}, {3, 9}, {1, 2, 9}, {1, 9, 2}, {9, 1, 2}, {4, 4}, {4, 5, 4}, {4, 4, 5}, {5, 4, 4}, {4, 4, 4},
		{-1}, {1, -1}, {1, 2, -1}, {-1, 2, 1}, {65536}, {1, 65536}, {1, 2, 65536}, {math.MinInt}, {1, math.MaxInt},
		{1, 2, 4, 5}, {0, 0, 0, 0}, {1, 2, 4, -1}, make([]int, 5), make([]int, 256), make([]int, 1<<18),
	} {
		holds(t, "no list", m, false)
	}
	for _, x := range all() {
		x.List = []int{}
		holds(t, "an empty list", x, true)
		x.List = nil
		holds(t, "no list", x, true)
	}
}

// P6.1: errors.
func TestRightCode(t *testing.T) {
	for _, m := range all() {
		for code := -300; code < 600; code++ {
			m.Code = api.Errno(code)
			holds(t, "an error", m, code == 0 || code == 200 && m.Kind == 11)
		}
	}
	none := tells()[5]
	none.Item = api.Item{}
	for code := -300; code < 600; code++ {
		none.Code = api.Errno(code)
		holds(t, "no pair is told", none, code == 201)
	}
	none.Code = api.ErrNone
	for _, c := range more() {
		x := msg.Own(none)
		c.do(&x)
		holds(t, c.what, x, false)
	}
}

// P6.1: more than one thing that is another one.
func TestSame(t *testing.T) {
	l := all()
	for i, a := range l {
		for k, b := range l {
			if msg.Same(a, b) != (i == k) {
				t.Errorf("Same(%+v, %+v)", a, b)
			}
		}
	}
	for kind := range 256 {
		a, b := api.Msg{Kind: uint8(kind)}, api.Msg{Kind: uint8(kind)}
		if !msg.Same(a, b) {
			t.Errorf("the kind %d is not the same", kind)
		}
		b.Kind++
		if msg.Same(a, b) {
			t.Errorf("the kinds %d and %d are the same", a.Kind, b.Kind)
		}
	}
}

// P6.1: all that a message has, one by one, of messages that may be and that may not.
func TestSameParts(t *testing.T) {
	changes := append(more(),
		change{"Kind", func(m *api.Msg) { m.Kind ^= 128 }}, change{"Call", func(m *api.Msg) { m.Call ^= 1 << 40 }}, change{"From", func(m *api.Msg) { m.From++ }}, change{"To", func(m *api.Msg) { m.To-- }},
		change{"List's order", func(m *api.Msg) { m.List = []int{1, 3, 2} }}, change{"List's end", func(m *api.Msg) { m.List = []int{1, 2} }}, change{"a longer List", func(m *api.Msg) { m.List = []int{1, 2, 3, 0} }},
		change{"no List", func(m *api.Msg) { m.List = nil }}, change{"a longer Key", func(m *api.Msg) { m.Item.Key += "\x00" }}, change{"no Key", func(m *api.Msg) { m.Item.Key = "" }}, change{"another Code", func(m *api.Msg) { m.Code = -1 }})
	a := api.Msg{Kind: 200, Call: math.MinInt, From: -1, To: math.MaxInt, Key: 7, Slow: true, Done: true, Place: -9, Pred: 8, List: []int{1, 2, 3}, Item: api.Item{Key: "kk", Value: -1, Version: -5, Gone: true}, Code: 99}
	for _, c := range changes {
		b := msg.Own(a)
		if !msg.Same(a, b) || !msg.Same(b, a) {
			t.Fatalf("%+v is not the same as %+v", a, b)
		}
		c.do(&b)
		if msg.Same(a, b) || msg.Same(b, a) {
			t.Errorf("%s: %+v is the same as %+v", c.what, a, b)
		}
	}
	a.List = nil
	b := a
	b.List = make([]int, 0, 4)
	if !msg.Same(a, b) || !msg.Same(b, a) {
		t.Error("no list and an empty one are not the same")
	}
}

// P6.2.
func TestAsks(t *testing.T) {
	for kind := range 256 {
		m := api.Msg{Kind: uint8(kind), From: -7, To: 1 << 40}
		ask := kind >= 1 && kind <= 6
		want := 1 << 40
		if ask {
			want = -7
		}
		if msg.Asks(m) != ask || msg.Asker(m) != want {
			t.Errorf("of the kind %d: Asks %t, Asker %d", kind, msg.Asks(m), msg.Asker(m))
		}
	}
	if msg.Asks(api.Msg{}) || msg.Asker(api.Msg{}) != 0 {
		t.Error("nothing is an ask")
	}
}

// P6.2: of what is right, and of what is not; nothing else of an ask is told.
func TestTell(t *testing.T) {
	for kind := range 256 {
		m := api.Msg{Kind: uint8(kind), Call: math.MaxInt, From: math.MinInt, To: 77, Key: 7, Slow: true, Done: true, Place: -9, Pred: 8, List: []int{1, 2, 3}, Item: api.Item{Key: "kk", Value: -1, Version: -5, Gone: true}, Code: 99}
		want := api.Msg{Kind: uint8(kind) + 6, Call: math.MaxInt, From: 77, To: math.MinInt}
		if kind < 1 || kind > 6 {
			want = api.Msg{}
		}
		if x := msg.Tell(m); !msg.Same(x, want) || x.List != nil {
			t.Errorf("Tell of the kind %d = %+v; want %+v", kind, x, want)
		}
	}
	for _, m := range tells() {
		if x := msg.Tell(m); !msg.Same(x, api.Msg{}) {
			t.Errorf("Tell(%+v) = %+v; want nothing", m, x)
		}
	}
}

// P6.3: what is told may be, and is told to who asked.
func TestTold(t *testing.T) {
	for _, m := range asks() {
		x := msg.Tell(m)
		if x.Kind != m.Kind+6 || x.Call != m.Call || x.From != m.To || x.To != m.From || msg.Asks(x) || msg.Asker(x) != msg.Asker(m) {
			t.Errorf("Tell(%+v) = %+v", m, x)
		}
		if m.Kind != api.MsGet {
			holds(t, "what is told", x, true)
			continue
		}
		holds(t, "what is told of a key", x, false)
		pair, none := x, x
		pair.Item, none.Code = api.Item{Key: "k"}, api.ErrNone
		holds(t, "a pair is told", pair, true)
		holds(t, "ErrNone is told", none, true)
		pair.Code = api.ErrNone
		holds(t, "both are told", pair, false)
	}
}

// P6.3: a call has one asker, of all messages that may be.
func TestOneAsker(t *testing.T) {
	for _, m := range all() {
		for from := range 30 {
			for to := range 30 {
				m.From, m.To, m.List = from, to, nil
				if right := from != to && msg.Asker(m) == 3; msg.Right(m) != right {
					t.Fatalf("Right(%+v) = %t", m, !right)
				}
			}
		}
	}
}

// P6.1, R4: what is told is in memory of its own, and what is handed in stays as it is.
func TestOwn(t *testing.T) {
	room := []int{3, 12, 40, 99, 98}
	for n := range 4 {
		m := tells()[0]
		m.List = room[:n]
		x, y := msg.Own(m), msg.Own(m)
		if !msg.Same(x, m) || !msg.Same(x, y) || n == 0 && x.List != nil {
			t.Fatalf("Own(%+v) = %+v", m, x)
		}
		msg.Right(m)
		msg.Tell(m)
		clear(x.List[:cap(x.List)])
		if !slices.Equal(room, []int{3, 12, 40, 99, 98}) || !msg.Same(y, m) {
			t.Fatalf("clearing what is told: %v, %v", room, y.List)
		}
	}
	whole := api.Msg{Kind: 200, Call: -1, From: -2, To: -3, Key: -4, Slow: true, Done: true, Place: -5, Pred: -6, List: room, Item: api.Item{Key: tooLongKey, Value: -7, Version: -8, Gone: true}, Code: -9}
	if x := msg.Own(whole); !msg.Same(x, whole) {
		t.Errorf("Own(%+v) = %+v", whole, x)
	}
}

// R3: told again.
func TestAgain(t *testing.T) {
	for _, m := range all() {
		right, tell := msg.Right(m), msg.Tell(m)
		msg.Right(api.Msg{Kind: 7, List: make([]int, 9)})
		msg.Call(-1, -1)
		if msg.Right(m) != right || !msg.Same(msg.Tell(m), tell) {
			t.Errorf("%+v: other answers", m)
		}
	}
}
