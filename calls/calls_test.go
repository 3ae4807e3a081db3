package calls_test

import (
	"math"
	"slices"
	"testing"

	"garland/api"
	"garland/calls"
	"garland/msg"
	"garland/wait"
)

const (
	ids  = 1 << 20
	late = 1 << 40 // the last time that may be
)

// ping, hop, put are asks of one.
func ping(to int) api.Msg     { return api.Msg{Kind: api.MsPing, To: to} }
func hop(to, key int) api.Msg { return api.Msg{Kind: api.MsHop, To: to, Key: key, Slow: true} }
func put(to int) api.Msg {
	return api.Msg{Kind: api.MsPut, To: to, Item: api.Item{Key: "a", Value: 1, Version: 2}}
}

// of is m as the n-th ask of one.
func of(id, n int, m api.Msg) api.Msg {
	m.From, m.Call = id, id*ids+n
	return m
}

// call is a call of one, of its n-th ask.
func call(id, n int, m api.Msg, why uint8, ref, sent, tries int) api.Call {
	return api.Call{Id: id*ids + n, Msg: of(id, n, m), Why: why, Ref: ref, Sent: sent, Tries: tries}
}

// three are calls of 2, three of them open.
func three() api.Calls {
	return api.Calls{Id: 2, Many: 8, Open: []api.Call{
		call(2, 1, ping(9), 4, -7, 13, 3),
		call(2, 5, hop(7, 5), 5, 2, 12, 2),
		call(2, 8, put(9), 4, 3, 13, 1),
	}}
}

// full are as many calls as may be open.
func full() api.Calls {
	c := api.Calls{Id: 2, Many: 16}
	for n := range 16 {
		c.Open = append(c.Open, call(2, n+1, ping(100+n), uint8(n%3), n, n, 1))
	}
	return c
}

// but is c with one thing changed.
func but(c api.Calls, change func(c *api.Calls)) api.Calls {
	change(&c)
	return c
}

// wrong are calls that may not be, by what is wrong.
func wrong() map[string]api.Calls {
	m := map[string]func(c *api.Calls){
		"Id below 0":            func(c *api.Calls) { c.Id = -1; c.Open = nil },
		"Id no place":           func(c *api.Calls) { c.Id = 65536; c.Open = nil },
		"Id far":                func(c *api.Calls) { c.Id = math.MaxInt; c.Open = nil },
		"Id that goes round":    func(c *api.Calls) { c.Id = 1 << 44; c.Open = nil },
		"another's":             func(c *api.Calls) { c.Id = 3 },
		"Many below 0":          func(c *api.Calls) { c.Many = -1; c.Open = nil },
		"Many least":            func(c *api.Calls) { c.Many = math.MinInt; c.Open = nil },
		"Many too many":         func(c *api.Calls) { c.Many = ids + 1; c.Open = nil },
		"Many most":             func(c *api.Calls) { c.Many = math.MaxInt },
		"Many too few":          func(c *api.Calls) { c.Many = 7 },
		"none were there":       func(c *api.Calls) { c.Many = 0 },
		"number of another":     func(c *api.Calls) { c.Open[1].Id++ },
		"number of the message": func(c *api.Calls) { c.Open[1].Msg.Call++ },
		"numbers fall":          func(c *api.Calls) { slices.Reverse(c.Open) },
		"a number twice":        func(c *api.Calls) { c.Open[1] = c.Open[0] },
		"number 0":              func(c *api.Calls) { c.Open[0] = call(2, 0, ping(9), 4, 1, 10, 3) },
		"from another":          func(c *api.Calls) { c.Open[0].Msg.From = 3 },
		"to oneself":            func(c *api.Calls) { c.Open[0].Msg.To = 2 },
		"to nobody":             func(c *api.Calls) { c.Open[0].Msg.To = 65536 },
		"told, not asked":       func(c *api.Calls) { c.Open[0].Msg.Kind += 6 },
		"told by another": func(c *api.Calls) {
			c.Open[0].Msg = api.Msg{Kind: api.MsPing + 6, From: 9, To: 2, Call: 2*ids + 1}
		},
		"no kind":               func(c *api.Calls) { c.Open[0].Msg.Kind = 0 },
		"something more":        func(c *api.Calls) { c.Open[0].Msg.Pred = 1 },
		"a list":                func(c *api.Calls) { c.Open[0].Msg.List = []int{1} },
		"no place to look for":  func(c *api.Calls) { c.Open[1].Msg.Key = -1 },
		"no pair":               func(c *api.Calls) { c.Open[2].Msg.Item.Key = "" },
		"no tries":              func(c *api.Calls) { c.Open[1].Tries = 0 },
		"fewer than none":       func(c *api.Calls) { c.Open[1].Tries = -1 },
		"four tries":            func(c *api.Calls) { c.Open[1].Tries = 4 },
		"sent before all times": func(c *api.Calls) { c.Open[2].Sent = -1 },
		"sent behind all times": func(c *api.Calls) { c.Open[2].Sent = late + 1 },
		"sent never":            func(c *api.Calls) { c.Open[2].Sent = math.MaxInt },
	}
	l := map[string]api.Calls{}
	for what, change := range m {
		l[what] = but(three(), change)
	}
	l["17 open"] = but(full(), func(c *api.Calls) {
		c.Many = 17
		c.Open = append(c.Open, call(2, 17, ping(9), 0, 0, 0, 1))
	})
	l["all numbers go on below"] = api.Calls{Id: 2, Many: 3, Open: []api.Call{call(1, ids, ping(9), 0, 0, 0, 1)}}
	return l
}

// equal tells, in its own way, whether two calls are the same.
func equal(a, b api.Call) bool {
	x, y := a.Msg, b.Msg
	return a.Id == b.Id && a.Why == b.Why && a.Ref == b.Ref && a.Sent == b.Sent && a.Tries == b.Tries &&
		x.Kind == y.Kind && x.Call == y.Call && x.From == y.From && x.To == y.To && x.Key == y.Key && x.Slow == y.Slow && x.Done == y.Done &&
		x.Place == y.Place && x.Pred == y.Pred && slices.Equal(x.List, y.List) && x.Item == y.Item && x.Code == y.Code
}

// isCalls holds that a call answered those.
func isCalls(t *testing.T, what string, got, want api.Calls) {
	t.Helper()
	if got.Id != want.Id || got.Many != want.Many || !slices.EqualFunc(got.Open, want.Open, equal) {
		t.Fatalf("%s: %v, not %v", what, got, want)
	}
}

// isCall holds that a call answered that open one.
func isCall(t *testing.T, what string, got api.Call, ok bool, want api.Call, there bool) {
	t.Helper()
	if !equal(got, want) || ok != there {
		t.Fatalf("%s: %v, %v, not %v, %v", what, got, ok, want, there)
	}
}

// isMsg holds that a call answered that message, and error.
func isMsg(t *testing.T, what string, got api.Msg, e api.Errno, want api.Msg, with api.Errno) {
	t.Helper()
	if !msg.Same(got, want) || e != with {
		t.Fatalf("%s: %v, error %d, not %v, error %d", what, got, e, want, with)
	}
}

// P10.1.
func TestNew(t *testing.T) {
	for _, id := range []int{0, 1, 2, 9, 32768, 65534, 65535} {
		c, e := calls.New(id)
		if e != api.OK || !calls.Right(c) {
			t.Fatalf("New(%d): error %d", id, e)
		}
		isCalls(t, "New", c, api.Calls{Id: id})
	}
	for _, id := range []int{-1, -2, 65536, 65537, 131072, 1 << 32, 1 << 44, math.MaxInt, math.MinInt} {
		c, e := calls.New(id)
		if e != api.ErrArg {
			t.Fatalf("New(%d): error %d", id, e)
		}
		isCalls(t, "New of no place", c, api.Calls{})
	}
}

// P10.1.
func TestRight(t *testing.T) {
	right := map[string]api.Calls{
		"nothing":            {},
		"three":              three(),
		"full":               full(),
		"empty, not nil":     {Id: 9, Open: []api.Call{}},
		"all were there":     {Id: 65535, Many: ids},
		"the last one":       {Id: 65535, Many: ids, Open: []api.Call{call(65535, ids, ping(0), 255, math.MinInt, late, 3)}},
		"the first of 0":     {Id: 0, Many: 1, Open: []api.Call{call(0, 1, ping(65535), 0, math.MaxInt, 0, 1)}},
		"an empty list":      but(three(), func(c *api.Calls) { c.Open[0].Msg.List = []int{} }),
		"more than are open": but(three(), func(c *api.Calls) { c.Many = 5000 }),
		"sent out of order":  but(three(), func(c *api.Calls) { c.Open[0].Sent = late; c.Open[1].Sent = 0 }),
	}
	for what, c := range right {
		if !calls.Right(c) {
			t.Errorf("%s: %v may not be", what, c)
		}
	}
	for what, c := range wrong() {
		if calls.Right(c) {
			t.Errorf("%s: %v may be", what, c)
		}
	}
	for m := range uint8(255) {
		c := but(three(), func(c *api.Calls) { c.Open[0].Msg.Kind = m })
		if may := m == api.MsState || m == api.MsPing || m == api.MsNotify || m == api.MsHop; calls.Right(c) != may {
			t.Errorf("an ask of kind %d: %v", m, !may)
		}
	}
}

// P10.1.
func TestSame(t *testing.T) {
	all := wrong()
	all["three"] = three()
	all["full"] = full()
	all["none"] = api.Calls{}
	all["Why"] = but(three(), func(c *api.Calls) { c.Open[1].Why = 6 })
	all["Ref"] = but(three(), func(c *api.Calls) { c.Open[1].Ref++ })
	all["Sent"] = but(three(), func(c *api.Calls) { c.Open[1].Sent++ })
	all["Tries"] = but(three(), func(c *api.Calls) { c.Open[1].Tries-- })
	all["Many"] = but(three(), func(c *api.Calls) { c.Many++ })
	all["Slow"] = but(three(), func(c *api.Calls) { c.Open[1].Msg.Slow = false })
	all["fewer"] = but(three(), func(c *api.Calls) { c.Open = c.Open[:2] })
	all["only the message's list"] = but(three(), func(c *api.Calls) { c.Open[0].Msg.List = []int{2} })
	for what, a := range all {
		for with, b := range all {
			if calls.Same(a, b) != (what == with) {
				t.Errorf("%s, %s: %v", what, with, what != with)
			}
		}
		if !calls.Same(a, calls.Own(a)) {
			t.Errorf("%s: Own is another one", what)
		}
		isCalls(t, what, calls.Own(a), a)
	}
	a, b := api.Calls{Id: 2}, api.Calls{Id: 2, Open: []api.Call{}}
	c := but(three(), func(c *api.Calls) { c.Open[0].Msg.List = []int{} })
	if !calls.Same(a, b) || !calls.Same(b, a) || !calls.Same(c, three()) || !calls.Same(three(), c) {
		t.Error("nil and empty are not the same")
	}
}

// P10.2.
func TestOpen(t *testing.T) {
	rows := []struct {
		m        api.Msg
		why      uint8
		ref, now int
	}{
		{ping(9), 0, 0, 0},
		{ping(0), 255, -1, late},
		{api.Msg{Kind: api.MsState, To: 65535}, 1, math.MaxInt, 1},
		{api.Msg{Kind: api.MsNotify, To: 1}, 2, math.MinInt, 2},
		{hop(3, 65535), 3, 4, 12},
		{put(3), 4, 5, 1 << 39},
		{api.Msg{Kind: api.MsGet, To: 3, Item: api.Item{Key: "twenty bytes, no more"[:20]}}, 4, 5, 100},
		{api.Msg{Kind: api.MsPing, To: 9, From: 9, Call: 77}, 4, 5, 100},
		{api.Msg{Kind: api.MsPing, To: 9, From: -5, Call: math.MaxInt}, 4, 5, 100},
		{api.Msg{Kind: api.MsPing, To: 9, List: []int{}}, 4, 5, 100},
	}
	for _, c := range rows {
		for _, before := range []api.Calls{{Id: 2}, {Id: 2, Many: ids - 1}, three()} {
			want := before
			want.Many++
			x := call(2, want.Many, c.m, c.why, c.ref, c.now, 1)
			want.Open = append(want.Open, x)
			o, m, e := calls.Open(before, c.m, c.why, c.ref, c.now)
			isMsg(t, "Open", m, e, x.Msg, api.OK)
			isCalls(t, "Open", o, want)
			if !calls.Right(o) || !msg.Right(m) {
				t.Fatalf("Open of %v: %v may not be", c.m, o)
			}
		}
	}
	_, m, _ := calls.Open(api.Calls{Id: 2}, ping(9), 0, 0, 0)
	if m.Call != 2097153 {
		t.Errorf("the first call of 2: number %d", m.Call)
	}
}

// P10.2.
func TestOpenBusy(t *testing.T) {
	gone := api.Calls{Id: 2, Many: ids}
	last := api.Calls{Id: 2, Many: ids, Open: []api.Call{call(2, 5, ping(9), 0, 0, 0, 1)}}
	for _, c := range []api.Calls{full(), gone, last} {
		for _, m := range []api.Msg{ping(9), ping(2), {}} {
			for _, now := range []int{0, -1, late, late + 1} {
				o, m, e := calls.Open(c, m, 1, 2, now)
				isMsg(t, "Open of too many", m, e, api.Msg{}, api.ErrBusy)
				isCalls(t, "Open of too many", o, c)
			}
		}
	}
	c := full()
	c.Open = c.Open[:15]
	if _, _, e := calls.Open(c, ping(9), 1, 2, 0); e != api.OK {
		t.Errorf("Open of the last that may be: error %d", e)
	}
}

// P10.2.
func TestOpenWrong(t *testing.T) {
	for _, now := range []int{-1, -2, math.MinInt, late + 1, 1 << 41, math.MaxInt} {
		o, m, e := calls.Open(three(), ping(9), 1, 2, now)
		isMsg(t, "Open at no time", m, e, api.Msg{}, api.ErrArg)
		isCalls(t, "Open at no time", o, three())
	}
	for _, m := range []api.Msg{
		{}, ping(2), ping(-1), ping(65536), ping(math.MaxInt), hop(9, -1), hop(9, 65536),
		{Kind: api.MsPing, To: 9, Key: 1}, {Kind: api.MsPing, To: 9, List: []int{1}}, {Kind: api.MsPing, To: 9, Pred: -1},
		{Kind: api.MsPut, To: 9}, {Kind: api.MsPut, To: 9, Item: api.Item{Key: "a", Value: -1}}, {Kind: api.MsGet, To: 9},
		{Kind: api.MsGet, To: 9, Item: api.Item{Key: "twenty bytes, no more"}}, {Kind: api.MsHop, To: 9, Done: true},
		{Kind: api.MsPing + 6, To: 9}, {Kind: api.MsState + 6, To: 9, Pred: -1}, {Kind: 13, To: 9}, {Kind: 255, To: 9},
	} {
		o, told, e := calls.Open(three(), m, 1, 2, 5)
		isMsg(t, "Open of what may not be", told, e, api.Msg{}, api.ErrArg)
		isCalls(t, "Open of what may not be", o, three())
	}
	for what, c := range wrong() {
		o, m, e := calls.Open(c, ping(9), 1, 2, 5)
		isMsg(t, what, m, e, api.Msg{}, api.ErrArg)
		isCalls(t, what, o, c)
	}
}

// P10.3.
func TestClose(t *testing.T) {
	for at, x := range three().Open {
		want := three()
		want.Open = slices.Delete(want.Open, at, at+1)
		m := msg.Tell(x.Msg)
		if m.Kind == api.MsPut+6 {
			m.Code = api.ErrFull
		}
		o, got, ok := calls.Close(three(), m)
		isCall(t, "Close", got, ok, x, true)
		isCalls(t, "Close", o, want)
		o, got, ok = calls.Close(o, m)
		isCall(t, "Close once more", got, ok, api.Call{}, false)
		isCalls(t, "Close once more", o, want)
	}
	o, got, ok := calls.Close(api.Calls{Id: 2, Many: 1}, msg.Tell(of(2, 1, ping(9))))
	isCall(t, "Close of none", got, ok, api.Call{}, false)
	isCalls(t, "Close of none", o, api.Calls{Id: 2, Many: 1})
}

// P10.3.
func TestCloseNone(t *testing.T) {
	m := msg.Tell(three().Open[0].Msg)
	changes := map[string]func(m *api.Msg){
		"by another":              func(m *api.Msg) { m.From = 7 },
		"by oneself":              func(m *api.Msg) { m.From = 2 },
		"of another kind":         func(m *api.Msg) { m.Kind = api.MsNotify + 6 },
		"an ask":                  func(m *api.Msg) { m.Kind = api.MsPing },
		"the ask itself":          func(m *api.Msg) { *m = three().Open[0].Msg },
		"a kind that may not be":  func(m *api.Msg) { m.Kind = 13 },
		"nothing":                 func(m *api.Msg) { *m = api.Msg{} },
		"the number of a gone":    func(m *api.Msg) { m.Call++ },
		"the number of another":   func(m *api.Msg) { m.Call += 4 },
		"a number to come":        func(m *api.Msg) { m.Call += 8 },
		"no number":               func(m *api.Msg) { m.Call = 0 },
		"a number of another's":   func(m *api.Msg) { m.Call += ids },
		"to another":              func(m *api.Msg) { m.To, m.Call = 3, m.Call+ids },
		"to another, that number": func(m *api.Msg) { m.To = 3 },
		"with something more":     func(m *api.Msg) { m.Code = api.ErrFull },
		"with a list":             func(m *api.Msg) { m.List = []int{1} },
	}
	for what, change := range changes {
		told := m
		change(&told)
		o, x, ok := calls.Close(three(), told)
		isCall(t, what, x, ok, api.Call{}, false)
		isCalls(t, what, o, three())
	}
	for what, c := range wrong() {
		for _, m := range three().Open {
			o, x, ok := calls.Close(c, msg.Tell(m.Msg))
			isCall(t, what, x, ok, api.Call{}, false)
			isCalls(t, what, o, c)
		}
	}
}

// P10.3: of calls told to by a state, a hop, a pair.
func TestCloseKinds(t *testing.T) {
	asks := []api.Msg{{Kind: api.MsState, To: 9}, ping(9), {Kind: api.MsNotify, To: 9}, hop(9, 5), put(9), {Kind: api.MsGet, To: 9, Item: api.Item{Key: "a"}}}
	told := []api.Msg{{Pred: -1, List: []int{40, 2}}, {}, {}, {Place: 7, Done: true}, {}, {Code: api.ErrNone}}
	for i, a := range asks {
		c, m, _ := calls.Open(three(), a, 9, i, 50)
		for j, b := range told {
			b.Kind, b.From, b.To, b.Call = uint8(7+j), 9, 2, m.Call
			o, x, ok := calls.Close(c, b)
			if i != j {
				isCall(t, "of another kind", x, ok, api.Call{}, false)
				isCalls(t, "of another kind", o, c)
				continue
			}
			isCall(t, "of its kind", x, ok, c.Open[3], true)
			isCalls(t, "of its kind", o, but(three(), func(c *api.Calls) { c.Many = 9 }))
		}
	}
}

// P10.4.
func TestLate(t *testing.T) {
	c := three() // over at 17, due at 14, due at 14
	moved := func(now int, at ...int) api.Calls {
		c := three()
		for _, i := range at {
			c.Open[i].Sent = now
			c.Open[i].Tries++
		}
		return c
	}
	rows := []struct {
		now   int
		want  api.Calls
		again []int
		over  []int
	}{
		{0, c, nil, nil},
		{12, c, nil, nil},
		{13, c, nil, nil},
		{14, moved(14, 1, 2), []int{1, 2}, nil},
		{16, moved(16, 1, 2), []int{1, 2}, nil},
		{17, but(moved(17, 1, 2), func(c *api.Calls) { c.Open = c.Open[1:] }), []int{1, 2}, []int{0}},
		{late, but(moved(late, 1, 2), func(c *api.Calls) { c.Open = c.Open[1:] }), []int{1, 2}, []int{0}},
		{-1, c, nil, nil},
		{late + 1, c, nil, nil},
		{math.MaxInt, c, nil, nil},
		{math.MinInt, c, nil, nil},
	}
	for _, r := range rows {
		o, again, over := calls.Late(three(), r.now)
		isCalls(t, "Late", o, r.want)
		if len(again) != len(r.again) || len(over) != len(r.over) {
			t.Fatalf("Late at %d: %v again, %v over", r.now, again, over)
		}
		for i, at := range r.again {
			isMsg(t, "again", again[i], api.OK, c.Open[at].Msg, api.OK)
		}
		for i, at := range r.over {
			isCall(t, "over", over[i], true, c.Open[at], true)
		}
	}
	for what, c := range wrong() {
		o, again, over := calls.Late(c, 1000)
		isCalls(t, what, o, c)
		if len(again) > 0 || len(over) > 0 {
			t.Fatalf("%s: %v again, %v over", what, again, over)
		}
	}
}

// P10.4: several are over at once, others between.
func TestLateMany(t *testing.T) {
	c := full()
	for i := range c.Open {
		c.Open[i].Tries = 1 + i%3
		c.Open[i].Sent = 100 - i/3
	}
	for now := 95; now < 110; now++ {
		want := api.Calls{Id: 2, Many: 16}
		var sent, gone []int
		for i, x := range c.Open {
			passed := now - x.Sent
			switch {
			case x.Tries == 3 && passed >= 4:
				gone = append(gone, i)
				continue
			case x.Tries == 1 && passed >= 1, x.Tries == 2 && passed >= 2:
				sent = append(sent, i)
				x.Sent, x.Tries = now, x.Tries+1
			}
			want.Open = append(want.Open, x)
		}
		o, again, over := calls.Late(c, now)
		isCalls(t, "Late of many", o, want)
		if len(sent) != len(again) || len(gone) != len(over) {
			t.Fatalf("at %d: %v again, %v over", now, again, over)
		}
		for i, at := range sent {
			isMsg(t, "again of many", again[i], api.OK, c.Open[at].Msg, api.OK)
		}
		for i, at := range gone {
			isCall(t, "over of many", over[i], true, c.Open[at], true)
		}
	}
}

// P10.4.
func TestFind(t *testing.T) {
	rows := []struct {
		why  uint8
		want api.Call
		ok   bool
	}{{4, three().Open[0], true}, {5, three().Open[1], true}, {0, api.Call{}, false}, {6, api.Call{}, false}, {255, api.Call{}, false}}
	for _, r := range rows {
		x, ok := calls.Find(three(), r.why)
		isCall(t, "Find", x, ok, r.want, r.ok)
	}
	for i := range 5 {
		x, ok := calls.Find(full(), uint8(i))
		if i < 3 {
			isCall(t, "Find of many", x, ok, full().Open[i], true)
		} else {
			isCall(t, "Find of many", x, ok, api.Call{}, false)
		}
	}
	for what, c := range wrong() {
		for why := range uint8(10) {
			x, ok := calls.Find(c, why)
			isCall(t, what, x, ok, api.Call{}, false)
		}
	}
}

// P10.4.
func TestDrop(t *testing.T) {
	isCalls(t, "two", calls.Drop(three(), 4), but(three(), func(c *api.Calls) { c.Open = c.Open[1:2] }))
	isCalls(t, "one", calls.Drop(three(), 5), but(three(), func(c *api.Calls) { c.Open = slices.Delete(c.Open, 1, 2) }))
	isCalls(t, "none", calls.Drop(three(), 0), three())
	isCalls(t, "all", calls.Drop(calls.Drop(three(), 4), 5), api.Calls{Id: 2, Many: 8})
	isCalls(t, "of nothing", calls.Drop(api.Calls{}, 0), api.Calls{})
	for what, c := range wrong() {
		for _, why := range []uint8{0, 4, 5} {
			isCalls(t, what, calls.Drop(c, why), c)
		}
	}
}

// P10.5: of a call that nobody answers three are sent, and the verdict comes seven ticks behind the first one, once.
func TestNobody(t *testing.T) {
	c, first, _ := calls.Open(api.Calls{Id: 2}, ping(9), 1, 2, 10)
	sent, over := []int{10}, 0
	for now := 10; now < 40; now++ {
		o, again, gone := calls.Late(c, now)
		for _, m := range again {
			isMsg(t, "again", m, api.OK, first, api.OK)
			sent = append(sent, now)
		}
		for range gone {
			if over++; now != 17 {
				t.Fatalf("over at %d", now)
			}
		}
		c = o
	}
	if !slices.Equal(sent, []int{10, 11, 13}) || over != 1 || len(c.Open) != 0 || wait.Plan(10) != [4]int{10, 11, 13, 17} {
		t.Fatalf("sent at %v, over %d times", sent, over)
	}
	o, x, ok := calls.Close(c, msg.Tell(first))
	isCall(t, "told too late", x, ok, api.Call{}, false)
	isCalls(t, "told too late", o, api.Calls{Id: 2, Many: 1})
}

// open is a plain model of a call.
type open struct {
	number, to, sent, tries int
	why                     uint8
}

// tale is a plain model of what a node asked.
type tale struct {
	seed uint32
	many int
	open []open
	done map[int]bool
}

// pick is a number below n, of a row that is the same each time.
func (s *tale) pick(n int) int {
	s.seed = s.seed*1664525 + 1013904223
	return int(s.seed>>8) % n
}

// take takes one out, and holds that it was told never before.
func (s *tale) take(t *testing.T, at int) open {
	x := s.open[at]
	s.open = slices.Delete(s.open, at, at+1)
	if s.done[x.number] {
		t.Fatalf("%d is told twice", x.number)
	}
	s.done[x.number] = true
	return x
}

// tick is what Late ought to do: who is asked again, who is over.
func (s *tale) tick(t *testing.T, now int) (again, over []int) {
	for at := 0; at < len(s.open); at++ {
		x := &s.open[at]
		if now-x.sent < 1<<(x.tries-1) {
			continue
		}
		if x.tries == 3 {
			over = append(over, s.take(t, at).number)
			at--
			continue
		}
		x.sent, x.tries = now, x.tries+1
		again = append(again, x.number)
	}
	return again, over
}

// numbers are those of messages, of calls.
func numbers(l []api.Msg, m []api.Call) (a, b []int) {
	for _, x := range l {
		a = append(a, x.Call)
	}
	for _, x := range m {
		b = append(b, x.Id)
	}
	return a, b
}

// holds holds that the calls are those of the model.
func (s *tale) holds(t *testing.T, c api.Calls) {
	t.Helper()
	want := api.Calls{Id: 7, Many: s.many}
	for _, x := range s.open {
		want.Open = append(want.Open, call(7, x.number-7*ids, ping(x.to), x.why, x.to, x.sent, x.tries))
	}
	isCalls(t, "a tale", c, want)
	if !calls.Right(c) {
		t.Fatalf("%v may not be", c)
	}
}

// P10.2, P10.3, P10.4, P10.5: many calls after each other, against a plain model.
func TestTale(t *testing.T) {
	s := tale{seed: 10, done: map[int]bool{}}
	c, _ := calls.New(7)
	now, told := 0, 0
	for range 30000 {
		switch s.pick(5) {
		case 0, 1:
			to, why := 100+s.pick(50), uint8(s.pick(4))
			o, m, e := calls.Open(c, ping(to), why, to, now)
			if len(s.open) == 16 {
				isMsg(t, "a tale's open", m, e, api.Msg{}, api.ErrBusy)
			} else {
				s.many++
				s.open = append(s.open, open{7*ids + s.many, to, now, 1, why})
				isMsg(t, "a tale's open", m, e, of(7, s.many, ping(to)), api.OK)
			}
			c = o
		case 2: // what is told to any call, mostly a late one
			n := 7*ids + s.many - s.pick(40)
			at := slices.IndexFunc(s.open, func(x open) bool { return x.number == n })
			m := api.Msg{Kind: api.MsPing + 6, From: 9, To: 7, Call: n}
			if at >= 0 {
				m.From = s.open[at].to
			}
			o, x, ok := calls.Close(c, m)
			if ok != (at >= 0) || ok && x.Id != s.take(t, at).number {
				t.Fatalf("Close of %d: %v, %v", n, x, ok)
			}
			if ok {
				told++
			}
			c = o
		case 3:
			now += s.pick(2)
			wantAgain, wantOver := s.tick(t, now)
			o, again, over := calls.Late(c, now)
			a, b := numbers(again, over)
			if !slices.Equal(a, wantAgain) || !slices.Equal(b, wantOver) {
				t.Fatalf("Late at %d: %v again, %v over, not %v, %v", now, a, b, wantAgain, wantOver)
			}
			c = o
		case 4:
			why := uint8(s.pick(20))
			at := slices.IndexFunc(s.open, func(x open) bool { return x.why == why })
			if x, ok := calls.Find(c, why); ok != (at >= 0) || ok && x.Id != s.open[at].number {
				t.Fatalf("Find of %d: %v, %v", why, x, ok)
			}
			s.open = slices.DeleteFunc(s.open, func(x open) bool { return x.why == why })
			c = calls.Drop(c, why)
		}
		s.holds(t, c)
	}
	if s.many < 1000 || told < 500 || len(s.done) < 700 {
		t.Fatalf("a poor tale: %d opened, %d told, %d in all told or over", s.many, told, len(s.done))
	}
}

// P10.1, P10.2: all numbers of a node, the last one too.
func TestLastNumber(t *testing.T) {
	c := api.Calls{Id: 65535, Many: ids - 1}
	c, m, e := calls.Open(c, ping(1), 0, 0, 0)
	if e != api.OK || m.Call != 65536*ids || !calls.Right(c) {
		t.Fatalf("the last number: %d, error %d", m.Call, e)
	}
	c, _, _ = calls.Close(c, msg.Tell(m))
	if _, _, e := calls.Open(c, ping(1), 0, 0, 0); e != api.ErrBusy {
		t.Fatalf("behind the last number: error %d", e)
	}
}

// R3.
func TestAgain(t *testing.T) {
	for range 5 {
		a, x, e := calls.Open(three(), hop(9, 4), 1, 2, 30)
		b, y, f := calls.Open(three(), hop(9, 4), 1, 2, 30)
		if !calls.Same(a, b) || !msg.Same(x, y) || e != f {
			t.Fatal("Open is not the same again")
		}
		c, again, over := calls.Late(a, 31)
		d, again2, over2 := calls.Late(b, 31)
		if !calls.Same(c, d) || len(again) != len(again2) || len(over) != len(over2) {
			t.Fatal("Late is not the same again")
		}
	}
}

// spoil writes over all that a row's memory has, its spare room too.
func spoil(c api.Calls) {
	for i := range c.Open[:cap(c.Open)] {
		x := &c.Open[:cap(c.Open)][i]
		l := x.Msg.List[:cap(x.Msg.List)]
		for j := range l {
			l[j] = -9
		}
		*x = api.Call{Id: -9}
	}
}

// roomy is a row that may be, with spare room behind all that has any.
func roomy(c api.Calls) api.Calls {
	l := make([]api.Call, len(c.Open), len(c.Open)+4)
	copy(l, c.Open)
	for i := range l {
		l[i].Msg.List = append(make([]int, 0, 3), l[i].Msg.List...)
	}
	c.Open = l
	return c
}

// R4: what is handed in is not changed, its spare room neither, and not kept.
func TestHandedIn(t *testing.T) {
	told := msg.Tell(three().Open[1].Msg)
	deeds := map[string]func(c api.Calls) api.Calls{
		"Own":   calls.Own,
		"Open":  func(c api.Calls) api.Calls { o, _, _ := calls.Open(c, ping(9), 1, 2, 3); return o },
		"wrong": func(c api.Calls) api.Calls { o, _, _ := calls.Open(c, ping(2), 1, 2, 3); return o },
		"Close": func(c api.Calls) api.Calls { o, _, _ := calls.Close(c, told); return o },
		"none":  func(c api.Calls) api.Calls { o, _, _ := calls.Close(c, ping(9)); return o },
		"Late":  func(c api.Calls) api.Calls { o, _, _ := calls.Late(c, 17); return o },
		"never": func(c api.Calls) api.Calls { o, _, _ := calls.Late(c, -1); return o },
		"Drop":  func(c api.Calls) api.Calls { return calls.Drop(c, 4) },
		"Find":  func(c api.Calls) api.Calls { calls.Find(c, 4); return calls.Own(c) },
	}
	rows := wrong()
	rows["three"] = three()
	for what, deed := range deeds {
		for row, c := range rows {
			given := roomy(c)
			before := roomy(c)
			answer := deed(given)
			want := deed(roomy(c))
			isCalls(t, what+" changes "+row, given, before)
			for i, x := range given.Open[len(given.Open):cap(given.Open)] {
				if !equal(x, api.Call{}) {
					t.Fatalf("%s of %s: spare room %d is written to", what, row, i)
				}
			}
			spoil(given)
			isCalls(t, what+" of "+row+" shares what was handed in", answer, want)
			given = roomy(c)
			spoil(deed(given))
			isCalls(t, what+" of "+row+" hands out what was handed in", given, before)
		}
	}
}

// R4: a message that is handed in is not kept; answers share nothing.
func TestAnswersApart(t *testing.T) {
	given := ping(9)
	given.List = make([]int, 0, 3)
	o, m, _ := calls.Open(three(), given, 1, 2, 3)
	for _, l := range [][]int{o.Open[3].Msg.List, m.List} {
		if cap(l) > 0 {
			t.Fatal("a list has room that was handed in")
		}
	}
	bad := but(three(), func(c *api.Calls) { c.Open[0].Msg.List = []int{1, 2, 3} })
	a, b := calls.Own(bad), calls.Own(bad)
	a.Open[0].Msg.List[0] = 8
	a.Open[1].Sent = 7
	isCalls(t, "two answers share", b, but(three(), func(c *api.Calls) { c.Open[0].Msg.List = []int{1, 2, 3} }))
}

// R1: great rows end soon.
func TestGreat(t *testing.T) {
	c := api.Calls{Id: 2, Many: ids}
	for n := range 50000 {
		c.Open = append(c.Open, call(2, n+1, ping(9), 1, 2, 3, 1))
	}
	if calls.Right(c) || !calls.Same(c, calls.Own(c)) {
		t.Fatal("a great row may be")
	}
	if _, _, e := calls.Open(c, ping(9), 1, 2, 3); e != api.ErrArg {
		t.Fatalf("Open of a great row: error %d", e)
	}
	isCalls(t, "Drop of a great row", calls.Drop(c, 1), c)
}
