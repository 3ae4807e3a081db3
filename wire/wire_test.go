package wire_test

import (
	"bytes"
	"math"
	"slices"
	"strings"
	"testing"

	"garland/api"
	"garland/frame"
	"garland/msg"
	"garland/wire"
)

const (
	longestKey = "01234567890123456789"
	tooLongKey = "012345678901234567890"
)

// The kinds of what is told.
const (
	toldState  = 7
	toldPing   = 8
	toldNotify = 9
	toldHop    = 10
	toldPut    = 11
	toldGet    = 12
)

// last is the number of the last call of the node at 65535, the greatest there is.
const last = 68719476736

// sent are messages, and their payloads written out.
type sent struct {
	m api.Msg
	p string
}

// askRows are asks: of 1 or 0 to 2, but where a longer number is.
var askRows = []sent{
	{api.Msg{Kind: api.MsState, Call: 5242881, From: 5, To: 256}, "\x01\x01\x03\x50\x00\x01\x01\x05\x02\x01\x00"},
	{api.Msg{Kind: api.MsPing, Call: 1048577, From: 1, To: 2}, "\x01\x02\x03\x10\x00\x01\x01\x01\x01\x02"},
	{api.Msg{Kind: api.MsPing, Call: 255, From: 0, To: 2}, "\x01\x02\x01\xff\x00\x01\x02"},
	{api.Msg{Kind: api.MsNotify, Call: last, From: 65535, To: 0}, "\x01\x03\x05\x10\x00\x00\x00\x00\x02\xff\xff\x00"},
	{api.Msg{Kind: api.MsHop, Call: 1, From: 0, To: 2, Key: 9, Slow: true}, "\x01\x04\x01\x01\x00\x01\x02\x01\x09\x01\x01"},
	{api.Msg{Kind: api.MsHop, Call: 1, From: 0, To: 2, Key: 300}, "\x01\x04\x01\x01\x00\x01\x02\x02\x01\x2c\x00"},
	{api.Msg{Kind: api.MsHop, Call: 1, From: 0, To: 2}, "\x01\x04\x01\x01\x00\x01\x02\x00\x00"},
	{api.Msg{Kind: api.MsPut, Call: 1, From: 0, To: 2, Item: api.Item{Key: "ab", Value: 300, Version: 1, Gone: true}}, "\x01\x05\x01\x01\x00\x01\x02\x02ab\x02\x01\x2c\x01\x01\x01\x01"},
	{api.Msg{Kind: api.MsPut, Call: 1, From: 0, To: 2, Item: api.Item{Key: "\x00"}}, "\x01\x05\x01\x01\x00\x01\x02\x01\x00\x00\x00\x00"},
	{api.Msg{Kind: api.MsGet, Call: 1, From: 0, To: 2, Item: api.Item{Key: "k"}}, "\x01\x06\x01\x01\x00\x01\x02\x01k"},
	{api.Msg{Kind: api.MsGet, Call: 1, From: 0, To: 2, Item: api.Item{Key: longestKey}}, "\x01\x06\x01\x01\x00\x01\x02\x14" + longestKey},
}

// toldRows are what is told.
var toldRows = []sent{
	{api.Msg{Kind: toldState, Call: 1, From: 2, To: 0, Pred: -1, List: []int{3, 4}}, "\x01\x07\x01\x01\x01\x02\x00\x00\x02\x01\x03\x01\x04"},
	{api.Msg{Kind: toldState, Call: 1, From: 2, To: 0}, "\x01\x07\x01\x01\x01\x02\x00\x01\x01\x00"},
	{api.Msg{Kind: toldState, Call: 1, From: 2, To: 0, Pred: 65535, List: []int{0, 256, 65535}}, "\x01\x07\x01\x01\x01\x02\x00\x03\x01\x00\x00\x03\x00\x02\x01\x00\x02\xff\xff"},
	{api.Msg{Kind: toldPing, Call: 1, From: 2, To: 0}, "\x01\x08\x01\x01\x01\x02\x00"},
	{api.Msg{Kind: toldNotify, Call: 1, From: 2, To: 0}, "\x01\x09\x01\x01\x01\x02\x00"},
	{api.Msg{Kind: toldHop, Call: 1, From: 2, To: 0, Place: 256, Done: true}, "\x01\x0a\x01\x01\x01\x02\x00\x02\x01\x00\x01\x01"},
	{api.Msg{Kind: toldHop, Call: 1, From: 2, To: 0}, "\x01\x0a\x01\x01\x01\x02\x00\x00\x00"},
	{api.Msg{Kind: toldPut, Call: 1, From: 2, To: 0}, "\x01\x0b\x01\x01\x01\x02\x00\x00"},
	{api.Msg{Kind: toldPut, Call: 1, From: 2, To: 0, Code: api.ErrFull}, "\x01\x0b\x01\x01\x01\x02\x00\x01\xc8"},
	{api.Msg{Kind: toldGet, Call: 1, From: 2, To: 0, Code: api.ErrNone}, "\x01\x0c\x01\x01\x01\x02\x00\x01\xc9"},
	{api.Msg{Kind: toldGet, Call: 1, From: 2, To: 0, Item: api.Item{Key: "k", Value: 1, Version: 256}}, "\x01\x0c\x01\x01\x01\x02\x00\x00\x01k\x01\x01\x02\x01\x00\x00"},
	{api.Msg{Kind: toldGet, Call: last, From: 65534, To: 65535, Item: api.Item{Key: longestKey, Value: 1048576, Version: 1048576, Gone: true}},
		"\x01\x0c\x05\x10\x00\x00\x00\x00\x02\xff\xfe\x02\xff\xff\x00\x14" + longestKey + "\x03\x10\x00\x00\x03\x10\x00\x00\x01\x01"},
}

func rows() []sent { return append(slices.Clone(askRows), toldRows...) }

// noPayloads are bytes that are no message's payload.
var noPayloads = []struct{ what, p string }{
	{"nothing", ""},
	{"a kind without its bytes", "\x01"},
	{"a kind alone", "\x01\x02"},
	{"no more than a call", "\x01\x02\x01\x01"},
	{"none to whom", "\x01\x02\x01\x01\x00"},
	{"something behind a ping", "\x01\x02\x01\x01\x00\x01\x02\x00"},
	{"something behind a pair", "\x01\x05\x01\x01\x00\x01\x02\x01k\x00\x00\x00\x00"},
	{"a key behind ErrNone", "\x01\x0c\x01\x01\x01\x02\x00\x01\xc9\x01k\x00\x00\x00"},
	{"no pair behind OK", "\x01\x0c\x01\x01\x01\x02\x00\x00"},
	{"another error than ErrNone", "\x01\x0c\x01\x01\x01\x02\x00\x01\xc8"},
	{"another error than ErrFull", "\x01\x0b\x01\x01\x01\x02\x00\x01\x05"},
	{"the kind 0", "\x00\x01\x01\x00\x01\x02"},
	{"the kind 13", "\x01\x0d\x01\x01\x00\x01\x02"},
	{"the kind 255", "\x01\xff\x01\x01\x00\x01\x02"},
	{"the kind 258, by 256 a ping", "\x02\x01\x02\x01\x01\x00\x01\x02"},
	{"a number with a 0 ahead", "\x02\x00\x02\x01\x01\x00\x01\x02"},
	{"a number of seven bytes", "\x07\x00\x00\x00\x00\x00\x00\x02\x01\x01\x00\x01\x02"},
	{"a call of somebody else", "\x01\x02\x03\x10\x00\x01\x00\x01\x02"},
	{"the call 0", "\x01\x02\x00\x00\x01\x02"},
	{"of whom it is told", "\x01\x02\x01\x01\x00\x00"},
	{"to no place", "\x01\x02\x01\x01\x00\x03\x01\x00\x00"},
	{"from no place", "\x01\x02\x05\x10\x00\x00\x00\x01\x03\x01\x00\x00\x01\x02"},
	{"the key of a hop no place", "\x01\x04\x01\x01\x00\x01\x02\x03\x01\x00\x00\x00"},
	{"slow by 2", "\x01\x04\x01\x01\x00\x01\x02\x01\x09\x01\x02"},
	{"slow by 256", "\x01\x04\x01\x01\x00\x01\x02\x01\x09\x02\x01\x00"},
	{"slow not told", "\x01\x04\x01\x01\x00\x01\x02\x01\x09"},
	{"done by 3", "\x01\x0a\x01\x01\x01\x02\x00\x00\x01\x03"},
	{"gone by 2", "\x01\x05\x01\x01\x00\x01\x02\x01k\x00\x00\x01\x02"},
	{"a pair without a key", "\x01\x05\x01\x01\x00\x01\x02\x00\x00\x00\x00"},
	{"a pair of a key too long", "\x01\x05\x01\x01\x00\x01\x02\x15" + tooLongKey + "\x00\x00\x00"},
	{"a pair of a value too great", "\x01\x05\x01\x01\x00\x01\x02\x01k\x03\x10\x00\x01\x00\x00"},
	{"a pair of a version too great", "\x01\x05\x01\x01\x00\x01\x02\x01k\x00\x03\x10\x00\x01\x00"},
	{"no key", "\x01\x06\x01\x01\x00\x01\x02\x00"},
	{"a key too short", "\x01\x06\x01\x01\x00\x01\x02\x02k"},
	{"a key too long", "\x01\x06\x01\x01\x00\x01\x02\x15" + tooLongKey},
	{"ahead by more than places", "\x01\x07\x01\x01\x01\x02\x00\x03\x01\x00\x01\x00"},
	{"a list too long", "\x01\x07\x01\x01\x01\x02\x00\x00\x04\x01\x03\x01\x04\x01\x05\x01\x06"},
	{"a list with one twice", "\x01\x07\x01\x01\x01\x02\x00\x00\x02\x01\x03\x01\x03"},
	{"a list with who tells it", "\x01\x07\x01\x01\x01\x02\x00\x00\x01\x01\x02"},
	{"a list of fewer than it says", "\x01\x07\x01\x01\x01\x02\x00\x00\x02\x01\x03"},
	{"bytes of a number too great", "\x06\xff\xff\xff\xff\xff\xff\x01\x01\x00\x01\x02"},
	{"only noughts", strings.Repeat("\x00", 46)},
	{"too many noughts", strings.Repeat("\x00", 47)},
	{"very many bytes", strings.Repeat("\x01\x02\x01\x01\x00\x01\x02", 100000)},
}

// noMessages are what may not be.
func noMessages() []api.Msg {
	list := []int{3, 4, 5, 6}
	l := []api.Msg{
		{}, {Kind: 13, Call: 1, To: 2}, {Kind: 255, Call: 1, To: 2},
		{Kind: api.MsPing, Call: 1, From: 2, To: 2}, {Kind: api.MsPing, Call: 1, To: 2, Key: 5}, {Kind: api.MsPing, Call: 1, To: 2, Slow: true},
		{Kind: api.MsPing, Call: 1, To: 2, Pred: -1}, {Kind: api.MsPing, Call: 1, To: 2, List: []int{3}}, {Kind: api.MsPing, Call: 1, To: 2, Code: api.ErrNone},
		{Kind: api.MsPing, To: 2}, {Kind: api.MsPing, Call: 1048577, To: 2}, {Kind: api.MsPing, Call: 1, To: 65536}, {Kind: api.MsPing, Call: 1, From: -1, To: 2},
		{Kind: api.MsHop, Call: 1, To: 2, Key: 65536}, {Kind: api.MsHop, Call: 1, To: 2, Done: true},
		{Kind: api.MsPut, Call: 1, To: 2}, {Kind: api.MsPut, Call: 1, To: 2, Item: api.Item{Key: tooLongKey}}, {Kind: api.MsPut, Call: 1, To: 2, Item: api.Item{Key: "k", Value: 1048577}},
		{Kind: api.MsPut, Call: 1, To: 2, Item: api.Item{Key: strings.Repeat("k", 300)}}, {Kind: api.MsPut, Call: 1, To: 2, Item: api.Item{Key: "k", Version: -1}},
		{Kind: api.MsGet, Call: 1, To: 2}, {Kind: api.MsGet, Call: 1, To: 2, Item: api.Item{Key: "k", Value: 1}},
		{Kind: toldState, Call: 1, From: 2, Pred: -2}, {Kind: toldState, Call: 1, From: 2, Pred: 65536}, {Kind: toldState, Call: 1, From: 2, List: list}, {Kind: toldState, Call: 1, From: 2, List: []int{2}},
		{Kind: toldState, Call: 1, From: 2, List: make([]int, 1000)}, {Kind: toldState, Call: 1, From: 2, List: []int{-1}},
		{Kind: toldHop, Call: 1, From: 2, Place: -1}, {Kind: toldHop, Call: 1, From: 2, Key: 1},
		{Kind: toldPut, Call: 1, From: 2, Code: api.ErrNone}, {Kind: toldPut, Call: 1, From: 2, Code: -1},
		{Kind: toldGet, Call: 1, From: 2}, {Kind: toldGet, Call: 1, From: 2, Code: api.ErrNone, Item: api.Item{Key: "k"}}, {Kind: toldGet, Call: 1, From: 2, Code: api.ErrFull},
	}
	for _, n := range []int{math.MinInt, math.MinInt + 1, -1 << 40, 1<<40 + 1, math.MaxInt - 1, math.MaxInt} {
		l = append(l, api.Msg{Kind: api.MsPing, Call: n, To: 2}, api.Msg{Kind: api.MsPing, Call: 1, From: n, To: 2}, api.Msg{Kind: api.MsPing, Call: 1, To: n},
			api.Msg{Kind: api.MsHop, Call: 1, To: 2, Key: n}, api.Msg{Kind: api.MsPut, Call: 1, To: 2, Item: api.Item{Key: "k", Value: n}}, api.Msg{Kind: api.MsPut, Call: 1, To: 2, Item: api.Item{Key: "k", Version: n}},
			api.Msg{Kind: toldState, Call: 1, From: 2, Pred: n}, api.Msg{Kind: toldState, Call: 1, From: 2, List: []int{n}}, api.Msg{Kind: toldHop, Call: 1, From: 2, Place: n},
			api.Msg{Kind: toldPut, Call: 1, From: 2, Code: api.Errno(n)}, api.Msg{Kind: toldGet, Call: 1, From: 2, Code: api.Errno(n)})
	}
	return l
}

// isNothing tells whether m is no message at all.
func isNothing(m api.Msg) bool { return msg.Same(m, api.Msg{}) }

// P7.1.
func TestPayloadsWrittenOut(t *testing.T) {
	for i, r := range rows() {
		if p, e := wire.Payload(r.m); e != api.OK || string(p) != r.p {
			t.Errorf("%d: Payload is %x, %d, not %x", i, p, e, r.p)
		}
		if m, e := wire.Read([]byte(r.p)); e != api.OK || !msg.Same(m, r.m) {
			t.Errorf("%d: Read is %v, %d, not %v", i, m, e, r.m)
		}
	}
}

// P7.1.
func TestNoPayloadIsRead(t *testing.T) {
	for _, r := range noPayloads {
		if m, e := wire.Read([]byte(r.p)); e != api.ErrForm || !isNothing(m) {
			t.Errorf("%s: Read is %v, %d", r.what, m, e)
		}
	}
	if m, e := wire.Read(nil); e != api.ErrForm || !isNothing(m) {
		t.Error("nil:", m, e)
	}
}

// P7.1 and P7.2: what may not be has neither a payload nor a datagram.
func TestNoMessageIsPut(t *testing.T) {
	for i, m := range noMessages() {
		if p, e := wire.Payload(m); e != api.ErrArg || p != nil {
			t.Errorf("%d: Payload is %x, %d", i, p, e)
		}
		if b, e := wire.Put(m); e != api.ErrArg || b != nil {
			t.Errorf("%d: Put is %x, %d", i, b, e)
		}
	}
}

// P7.1: a payload is read whole: cut short it is none, and none with a byte more.
func TestPayloadsAreReadWhole(t *testing.T) {
	for i, r := range rows() {
		for n := range len(r.p) {
			if m, e := wire.Read([]byte(r.p[:n])); e != api.ErrForm || !isNothing(m) {
				t.Fatalf("%d: the first %d bytes are read: %v, %d", i, n, m, e)
			}
		}
		for more := range 256 {
			if m, e := wire.Read(append([]byte(r.p), byte(more))); e != api.ErrForm || !isNothing(m) {
				t.Fatalf("%d: with %d behind it is read: %v, %d", i, more, m, e)
			}
		}
	}
}

// P7.1 and P7.3: whatever stands at one place of a payload: what is read may be, and has just those bytes.
func TestWhatIsReadHasJustThoseBytes(t *testing.T) {
	read, not := 0, 0
	for _, r := range rows() {
		for at := range len(r.p) {
			for c := range 256 {
				b := []byte(r.p)
				b[at] = byte(c)
				m, e := wire.Read(b)
				if e != api.OK {
					not++
					if e != api.ErrForm || !isNothing(m) {
						t.Fatalf("%x: %v, %d", b, m, e)
					}
					continue
				}
				read++
				if p, e := wire.Payload(m); e != api.OK || !bytes.Equal(p, b) || !msg.Right(m) {
					t.Fatalf("%x is read as %v, which has %x, %d", b, m, p, e)
				}
			}
		}
	}
	if read < 1000 || not < 1000 {
		t.Error("not much is tried:", read, not)
	}
}

// P7.2: a datagram is the frame of a payload, written out for the chapter's example, and made by frame for all.
func TestDatagrams(t *testing.T) {
	for i, r := range rows() {
		want, e := frame.Close([]byte(r.p))
		if e != api.OK {
			t.Fatal(i, e)
		}
		if b, e := wire.Put(r.m); e != api.OK || !bytes.Equal(b, want) {
			t.Errorf("%d: Put is %x, %d, not %x", i, b, e, want)
		}
		if m, e := wire.Take(want); e != api.OK || !msg.Same(m, r.m) {
			t.Errorf("%d: Take is %v, %d, not %v", i, m, e, r.m)
		}
	}
	b, e := wire.Put(api.Msg{Kind: api.MsPing, Call: 1048577, From: 1, To: 2})
	if e != api.OK || len(b) != 18 || string(b[:14]) != "\x47\x01\x00\x0a\x01\x02\x03\x10\x00\x01\x01\x01\x01\x02" {
		t.Errorf("the ping is %x, %d", b, e)
	}
}

// P7.2: frames of something else.
func TestFramesOfSomethingElse(t *testing.T) {
	for _, r := range noPayloads {
		if len(r.p) > api.MaxBytes-8 {
			continue
		}
		b, e := frame.Close([]byte(r.p))
		if e != api.OK {
			t.Fatal(r.what, e)
		}
		if m, e := wire.Take(b); e != api.ErrForm || !isNothing(m) {
			t.Errorf("%s: Take is %v, %d", r.what, m, e)
		}
	}
}

// P7.2: what is no frame is told as frame.Open tells it.
func TestNoFrames(t *testing.T) {
	ping, _ := wire.Put(askRows[1].m)
	for n := range len(ping) {
		want := api.ErrForm
		if n < 8 {
			want = api.ErrShort
		}
		if m, e := wire.Take(ping[:n]); e != want || !isNothing(m) {
			t.Errorf("the first %d bytes: %v, %d", n, m, e)
		}
	}
	for _, b := range [][]byte{append(slices.Clone(ping), 0), append([]byte{0}, ping...), []byte(askRows[1].p), make([]byte, 8), make([]byte, 120), make([]byte, 121), make([]byte, 1<<20)} {
		if m, e := wire.Take(b); e != api.ErrForm || !isNothing(m) {
			t.Errorf("%d bytes: %v, %d", len(b), m, e)
		}
	}
	if m, e := wire.Take(nil); e != api.ErrShort || !isNothing(m) {
		t.Error("nil:", m, e)
	}
}

// P7.2: the most are those of a pair that is told to the last place, and no message has more.
func TestMost(t *testing.T) {
	if n := wire.Most(); n != 46 {
		t.Error(n)
	}
	longest := 0
	for _, r := range rows() {
		p, _ := wire.Payload(r.m)
		longest = max(longest, len(p))
	}
	for m := range many() {
		p, _ := wire.Payload(m)
		longest = max(longest, len(p))
	}
	if longest != 46 {
		t.Error("the longest payload has", longest)
	}
}

// many gives messages that may be: of each kind, with each of some numbers.
func many() func(yield func(api.Msg) bool) {
	places := []int{0, 1, 255, 256, 65535}
	values := []int{0, 1, 255, 256, 65536, 1048575, 1048576}
	keys := []string{"\x00", "k", "\xff\xfe", "ä", longestKey}
	var l []api.Msg
	for _, n := range []int{1, 2, 255, 256, 65536, 1048576} {
		for _, a := range places {
			for _, b := range []int{7, 300} {
				ask := api.Msg{Call: a*1048576 + n, From: a, To: b}
				told := api.Msg{Call: a*1048576 + n, From: b, To: a}
				for kind := uint8(1); kind <= 12; kind++ {
					m := ask
					if kind > 6 {
						m = told
					}
					m.Kind = kind
					switch kind {
					case api.MsHop:
						m.Key, m.Slow = places[n%5], n%2 == 0
					case api.MsPut, toldGet:
						m.Item = api.Item{Key: keys[(a+n)%5], Value: values[(a+b+n)%7], Version: values[(a+n)%7], Gone: n%2 == 0}
					case api.MsGet:
						m.Item.Key = keys[(a+n)%5]
					case toldState:
						m.Pred, m.List = places[(a+n)%5]-1, []int{65534, 9, 65536 - n%65536 - 30}[:n%4]
					case toldHop:
						m.Place, m.Done = places[n%5], a%2 == 0
					case toldPut:
						m.Code = api.Errno(n % 2 * 200)
					}
					l = append(l, m)
				}
			}
		}
	}
	return slices.Values(l)
}

// number is a number's bytes, by a way of the test's own.
func number(n int) string {
	s := ""
	for n > 0 {
		s = string([]byte{byte(n % 256)}) + s
		n /= 256
	}
	return string([]byte{byte(len(s))}) + s
}

func bit(b bool) string {
	if b {
		return "\x01\x01"
	}
	return "\x00"
}

func text(s string) string { return string([]byte{byte(len(s))}) + s }

func pair(x api.Item) string { return text(x.Key) + number(x.Value) + number(x.Version) + bit(x.Gone) }

// payload is a message's payload, told kind by kind.
func payload(m api.Msg) string {
	s := number(int(m.Kind)) + number(m.Call) + number(m.From) + number(m.To)
	switch m.Kind {
	case 4:
		s += number(m.Key) + bit(m.Slow)
	case 5:
		s += pair(m.Item)
	case 6:
		s += text(m.Item.Key)
	case 7:
		s += number(m.Pred+1) + string([]byte{byte(len(m.List))})
		for _, p := range m.List {
			s += number(p)
		}
	case 10:
		s += number(m.Place) + bit(m.Done)
	case 11:
		s += number(int(m.Code))
	case 12:
		s += number(int(m.Code))
		if m.Code == api.OK {
			s += pair(m.Item)
		}
	}
	return s
}

// P7.1, P7.2 and P7.3.
func TestWhatIsPutIsTaken(t *testing.T) {
	n := 0
	for m := range many() {
		n++
		if !msg.Right(m) {
			t.Fatalf("%v may not be", m)
		}
		p, e := wire.Payload(m)
		if e != api.OK || string(p) != payload(m) {
			t.Fatalf("%v: %x, %d, not %x", m, p, e, payload(m))
		}
		if r, e := wire.Read(p); e != api.OK || !msg.Same(r, m) {
			t.Fatalf("%v is read as %v, %d", m, r, e)
		}
		b, e := wire.Put(m)
		if e != api.OK {
			t.Fatalf("%v: %d", m, e)
		}
		if r, e := wire.Take(b); e != api.OK || !msg.Same(r, m) {
			t.Fatalf("%v is taken as %v, %d", m, r, e)
		}
	}
	if n != 720 {
		t.Error(n)
	}
}

// flip makes the bit at another one.
func flip(b []byte, at int) { b[at/8] ^= 1 << (7 - at%8) }

// P7.3: up to 32 bits side by side that are others.
func TestHarmIsNotTaken(t *testing.T) {
	for _, r := range []sent{askRows[1], askRows[7], toldRows[2], toldRows[9], toldRows[11]} {
		good, _ := wire.Put(r.m)
		for at := range len(good) * 8 {
			for _, pattern := range []uint32{1, 3, 5, 0xff, 0x101, 0x10001, 0x741b8cd7, 0x80000001, 0xdeadbeef, 0xffffffff} {
				b := slices.Clone(good)
				for i := range 32 {
					if pattern>>i&1 == 1 && at+i < len(b)*8 {
						flip(b, at+i)
					}
				}
				if m, e := wire.Take(b); e != api.ErrForm || !isNothing(m) {
					t.Fatalf("%v with %x from %d on is taken as %v, %d", r.m, pattern, at, m, e)
				}
			}
		}
	}
}

// P7.3: all 255 harms of each byte, as steps do them.
func TestHarmedBytesAreNotTaken(t *testing.T) {
	good, _ := wire.Put(toldRows[10].m)
	for at := range good {
		for c := 1; c < 256; c++ {
			b := slices.Clone(good)
			b[at] ^= byte(c)
			if m, e := wire.Take(b); e != api.ErrForm || !isNothing(m) {
				t.Fatalf("%d at %d: %v, %d", c, at, m, e)
			}
		}
	}
}

// R3 and R4: what is handed in stays, spare room included; what is told is told again, in memory of its own.
func TestMemory(t *testing.T) {
	m := toldRows[2].m
	room := make([]int, 3, 6)
	copy(room, m.List)
	room[:6][4] = 99
	m.List = room
	p, _ := wire.Payload(m)
	q, _ := wire.Payload(m)
	p[3] ^= 1
	if string(q) != toldRows[2].p || !slices.Equal(room[:6], []int{0, 256, 65535, 0, 99, 0}) {
		t.Errorf("%x %v", q, room[:6])
	}
	b, _ := wire.Put(m)
	c, _ := wire.Put(m)
	b[3] ^= 1
	if r, e := wire.Take(c); e != api.OK || !msg.Same(r, m) {
		t.Error(r, e)
	}
	spare := append(slices.Clone(c), 7, 7, 7)[:len(c)]
	kept := slices.Clone(spare[:len(c)+3])
	one, _ := wire.Take(spare)
	two, _ := wire.Take(spare)
	one.List = append(one.List[:0], 1, 2, 3)
	if !msg.Same(two, m) || !bytes.Equal(spare[:len(c)+3], kept) {
		t.Error(two, spare[:len(c)+3])
	}
	spare[10] ^= 1
	if !msg.Same(two, m) {
		t.Error("what was taken hangs on what was handed in", two)
	}
	room[0] = 44
	if string(q) != toldRows[2].p {
		t.Errorf("what was put hangs on what was handed in: %x", q)
	}
}

// R4: a payload that is read is not kept.
func TestReadKeepsNothing(t *testing.T) {
	for i, r := range rows() {
		b := append([]byte(r.p), 1, 2, 3)[:len(r.p)]
		m, e := wire.Read(b)
		if e != api.OK || string(b[:len(r.p)+3]) != r.p+"\x01\x02\x03" {
			t.Fatal(i, e)
		}
		for j := range b {
			b[j] = 0xff
		}
		if !msg.Same(m, r.m) {
			t.Error(i, m)
		}
	}
}
