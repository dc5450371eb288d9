package machine

import (
	"math"
	"reflect"
	"slices"
	"strings"
	"testing"

	"sculling/api"
	"sculling/volume"
)

// op that may be, of a kind.
func op(kind int) api.Op {
	switch kind {
	case api.Write:
		return api.Op{Kind: kind, At: 1, Data: "x"}
	case api.Trim:
		return api.Op{Kind: kind, At: 2}
	case api.Read:
		return api.Op{Kind: kind, At: 3, Snap: 1}
	}
	return api.Op{Kind: api.Snap}
}

// opsThatMayBe: each kind, at the edges.
func opsThatMayBe() []api.Op {
	l := []api.Op{{Kind: api.Snap}}
	for _, at := range []int{0, 1, api.Sectors - 1} {
		l = append(l, api.Op{Kind: api.Trim, At: at})
		for _, data := range []string{"", "x", "\x00\xff", "éééé", strings.Repeat("y", api.MaxSector)} {
			l = append(l, api.Op{Kind: api.Write, At: at, Data: data})
		}
		for snap := range api.MaxSnaps + 1 {
			l = append(l, api.Op{Kind: api.Read, At: at, Snap: snap})
		}
	}
	return l
}

// requestsThatMayBe: clients and numbers at the edges, with each operation.
func requestsThatMayBe() []api.Request {
	var l []api.Request
	for client := 1; client <= api.MaxClient; client++ {
		for _, num := range []int{1, 2, 127, 128, 255, 256, 65535, 65536, api.MaxNum - 1, api.MaxNum} {
			for _, o := range opsThatMayBe() {
				l = append(l, api.Request{Client: client, Num: num, Op: o})
			}
		}
	}
	return l
}

// refusal: a request, and what refuses it.
type refusal struct {
	r    api.Request
	want api.Errno
}

// wrongOps: what CheckOp refuses, and with what.
func wrongOps() []refusal {
	long := strings.Repeat("x", api.MaxSector+1)
	var l []refusal
	for _, c := range []struct {
		o    api.Op
		want api.Errno
	}{
		{api.Op{}, api.ErrKind},
		{api.Op{Kind: -1}, api.ErrKind},
		{api.Op{Kind: api.Snap + 1}, api.ErrKind},
		{api.Op{Kind: 256 + api.Write}, api.ErrKind}, // its lowest byte is a kind
		{api.Op{Kind: 9, At: -1, Snap: 9, Data: long}, api.ErrKind},
		{api.Op{Kind: api.Write, At: -1, Data: long}, api.ErrRange},
		{api.Op{Kind: api.Write, At: api.Sectors}, api.ErrRange},
		{api.Op{Kind: api.Write, At: 256}, api.ErrRange},
		{api.Op{Kind: api.Read, Snap: -1}, api.ErrRange},
		{api.Op{Kind: api.Read, Snap: api.MaxSnaps + 1}, api.ErrRange},
		{api.Op{Kind: api.Read, Snap: 256}, api.ErrRange},
		{api.Op{Kind: api.Write, Snap: 1, Data: long}, api.ErrForm},
		{api.Op{Kind: api.Snap, At: 1}, api.ErrForm},
		{api.Op{Kind: api.Trim, Data: "x"}, api.ErrForm},
		{api.Op{Kind: api.Read, Data: long}, api.ErrForm},
		{api.Op{Kind: api.Write, Data: long}, api.ErrSize},
		{api.Op{Kind: api.Write, Data: strings.Repeat("x", 256)}, api.ErrSize},
		{api.Op{Kind: api.Write, Data: strings.Repeat("x", 1<<16)}, api.ErrSize},
	} {
		for client := 1; client <= api.MaxClient; client++ {
			l = append(l, refusal{api.Request{Client: client, Num: 1, Op: c.o}, c.want})
			l = append(l, refusal{api.Request{Client: client, Num: api.MaxNum, Op: c.o}, c.want})
		}
	}
	return l
}

// requestsThatMayNotBe: wrong clients and numbers, with operations of any kind, and wrong operations.
func requestsThatMayNotBe() []refusal {
	l := wrongOps()
	ops := opsThatMayBe()
	for _, c := range wrongOps() { // the client and the number are looked at first
		ops = append(ops, c.r.Op)
	}
	for _, o := range ops {
		for _, n := range []int{0, -1, math.MinInt, math.MaxInt, 1 << 32, 1<<32 + 1} {
			l = append(l, refusal{api.Request{Client: n, Num: 1, Op: o}, api.ErrRange})
			l = append(l, refusal{api.Request{Client: 1, Num: n, Op: o}, api.ErrRange})
			l = append(l, refusal{api.Request{Client: n, Num: n, Op: o}, api.ErrRange})
		}
		for _, client := range []int{api.MaxClient + 1, 256, 257} {
			l = append(l, refusal{api.Request{Client: client, Num: 1, Op: o}, api.ErrRange})
		}
		for _, num := range []int{api.MaxNum + 1, api.MaxGen, api.MaxGen + 1} {
			l = append(l, refusal{api.Request{Client: api.MaxClient, Num: num, Op: o}, api.ErrRange})
		}
	}
	return l
}

// P3.1

func TestCheckRequestTakesWhatMayBe(t *testing.T) {
	for _, r := range requestsThatMayBe() {
		if e := CheckRequest(r); e != api.OK {
			t.Errorf("CheckRequest(%+v) = %v, want OK", r, e)
		}
	}
}

func TestCheckRequestRefusesWithTheFirst(t *testing.T) {
	for _, c := range requestsThatMayNotBe() {
		if e := CheckRequest(c.r); e != c.want {
			t.Errorf("CheckRequest(%+v) = %v, want %v", c.r, e, c.want)
		}
	}
	if e := CheckRequest(api.Request{}); e != api.ErrRange {
		t.Errorf("CheckRequest of nothing = %v, want ErrRange", e)
	}
}

// P3.2

func TestEncodeIsByteByByte(t *testing.T) {
	for _, c := range []struct {
		r    api.Request
		want string
	}{
		{api.Request{Client: 1, Num: 1, Op: api.Op{Kind: api.Snap}}, "\x01\x04\x00\x00\x00\x00\x00\x01\x00"},
		{api.Request{Client: 2, Num: 3, Op: api.Op{Kind: api.Write, At: 5, Data: "xyz"}}, "\x02\x01\x05\x00\x00\x00\x00\x03\x03xyz"},
		{api.Request{Client: 3, Num: 258, Op: api.Op{Kind: api.Read, At: 4, Snap: 2}}, "\x03\x03\x04\x02\x00\x00\x01\x02\x00"},
		{api.Request{Client: 4, Num: api.MaxNum, Op: api.Op{Kind: api.Trim, At: 3}}, "\x04\x02\x03\x00\x00\x10\x00\x00\x00"},
		{api.Request{Client: 4, Num: api.MaxNum - 1, Op: api.Op{Kind: api.Write, Data: "\x00\xff234567"}}, "\x04\x01\x00\x00\x00\x0f\xff\xff\x08\x00\xff234567"},
		{api.Request{Client: 1, Num: 128, Op: api.Op{Kind: api.Write, Data: "éé"}}, "\x01\x01\x00\x00\x00\x00\x00\x80\x04éé"},
	} {
		got, e := Encode(c.r)
		if got != c.want || e != api.OK {
			t.Errorf("Encode(%+v) = %q, %v, want %q", c.r, got, e, c.want)
		}
	}
}

func TestEncodeRefuses(t *testing.T) {
	for _, c := range requestsThatMayNotBe() {
		got, e := Encode(c.r)
		if got != "" || e != c.want {
			t.Errorf("Encode(%+v) = %q, %v, want nothing and %v", c.r, got, e, c.want)
		}
	}
}

// P3.3

func TestDecodeReadsWhatEncodeWrites(t *testing.T) {
	for _, r := range requestsThatMayBe() {
		s, e := Encode(r)
		if e != api.OK || len(s) > api.MaxEntry {
			t.Fatalf("Encode(%+v) = %q, %v", r, s, e)
		}
		got, e := Decode(s)
		if got != r || e != api.OK {
			t.Errorf("Decode(%q) = %+v, %v, want %+v", s, got, e, r)
		}
	}
}

// undecoded: Decode refuses bytes so.
func undecoded(t *testing.T, s string, want api.Errno) {
	t.Helper()
	got, e := Decode(s)
	if got != (api.Request{}) || e != want {
		t.Errorf("Decode(%q) = %+v, %v, want nothing and %v", s, got, e, want)
	}
}

func TestDecodeRefusesWhatIsCutOrTooLong(t *testing.T) {
	for _, s := range []string{
		"\x01\x04\x00\x00\x00\x00\x00\x01\x00",
		"\x02\x01\x05\x00\x00\x00\x00\x03\x03xyz",
		"\x04\x01\x05\x00\x00\x10\x00\x00\x0812345678",
	} {
		if _, e := Decode(s); e != api.OK {
			t.Fatalf("Decode(%q): %v", s, e)
		}
		for i := range len(s) {
			undecoded(t, s[:i], api.ErrShort)
		}
		for n := 1; n < 100; n++ {
			want := api.ErrForm
			if len(s)+n > api.MaxEntry {
				want = api.ErrSize
			}
			undecoded(t, s+strings.Repeat("\x00", n), want)
			undecoded(t, s+strings.Repeat("z", n), want)
		}
	}
	undecoded(t, strings.Repeat("\x01", 1<<16), api.ErrSize)
}

func TestDecodeRefusesWithTheFirst(t *testing.T) {
	for _, c := range []struct {
		s    string
		want api.Errno
	}{
		{"", api.ErrShort},
		{"\xff\xff\xff", api.ErrShort},     // not four bytes, whatever they tell
		{"\xff\xff\xff\xff", api.ErrShort}, // no Num
		{"\xff\xff\xff\xff\xff\xff\xff", api.ErrShort},
		{"\xff\xff\xff\xff\xff\xff\xff\xff", api.ErrForm}, // Num above MaxGen, ahead of no Data
		{"\x01\x04\x00\x00\x40\x00\x00\x01", api.ErrForm}, // so, by one
		{"\x01\x04\x00\x00\x40\x00\x00\x01\x05a", api.ErrForm},
		{"\x01\x04\x00\x00\x40\x00\x00\x00", api.ErrShort},     // Num is MaxGen: there is no Data
		{"\x01\x04\x00\x00\x40\x00\x00\x00\x00z", api.ErrForm}, // bytes are left, ahead of Num above MaxNum
		{"\x01\x04\x00\x00\x40\x00\x00\x00\x00", api.ErrRange},
		{"\x01\x04\x00\x00\x00\x10\x00\x01\x00", api.ErrRange}, // MaxNum and one
		{"\x01\x04\x00\x00\x00\x00\x00\x00\x00", api.ErrRange}, // Num is 0
		{"\x01\x01\x00\x00\x00\x00\x00\x01\xffa", api.ErrShort},
		{"\x00\x09\x00\x00\x00\x00\x00\x01\x02a", api.ErrShort}, // Data is short, ahead of Client
		{"\x00\x09\x00\x00\x00\x00\x00\x01\x00z", api.ErrForm},  // bytes are left, ahead of Client
		{"\x00\x09\x00\x00\x00\x00\x00\x01\x00", api.ErrRange},  // Client, ahead of Kind
		{"\x05\x04\x00\x00\x00\x00\x00\x01\x00", api.ErrRange},  // Client beyond MaxClient
		{"\xff\x04\x00\x00\x00\x00\x00\x01\x00", api.ErrRange},
		{"\x01\x00\x00\x00\x00\x00\x00\x01\x00", api.ErrKind},
		{"\x01\x05\x09\x09\x00\x00\x00\x01\x01a", api.ErrKind},  // Kind, ahead of At
		{"\x01\x02\x06\x00\x00\x00\x00\x01\x01a", api.ErrRange}, // At, ahead of Data of a Trim
		{"\x01\x03\x00\x04\x00\x00\x00\x01\x00", api.ErrRange},
		{"\x01\x03\x00\xff\x00\x00\x00\x01\x00", api.ErrRange},
		{"\x01\x01\x00\x01\x00\x00\x00\x01\x09123456789", api.ErrForm}, // Snap of a Write, ahead of too much Data
		{"\x01\x04\x01\x00\x00\x00\x00\x01\x00", api.ErrForm},
		{"\x01\x03\x01\x00\x00\x00\x00\x01\x01a", api.ErrForm},
		{"\x01\x01\x00\x00\x00\x00\x00\x01\x09123456789", api.ErrSize},
		{"\x01\x01\x00\x00\x00\x00\x00\x01\x1f" + strings.Repeat("x", 31), api.ErrSize}, // just MaxEntry bytes
		{"\x01\x02\x00\x00\x00\x00\x00\x01\x1f" + strings.Repeat("x", 31), api.ErrForm}, // so, but it is read: a Trim has no Data
		{"\x01\x02\x00\x00\x00\x00\x00\x01\x20" + strings.Repeat("x", 32), api.ErrSize}, // one more: it is not
		{"\x01\x01\x00\x00\x00\x00\x00\x01\x20" + strings.Repeat("x", 31), api.ErrShort},
		{strings.Repeat("\xff", api.MaxEntry), api.ErrForm},
		{strings.Repeat("\xff", api.MaxEntry+1), api.ErrSize},
	} {
		undecoded(t, c.s, c.want)
	}
}

// Whatever Decode takes is, byte by byte, what Encode makes of it; nothing else is taken.
func TestDecodeTakesOneFormAlone(t *testing.T) {
	base := "\x03\x03\x04\x02\x00\x00\x01\x02\x00"
	for i := range len(base) {
		for b := range 256 {
			s := base[:i] + string([]byte{byte(b)}) + base[i+1:]
			r, e := Decode(s)
			if e != api.OK {
				undecoded(t, s, e)
				continue
			}
			if again, e := Encode(r); again != s || e != api.OK {
				t.Errorf("Decode(%q) = %+v, which is %q, %v", s, r, again, e)
			}
		}
	}
}

// P3.4

const mark = "spare room"

// roomy: a list with marks in its spare room.
func roomy[T any](spare T, l ...T) []T {
	room := append(slices.Clone(l), spare, spare, spare)
	return room[:len(l):len(room)]
}

// some state that may be: with so many snapshots, each last number so, replies of any kind, and spare room.
func some(snaps, num int) api.State {
	six := func(s string) []string { return roomy(mark, s+"0", s+"1", s+"2", s+"3", s+"4", s+"5") }
	l := [][]string{}
	for i := range snaps {
		l = append(l, six(string(rune('a'+i))))
	}
	spare := api.Last{Num: -7, Reply: api.Reply{Data: mark}}
	return api.State{
		Volume: api.Volume{Now: six("now"), Snaps: roomy([]string{mark}, l...)},
		Lasts: roomy(spare,
			api.Last{Num: num, Reply: api.Reply{Code: -1, N: -5, Data: strings.Repeat("r", 300)}},
			api.Last{Num: num, Reply: api.Reply{Code: api.ErrAway, N: math.MaxInt}},
			api.Last{Num: num, Reply: api.Reply{N: 1}},
			api.Last{Num: num, Reply: api.Reply{Data: "\xff"}}),
	}
}

// whole: all of a state, in memory of its own, spare room too.
func whole(s api.State) ([][]string, []api.Last) {
	l := [][]string{slices.Clone(s.Volume.Now[:cap(s.Volume.Now)])}
	for _, snap := range s.Volume.Snaps[:cap(s.Volume.Snaps)] {
		l = append(l, slices.Clone(snap[:cap(snap)]))
	}
	return l, slices.Clone(s.Lasts[:cap(s.Lasts)])
}

// untouched: ask it behind a call whether a state is, to its spare room, as it was ahead of that.
func untouched(t *testing.T, what string, s api.State) func() {
	t.Helper()
	sectors, lasts := whole(s)
	return func() {
		t.Helper()
		nowSectors, nowLasts := whole(s)
		if !reflect.DeepEqual(sectors, nowSectors) || !reflect.DeepEqual(lasts, nowLasts) {
			t.Errorf("%s: what was handed in is not as it was", what)
		}
	}
}

// same elements? An empty list may be nil or not.
func same(a, b api.State) bool {
	return slices.Equal(a.Lasts, b.Lasts) && slices.Equal(a.Volume.Now, b.Volume.Now) &&
		slices.EqualFunc(a.Volume.Snaps, b.Volume.Snaps, slices.Equal[[]string])
}

// nothing at all in a state?
func nothing(s api.State) bool { return same(s, api.State{}) }

// apart: nothing of got is shared with was, nor its lists with each other.
func apart(t *testing.T, what string, was, got api.State) {
	t.Helper()
	asked := untouched(t, what+": the answer shares memory", was)
	all := append([][]string{got.Volume.Now}, got.Volume.Snaps[:cap(got.Volume.Snaps)]...)
	for i, l := range all {
		for j := range l[:cap(l)] {
			l[:cap(l)][j] = "spoilt"
		}
		for _, other := range all[i+1:] {
			if slices.Contains(other[:cap(other)], "spoilt") {
				t.Errorf("%s: lists of the answer share memory", what)
			}
		}
	}
	for i := range got.Volume.Snaps[:cap(got.Volume.Snaps)] {
		got.Volume.Snaps[:cap(got.Volume.Snaps)][i] = []string{"spoilt"}
	}
	for i := range got.Lasts[:cap(got.Lasts)] {
		got.Lasts[:cap(got.Lasts)][i] = api.Last{Num: -9}
	}
	asked()
}

func TestNewIsANewVolumeAndNobodyTold(t *testing.T) {
	s := New()
	want := api.State{Volume: volume.New(), Lasts: []api.Last{{}, {}, {}, {}}}
	if !same(s, want) || len(s.Lasts) != api.MaxClient {
		t.Errorf("New() = %+v, want %+v", s, want)
	}
	if e := Check(s); e != api.OK {
		t.Errorf("Check(New()) = %v", e)
	}
	apart(t, "New", s, New())
}

func TestCheckTakesWhatMayBe(t *testing.T) {
	for snaps := range api.MaxSnaps + 1 {
		for _, num := range []int{0, 1, api.MaxNum - 1, api.MaxNum} {
			s := some(snaps, num)
			asked := untouched(t, "Check", s)
			if e := Check(s); e != api.OK {
				t.Errorf("Check(%+v) = %v, want OK", s, e)
			}
			asked()
		}
	}
}

// statesThatMayNotBe, each one step beside one that may.
func statesThatMayNotBe() map[string]api.State {
	m := map[string]api.State{
		"nothing":             {},
		"a volume alone":      {Volume: volume.New()},
		"lasts alone":         {Lasts: make([]api.Last, api.MaxClient)},
		"room for lasts":      {Volume: volume.New(), Lasts: make([]api.Last, 0, api.MaxClient)},
		"a last too few":      {Volume: volume.New(), Lasts: make([]api.Last, api.MaxClient-1)},
		"a last too many":     {Volume: volume.New(), Lasts: make([]api.Last, api.MaxClient+1)},
		"a snapshot too many": some(api.MaxSnaps+1, 1),
	}
	for i := range api.MaxClient {
		for what, num := range map[string]int{
			"below 0": -1, "least": math.MinInt, "above": api.MaxNum + 1, "most": math.MaxInt, "low bits right": 1 << 32,
		} {
			s := some(i, 1)
			s.Lasts[i].Num = num
			m["a number "+what+" at "+string(rune('0'+i))] = s
		}
	}
	s := some(2, 1)
	s.Volume.Now = s.Volume.Now[:api.Sectors-1]
	m["a sector too few"] = s
	s = some(2, 1)
	s.Volume.Now[5] = strings.Repeat("x", api.MaxSector+1)
	m["a sector too long"] = s
	s = some(2, 1)
	s.Volume.Snaps[1] = nil
	m["a snapshot of nothing"] = s
	s = some(2, 1)
	s.Volume.Snaps[0][0] = strings.Repeat("x", api.MaxSector+1)
	m["a sector too long in a snapshot"] = s
	return m
}

func TestCheckRefusesWhatMayNotBe(t *testing.T) {
	for what, s := range statesThatMayNotBe() {
		asked := untouched(t, "Check of "+what, s)
		if e := Check(s); e != api.ErrState {
			t.Errorf("Check of %s = %v, want ErrState", what, e)
		}
		asked()
	}
}

// P3.5

// entry of a request that may be.
func entry(t *testing.T, client, num int, o api.Op) string {
	t.Helper()
	s, e := Encode(api.Request{Client: client, Num: num, Op: o})
	if e != api.OK {
		t.Fatalf("no entry of %d, %d, %+v: %v", client, num, o, e)
	}
	return s
}

// applied: what Apply answers, if it refuses nothing and leaves what it was given.
func applied(t *testing.T, s api.State, entry string) api.State {
	t.Helper()
	asked := untouched(t, "Apply", s)
	next, e := Apply(s, entry)
	if e != api.OK {
		t.Fatalf("Apply(%+v, %q): %v", s, entry, e)
	}
	asked()
	if e := Check(next); e != api.OK {
		t.Fatalf("Apply(%+v, %q) leaves a state that may not be: %+v", s, entry, next)
	}
	return next
}

func TestApplyDoesAnOperationAndKeepsItsReply(t *testing.T) {
	for snaps := range api.MaxSnaps + 1 {
		for client := 1; client <= api.MaxClient; client++ {
			for _, num := range []int{6, 7, api.MaxNum} { // above 5, not just the next one
				for _, o := range opsThatMayBe() {
					was := some(snaps, 5)
					v, reply, e := volume.Do(was.Volume, o)
					if e != api.OK {
						t.Fatalf("Do %+v: %v", o, e)
					}
					want := api.State{Volume: v, Lasts: slices.Clone(was.Lasts)}
					want.Lasts[client-1] = api.Last{Num: num, Reply: reply}
					got := applied(t, was, entry(t, client, num, o))
					if !same(got, want) {
						t.Errorf("client %d, number %d, %+v: %+v, want %+v", client, num, o, got, want)
					}
				}
			}
		}
	}
}

func TestApplyTellsWhatWasNotThereOrHadNoRoom(t *testing.T) {
	s := applied(t, some(1, 5), entry(t, 2, 6, api.Op{Kind: api.Read, At: 1, Snap: 2}))
	if s.Lasts[1] != (api.Last{Num: 6, Reply: api.Reply{Code: api.ErrNone}}) {
		t.Errorf("no snapshot: %+v", s.Lasts[1])
	}
	s = applied(t, some(api.MaxSnaps, 5), entry(t, 3, 9, api.Op{Kind: api.Snap}))
	if s.Lasts[2] != (api.Last{Num: 9, Reply: api.Reply{Code: api.ErrFull}}) || len(s.Volume.Snaps) != api.MaxSnaps {
		t.Errorf("no room: %+v", s)
	}
}

func TestApplyDoesNothingAgain(t *testing.T) {
	for snaps := range api.MaxSnaps + 1 {
		for client := 1; client <= api.MaxClient; client++ {
			for _, c := range []struct{ last, num int }{
				{1, 1}, {5, 5}, {5, 4}, {5, 1}, {api.MaxNum, api.MaxNum}, {api.MaxNum, api.MaxNum - 1}, {api.MaxNum, 1},
			} {
				for _, o := range opsThatMayBe() {
					was := some(snaps, 0)
					was.Lasts[client-1].Num = c.last // what others were told hinders nothing, and helps nothing
					got := applied(t, was, entry(t, client, c.num, o))
					if !same(got, was) {
						t.Errorf("client %d, number %d behind %d, %+v: %+v, want %+v", client, c.num, c.last, o, got, was)
					}
				}
			}
		}
	}
}

func TestApplyLooksAtItsOwnClient(t *testing.T) {
	for client := 1; client <= api.MaxClient; client++ {
		was := some(0, api.MaxNum)
		was.Lasts[client-1].Num = 0
		got := applied(t, was, entry(t, client, 1, op(api.Snap)))
		want := api.Last{Num: 1, Reply: api.Reply{N: 1}}
		if got.Lasts[client-1] != want || len(got.Volume.Snaps) != 1 {
			t.Errorf("client %d: %+v, want %+v", client, got, want)
		}
	}
}

func TestApplyRefuses(t *testing.T) {
	refused := func(what string, s api.State, entry string, want api.Errno) {
		t.Helper()
		asked := untouched(t, what, s)
		got, e := Apply(s, entry)
		if e != want || !nothing(got) {
			t.Errorf("Apply %q to %s = %+v, %v, want nothing and %v", entry, what, got, e, want)
		}
		asked()
	}
	wrong := []struct {
		s    string
		want api.Errno
	}{
		{"", api.ErrShort},
		{"abc", api.ErrShort},
		{"\x01\x04\x00\x00\x00\x00\x00\x01", api.ErrShort},
		{"\x01\x04\x00\x00\x00\x00\x00\x01\x00z", api.ErrForm},
		{"\x01\x04\x00\x00\x40\x00\x00\x01\x00", api.ErrForm},
		{"\x00\x04\x00\x00\x00\x00\x00\x01\x00", api.ErrRange},
		{"\x05\x04\x00\x00\x00\x00\x00\x01\x00", api.ErrRange},
		{"\x01\x04\x00\x00\x00\x00\x00\x00\x00", api.ErrRange},
		{"\x01\x07\x00\x00\x00\x00\x00\x01\x00", api.ErrKind}, // so even if its number is over
		{"\x01\x01\x00\x00\x00\x00\x00\x01\x09123456789", api.ErrSize},
		{strings.Repeat("x", api.MaxEntry+1), api.ErrSize},
	}
	for _, c := range wrong {
		refused("a new state", New(), c.s, c.want)
		refused("a state that may be", some(2, 5), c.s, c.want)
	}
	for what, s := range statesThatMayNotBe() {
		refused(what, s, entry(t, 1, 1, op(api.Write)), api.ErrState)
		refused(what, s, entry(t, 4, api.MaxNum, op(api.Snap)), api.ErrState)
		for _, c := range wrong { // what Check refuses comes first
			refused(what, s, c.s, api.ErrState)
		}
	}
}

func TestApplyAnswersInNewMemory(t *testing.T) {
	for snaps := range api.MaxSnaps + 1 {
		for kind := api.Write; kind <= api.Snap; kind++ {
			for _, num := range []int{1, 5, 6} { // over, asked again, and new
				s := some(snaps, 5)
				apart(t, "Apply", s, applied(t, s, entry(t, 2, num, op(kind))))
				one := s.Volume.Now // handed in as all of them
				s.Volume.Snaps = slices.Repeat([][]string{one}, snaps)
				apart(t, "Apply with one list", s, applied(t, s, entry(t, 2, num, op(kind))))
			}
		}
	}
}

// played: what Play answers, if it refuses nothing and leaves what it was given.
func played(t *testing.T, l ...string) api.State {
	t.Helper()
	room := roomy(mark, l...)
	was := slices.Clone(room[:cap(room)])
	s, e := Play(room)
	if e != api.OK {
		t.Fatalf("Play(%q): %v", l, e)
	}
	if !slices.Equal(was, room[:cap(room)]) {
		t.Fatalf("Play(%q) changed what it was given", l)
	}
	return s
}

func TestPlayOfNothingIsNew(t *testing.T) {
	if s, e := Play(nil); e != api.OK || !same(s, New()) {
		t.Errorf("Play(nil) = %+v, %v", s, e)
	}
	s := played(t)
	if !same(s, New()) {
		t.Errorf("Play of nothing = %+v", s)
	}
	apart(t, "Play of nothing", s, played(t))
}

func TestPlayGoesOneByOne(t *testing.T) {
	write := func(client, num int, data string) string {
		return entry(t, client, num, api.Op{Kind: api.Write, At: 2, Data: data})
	}
	l := []string{
		write(1, 1, "a"),
		entry(t, 2, 3, op(api.Snap)),
		write(3, 2, "b"),
		write(1, 1, "again"),
		entry(t, 2, 3, op(api.Snap)), // again
		write(3, 1, "late"),
		entry(t, 4, api.MaxNum, api.Op{Kind: api.Read, At: 2, Snap: 1}),
		entry(t, 1, 9, api.Op{Kind: api.Read, At: 2}),
	}
	want := api.State{
		Volume: api.Volume{
			Now:   []string{"", "", "b", "", "", ""},
			Snaps: [][]string{{"", "", "a", "", "", ""}},
		},
		Lasts: []api.Last{
			{Num: 9, Reply: api.Reply{Data: "b"}},
			{Num: 3, Reply: api.Reply{N: 1}},
			{Num: 2},
			{Num: api.MaxNum, Reply: api.Reply{Data: "a"}},
		},
	}
	s := played(t, l...)
	if !same(s, want) {
		t.Errorf("Play = %+v, want %+v", s, want)
	}
	apart(t, "Play", s, played(t, l...))
	step := New()
	for i, x := range l {
		step = applied(t, step, x)
		if !same(step, played(t, l[:i+1]...)) {
			t.Errorf("Play of %d entries is not what they come to one by one", i+1)
		}
	}
	if !same(played(t, append(l, l...)...), want) { // all of them asked again
		t.Error("entries that are asked again were done again")
	}
}

func TestPlayRefusesWithTheFirst(t *testing.T) {
	good := entry(t, 1, 1, op(api.Write))
	kind, short := "\x01\x07\x00\x00\x00\x00\x00\x01\x00", "abc"
	long := strings.Repeat("x", api.MaxEntry+1)
	for _, c := range []struct {
		l    []string
		want api.Errno
	}{
		{[]string{""}, api.ErrShort},
		{[]string{kind}, api.ErrKind},
		{[]string{good, kind}, api.ErrKind},
		{[]string{good, good, short, good}, api.ErrShort},
		{[]string{kind, short, long}, api.ErrKind},
		{[]string{good, long, kind, short}, api.ErrSize},
		{[]string{short, long, kind}, api.ErrShort},
	} {
		was := slices.Clone(c.l)
		s, e := Play(c.l)
		if e != c.want || !nothing(s) {
			t.Errorf("Play(%q) = %+v, %v, want nothing and %v", c.l, s, e, c.want)
		}
		if !slices.Equal(was, c.l) {
			t.Errorf("Play(%q) changed what it was given", was)
		}
	}
}

func TestPlayTakesManyEntries(t *testing.T) {
	var l []string
	for num := 1; num <= 20000; num++ {
		l = append(l, entry(t, 1+num%api.MaxClient, num, api.Op{Kind: api.Write, At: num % api.Sectors, Data: string(rune('a' + num%26))}))
	}
	s := played(t, l...)
	for num := 20000 - api.Sectors + 1; num <= 20000; num++ {
		if want := string(rune('a' + num%26)); s.Volume.Now[num%api.Sectors] != want {
			t.Errorf("sector %d: %q, want %q", num%api.Sectors, s.Volume.Now[num%api.Sectors], want)
		}
	}
	for num := 20000 - api.MaxClient + 1; num <= 20000; num++ {
		if got := s.Lasts[num%api.MaxClient]; got != (api.Last{Num: num}) {
			t.Errorf("client %d: %+v, want %d", 1+num%api.MaxClient, got, num)
		}
	}
}
