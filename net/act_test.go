package net

import (
	"math"
	"strings"
	"testing"

	"sculling/api"
)

// P6.3

// opsThatMayBe, of each kind, at the edges.
func opsThatMayBe() []api.Op {
	return []api.Op{
		write(0, ""), write(api.Sectors-1, strings.Repeat("\xff", api.MaxSector)), write(3, "\x00"),
		{Kind: api.Trim}, {Kind: api.Trim, At: api.Sectors - 1},
		{Kind: api.Read}, {Kind: api.Read, At: 2, Snap: api.MaxSnaps},
		{Kind: api.Snap},
	}
}

// opsThatMayNotBe, and why.
func opsThatMayNotBe() map[api.Op]api.Errno {
	return map[api.Op]api.Errno{
		{}:                                       api.ErrKind,
		{Kind: api.Snap + 1}:                     api.ErrKind,
		{Kind: math.MinInt}:                      api.ErrKind,
		write(-1, ""):                            api.ErrRange,
		write(api.Sectors, ""):                   api.ErrRange,
		{Kind: api.Read, Snap: api.MaxSnaps + 1}: api.ErrRange,
		{Kind: api.Trim, Snap: 1}:                api.ErrForm,
		{Kind: api.Snap, At: 1}:                  api.ErrForm,
		{Kind: api.Read, Data: "x"}:              api.ErrForm,
		write(0, strings.Repeat("x", api.MaxSector+1)): api.ErrSize,
	}
}

func TestAsk(t *testing.T) {
	for clients := 1; clients <= api.MaxClient; clients++ {
		for _, o := range opsThatMayBe() {
			for c := range clients {
				p := newPlay(t, clients)
				before := p.o
				p.done(api.Act{Kind: api.Ask, C: c, R: -1, K: -1, N: -1, Op: o})
				before.Clients[c] = api.Customer{Id: c + 1, Next: 2, Wait: api.Request{Client: c + 1, Num: 1, Op: o}}
				p.nothingBut(before, p.acts[0])
			}
		}
	}
}

func TestAskRefuses(t *testing.T) {
	p := newPlay(t, 2)
	for _, c := range notPlaces(2) {
		p.refused(api.Act{Kind: api.Ask, C: c, Op: write(0, "x")}, api.ErrNone)
		p.refused(api.Act{Kind: api.Ask, C: c}, api.ErrNone) // ahead of what CheckOp refuses
	}
	for o, e := range opsThatMayNotBe() {
		p.refused(api.Act{Kind: api.Ask, C: 1, Op: o}, e)
	}
	p.done(api.Act{Kind: api.Ask, C: 1, Op: write(0, "x")})
	for o := range opsThatMayNotBe() {
		p.refused(api.Act{Kind: api.Ask, C: 1, Op: o}, api.ErrBusy) // ahead of what CheckOp refuses
	}
	for _, o := range opsThatMayBe() {
		p.refused(api.Act{Kind: api.Ask, C: 1, Op: o}, api.ErrBusy)
	}
	for o, e := range opsThatMayNotBe() {
		p.refused(api.Act{Kind: api.Ask, C: 0, Op: o}, e) // who waits is another one
	}
}

func TestSendAndAnswerRefuse(t *testing.T) {
	for _, kind := range []int{api.Send, api.Answer} {
		p := newPlay(t, 2)
		for _, r := range append(notPlaces(api.Replicas), 0, 1, 2) {
			for _, c := range notPlaces(2) {
				p.refused(api.Act{Kind: kind, C: c, R: r}, api.ErrNone)
			}
			p.refused(api.Act{Kind: kind, C: 1, R: r}, api.ErrOld) // ahead of whether there is that replica
		}
		p.done(api.Act{Kind: api.Ask, C: 1, Op: write(0, "x")})
		for _, r := range notPlaces(api.Replicas) {
			p.refused(api.Act{Kind: kind, C: 1, R: r}, api.ErrNone)
			p.refused(api.Act{Kind: kind, C: 0, R: r}, api.ErrOld)
		}
		p.refused(api.Act{Kind: kind, C: 1, R: 1}, api.ErrAway)
		p.refused(api.Act{Kind: kind, C: 1, R: 2}, api.ErrAway)
		p.done(api.Act{Kind: api.Alarm, R: 1})
		p.refused(api.Act{Kind: kind, C: 1, R: 1}, api.ErrAway) // it is to lead, but it is not calm
		p.done(api.Act{Kind: api.Alarm})
		p.refused(api.Act{Kind: kind, C: 1, R: 0}, api.ErrAway) // it leads no more
	}
}

func TestSendPutsTheRequestIntoTheLog(t *testing.T) {
	for _, o := range opsThatMayBe() {
		p := newPlay(t, 3)
		p.asks(2, 0, o)
		log := []string{entry(t, 3, 1, o)}
		p.replicaIs(knowing(0, calm(0, log, 0)))
		p.replicaIs(knowing(1, calm(0, nil, 0)))
		p.flying(lead(0, 1, 0, log, 0), lead(0, 2, 0, log, 0))
		want := api.Customer{Id: 3, Next: 2, Wait: api.Request{Client: 3, Num: 1, Op: o}}
		if !same(p.o.Clients[2], want) {
			t.Errorf("the client is %s, not %s", told(p.o.Clients[2]), told(want))
		}
		p.asks(0, 0, write(1, "y"))
		p.replicaIs(knowing(0, calm(0, append(log, entry(t, 1, 1, write(1, "y"))), 0)))
	}
}

func TestSendToAFullLog(t *testing.T) {
	p := newPlay(t, 1)
	p.done(api.Act{Kind: api.Ask, Op: write(0, "x")})
	for range api.MaxLog {
		p.done(api.Act{Kind: api.Send})
	}
	if n := len(p.o.Replicas[0].Kept.Log); n != api.MaxLog {
		t.Fatalf("the log has %d entries", n)
	}
	p.refused(api.Act{Kind: api.Send}, api.ErrFull)
}

func TestAnswerTellsTheReply(t *testing.T) {
	p := newPlay(t, 2)
	num, want := 0, []api.Told(nil)
	for _, c := range []struct {
		op    api.Op
		reply api.Reply
	}{
		{write(1, "x"), api.Reply{}},
		{api.Op{Kind: api.Read, At: 1}, api.Reply{Data: "x"}},
		{api.Op{Kind: api.Snap}, api.Reply{N: 1}},
		{api.Op{Kind: api.Trim, At: 1}, api.Reply{}},
		{api.Op{Kind: api.Read, At: 1}, api.Reply{}},
		{api.Op{Kind: api.Read, At: 1, Snap: 1}, api.Reply{Data: "x"}},
		{api.Op{Kind: api.Read, At: 1, Snap: 2}, api.Reply{Code: api.ErrNone}},
		{api.Op{Kind: api.Snap}, api.Reply{N: 2}},
		{api.Op{Kind: api.Snap}, api.Reply{N: 3}},
		{api.Op{Kind: api.Snap}, api.Reply{Code: api.ErrFull}},
	} {
		num++
		answer := api.Act{Kind: api.Answer, C: 1}
		p.done(api.Act{Kind: api.Ask, C: 1, Op: c.op})
		p.refused(answer, api.ErrBusy) // what it was told last is no answer to that
		p.done(api.Act{Kind: api.Send, C: 1})
		p.refused(answer, api.ErrBusy) // it is there, but not committed
		p.done(api.Act{Kind: api.Deliver}, api.Act{Kind: api.Drop})
		p.refused(answer, api.ErrBusy) // another one has it, but who leads does not know
		p.done(api.Act{Kind: api.Deliver})
		before := p.o
		p.done(answer)
		want = append(want, api.Told{Request: api.Request{Client: 2, Num: num, Op: c.op}, Reply: c.reply})
		before.Told, before.Clients[1] = want, api.Customer{Id: 2, Next: num + 1}
		p.nothingBut(before, answer)
		p.refused(answer, api.ErrOld)
		p.refused(api.Act{Kind: api.Answer, C: 1, R: 1}, api.ErrOld)
		p.deliver(nobody)
	}
}

func TestWhatIsSentAgainIsDoneOnce(t *testing.T) {
	p := newPlay(t, 2)
	p.asks(0, 0, api.Op{Kind: api.Snap})
	p.asks(1, 0, api.Op{Kind: api.Snap})
	p.done(api.Act{Kind: api.Send}, api.Act{Kind: api.Send, C: 1})
	p.deliver(nobody)
	if k := p.o.Replicas[0].Kept; len(k.Log) != 4 || k.Commit != 4 {
		t.Fatalf("0 keeps %s", told(k))
	}
	p.done(api.Act{Kind: api.Answer, C: 1}, api.Act{Kind: api.Answer})
	snap := api.Op{Kind: api.Snap}
	want := []api.Told{
		{Request: api.Request{Client: 2, Num: 1, Op: snap}, Reply: api.Reply{N: 2}},
		{Request: api.Request{Client: 1, Num: 1, Op: snap}, Reply: api.Reply{N: 1}},
	}
	if !same(p.o.Told, want) {
		t.Errorf("told is %s", told(p.o.Told))
	}
}

func TestOnlyWhoLeadsAnswers(t *testing.T) {
	p := newPlay(t, 1)
	p.asks(0, 0, write(0, "x"))
	p.deliver(nobody)
	for _, r := range []int{1, 2} {
		if p.o.Replicas[r].Kept.Commit != 1 {
			t.Fatalf("%d does not know that it is committed", r)
		}
		p.refused(api.Act{Kind: api.Answer, R: r}, api.ErrAway)
	}
	p.done(api.Act{Kind: api.Alarm, R: 1})
	p.deliver(nobody)
	p.refused(api.Act{Kind: api.Answer}, api.ErrAway) // another one leads
	p.done(api.Act{Kind: api.Answer, R: 1})
	if want := []api.Told{{Request: api.Request{Client: 1, Num: 1, Op: write(0, "x")}}}; !same(p.o.Told, want) {
		t.Errorf("told is %s", told(p.o.Told))
	}
}

// P6.4

func TestActsOfReplicasThatAreNotThere(t *testing.T) {
	p := newPlay(t, api.MaxClient)
	p.asks(3, 0, write(0, "x"))
	for _, r := range notPlaces(api.Replicas) {
		for _, kind := range []int{api.Tick, api.Alarm, api.Crash} {
			p.refused(api.Act{Kind: kind, R: r}, api.ErrNone)
		}
	}
}

func TestTick(t *testing.T) {
	p := newPlay(t, 1)
	p.asks(0, 0, write(0, "x"))
	log := []string{entry(t, 1, 1, write(0, "x"))}
	p.done(api.Act{Kind: api.Drop}, api.Act{Kind: api.Drop}) // nobody heard of it
	p.done(api.Act{Kind: api.Tick, C: -1, K: -1, N: -1})
	p.flying(lead(0, 1, 0, log, 0), lead(0, 2, 0, log, 0))
	p.done(api.Act{Kind: api.Deliver, K: 1}, api.Act{Kind: api.Drop}, api.Act{Kind: api.Drop})
	p.done(api.Act{Kind: api.Tick, R: 1}, api.Act{Kind: api.Tick, R: 2})
	p.flying(has(1, 0, 0, 0), has(2, 0, 0, 1))
	p.done(api.Act{Kind: api.Drop}, api.Act{Kind: api.Drop})
	p.done(api.Act{Kind: api.Alarm, R: 2}, api.Act{Kind: api.Drop}, api.Act{Kind: api.Drop})
	p.done(api.Act{Kind: api.Crash, R: 2})
	p.replicaIs(knowing(2, api.Kept{View: 1, Log: log}))
	p.done(api.Act{Kind: api.Tick, R: 2})
	r := knowing(2, api.Kept{View: 1, Log: log})
	r.Wants[2] = true // that is settled, though it keeps the same
	p.replicaIs(r)
	p.flying(want(2, 0, 1), want(2, 1, 1))
}

func TestAlarm(t *testing.T) {
	for me, others := range [][]int{{1, 2}, {0, 2}, {0, 1}} {
		p := newPlay(t, 1)
		var flying []api.Message
		slots := []string{kept(t, calm(0, nil, 0), 0), ""}
		for view := 1; view < 5; view++ {
			p.done(api.Act{Kind: api.Alarm, R: me, C: -1, K: -1, N: -1})
			r := knowing(me, api.Kept{View: view})
			r.Wants[me] = true
			p.replicaIs(r)
			slots[view%2] = kept(t, r.Kept, view)
			p.slotsOf(me, slots)
			flying = append(flying, want(me, others[0], view), want(me, others[1], view))
			p.flying(flying...)
		}
	}
}

func TestCrashForgetsWhatIsNotKept(t *testing.T) {
	p := newPlay(t, 1)
	p.asks(0, 0, write(0, "x"))
	p.deliver(nobody)
	log := []string{entry(t, 1, 1, write(0, "x"))}
	if p.o.Replicas[0].Have[2] != 1 {
		t.Fatalf("0 knows nothing: %s", told(p.o.Replicas[0]))
	}
	p.done(api.Act{Kind: api.Tick})
	for me := range api.Replicas {
		before := p.o
		crash := api.Act{Kind: api.Crash, R: me, C: -1, K: -1, N: -1}
		p.done(crash)
		before.Replicas[me] = knowing(me, calm(0, log, 1)) // it keeps all, and is where it was
		p.nothingBut(before, crash)
	}
	p.done(api.Act{Kind: api.Alarm, R: 2}, api.Act{Kind: api.Deliver, K: 3}) // 1 gives to itself
	if r := p.o.Replicas[1]; !r.Given[1] || !r.Wants[1] {
		t.Fatalf("1 knows nothing: %s", told(r))
	}
	p.done(api.Act{Kind: api.Crash, R: 1})
	p.replicaIs(knowing(1, api.Kept{View: 1, Log: log, Commit: 1}))
}

// P6.5

func TestActsOfMessagesThatAreNotThere(t *testing.T) {
	p := newPlay(t, 1)
	for _, many := range []int{0, 2, 4} {
		for _, k := range notPlaces(many) {
			for _, kind := range []int{api.Deliver, api.Drop, api.Copy, api.Fall} {
				p.refused(api.Act{Kind: kind, K: k}, api.ErrNone)
			}
			p.refused(api.Act{Kind: api.Fall, K: k, N: -1}, api.ErrNone) // ahead of N
		}
		p.done(api.Act{Kind: api.Tick})
	}
	p = full(t, 0)
	p.refused(api.Act{Kind: api.Copy, K: api.MaxFlying}, api.ErrNone) // ahead of whether there is room
}

// four messages on their way, each another one.
func four(t *testing.T) *play {
	t.Helper()
	p := newPlay(t, 1)
	p.asks(0, 0, write(0, "x"))
	p.done(api.Act{Kind: api.Tick, R: 1}, api.Act{Kind: api.Tick, R: 2})
	log := []string{entry(t, 1, 1, write(0, "x"))}
	p.flying(lead(0, 1, 0, log, 0), lead(0, 2, 0, log, 0), has(1, 0, 0, 0), has(2, 0, 0, 0))
	return p
}

func TestDrop(t *testing.T) {
	for k := range 4 {
		p := four(t)
		before := p.o
		drop := api.Act{Kind: api.Drop, K: k, C: -1, R: -1, N: -1}
		p.done(drop)
		before.Flying = append(before.Flying[:k:k], before.Flying[k+1:]...)
		p.nothingBut(before, drop)
	}
}

func TestCopy(t *testing.T) {
	for k := range 4 {
		p := four(t)
		before := p.o
		double := api.Act{Kind: api.Copy, K: k, C: -1, R: -1, N: -1}
		p.done(double)
		before.Flying = append(before.Flying, before.Flying[k])
		p.nothingBut(before, double)
	}
}

func TestCopyWithoutRoom(t *testing.T) {
	p := full(t, 1)
	p.done(api.Act{Kind: api.Copy, K: api.MaxFlying - 2})
	for _, k := range []int{0, 1, api.MaxFlying - 1} {
		p.refused(api.Act{Kind: api.Copy, K: k}, api.ErrFull)
	}
}

func TestDeliver(t *testing.T) {
	log := []string{entry(t, 1, 1, write(0, "x"))}
	for k, to := range []int{1, 2, 0, 0} {
		p := four(t)
		before := p.o
		deliver := api.Act{Kind: api.Deliver, K: k, C: -1, R: -1, N: -1}
		p.done(deliver)
		before.Flying = append(before.Flying[:k:k], before.Flying[k+1:]...)
		if k < 2 {
			before.Replicas[to] = knowing(to, calm(0, log, 0))
			before.Slots[to][1] = kept(t, calm(0, log, 0), 1)
			before.Flying = append(before.Flying, has(to, 0, 0, 1))
		}
		p.nothingBut(before, deliver)
	}
}

// old: a Lead of a view that is over is on its way to 1, in front of others.
func old(t *testing.T) *play {
	t.Helper()
	p := newPlay(t, 1)
	p.asks(0, 0, write(0, "x"))
	p.done(api.Act{Kind: api.Alarm, R: 1})
	if r := p.o.Replicas[1]; !r.Wants[1] || len(p.o.Flying) != 4 {
		t.Fatalf("1 is %s", told(r))
	}
	return p
}

func TestAMessageThatIsRefusedIsGoneAllTheSame(t *testing.T) {
	for _, a := range []api.Act{
		{Kind: api.Deliver}, {Kind: api.Fall}, {Kind: api.Fall, N: 10}, {Kind: api.Fall, N: api.MaxBytes},
	} {
		p := old(t)
		before := p.o
		if e := p.act(a); e != api.ErrOld {
			t.Errorf("%+v is answered with %d", a, int(e))
		}
		before.Flying = before.Flying[1:]
		p.nothingBut(before, a) // it doesn't begin anew: it knows what it knew
	}
}

func TestFallRefusesWhatIsOutOfRange(t *testing.T) {
	for _, p := range []*play{four(t), old(t)} { // ahead of what Hear refuses
		for _, n := range []int{-1, -2, api.MaxBytes + 1, math.MinInt, math.MaxInt, 1 << 32} {
			p.refused(api.Act{Kind: api.Fall, N: n}, api.ErrRange)
		}
	}
}

func TestFallAtEachPlaceOfWhatIsStored(t *testing.T) {
	log := []string{entry(t, 1, 1, write(0, "x"))}
	first, next := kept(t, calm(0, nil, 0), 0), kept(t, calm(0, log, 0), 1)
	l := []int{len(next) + 1, api.MaxBytes - 1, api.MaxBytes}
	for n := range len(next) + 1 {
		l = append(l, n)
	}
	for _, n := range l {
		p := four(t)
		before := p.o
		fall := api.Act{Kind: api.Fall, N: n, C: -1, R: -1}
		p.done(fall)
		before.Flying = before.Flying[1:] // nothing is sent
		before.Slots[1] = []string{first, next[:min(n, len(next))]}
		if n >= len(next) {
			before.Replicas[1] = knowing(1, calm(0, log, 0))
		}
		p.nothingBut(before, fall)
	}
}

func TestFallStoresWhatIsKeptAsItWas(t *testing.T) {
	first, next := kept(t, calm(0, nil, 0), 0), kept(t, calm(0, nil, 0), 1)
	for n := range len(next) + 1 {
		p := newPlay(t, 1)
		p.done(api.Act{Kind: api.Tick}, api.Act{Kind: api.Fall, K: 1, N: n})
		p.slotsOf(2, []string{first, next[:n]})
		p.replicaIs(knowing(2, calm(0, nil, 0)))
		p.flying(lead(0, 1, 0, nil, 0))
	}
}

func TestFallForgetsWhatIsNotKept(t *testing.T) {
	p := newPlay(t, 1)
	p.asks(0, 0, write(0, "x"))
	p.deliver(nobody)
	log := []string{entry(t, 1, 1, write(0, "x"))}
	p.done(api.Act{Kind: api.Tick, R: 1}, api.Act{Kind: api.Fall, N: 0})
	p.replicaIs(knowing(0, calm(0, log, 1)))
	p.slotsOf(0, []string{kept(t, calm(0, log, 1), 2), ""}) // the older one is written, with nothing
}

func TestFallsOneBehindAnotherLoseNothing(t *testing.T) {
	p := newPlay(t, 1)
	p.done(api.Act{Kind: api.Ask, Op: write(0, "x")})
	var log []string
	for n := range 50 { // whichever slot is written, the other one is there
		p.done(api.Act{Kind: api.Tick})
		p.done(api.Act{Kind: api.Fall, N: 7 * n}, api.Act{Kind: api.Drop})
		if n%5 == 4 {
			p.done(api.Act{Kind: api.Send}, api.Act{Kind: api.Deliver}, api.Act{Kind: api.Drop}, api.Act{Kind: api.Drop})
			log = append(log, entry(t, 1, 1, write(0, "x")))
		}
		if k, _ := p.stored(1); !same(k, calm(0, log, 0)) {
			t.Fatalf("behind %d falls 1 keeps %s", n+1, told(k))
		}
	}
}
