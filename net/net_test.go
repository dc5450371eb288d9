package net

import (
	"math"
	"slices"
	"strings"
	"testing"

	"sculling/api"
)

// P6.1

func TestRunOfNothing(t *testing.T) {
	for clients := 1; clients <= api.MaxClient; clients++ {
		var want api.Outcome
		for me := range api.Replicas {
			want.Replicas = append(want.Replicas, knowing(me, calm(0, nil, 0)))
			want.Slots = append(want.Slots, []string{kept(t, calm(0, nil, 0), 0), ""})
		}
		for id := 1; id <= clients; id++ {
			want.Clients = append(want.Clients, api.Customer{Id: id, Next: 1})
		}
		for _, l := range [][]api.Act{nil, {}} {
			if o := run(t, clients, l); !same(o, want) {
				t.Errorf("%d clients: %s, not %s", clients, told(o), told(want))
			}
		}
	}
}

func TestRunRefusesClientsAheadOfActs(t *testing.T) {
	refused := func(clients, acts int, want api.Errno) {
		t.Helper()
		o, e := Run(clients, make([]api.Act, acts))
		if e != want || !same(o, api.Outcome{}) {
			t.Errorf("%d clients, %d acts: %d, not %d; %s", clients, acts, int(e), int(want), told(o))
		}
	}
	for _, clients := range []int{0, -1, api.MaxClient + 1, math.MinInt, math.MaxInt, 1<<32 + 1, 1<<8 + 1} {
		for _, acts := range []int{0, 1, api.MaxActs, api.MaxActs + 1} {
			refused(clients, acts, api.ErrRange)
		}
	}
	for clients := 1; clients <= api.MaxClient; clients++ {
		for _, acts := range []int{api.MaxActs + 1, api.MaxActs + 2, 1 << 16} {
			refused(clients, acts, api.ErrSize)
		}
	}
}

func TestRunTakesMaxActs(t *testing.T) {
	for _, many := range []int{api.MaxActs - 1, api.MaxActs} {
		l := slices.Repeat([]api.Act{{Kind: api.Crash}}, many)
		l[many-1] = api.Act{Kind: api.Tick}
		o := run(t, 1, l)
		if slices.ContainsFunc(o.Codes, func(e api.Errno) bool { return e != api.OK }) || len(o.Flying) != 2 {
			t.Errorf("%d acts: %s", many, told(o))
		}
	}
}

func TestKindsThatThereAreNot(t *testing.T) {
	p := newPlay(t, 2)
	p.asks(0, 0, write(1, "x"))
	for _, kind := range []int{0, -1, api.Fall + 1, api.Fall + 2, math.MinInt, math.MaxInt, 1<<32 + api.Tick, 1<<8 + api.Alarm} {
		p.refused(api.Act{Kind: kind, Op: write(1, "y")}, api.ErrKind)
		p.refused(api.Act{Kind: kind, C: -1, R: api.Replicas, K: math.MaxInt, N: -1, Op: api.Op{Kind: -1}}, api.ErrKind)
	}
}

func TestActsOfAnyNumbers(t *testing.T) {
	d := die(8)
	wild := func() int {
		l := []int{0, 0, 1, 1, 2, 3, 4, -1, 40, 80, api.MaxBytes, api.MaxBytes + 1, 1 << 32, math.MinInt, math.MaxInt}
		return l[d.below(len(l))]
	}
	for range 20 {
		var l []api.Act
		for range 150 {
			o := d.op()
			if d.below(4) == 0 {
				o = api.Op{Kind: wild(), At: wild(), Snap: wild(), Data: strings.Repeat("x", d.below(12))}
			}
			l = append(l, api.Act{Kind: d.below(13) - 1, C: wild(), R: wild(), K: wild(), N: wild(), Op: o})
		}
		run(t, 1+d.below(api.MaxClient), l)
	}
}

func TestEachActHasItsCode(t *testing.T) {
	p := newPlay(t, 1)
	for _, a := range []api.Act{
		{Kind: 99},
		{Kind: api.Ask, Op: write(2, "x")},
		{Kind: api.Ask, Op: write(2, "y")},
		{Kind: api.Send, R: 1},
		{Kind: api.Send},
		{Kind: api.Deliver, K: 2},
		{Kind: api.Deliver},
		{Kind: api.Answer},
		{Kind: api.Deliver, K: 1},
		{Kind: api.Answer},
		{Kind: api.Answer},
	} {
		p.act(a)
	}
	want := []api.Errno{api.ErrKind, 0, api.ErrBusy, api.ErrAway, 0, api.ErrNone, 0, api.ErrBusy, 0, 0, api.ErrOld}
	if !slices.Equal(p.o.Codes, want) {
		t.Errorf("Codes are %v, not %v", p.o.Codes, want)
	}
}

func TestClientsAreToldInTheOrderOfAnswers(t *testing.T) {
	p := newPlay(t, api.MaxClient)
	for c := range api.MaxClient {
		p.asks(c, 0, write(c, "abcd"[c:c+1]))
	}
	p.deliver(nobody)
	var want []api.Told
	for _, c := range []int{2, 0, 3, 1} {
		p.done(api.Act{Kind: api.Answer, C: c})
		want = append(want, api.Told{Request: api.Request{Client: c + 1, Num: 1, Op: write(c, "abcd"[c:c+1])}})
		if !same(p.o.Told, want) {
			t.Errorf("told is %s, not %s", told(p.o.Told), told(want))
		}
	}
}

// P6.2

func TestWhatIsKeptIsStoredInTurns(t *testing.T) {
	p := newPlay(t, 1)
	p.done(api.Act{Kind: api.Ask, Op: write(0, "x")})
	one := entry(t, 1, 1, write(0, "x"))
	was, slots := "", []string{kept(t, calm(0, nil, 0), 0), ""}
	for gen := 1; gen <= 5; gen++ {
		p.done(api.Act{Kind: api.Send})
		k := calm(0, slices.Repeat([]string{one}, gen), 0)
		slots[gen%2] = kept(t, k, gen)
		p.slotsOf(0, slots)
		p.replicaIs(knowing(0, k))
		if was == slots[gen%2] {
			t.Fatal("the test tells nothing")
		}
		was = slots[gen%2]
		for _, me := range []int{1, 2} {
			p.slotsOf(me, []string{kept(t, calm(0, nil, 0), 0), ""})
		}
	}
}

func TestEachPartOfWhatIsKeptIsStored(t *testing.T) {
	p := newPlay(t, 1)
	gens := func(want ...int) {
		t.Helper()
		for me := range api.Replicas {
			if _, gen := p.stored(me); gen != want[me] {
				t.Errorf("the generation of %d is %d, not %d", me, gen, want[me])
			}
		}
	}
	p.asks(0, 0, write(0, "x"))
	gens(1, 0, 0) // its log
	p.done(api.Act{Kind: api.Deliver})
	gens(1, 1, 0) // a log
	p.done(api.Act{Kind: api.Deliver, K: 1})
	gens(2, 1, 0) // Commit alone
	p.deliver(nobody)
	gens(2, 2, 2)
	p.done(api.Act{Kind: api.Alarm, R: 2})
	gens(2, 2, 3) // View and Calm
	p.done(api.Act{Kind: api.Deliver, K: 1})
	gens(2, 3, 3)
	p.done(api.Act{Kind: api.Deliver, K: 2}) // 2 gives to 1: it keeps the same
	gens(2, 3, 3)
	p.done(api.Act{Kind: api.Deliver, K: 2})
	gens(2, 4, 3) // the view begins: Normal and Calm
	if k := p.o.Replicas[1].Kept; !same(k, calm(1, []string{entry(t, 1, 1, write(0, "x"))}, 1)) {
		t.Errorf("1 keeps %s", told(k))
	}
}

func TestWhatIsKeptAsItWasIsNotStored(t *testing.T) {
	p := newPlay(t, 1)
	p.asks(0, 0, write(0, "x"))
	p.deliver(nobody)
	slots := p.o.Slots
	for _, a := range []api.Act{
		{Kind: api.Tick}, {Kind: api.Tick, R: 1}, {Kind: api.Tick, R: 2}, // Leads, and Has twice
		{Kind: api.Deliver}, {Kind: api.Deliver}, {Kind: api.Deliver}, {Kind: api.Deliver},
		{Kind: api.Crash}, {Kind: api.Crash, R: 1},
	} {
		p.done(a)
		if !same(p.o.Slots, slots) {
			t.Errorf("%+v stores something", a)
		}
	}
}

func TestWhatIsKnownOfOthersIsSettledToo(t *testing.T) {
	p := newPlay(t, 1)
	p.asks(0, 0, write(0, "x"))
	one := []string{entry(t, 1, 1, write(0, "x"))}
	p.done(api.Act{Kind: api.Deliver}, api.Act{Kind: api.Deliver}) // both have it
	p.flying(has(1, 0, 0, 1), has(2, 0, 0, 1))
	p.done(api.Act{Kind: api.Deliver})
	slots := p.o.Slots[0]
	p.done(api.Act{Kind: api.Deliver}) // it keeps the same, but it knows more
	r := knowing(0, calm(0, one, 1))
	r.Have = []int{0, 1, 1}
	p.replicaIs(r)
	p.slotsOf(0, slots)
	p.flying(lead(0, 1, 0, one, 1), lead(0, 2, 0, one, 1))
}

func TestWhatIsSentStandsBehindAllOthers(t *testing.T) {
	p := newPlay(t, 1)
	p.done(api.Act{Kind: api.Tick, R: 2}, api.Act{Kind: api.Tick}, api.Act{Kind: api.Tick, R: 1}, api.Act{Kind: api.Alarm, R: 1})
	p.flying(has(2, 0, 0, 0), lead(0, 1, 0, nil, 0), lead(0, 2, 0, nil, 0), has(1, 0, 0, 0), want(1, 0, 1), want(1, 2, 1))
	p.done(api.Act{Kind: api.Deliver, K: 2})
	p.flying(has(2, 0, 0, 0), lead(0, 1, 0, nil, 0), has(1, 0, 0, 0), want(1, 0, 1), want(1, 2, 1), has(2, 0, 0, 0))
}

// full: as many messages as there may be, but so many.
func full(t *testing.T, less int) *play {
	t.Helper()
	p := newPlay(t, 1)
	p.done(api.Act{Kind: api.Ask, Op: write(0, "x")})
	for range api.MaxFlying / 2 {
		p.done(api.Act{Kind: api.Tick})
	}
	for range less {
		p.done(api.Act{Kind: api.Drop})
	}
	if len(p.o.Flying) != api.MaxFlying-less {
		t.Fatalf("%d messages are on their way", len(p.o.Flying))
	}
	return p
}

func TestAsManyAsThereIsRoomForAreSent(t *testing.T) {
	one := []string{entry(t, 1, 1, write(0, "x"))}
	sent := []api.Message{lead(0, 1, 0, one, 0), lead(0, 2, 0, one, 0)}
	for less := range 4 {
		p := full(t, less)
		before := p.o.Flying
		p.done(api.Act{Kind: api.Send})
		p.flying(append(slices.Clone(before), sent[:min(less, 2)]...)...)
		// It is so, and stored, whether others hear of it or not.
		p.replicaIs(knowing(0, calm(0, one, 0)))
		p.slotsOf(0, []string{kept(t, calm(0, nil, 0), 0), kept(t, calm(0, one, 0), 1)})
	}
}

func TestWhatIsDeliveredMakesRoom(t *testing.T) {
	p := full(t, 0)
	rest := p.o.Flying[1:]
	p.done(api.Act{Kind: api.Deliver})
	p.flying(append(slices.Clone(rest), has(1, 0, 0, 0))...)
	p.done(api.Act{Kind: api.Alarm, R: 1}) // no room for its Wants
	p.flying(append(slices.Clone(rest), has(1, 0, 0, 0))...)
	if k := p.o.Replicas[1].Kept; !same(k, api.Kept{View: 1}) {
		t.Errorf("1 keeps %s", told(k))
	}
}
