package net

import (
	"math"
	"reflect"
	"slices"
	"strconv"
	"strings"
	"testing"

	"sculling/api"
	"sculling/machine"
	"sculling/replica"
	"sculling/stage"
)

// told: whatever it is, as a text; an empty list may be nil or not.
func told(x any) string {
	var b strings.Builder
	tell(&b, reflect.ValueOf(x))
	return b.String()
}

func tell(b *strings.Builder, v reflect.Value) {
	switch v.Kind() {
	case reflect.Struct:
		b.WriteString("{")
		for i := range v.NumField() {
			b.WriteString(v.Type().Field(i).Name + ":")
			tell(b, v.Field(i))
		}
		b.WriteString("}")
	case reflect.Slice:
		b.WriteString(strconv.Itoa(v.Len()) + "[")
		for i := range v.Len() {
			tell(b, v.Index(i))
		}
		b.WriteString("]")
	case reflect.String:
		b.WriteString(strconv.Quote(v.String()) + " ")
	case reflect.Bool:
		b.WriteString(strconv.FormatBool(v.Bool()) + " ")
	case reflect.Int:
		b.WriteString(strconv.FormatInt(v.Int(), 10) + " ")
	default:
		panic(v.Kind())
	}
}

// same? An empty list may be nil or not.
func same(a, b any) bool { return told(a) == told(b) }

// stretch of memory that a list takes, spare room too.
type stretch struct{ from, to uintptr }

func stretches(v reflect.Value) []stretch {
	var l []stretch
	switch v.Kind() {
	case reflect.Struct:
		for i := range v.NumField() {
			l = append(l, stretches(v.Field(i))...)
		}
	case reflect.Slice:
		if v.Cap() == 0 {
			return nil
		}
		l = append(l, stretch{v.Pointer(), v.Pointer() + uintptr(v.Cap())*v.Type().Elem().Size()})
		all := v.Slice3(0, v.Cap(), v.Cap())
		for i := range all.Len() {
			l = append(l, stretches(all.Index(i))...)
		}
	}
	return l
}

// apart: no two lists of all these share memory.
func apart(t *testing.T, xs ...any) {
	t.Helper()
	var l []stretch
	for _, x := range xs {
		l = append(l, stretches(reflect.ValueOf(x))...)
	}
	slices.SortFunc(l, func(a, b stretch) int { return int(a.from) - int(b.from) })
	for i := 1; i < len(l); i++ {
		if l[i].from < l[i-1].to {
			t.Error("two lists share memory")
			return
		}
	}
}

// run a script: what was handed in stays as it was, what comes out is new memory, the same again each time, and may be.
func run(t *testing.T, clients int, l []api.Act) api.Outcome {
	t.Helper()
	mark := api.Act{Kind: api.Alarm, Op: api.Op{Data: "spare room"}}
	room := append(slices.Clone(l), mark, mark)
	given := room[: len(l) : len(l)+1]
	o, e := Run(clients, given)
	if e != api.OK {
		t.Fatalf("%d clients, %d acts: refused with %d", clients, len(l), int(e))
	}
	again, _ := Run(clients, given)
	if !slices.Equal(room, append(slices.Clone(l), mark, mark)) {
		t.Error("what was handed in is not as it was")
	}
	if !same(o, again) {
		t.Error("the second time it is not the same")
	}
	apart(t, given, o, again)
	mayBe(t, o, len(l))
	return o
}

// mayBe: may an outcome of so many acts be?
func mayBe(t *testing.T, o api.Outcome, acts int) {
	t.Helper()
	if len(o.Replicas) != api.Replicas || len(o.Slots) != api.Replicas || len(o.Codes) != acts || len(o.Flying) > api.MaxFlying {
		t.Fatalf("%d replicas, slots of %d, %d codes of %d acts, %d messages", len(o.Replicas), len(o.Slots), len(o.Codes), acts, len(o.Flying))
	}
	for me, r := range o.Replicas {
		if e := replica.Check(r); e != api.OK || r.Me != me {
			t.Errorf("a replica that may not be at %d: %d, %s", me, int(e), told(r))
		}
		if k, _, _, e := stage.Load(o.Slots[me]); e != api.OK || !same(k, r.Kept) {
			t.Errorf("%d keeps what is not stored: %s, stored is %s", me, told(r.Kept), told(k))
		}
	}
	for i, m := range o.Flying {
		if e := replica.CheckMessage(m); e != api.OK {
			t.Errorf("a message that may not be at %d: %d, %s", i, int(e), told(m))
		}
	}
}

// play: a script that grows, and what came of it so far.
type play struct {
	t       *testing.T
	clients int
	acts    []api.Act
	o       api.Outcome
}

func newPlay(t *testing.T, clients int) *play {
	t.Helper()
	return &play{t: t, clients: clients, o: run(t, clients, nil)}
}

// act one more: its Code.
func (p *play) act(a api.Act) api.Errno {
	p.t.Helper()
	p.acts = append(p.acts, a)
	o := run(p.t, p.clients, p.acts)
	if !slices.Equal(o.Codes[:len(p.o.Codes)], p.o.Codes) {
		p.t.Fatal("an act more changes the Codes ahead of it")
	}
	p.o = o
	return o.Codes[len(o.Codes)-1]
}

// done: acts more, none of which is refused.
func (p *play) done(l ...api.Act) {
	p.t.Helper()
	for _, a := range l {
		if e := p.act(a); e != api.OK {
			p.t.Fatalf("%+v is refused with %d", a, int(e))
		}
	}
}

// refused: an act more, that is refused, and does nothing.
func (p *play) refused(a api.Act, want api.Errno) {
	p.t.Helper()
	before := p.o
	e := p.act(a)
	if e != want {
		p.t.Errorf("%+v is answered with %d, not %d", a, int(e), int(want))
	}
	p.nothingBut(before, a)
	// It is taken back, so that many may be tried.
	p.acts, p.o = p.acts[:len(p.acts)-1], before
}

// nothingBut the Codes is another one than before.
func (p *play) nothingBut(before api.Outcome, a api.Act) {
	p.t.Helper()
	before.Codes = p.o.Codes
	if !same(before, p.o) {
		p.t.Errorf("%+v does something:\n%s\nbefore:\n%s", a, told(p.o), told(before))
	}
}

// asks: the client at a place asks, and sends that to a replica.
func (p *play) asks(c, r int, o api.Op) {
	p.t.Helper()
	p.done(api.Act{Kind: api.Ask, C: c, Op: o}, api.Act{Kind: api.Send, C: c, R: r})
}

// deliver all messages, the oldest first, but those from or to a replica that is gone.
func (p *play) deliver(gone int) {
	p.t.Helper()
	for len(p.o.Flying) > 0 {
		kind := api.Deliver
		if m := p.o.Flying[0]; m.To == gone || m.From == gone {
			kind = api.Drop
		}
		p.done(api.Act{Kind: kind})
	}
}

const nobody = -1

// stored: what a replica's slots tell, and the generation of that.
func (p *play) stored(me int) (api.Kept, int) {
	p.t.Helper()
	k, gen, _, e := stage.Load(p.o.Slots[me])
	if e != api.OK {
		p.t.Fatalf("the slots of %d are lost: %d", me, int(e))
	}
	return k, gen
}

// slotsOf a replica are as they should be?
func (p *play) slotsOf(me int, want []string) {
	p.t.Helper()
	if !slices.Equal(p.o.Slots[me], want) {
		p.t.Errorf("the slots of %d are %q, not %q", me, p.o.Slots[me], want)
	}
}

// flying: these messages are on their way, no others?
func (p *play) flying(want ...api.Message) {
	p.t.Helper()
	if !same(p.o.Flying, append([]api.Message{}, want...)) {
		p.t.Errorf("on their way are\n%s\nnot\n%s", told(p.o.Flying), told(want))
	}
}

// replicaIs as it should be?
func (p *play) replicaIs(want api.Replica) {
	p.t.Helper()
	if got := p.o.Replicas[want.Me]; !same(got, want) {
		p.t.Errorf("%d is\n%s\nnot\n%s", want.Me, told(got), told(want))
	}
}

// knowing nothing of others: a replica, written out here, not as the program makes it.
func knowing(me int, k api.Kept) api.Replica {
	return api.Replica{Me: me, Kept: k, Have: []int{0, 0, 0}, Wants: []bool{false, false, false}, Gives: []api.Kept{{}, {}, {}}, Given: []bool{false, false, false}}
}

// calm: what is kept in order, in a view.
func calm(view int, log []string, commit int) api.Kept {
	return api.Kept{View: view, Normal: view, Calm: true, Log: log, Commit: commit}
}

// kept: a slot's bytes.
func kept(t *testing.T, k api.Kept, gen int) string {
	t.Helper()
	s, e := stage.Encode(k, gen)
	if e != api.OK {
		t.Fatalf("%s can't be a slot: %d", told(k), int(e))
	}
	return s
}

// entry of a request.
func entry(t *testing.T, client, num int, o api.Op) string {
	t.Helper()
	s, e := machine.Encode(api.Request{Client: client, Num: num, Op: o})
	if e != api.OK {
		t.Fatalf("no entry of %+v: %d", o, int(e))
	}
	return s
}

func write(at int, data string) api.Op { return api.Op{Kind: api.Write, At: at, Data: data} }

func lead(from, to, view int, log []string, commit int) api.Message {
	return api.Message{Kind: api.Lead, From: from, To: to, View: view, Log: log, Commit: commit}
}

func has(from, to, view, n int) api.Message {
	return api.Message{Kind: api.Has, From: from, To: to, View: view, N: n}
}

func want(from, to, view int) api.Message {
	return api.Message{Kind: api.Want, From: from, To: to, View: view}
}

// notPlaces of a list of so many.
func notPlaces(many int) []int {
	return []int{-1, many, many + 1, math.MinInt, math.MaxInt, 1 << 32, -1 << 32, 1 << 8}
}

// die: numbers that look drawn, the same each time.
type die uint64

func (d *die) below(n int) int {
	*d = *d*6364136223846793005 + 1442695040888963407
	return int(uint64(*d>>33) % uint64(n))
}
