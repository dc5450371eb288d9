package net

import (
	"slices"
	"strconv"
	"testing"

	"sculling/api"
	"sculling/machine"
)

// history: what was committed so far, by any replica.
type history struct {
	t         *testing.T
	committed []string
	told      []api.Told
	views     []int
}

// see an outcome: what was committed is committed for ever, clients are told what it comes to, and views do not go back.
func (h *history) see(o api.Outcome) {
	h.t.Helper()
	if h.views == nil {
		h.views = make([]int, api.Replicas)
	}
	for me, r := range o.Replicas {
		if r.Kept.View < h.views[me] {
			h.t.Fatalf("%d goes from the view %d back to %d", me, h.views[me], r.Kept.View)
		}
		h.views[me] = r.Kept.View
		done := r.Kept.Log[:r.Kept.Commit]
		both := min(len(done), len(h.committed))
		if !slices.Equal(done[:both], h.committed[:both]) {
			h.t.Fatalf("of %d: what was committed is another thing now", me)
		}
		if len(done) > both {
			h.committed = slices.Clone(done)
		}
	}
	if len(o.Told) < len(h.told) || !same(o.Told[:len(h.told)], h.told) {
		h.t.Fatal("what was told is another thing now")
	}
	if len(o.Told) > len(h.told) {
		h.told = o.Told
		h.asCommitted()
	}
}

// asCommitted: was what was told what the committed entries come to?
func (h *history) asCommitted() {
	h.t.Helper()
	replies := map[api.Request]api.Reply{}
	s := machine.New()
	for _, entry := range h.committed {
		r, _ := machine.Decode(entry)
		next, e := machine.Apply(s, entry)
		if e != api.OK {
			h.t.Fatalf("%q is committed: %d", entry, int(e))
		}
		if r.Num > s.Lasts[r.Client-1].Num {
			replies[r] = next.Lasts[r.Client-1].Reply
		}
		s = next
	}
	nums := map[int]int{}
	for i, x := range h.told {
		reply, ok := replies[x.Request]
		if !ok || reply != x.Reply {
			h.t.Fatalf("told at %d is %s, but that is not what was committed", i, told(x))
		}
		if nums[x.Request.Client]++; nums[x.Request.Client] != x.Request.Num {
			h.t.Fatalf("the client %d is told of %d, out of turn", x.Request.Client, x.Request.Num)
		}
	}
}

// drawn operation.
func (d *die) op() api.Op {
	switch d.below(6) {
	case 0:
		return api.Op{Kind: api.Trim, At: d.below(api.Sectors)}
	case 1:
		return api.Op{Kind: api.Snap}
	case 2, 3:
		return api.Op{Kind: api.Read, At: d.below(api.Sectors), Snap: d.below(api.MaxSnaps + 1)}
	}
	return write(d.below(api.Sectors), strconv.Itoa(d.below(1000)))
}

// drawn act: kinds as often as they stand there.
func (d *die) act(kinds []int) api.Act {
	return api.Act{Kind: kinds[d.below(len(kinds))], C: d.below(3), R: d.below(api.Replicas), K: d.below(5), N: d.below(150), Op: d.op()}
}

func TestWhatIsCommittedIsCommittedForEver(t *testing.T) {
	const a, s, w, d = api.Ask, api.Send, api.Answer, api.Deliver
	usual := []int{a, a, s, s, s, s, w, w, w, d, d, d, d, d, d, d, d, d, d, d, d, d, d, d, api.Tick}
	bad := append(slices.Clone(usual), api.Drop, api.Copy, api.Copy, api.Alarm, api.Crash, api.Fall)
	worse := append(slices.Clone(bad), d, d, d, d, api.Drop, api.Drop, api.Alarm, api.Crash, api.Fall, api.Fall, api.Tick, api.Tick)
	drawn := die(4)
	entries, views, answers, falls := 0, 0, 0, 0
	for n := range 36 {
		var l []api.Act
		for range api.MaxActs {
			l = append(l, drawn.act([][]int{usual, bad, worse}[n%3]))
		}
		h := &history{t: t}
		for many := range len(l) + 1 {
			o, e := Run(3, l[:many])
			if e != api.OK {
				t.Fatalf("%d acts are refused with %d", many, int(e))
			}
			h.see(o)
			mayBe(t, o, many)
			if many > 0 && l[many-1].Kind == api.Fall && o.Codes[many-1] == api.OK {
				falls++
			}
		}
		entries, views, answers = max(entries, len(h.committed)), max(views, slices.Max(h.views)), answers+len(h.told)
	}
	if entries < 15 || views < 8 || answers < 60 || falls < 60 {
		t.Errorf("%d entries, %d views, %d answers, %d falls: too little to tell anything", entries, views, answers, falls)
	}
}

func TestTheExampleOfTheWhole(t *testing.T) {
	p := newPlay(t, 1)
	log := []string{entry(t, 1, 1, write(0, "x"))}
	p.asks(0, 0, write(0, "x"))
	p.done(api.Act{Kind: api.Deliver})       // 1 hears of it
	p.done(api.Act{Kind: api.Deliver, K: 1}) // it says that it has it
	p.replicaIs(func() api.Replica {
		r := knowing(0, calm(0, log, 1))
		r.Have[1] = 1
		return r
	}())
	p.done(api.Act{Kind: api.Answer}, api.Act{Kind: api.Crash}, api.Act{Kind: api.Alarm, R: 2})
	for range 3 {
		p.done(api.Act{Kind: api.Drop}) // what 0 sent is lost
	}
	p.deliver(0)
	p.replicaIs(knowing(2, calm(1, log, 1)))
	if r := p.o.Replicas[1]; !same(r.Kept, calm(1, log, 1)) {
		t.Errorf("1 keeps %s", told(r.Kept))
	}
}

func TestLeadersOneAfterAnother(t *testing.T) {
	p := newPlay(t, 2)
	h := &history{t: t}
	var log []string
	for view := range 7 {
		leader, gone := view%api.Replicas, (view+1)%api.Replicas
		if view%2 == 0 {
			gone = (view + 2) % api.Replicas
		}
		third := 0 + 1 + 2 - leader - gone
		data := strconv.Itoa(view)
		p.asks(view%2, leader, write(view%api.Sectors, data))
		log = append(log, entry(t, 1+view%2, 1+view/2, write(view%api.Sectors, data)))
		p.deliver(gone) // one replica never hears of it
		p.done(api.Act{Kind: api.Answer, C: view % 2, R: leader})
		h.see(p.o)
		if !slices.Equal(h.committed, log) || len(h.told) != view+1 {
			t.Fatalf("in the view %d: committed is %q, told is %s", view, h.committed, told(h.told))
		}
		p.done(api.Act{Kind: api.Crash, R: leader}, api.Act{Kind: api.Alarm, R: third})
		p.deliver(leader) // the next view begins with the third one, and the one that never heard of it
		h.see(p.o)
		if r := p.o.Replicas[(view+1)%api.Replicas]; !same(r.Kept, calm(view+1, log, len(log))) {
			t.Fatalf("who leads the view %d keeps %s", view+1, told(r.Kept))
		}
	}
}

func TestMessagesThatAreLostAreMadeUpForByTicks(t *testing.T) {
	p := newPlay(t, 1)
	p.asks(0, 0, write(0, "x"))
	log := []string{entry(t, 1, 1, write(0, "x"))}
	p.done(api.Act{Kind: api.Drop}, api.Act{Kind: api.Drop}) // both Leads
	p.done(api.Act{Kind: api.Tick})
	p.done(api.Act{Kind: api.Drop, K: 1}, api.Act{Kind: api.Deliver}, api.Act{Kind: api.Drop}) // a Lead, and a Has
	p.refused(api.Act{Kind: api.Answer}, api.ErrBusy)
	p.done(api.Act{Kind: api.Tick, R: 1})
	p.deliver(2)
	p.done(api.Act{Kind: api.Answer})
	p.done(api.Act{Kind: api.Alarm, R: 2}, api.Act{Kind: api.Drop}, api.Act{Kind: api.Drop}) // both Wants
	p.done(api.Act{Kind: api.Tick, R: 2})
	p.deliver(nobody)
	for _, r := range p.o.Replicas {
		if !same(r.Kept, calm(1, log, 1)) {
			t.Errorf("%d keeps %s", r.Me, told(r.Kept))
		}
	}
}

func TestMessagesThatComeTwiceDoNothingTwice(t *testing.T) {
	once, twice := newPlay(t, 1), newPlay(t, 1)
	for _, p := range []*play{once, twice} {
		p.asks(0, 0, api.Op{Kind: api.Snap})
	}
	once.deliver(nobody)
	for i := range 2 {
		twice.done(api.Act{Kind: api.Copy, K: i})
	}
	for n := range 8 {
		twice.done(api.Act{Kind: api.Copy, K: n % len(twice.o.Flying)}, api.Act{Kind: api.Deliver})
	}
	twice.deliver(nobody)
	if !same(once.o.Replicas, twice.o.Replicas) || !same(once.o.Slots, twice.o.Slots) {
		t.Errorf("twice:\n%s\nonce:\n%s", told(twice.o.Replicas), told(once.o.Replicas))
	}
	twice.done(api.Act{Kind: api.Answer})
	if r := twice.o.Told[0].Reply; r != (api.Reply{N: 1}) {
		t.Errorf("the reply is %s", told(r))
	}
}

func TestMessagesThatAreLateDoNothing(t *testing.T) {
	p := newPlay(t, 1)
	p.asks(0, 0, write(0, "x"))                                            // a Lead to 1, and one to 2
	p.done(api.Act{Kind: api.Deliver}, api.Act{Kind: api.Copy, K: 0})      // a Has of 1; once more the Lead to 2
	p.done(api.Act{Kind: api.Alarm, R: 1}, api.Act{Kind: api.Alarm, R: 2}) // that view is over
	late := 3
	for len(p.o.Flying) > late {
		p.done(api.Act{Kind: api.Deliver, K: late})
	}
	if r := p.o.Replicas[1]; !same(r.Kept, calm(1, []string{entry(t, 1, 1, write(0, "x"))}, 1)) {
		t.Fatalf("1 keeps %s", told(r.Kept))
	}
	for range late {
		before := p.o
		a := api.Act{Kind: api.Deliver}
		if e := p.act(a); e != api.ErrOld {
			t.Errorf("what is late is answered with %d", int(e))
		}
		before.Flying = before.Flying[1:]
		p.nothingBut(before, a)
	}
	p.done(api.Act{Kind: api.Answer, R: 1}) // what the first view left undone is done
}

func TestWhatNobodyElseHeardOfMayBeLost(t *testing.T) {
	p := newPlay(t, 1)
	p.asks(0, 0, write(0, "x"))
	p.done(api.Act{Kind: api.Drop}, api.Act{Kind: api.Drop})
	p.done(api.Act{Kind: api.Alarm, R: 2})
	p.deliver(0) // 1 and 2 begin without it
	p.refused(api.Act{Kind: api.Answer, R: 1}, api.ErrBusy)
	p.done(api.Act{Kind: api.Tick, R: 1})
	p.deliver(nobody)
	p.replicaIs(knowing(0, calm(1, nil, 0)))
	p.done(api.Act{Kind: api.Send, R: 1}) // the client sends it again
	p.deliver(nobody)
	p.done(api.Act{Kind: api.Answer, R: 1})
	for _, r := range p.o.Replicas {
		if !same(r.Kept, calm(1, []string{entry(t, 1, 1, write(0, "x"))}, 1)) {
			t.Errorf("%d keeps %s", r.Me, told(r.Kept))
		}
	}
}
