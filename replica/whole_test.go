package replica

import (
	"slices"
	"testing"

	"sculling/api"
)

// die: numbers that look drawn, the same each time.
type die uint64

func (d *die) below(n int) int {
	*d = *d*6364136223846793005 + 1442695040888963407
	return int(uint64(*d>>33) % uint64(n))
}

// fleet: all replicas, what is on its way, and what was committed so far by any of them.
type fleet struct {
	l         []api.Replica
	flying    []api.Message
	committed []string
}

func newFleet() *fleet {
	f := &fleet{}
	for me := range api.Replicas {
		f.l = append(f.l, calm(me, 0, nil, 0))
	}
	return f
}

// settle an outcome: what is committed stays committed.
func (f *fleet) settle(t *testing.T, what string, o outcome) {
	t.Helper()
	if o.code != api.OK {
		return
	}
	before := f.l[o.r.Me].Kept
	if o.r.Kept.View < before.View || o.r.Kept.Normal < before.Normal {
		t.Errorf("%s: from the view %d back to %d", what, before.View, o.r.Kept.View)
	}
	f.l[o.r.Me] = o.r
	f.flying = append(f.flying, o.sent...)
	done := o.r.Kept.Log[:o.r.Kept.Commit]
	both := min(len(done), len(f.committed))
	if !slices.Equal(done[:both], f.committed[:both]) {
		t.Fatalf("%s: what was committed is another thing now", what)
	}
	if len(done) > both {
		f.committed = slices.Clone(done)
	}
}

// step that looks drawn.
func (f *fleet) step(t *testing.T, d *die, n int) {
	t.Helper()
	r := f.l[d.below(api.Replicas)]
	switch k := d.below(16); {
	case k == 0:
		f.settle(t, "Tick", tick(t, "Tick", r))
	case k == 1 && d.below(2) == 0:
		f.settle(t, "Alarm", alarm(t, "Alarm", r))
	case k == 2 && d.below(2) == 0:
		begun, e := New(r.Me, r.Kept)
		f.settle(t, "New", outcome{r: begun, code: e})
	case k < 5:
		f.settle(t, "Take", take(t, "Take", r, entry(n)))
	case len(f.flying) > 0:
		at := d.below(len(f.flying))
		m := f.flying[at]
		if d.below(4) > 0 { // else it comes twice
			f.flying = slices.Delete(f.flying, at, at+1)
		}
		if d.below(5) > 0 { // else it is lost
			f.settle(t, "Hear", hear(t, "Hear", f.l[m.To], m))
		}
	}
}

func TestWhatIsCommittedStaysCommitted(t *testing.T) {
	d := die(9)
	most, views := 0, 0
	for range 60 {
		f := newFleet()
		for n := range 90 {
			f.step(t, &d, n)
		}
		most = max(most, len(f.committed))
		for _, r := range f.l {
			views = max(views, r.Kept.View)
		}
	}
	if most < 5 || views < 3 {
		t.Errorf("the walks came to %d entries and %d views: too little to tell anything", most, views)
	}
}

// deliver all messages, the oldest first, but those to a replica that is gone.
func (f *fleet) deliver(t *testing.T, gone int) {
	t.Helper()
	for n := 0; len(f.flying) > 0; n++ {
		if n > 1000 {
			t.Fatal("messages without an end")
		}
		m := f.flying[0]
		f.flying = f.flying[1:]
		if m.To != gone {
			f.settle(t, "Hear", hear(t, "Hear", f.l[m.To], m))
		}
	}
}

func TestTheExampleOfTheWhole(t *testing.T) {
	const nobody = -1
	f := newFleet()
	f.settle(t, "Take", take(t, "Take", f.l[0], entry(1)))
	f.deliver(t, 2) // 1 alone hears of it
	if k := f.l[0].Kept; k.Commit != 1 || f.l[1].Kept.Commit != 1 || len(f.l[2].Kept.Log) != 0 {
		t.Fatalf("with one more it is committed: %d, %d", k.Commit, f.l[1].Kept.Commit)
	}
	f.settle(t, "Alarm", alarm(t, "Alarm", f.l[2]))
	f.deliver(t, 0) // 0 has fallen
	for _, me := range []int{1, 2} {
		if want := (api.Kept{View: 1, Normal: 1, Calm: true, Log: []string{entry(1)}, Commit: 1}); !same(f.l[me].Kept, want) {
			t.Errorf("%d: %s", me, told(f.l[me].Kept, false))
		}
	}
	f.settle(t, "Tick", tick(t, "Tick", f.l[1]))
	f.deliver(t, nobody) // 0 is there again, and follows
	if want := calm(0, 1, []string{entry(1)}, 1); !same(f.l[0], want) || !Leads(f.l[1]) {
		t.Errorf("0 does not follow: %s", told(f.l[0], false))
	}
}
