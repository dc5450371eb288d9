package replica

import (
	"math"
	"slices"
	"strconv"
	"testing"

	"sculling/api"
)

// strange numbers, far outside of everything.
func strange() []int {
	return []int{-1, math.MinInt, math.MaxInt, 1 << 32, -1 << 32, math.MinInt + 1}
}

// keptThatMayBe: the edges of views, logs and commits.
func keptThatMayBe() []api.Kept {
	var l []api.Kept
	for _, many := range []int{0, 1, api.MaxLog - 1, api.MaxLog} {
		for _, commit := range []int{0, many} {
			for _, view := range []int{0, 1, 2, 3, api.MaxView - 1, api.MaxView} {
				l = append(l,
					api.Kept{View: view, Normal: view, Calm: true, Log: entries(0, many), Commit: commit},
					api.Kept{View: view, Normal: view / 2, Log: entries(1, many), Commit: commit},
					api.Kept{View: view, Normal: view, Log: entries(2, many), Commit: commit})
			}
		}
	}
	return append(l, api.Kept{}, api.Kept{Log: []string{}})
}

// badKept: what may not be kept, each refusal.
func badKept() []struct {
	k    api.Kept
	want api.Errno
} {
	type bad = struct {
		k    api.Kept
		want api.Errno
	}
	l := []bad{
		{api.Kept{View: api.MaxView + 1}, api.ErrRange},
		{api.Kept{View: 1, Normal: 2}, api.ErrRange},
		{api.Kept{View: 1, Calm: true}, api.ErrRange},
		{api.Kept{Normal: -1}, api.ErrRange},
		{api.Kept{Commit: 1}, api.ErrRange},
		{api.Kept{Log: entries(0, 2), Commit: -1}, api.ErrRange},
		{api.Kept{Log: entries(0, api.MaxLog+1)}, api.ErrSize},
		{api.Kept{Log: make([]string, 1<<17)}, api.ErrSize},
		{api.Kept{View: -1, Log: entries(0, api.MaxLog+1)}, api.ErrRange},
		{api.Kept{Log: entries(0, api.MaxLog+1), Commit: -1}, api.ErrSize},
	}
	for s, want := range badEntries() {
		l = append(l, bad{api.Kept{Calm: true, Log: append(entries(0, 3), s)}, want})
	}
	for _, n := range strange() {
		l = append(l, bad{api.Kept{View: n}, api.ErrRange}, bad{api.Kept{Commit: n}, api.ErrRange})
	}
	return l
}

// P5.1

func TestNewKnowsNothingOfOthers(t *testing.T) {
	for me := range api.Replicas {
		for i, k := range keptThatMayBe() {
			what := "New " + strconv.Itoa(me) + ", " + strconv.Itoa(i)
			k = inOwnRoom(k)
			was := told(k, true)
			r, e := New(me, k)
			if e != api.OK || !same(r, knowing(me, k)) {
				t.Errorf("%s: %s, %d", what, told(r, false), int(e))
			}
			if told(k, true) != was {
				t.Errorf("%s: what was handed in is not as it was", what)
			}
			again, _ := New(me, k)
			apart(t, what, k, r, again)
			if e := Check(r); e != api.OK {
				t.Errorf("%s: Check refuses it with %d", what, int(e))
			}
		}
	}
}

func TestNewRefuses(t *testing.T) {
	for _, c := range badKept() {
		for me := range api.Replicas {
			if r, e := New(me, c.k); e != c.want || !same(r, api.Replica{}) {
				t.Errorf("%d, %s: %s, %d, not %d", me, told(c.k, false), told(r, false), int(e), int(c.want))
			}
		}
		for _, me := range append(strange(), api.Replicas, api.Replicas+1) {
			if r, e := New(me, c.k); e != api.ErrRange || !same(r, api.Replica{}) {
				t.Errorf("%d, and what may not be kept: %s, %d", me, told(r, false), int(e))
			}
		}
	}
	for _, me := range append(strange(), api.Replicas, api.Replicas+1) {
		if r, e := New(me, api.Kept{Calm: true}); e != api.ErrRange || !same(r, api.Replica{}) {
			t.Errorf("%d: %s, %d", me, told(r, false), int(e))
		}
	}
}

// replicasThatMayBe: such as know something, or nothing.
func replicasThatMayBe() []api.Replica {
	var l []api.Replica
	for i, k := range keptThatMayBe() {
		r := knowing(i%api.Replicas, k)
		l = append(l, r, informed(r), with(r, func(r *api.Replica) {
			r.Have = []int{0, len(k.Log), len(k.Log) / 2}
			r.Wants[i%2] = true
			r.Gives[i%3] = api.Kept{View: api.MaxView, Normal: api.MaxView, Calm: true, Log: entries(5, api.MaxLog), Commit: api.MaxLog}
		}))
	}
	return l
}

func TestCheckTakesWhatMayBe(t *testing.T) {
	for _, r := range replicasThatMayBe() {
		r = inOwnRoom(r)
		was := told(r, true)
		if e := Check(r); e != api.OK {
			t.Errorf("%s: refused with %d", told(r, false), int(e))
		}
		if told(r, true) != was {
			t.Errorf("%s: it is not as it was", told(r, false))
		}
	}
}

// badState: a replica that knows what may not be.
func badState() []func(*api.Replica) {
	l := []func(*api.Replica){
		func(r *api.Replica) { r.Have[0] = len(r.Kept.Log) + 1 },
		func(r *api.Replica) { r.Have[1] = len(r.Kept.Log) + 1 },
		func(r *api.Replica) { r.Have[2] = len(r.Kept.Log) + 1 },
		func(r *api.Replica) { r.Have, r.Wants, r.Gives, r.Given = nil, nil, nil, nil },
	}
	for _, many := range []int{0, 1, api.Replicas - 1, api.Replicas + 1, 1 << 10} {
		l = append(l,
			func(r *api.Replica) { r.Have = make([]int, many, many+5) },
			func(r *api.Replica) { r.Wants = make([]bool, many, many+5) },
			func(r *api.Replica) { r.Gives = make([]api.Kept, many, many+5) },
			func(r *api.Replica) { r.Given = make([]bool, many, many+5) })
	}
	for i, n := range strange() {
		l = append(l, func(r *api.Replica) { r.Have[i%api.Replicas] = n })
	}
	for i, c := range badKept() {
		l = append(l, func(r *api.Replica) { r.Gives[i%api.Replicas] = c.k })
	}
	return l
}

// badReplicas: each refusal of Check, and which comes first.
func badReplicas() []struct {
	r    api.Replica
	want api.Errno
} {
	type bad = struct {
		r    api.Replica
		want api.Errno
	}
	good := calm(0, 0, entries(0, 4), 2)
	l := []bad{{api.Replica{}, api.ErrState}, {api.Replica{Me: 3}, api.ErrRange}}
	for _, me := range append(strange(), api.Replicas) {
		l = append(l, bad{with(good, func(r *api.Replica) { r.Me = me }), api.ErrRange})
	}
	for _, change := range badState() {
		l = append(l, bad{with(good, change), api.ErrState},
			bad{with(informed(good), change), api.ErrState},
			bad{with(good, func(r *api.Replica) { change(r); r.Me = api.Replicas }), api.ErrRange},
			bad{with(good, func(r *api.Replica) { change(r); r.Me = -1 }), api.ErrRange},
			bad{with(good, func(r *api.Replica) { r.Kept.View = -1; change(r) }), api.ErrState},
			bad{with(good, func(r *api.Replica) { r.Kept.Commit = 9; change(r) }), api.ErrState},
			bad{with(good, func(r *api.Replica) { r.Kept.Log = append(entries(0, 4), "abc"); change(r) }), api.ErrState})
	}
	for _, c := range badKept() {
		l = append(l, bad{with(good, func(r *api.Replica) { r.Kept = c.k }), c.want},
			bad{with(good, func(r *api.Replica) { r.Kept = c.k; r.Given[1] = true; r.Gives[1].View = 8 }), c.want},
			bad{with(good, func(r *api.Replica) { r.Kept = c.k; r.Me = api.Replicas }), api.ErrRange})
	}
	return l
}

func TestCheckRefusesWithTheFirst(t *testing.T) {
	for _, c := range badReplicas() {
		if e := Check(c.r); e != c.want {
			t.Errorf("%.300s: %d, not %d", told(c.r, false), int(e), int(c.want))
		}
	}
}

func TestWhatCheckRefusesIsRefusedByAll(t *testing.T) {
	good := api.Message{Kind: api.Want, From: 1, To: 0, View: 9}
	for _, c := range badReplicas() {
		what := "a replica that may not be"
		refused(t, what+", Hear", hear(t, what, c.r, good), c.want)
		refused(t, what+", Hear of what may not be", hear(t, what, c.r, api.Message{}), c.want)
		refused(t, what+", Take", take(t, what, c.r, entry(1)), c.want)
		refused(t, what+", Take of what may not be", take(t, what, c.r, "abc"), c.want)
		refused(t, what+", Tick", tick(t, what, c.r), c.want)
		refused(t, what+", Alarm", alarm(t, what, c.r), c.want)
	}
}

func TestCopyIsTheSameInMemoryOfItsOwn(t *testing.T) {
	l := append(replicasThatMayBe(), api.Replica{})
	for _, c := range badReplicas() { // of these Copy refuses none
		l = append(l, c.r)
	}
	for i, r := range l {
		what := "Copy " + strconv.Itoa(i)
		r = inOwnRoom(r)
		was := told(r, true)
		c, again := Copy(r), Copy(r)
		if !same(c, r) {
			t.Errorf("%s: not the same", what)
		}
		if told(r, true) != was {
			t.Errorf("%s: what was handed in is not as it was", what)
		}
		apart(t, what, r, c, again)
	}
}

// P5.2

func TestLeader(t *testing.T) {
	for view, want := range []int{0, 1, 2, 0, 1, 2, 0, 1} {
		if got := Leader(view); got != want {
			t.Errorf("%d: %d, not %d", view, got, want)
		}
	}
	for view, want := range map[int]int{api.MaxView: 1, api.MaxView - 1: 0, api.MaxView + 1: 2, math.MaxInt: 1} {
		if got := Leader(view); got != want {
			t.Errorf("%d: %d, not %d", view, got, want)
		}
	}
	for _, view := range strange() {
		Leader(view) // nothing is promised, but that it ends
	}
}

func TestLeads(t *testing.T) {
	for me := range api.Replicas {
		for _, view := range []int{0, 1, 2, 3, 4, 5, 6, api.MaxView - 1, api.MaxView} {
			if got, want := Leads(calm(me, view, nil, 0)), view%3 == me; got != want {
				t.Errorf("%d, calm in %d: %t", me, view, got)
			}
			if Leads(wanting(me, view, view, nil, 0)) || Leads(knowing(me, api.Kept{View: view, Normal: view})) {
				t.Errorf("%d, not calm in %d: leads", me, view)
			}
		}
	}
	// The view counts, not that in which it was in order.
	if Leads(api.Replica{Me: 1, Kept: api.Kept{View: 3, Normal: 1, Calm: true}}) {
		t.Error("it leads the view that is over")
	}
	for _, n := range strange() {
		Leads(api.Replica{Me: n, Kept: api.Kept{View: n, Calm: true}})
	}
}

// P5.3

// messagesThatMayBe: each kind, with the edges of its numbers.
func messagesThatMayBe() []api.Message {
	var l []api.Message
	for _, view := range []int{0, 1, 2, anyView, api.MaxView - 1, api.MaxView} {
		leader := view % api.Replicas
		for _, other := range []int{(leader + 1) % api.Replicas, (leader + 2) % api.Replicas} {
			for _, many := range []int{0, 1, 5, api.MaxLog} {
				l = append(l,
					api.Message{Kind: api.Lead, From: leader, To: other, View: view, Log: entries(0, many), Commit: many},
					api.Message{Kind: api.Lead, From: leader, To: other, View: view, Log: entries(0, many)},
					api.Message{Kind: api.Has, From: other, To: leader, View: view, N: many, Log: []string{}},
					api.Message{Kind: api.Give, From: other, To: leader, View: view, Log: entries(0, many), Commit: many / 2},
					api.Message{Kind: api.Give, From: other, To: leader, View: view, Normal: view, Log: entries(0, many), Commit: many})
			}
			l = append(l,
				api.Message{Kind: api.Want, From: other, To: leader, View: view},
				api.Message{Kind: api.Want, From: leader, To: other, View: view, Log: []string{}},
				api.Message{Kind: api.Want, From: other, To: 3 - leader - other, View: view})
		}
	}
	return l
}

func TestCheckMessageTakesWhatMayBe(t *testing.T) {
	for _, m := range messagesThatMayBe() {
		m = inOwnRoom(m)
		was := told(m, true)
		if e := CheckMessage(m); e != api.OK {
			t.Errorf("%s: refused with %d", told(m, false), int(e))
		}
		if told(m, true) != was {
			t.Errorf("%s: it is not as it was", told(m, false))
		}
	}
}

// badMessage: one that may not be, and what refuses it.
type badMessage struct {
	m    api.Message
	want api.Errno
}

// one message of a kind, that may be: between 0 and 1, of a view that 1 leads.
func one(kind int) api.Message {
	m := api.Message{Kind: kind, From: 0, To: 1, View: anyView}
	if kind == api.Lead {
		m.From, m.To = 1, 0
	}
	return m
}

// but: a message with something else in it.
func but(m api.Message, change func(*api.Message)) api.Message {
	change(&m)
	return m
}

// badNumbers: kinds, places, views and counts that there are not.
func badNumbers() []badMessage {
	var l []badMessage
	for _, kind := range append(strange(), 0, 5) {
		l = append(l, badMessage{api.Message{Kind: kind}, api.ErrKind},
			badMessage{but(one(api.Want), func(m *api.Message) { m.Kind = kind }), api.ErrKind},
			badMessage{api.Message{Kind: kind, From: -1, To: 3, View: -1, N: -1, Normal: 1}, api.ErrKind})
	}
	for kind := api.Lead; kind <= api.Give; kind++ {
		for _, n := range append(strange(), api.Replicas) {
			l = append(l, badMessage{but(one(kind), func(m *api.Message) { m.From = n }), api.ErrRange},
				badMessage{but(one(kind), func(m *api.Message) { m.To = n }), api.ErrRange},
				badMessage{but(one(kind), func(m *api.Message) { m.From, m.To = n, n }), api.ErrRange})
		}
		for _, n := range append(strange(), api.MaxView+1) {
			l = append(l, badMessage{but(one(kind), func(m *api.Message) { m.View = n }), api.ErrRange})
		}
		for _, n := range append(strange(), api.MaxLog+1) {
			l = append(l, badMessage{but(one(kind), func(m *api.Message) { m.N = n }), api.ErrRange},
				badMessage{but(one(kind), func(m *api.Message) { m.N, m.Normal, m.View = n, 1, anyView+1 }), api.ErrRange})
		}
		for at := range api.Replicas { // whether the view is that of the sender or not
			l = append(l, badMessage{but(one(kind), func(m *api.Message) { m.From, m.To = at, at }), api.ErrRange})
		}
	}
	return l
}

// badForms: what a kind must not tell, or from whom, or to whom.
func badForms() []badMessage {
	var l []badMessage
	form := func(m api.Message) { l = append(l, badMessage{m, api.ErrForm}) }
	for _, kind := range []int{api.Lead, api.Has, api.Want} {
		for _, n := range []int{1, -1, anyView, math.MaxInt, math.MinInt} {
			form(but(one(kind), func(m *api.Message) { m.Normal = n }))
		}
	}
	for _, kind := range []int{api.Lead, api.Want, api.Give} {
		for _, n := range []int{1, 2, api.MaxLog} {
			form(but(one(kind), func(m *api.Message) { m.N = n }))
			form(but(one(kind), func(m *api.Message) { m.N, m.Commit = n, 99 })) // ahead of what P4.1 refuses
		}
	}
	for _, kind := range []int{api.Has, api.Want} {
		for _, n := range append(strange(), 1) {
			form(but(one(kind), func(m *api.Message) { m.Commit = n }))
		}
		for _, log := range [][]string{entries(0, 1), entries(0, api.MaxLog+1), {""}, {"abc"}} {
			form(but(one(kind), func(m *api.Message) { m.Log = log }))
			form(but(one(kind), func(m *api.Message) { m.Log, m.Commit = log, 1 }))
		}
	}
	for _, view := range []int{0, 2, 3, api.MaxView - 1} { // 1 leads none of these
		form(but(one(api.Lead), func(m *api.Message) { m.View = view }))
		form(but(one(api.Has), func(m *api.Message) { m.View = view }))
		form(but(one(api.Give), func(m *api.Message) { m.View = view }))
		form(but(one(api.Lead), func(m *api.Message) { m.View, m.Commit = view, -1 }))
		form(but(one(api.Give), func(m *api.Message) { m.View, m.Normal = view, view+1 }))
	}
	form(but(one(api.Lead), func(m *api.Message) { m.From, m.To = 0, 1 }))
	form(but(one(api.Lead), func(m *api.Message) { m.From = 2 }))
	form(but(one(api.Has), func(m *api.Message) { m.To = 2 }))
	form(but(one(api.Has), func(m *api.Message) { m.From, m.To = 1, 0 }))
	form(but(one(api.Give), func(m *api.Message) { m.To = 2 }))
	form(but(one(api.Give), func(m *api.Message) { m.From, m.To = 1, 2 }))
	return l
}

// badContents: what P4.1 refuses of a Lead or a Give.
func badContents() []badMessage {
	l := []badMessage{
		{but(one(api.Give), func(m *api.Message) { m.Normal = anyView + 1 }), api.ErrRange},
		{but(one(api.Give), func(m *api.Message) { m.Normal = anyView + 1; m.Log = entries(0, api.MaxLog+1) }), api.ErrRange},
	}
	for _, n := range strange() {
		l = append(l, badMessage{but(one(api.Give), func(m *api.Message) { m.Normal = n }), api.ErrRange})
	}
	for _, kind := range []int{api.Lead, api.Give} {
		for _, n := range append(strange(), 3) {
			l = append(l, badMessage{but(one(kind), func(m *api.Message) { m.Log, m.Commit = entries(0, 2), n }), api.ErrRange},
				badMessage{but(one(kind), func(m *api.Message) { m.Log, m.Commit = []string{"", ""}, n }), api.ErrRange},
				badMessage{but(one(kind), func(m *api.Message) { m.Log, m.Commit = entries(0, api.MaxLog+1), n }), api.ErrSize})
		}
		l = append(l, badMessage{but(one(kind), func(m *api.Message) { m.Log = make([]string, 1<<17) }), api.ErrSize})
		for s, want := range badEntries() {
			l = append(l, badMessage{but(one(kind), func(m *api.Message) { m.Log = append(entries(0, 2), s) }), want})
		}
	}
	return l
}

func badMessages() []badMessage { return slices.Concat(badNumbers(), badForms(), badContents()) }

func TestCheckMessageRefusesWithTheFirst(t *testing.T) {
	for _, kind := range []int{api.Lead, api.Has, api.Want, api.Give} {
		if e := CheckMessage(one(kind)); e != api.OK {
			t.Fatalf("kind %d: what the others are made of is refused with %d", kind, int(e))
		}
	}
	for _, c := range badMessages() {
		if e := CheckMessage(c.m); e != c.want {
			t.Errorf("%.300s: %d, not %d", told(c.m, false), int(e), int(c.want))
		}
	}
}

// P5.4: what Hear refuses

func TestHearRefusesWhatMayNotBe(t *testing.T) {
	for _, c := range badMessages() {
		for _, r := range []api.Replica{calm(0, 0, nil, 0), calm(1, anyView, entries(0, 3), 1), wanting(2, anyView+1, 0, nil, 0)} {
			refused(t, "a message that may not be", hear(t, "a message that may not be", r, c.m), c.want)
		}
	}
}

func TestHearRefusesWhatGoesToAnother(t *testing.T) {
	for _, m := range messagesThatMayBe() {
		for me := range api.Replicas {
			if me == m.To {
				continue
			}
			for _, view := range []int{0, m.View, api.MaxView} { // be it old or not
				refused(t, "to another", hear(t, "to another", calm(me, view, nil, 0), m), api.ErrNone)
				refused(t, "to another", hear(t, "to another", wanting(me, view, 0, nil, 0), m), api.ErrNone)
			}
		}
	}
}

func TestHearRefusesWhatIsOld(t *testing.T) {
	for _, m := range messagesThatMayBe() {
		for _, above := range []int{0, 1, 2, 3} {
			view := m.View + above
			if view > api.MaxView {
				continue
			}
			for _, r := range []api.Replica{calm(m.To, view, entries(0, 2), 1), wanting(m.To, view, 0, entries(0, 2), 1)} {
				want := api.OK
				if above > 0 {
					want = api.ErrOld
				}
				refused(t, "an old one", hear(t, "an old one", r, m), want)
			}
		}
	}
}
