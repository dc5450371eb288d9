package replica

import (
	"sculling/api"
	"sculling/stage"
)

// turn of a replica: it, in memory of its own, and what it has sent.
type turn struct {
	r    api.Replica
	sent []api.Message
}

// send a message to the replica at a place.
func (t *turn) send(to int, m api.Message) {
	m.From, m.To, m.View = t.r.Me, to, t.r.Kept.View
	// One message may go to several: each has a log of its own.
	m.Log = copied(m.Log)
	t.sent = append(t.sent, m)
}

// sendAll others a message, by their places.
func (t *turn) sendAll(m api.Message) {
	for to := range api.Replicas {
		if to != t.r.Me {
			t.send(to, m)
		}
	}
}

// leadOn: all others are told the log.
func (t *turn) leadOn() {
	t.sendAll(api.Message{Kind: api.Lead, Commit: t.r.Kept.Commit, Log: t.r.Kept.Log})
}

// tellHas: the leader is told how many entries there are.
func (t *turn) tellHas() {
	t.send(Leader(t.r.Kept.View), api.Message{Kind: api.Has, N: len(t.r.Kept.Log)})
}

// tellWant: all others are told that the view is wanted.
func (t *turn) tellWant() {
	t.r.Wants[t.r.Me] = true
	t.sendAll(api.Message{Kind: api.Want})
}

// forget all of others.
func (t *turn) forget() { t.r = knowingNothing(t.r.Me, t.r.Kept) }

// want a view.
func (t *turn) want(view int) {
	t.r.Kept.View, t.r.Kept.Calm = view, false
	t.forget()
	t.tellWant()
}

// wantHigher: want the view of a message, if it is above the replica's own.
func (t *turn) wantHigher(m api.Message) {
	if m.View > t.r.Kept.View {
		t.want(m.View)
	}
}

// hearLead: a log of who leads.
func (t *turn) hearLead(m api.Message) {
	if m.View > t.r.Kept.View || !t.r.Kept.Calm {
		t.follow(m)
	} else if len(m.Log) > len(t.r.Kept.Log) {
		t.r.Kept.Log = copied(m.Log)
	}
	t.r.Kept.Commit = max(t.r.Kept.Commit, min(m.Commit, len(t.r.Kept.Log)))
	t.tellHas()
}

// follow who leads: its log takes the place of what there is, be that longer or not.
func (t *turn) follow(m api.Message) {
	commit := min(t.r.Kept.Commit, len(m.Log))
	t.r.Kept = api.Kept{View: m.View, Normal: m.View, Calm: true, Log: copied(m.Log), Commit: commit}
	t.forget()
}

// hearHas: how many entries another one has.
func (t *turn) hearHas(m api.Message) {
	if !Leads(t.r) || m.View != t.r.Kept.View {
		return
	}
	n := min(m.N, len(t.r.Kept.Log))
	t.r.Have[m.From] = max(t.r.Have[m.From], n)
	if n > t.r.Kept.Commit {
		t.r.Kept.Commit = n
		t.leadOn()
	}
}

// hearWant: a view is wanted.
func (t *turn) hearWant(m api.Message) {
	t.wantHigher(m)
	if t.r.Kept.Calm || t.r.Wants[m.From] {
		return
	}
	t.r.Wants[m.From] = true
	k := t.r.Kept
	leader := Leader(k.View)
	if leader != t.r.Me {
		t.send(leader, api.Message{Kind: api.Give, Normal: k.Normal, Commit: k.Commit, Log: k.Log})
		return
	}
	t.keepGiven(t.r.Me, k)
	t.beginIfEnough()
}

// hearGive: what there is, for the view that the replica is to lead.
func (t *turn) hearGive(m api.Message) {
	t.wantHigher(m)
	if t.r.Kept.Calm {
		return
	}
	if !t.r.Given[t.r.Me] {
		t.keepGiven(t.r.Me, t.r.Kept)
	}
	t.keepGiven(m.From, toldBy(m))
	t.beginIfEnough()
}

// keepGiven: what the replica at a place gave.
func (t *turn) keepGiven(from int, k api.Kept) {
	t.r.Gives[from], t.r.Given[from] = stage.Copy(k), true
}

// beginIfEnough gave: the view begins. The replica itself is among them: it gives ahead of this, whoever else does.
func (t *turn) beginIfEnough() {
	if given := t.given(); len(given) >= api.Enough {
		t.begin(given)
	}
}

// begin the view with what was given.
func (t *turn) begin(given []api.Kept) {
	best, commit := given[0], 0
	for _, k := range given {
		if isBetter(k, best) {
			best = k
		}
		commit = max(commit, k.Commit)
	}
	view := t.r.Kept.View
	t.r.Kept = api.Kept{View: view, Normal: view, Calm: true, Log: best.Log, Commit: min(commit, len(best.Log))}
	t.forget()
	t.leadOn()
}

// given: all that was given, by their places.
func (t *turn) given() []api.Kept {
	var l []api.Kept
	for i, k := range t.r.Gives {
		if t.r.Given[i] {
			l = append(l, k)
		}
	}
	return l
}

// isBetter: is a log, for a view that begins, to be taken rather than another one?
func isBetter(a, b api.Kept) bool {
	if a.Normal != b.Normal {
		return a.Normal > b.Normal
	}
	return len(a.Log) > len(b.Log)
}
