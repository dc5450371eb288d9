package replica

import (
	"strconv"
	"testing"

	"sculling/api"
)

// In these tests 1 leads the view anyView, 2 the next one, and 0 the one behind that.

func lead(to, view int, log []string, commit int) api.Message {
	return api.Message{Kind: api.Lead, From: view % api.Replicas, To: to, View: view, Log: log, Commit: commit}
}

func has(from, view, n int) api.Message {
	return api.Message{Kind: api.Has, From: from, To: view % api.Replicas, View: view, N: n}
}

func want(from, to, view int) api.Message {
	return api.Message{Kind: api.Want, From: from, To: to, View: view}
}

func give(from, view, normal int, log []string, commit int) api.Message {
	return api.Message{Kind: api.Give, From: from, To: view % api.Replicas, View: view, Normal: normal, Log: log, Commit: commit}
}

// P5.4: a Lead

func TestLeadOfAHigherViewIsFollowed(t *testing.T) {
	mine := entries(0, 5)
	for _, c := range []struct {
		what   string
		log    []string
		commit int // of the message
		own    int // commit of the replica
		then   int // commit of it then
	}{
		{"a longer log", entries(20, 7), 3, 2, 3},
		{"a longer log, of which less is committed", entries(20, 7), 1, 4, 4},
		{"a log as long", entries(20, 5), 5, 5, 5},
		{"a shorter log", entries(20, 2), 1, 1, 1},
		{"a shorter log than was committed", entries(20, 2), 0, 5, 2},
		{"a shorter log, all of it committed", entries(20, 2), 2, 0, 2},
		{"no log", nil, 0, 5, 0},
		{"the longest log", entries(20, api.MaxLog), api.MaxLog, 5, api.MaxLog},
		{"nothing is committed", entries(20, 7), 0, 0, 0},
	} {
		then := calm(0, anyView, c.log, c.then)
		sent := has(0, anyView, len(c.log))
		m := lead(0, anyView, c.log, c.commit)
		for _, view := range []int{0, 3, 5, anyView - 1} {
			for _, r := range []api.Replica{calm(0, view, mine, c.own), wanting(0, view, view/2, mine, c.own)} {
				expect(t, c.what, hear(t, c.what, r, m), then, sent)
				expect(t, c.what+", informed", hear(t, c.what, informed(r), m), then, sent)
			}
		}
	}
}

func TestLeadAtWhoIsNotCalmIsFollowed(t *testing.T) {
	for _, many := range []int{0, 2, 5, 8} { // shorter, as long, longer
		log := entries(20, many)
		r := wanting(2, anyView, 3, entries(0, 5), 4)
		then := calm(2, anyView, log, min(4, many))
		m := lead(2, anyView, log, many/2)
		expect(t, "not calm", hear(t, "not calm", r, m), then, has(2, anyView, many))
		expect(t, "not calm, informed", hear(t, "not calm", informed(r), m), then, has(2, anyView, many))
		expect(t, "not calm, just begun", hear(t, "not calm", knowing(2, r.Kept), m), then, has(2, anyView, many))
	}
}

func TestLeadAtWhoIsCalmInThatView(t *testing.T) {
	mine := entries(0, 5)
	for _, c := range []struct {
		what        string
		log         []string
		commit, own int
		log2        []string
		then        int
	}{
		{"a longer log", entries(20, 6), 3, 2, entries(20, 6), 3},
		{"a longer log, less committed", entries(20, 6), 1, 4, entries(20, 6), 4},
		{"a log as long stays out", entries(20, 5), 2, 2, mine, 2},
		{"a log as long, more committed", entries(20, 5), 5, 2, mine, 5},
		{"a shorter log stays out", entries(20, 4), 0, 3, mine, 3},
		{"a shorter log, more committed", entries(20, 4), 4, 3, mine, 4},
		{"no log", nil, 0, 5, mine, 5},
		{"the longest log", entries(20, api.MaxLog), api.MaxLog, 0, entries(20, api.MaxLog), api.MaxLog},
	} {
		r := informed(calm(0, anyView, mine, c.own))
		then := with(r, func(r *api.Replica) { r.Kept.Log, r.Kept.Commit = c.log2, c.then })
		expect(t, c.what, hear(t, c.what, r, lead(0, anyView, c.log, c.commit)), then, has(0, anyView, len(c.log2)))
	}
}

func TestLeadOfTheHighestView(t *testing.T) {
	for _, view := range []int{0, api.MaxView - 1} {
		o := hear(t, "the highest view", calm(2, view, nil, 0), lead(2, api.MaxView, entries(0, 1), 1))
		expect(t, "the highest view", o, calm(2, api.MaxView, entries(0, 1), 1), has(2, api.MaxView, 1))
	}
	for _, above := range []int{1, 2, 3} { // who led before follows, too
		r := calm(1, anyView, entries(0, 3), 1)
		if view := anyView + above; view%api.Replicas != 1 {
			o := hear(t, "who led", r, lead(1, view, entries(9, 1), 0))
			expect(t, "who led", o, calm(1, view, entries(9, 1), 1), has(1, view, 1))
		}
	}
}

// P5.5

func TestWantOfAHigherViewIsWanted(t *testing.T) {
	log := entries(0, 4)
	for _, c := range []struct {
		what            string
		me, from, view  int // view: the one that is wanted
		leader          int
		first, rest     int // to whom the wishes go
		givesToAnother  bool
		wantsAre, given []bool
	}{
		{"the sender leads", 0, 1, anyView, 1, 1, 2, true, []bool{true, true, false}, []bool{false, false, false}},
		{"a third one leads", 0, 2, anyView, 1, 1, 2, true, []bool{true, false, true}, []bool{false, false, false}},
		{"it leads itself", 1, 2, anyView, 1, 0, 2, false, []bool{false, true, true}, []bool{false, true, false}},
		{"it leads the highest one", 1, 0, api.MaxView, 1, 0, 2, false, []bool{true, true, false}, []bool{false, true, false}},
		{"of the highest one", 2, 0, api.MaxView, 1, 0, 1, true, []bool{true, false, true}, []bool{false, false, false}},
	} {
		for _, r := range []api.Replica{
			calm(c.me, 0, log, 2), calm(c.me, 1, log, 2), calm(c.me, anyView-1, log, 2),
			wanting(c.me, anyView-1, 2, log, 2), wanting(c.me, 5, 5, log, 2),
		} {
			k := api.Kept{View: c.view, Normal: r.Kept.Normal, Log: log, Commit: 2}
			then := knowing(c.me, k)
			then.Wants, then.Given = c.wantsAre, c.given
			sent := []api.Message{want(c.me, c.first, c.view), want(c.me, c.rest, c.view)}
			if c.givesToAnother {
				sent = append(sent, api.Message{Kind: api.Give, From: c.me, To: c.leader, View: c.view, Normal: k.Normal, Commit: 2, Log: log})
			} else {
				then.Gives[c.me] = k
			}
			m := want(c.from, c.me, c.view)
			expect(t, c.what, hear(t, c.what, r, m), then, sent...)
			expect(t, c.what+", informed", hear(t, c.what, informed(r), m), then, sent...)
		}
	}
}

func TestWantAtWhoIsCalmInThatView(t *testing.T) {
	for me := range api.Replicas { // be it the leader or not
		for from := range api.Replicas {
			if from == me {
				continue
			}
			r := calm(me, anyView, entries(0, 3), 1)
			expect(t, "calm", hear(t, "calm", r, want(from, me, anyView)), r)
			expect(t, "calm, informed", hear(t, "calm", informed(r), want(from, me, anyView)), informed(r))
		}
	}
}

func TestWantOnceIsEnough(t *testing.T) {
	for me := range api.Replicas {
		for from := range api.Replicas {
			if from == me {
				continue
			}
			r := with(wanting(me, anyView, 4, entries(0, 3), 1), func(r *api.Replica) { r.Wants[from] = true })
			expect(t, "wanted already", hear(t, "wanted already", r, want(from, me, anyView)), r)
			r = informed(r)
			expect(t, "wanted already, informed", hear(t, "wanted already", r, want(from, me, anyView)), r)
		}
	}
}

func TestWantAtWhoIsNotCalmGives(t *testing.T) {
	log := entries(0, 3)
	for _, from := range []int{0, 1} {
		for _, r := range []api.Replica{
			wanting(2, anyView, 4, log, 1),
			knowing(2, api.Kept{View: anyView, Normal: 4, Log: log, Commit: 1}), // its own wish stays as it was
			with(wanting(2, anyView, 4, log, 1), func(r *api.Replica) { r.Wants[1-from] = true }),
			with(informed(wanting(2, anyView, 4, log, 1)), func(r *api.Replica) { r.Wants[from] = false }),
		} {
			then := with(r, func(r *api.Replica) { r.Wants[from] = true })
			sent := give(2, anyView, 4, log, 1)
			expect(t, "not calm", hear(t, "not calm", r, want(from, 2, anyView)), then, sent)
		}
	}
}

func TestWantAtWhoIsToLeadGivesToItself(t *testing.T) {
	log := entries(0, 3)
	for _, from := range []int{0, 2} {
		for _, r := range []api.Replica{
			wanting(1, anyView, 4, log, 1),
			knowing(1, api.Kept{View: anyView, Normal: 4, Log: log, Commit: 1}),
			with(wanting(1, anyView, 4, log, 1), func(r *api.Replica) { r.Wants[2-from] = true }),
		} {
			then := with(r, func(r *api.Replica) {
				r.Wants[from], r.Given[1] = true, true
				r.Gives[1] = api.Kept{View: anyView, Normal: 4, Log: log, Commit: 1}
			})
			expect(t, "to lead", hear(t, "to lead", r, want(from, 1, anyView)), then)
			// The wish of the other one comes then, too: what was given is so still, and it is not enough.
			both := with(then, func(r *api.Replica) { r.Wants[2-from] = true })
			expect(t, "to lead, both wishes", hear(t, "to lead", then, want(2-from, 1, anyView)), both)
		}
	}
}

func TestWantMayBeginTheView(t *testing.T) {
	r := with(wanting(1, anyView, 4, entries(0, 3), 1), func(r *api.Replica) {
		r.Given[0], r.Gives[0] = true, api.Kept{View: anyView, Normal: 5, Log: entries(40, 2), Commit: 2}
	})
	then := calm(1, anyView, entries(40, 2), 2)
	expect(t, "given by another", hear(t, "given by another", r, want(2, 1, anyView)), then, leads(1, anyView, entries(40, 2), 2)...)
}

// P5.6

func TestHasAtWhoLeads(t *testing.T) {
	log := entries(0, 6)
	for _, c := range []struct {
		what               string
		have, n, commit    int
		haveThen, thenUpTo int
		leadsOn            bool
	}{
		{"the first one", 0, 1, 0, 1, 1, true},
		{"all of them", 0, 6, 2, 6, 6, true},
		{"more than there are", 2, 7, 2, 6, 6, true},
		{"far more than there are", 2, api.MaxLog, 5, 6, 6, true},
		{"more than there are, all committed", 2, api.MaxLog, 6, 6, 6, false},
		{"one more than is committed", 3, 4, 3, 4, 4, true},
		{"as many as are committed", 2, 4, 4, 4, 4, false},
		{"fewer than are committed", 2, 3, 4, 3, 4, false},
		{"as many as before", 4, 4, 4, 4, 4, false},
		{"fewer than before", 5, 4, 6, 5, 6, false},
		{"none", 0, 0, 0, 0, 0, false},
		{"none any more", 3, 0, 3, 3, 3, false},
	} {
		for _, from := range []int{0, 2} {
			r := with(informed(calm(1, anyView, log, c.commit)), func(r *api.Replica) { r.Have[from] = c.have })
			then := with(r, func(r *api.Replica) { r.Have[from], r.Kept.Commit = c.haveThen, c.thenUpTo })
			var sent []api.Message
			if c.leadsOn {
				sent = leads(1, anyView, log, c.thenUpTo)
			}
			expect(t, c.what, hear(t, c.what, r, has(from, anyView, c.n)), then, sent...)
		}
	}
}

func TestHasAtWhoHasNothing(t *testing.T) {
	r := calm(1, api.MaxView, nil, 0)
	expect(t, "no entries", hear(t, "no entries", r, has(0, api.MaxView, 5)), r)
}

func TestHasAtWhoDoesNotLead(t *testing.T) {
	log := entries(0, 6)
	for what, r := range map[string]api.Replica{
		"not calm":                        informed(wanting(1, anyView, 4, log, 1)),
		"not calm, but was":               informed(wanting(1, anyView, anyView, log, 1)),
		"leads a lower view":              informed(calm(1, anyView-3, log, 1)),
		"leads the lowest view of its":    informed(calm(1, 1, log, 1)),
		"calm in a lower view":            informed(calm(1, anyView-1, log, 1)),
		"not calm in a lower view":        informed(wanting(1, anyView-1, 3, log, 1)),
		"not calm in a lower view of its": informed(wanting(1, anyView-3, 3, log, 1)),
	} {
		for _, n := range []int{0, 1, 6, api.MaxLog} {
			expect(t, what, hear(t, what, r, has(2, anyView, n)), r)
		}
	}
}

// P5.7

// beginning: what a replica and a message give, and with what the view begins.
type beginning struct {
	what      string
	mine      api.Kept // Normal, Log and Commit of the replica, which is to lead
	message   api.Kept // those of the message
	log       []string // of the view that begins
	committed int
}

func beginnings() []beginning {
	a, b := func(many int) []string { return entries(0, many) }, func(many int) []string { return entries(50, many) }
	return []beginning{
		{"nothing is there", api.Kept{}, api.Kept{}, nil, 0},
		{"of it alone", api.Kept{Log: a(2)}, api.Kept{}, a(2), 0},
		{"of the other alone", api.Kept{}, api.Kept{Log: b(2), Commit: 1}, b(2), 1},
		{"the higher Normal is the other's", api.Kept{Normal: 3, Log: a(5)}, api.Kept{Normal: 4, Log: b(2)}, b(2), 0},
		{"the higher Normal is its own", api.Kept{Normal: 4, Log: a(2)}, api.Kept{Normal: 3, Log: b(5)}, a(2), 0},
		{"the higher Normal has no log", api.Kept{Normal: 6, Commit: 0}, api.Kept{Normal: 3, Log: b(5)}, nil, 0},
		{"the longer one is the other's", api.Kept{Normal: 3, Log: a(2)}, api.Kept{Normal: 3, Log: b(3)}, b(3), 0},
		{"the longer one is its own", api.Kept{Normal: 3, Log: a(3)}, api.Kept{Normal: 3, Log: b(2)}, a(3), 0},
		{"the longest one", api.Kept{Log: a(api.MaxLog - 1)}, api.Kept{Log: b(api.MaxLog)}, b(api.MaxLog), 0},
		{"Commit of the log", api.Kept{Normal: 3, Log: a(2)}, api.Kept{Normal: 3, Log: b(3), Commit: 2}, b(3), 2},
		{"Commit of the other log", api.Kept{Normal: 3, Log: a(2), Commit: 2}, api.Kept{Normal: 3, Log: b(3), Commit: 1}, b(3), 2},
		{"Commit of the lower Normal", api.Kept{Normal: 4, Log: a(5), Commit: 1}, api.Kept{Normal: 3, Log: b(4), Commit: 4}, a(5), 4},
		{"Commit above what there is", api.Kept{Normal: 3, Log: a(5), Commit: 5}, api.Kept{Normal: 4, Log: b(2), Commit: 1}, b(2), 2},
		{"Commit above what there is, of the other", api.Kept{Normal: 4, Log: a(2), Commit: 1}, api.Kept{Normal: 3, Log: b(4), Commit: 4}, a(2), 2},
		{"Normal of this view", api.Kept{Normal: 3, Log: a(5)}, api.Kept{Normal: anyView, Log: b(1), Commit: 1}, b(1), 1},
	}
}

func TestGiveBeginsTheView(t *testing.T) {
	for _, c := range beginnings() {
		then := calm(1, anyView, c.log, c.committed)
		sent := leads(1, anyView, c.log, c.committed)
		for _, from := range []int{0, 2} {
			r := wanting(1, anyView, c.mine.Normal, c.mine.Log, c.mine.Commit)
			m := give(from, anyView, c.message.Normal, c.message.Log, c.message.Commit)
			expect(t, c.what, hear(t, c.what, r, m), then, sent...)
			expect(t, c.what+", just begun", hear(t, c.what, knowing(1, r.Kept), m), then, sent...)
			// It gave to itself already, as someone wanted the view.
			o := hear(t, c.what, r, want(from, 1, anyView))
			expect(t, c.what+", behind a Want", hear(t, c.what, o.r, m), then, sent...)
			// A second one, and that of the third replica, come too late: the view has begun.
			o = hear(t, c.what, r, m)
			expect(t, c.what+", again", hear(t, c.what, o.r, m), then)
			expect(t, c.what+", of the third", hear(t, c.what, o.r, give(2-from, anyView, 6, entries(30, 9), 9)), then)
		}
	}
}

func TestTheFirstOfSeveralLogs(t *testing.T) {
	for from, log := range map[int][]string{0: entries(50, 3), 2: entries(0, 3)} { // the replica itself is 1
		r := wanting(1, anyView, 3, entries(0, 3), 0)
		o := hear(t, "as long", r, give(from, anyView, 3, entries(50, 3), 0))
		expect(t, "as long", o, calm(1, anyView, log, 0), leads(1, anyView, log, 0)...)
	}
}

func TestGiveOfAHigherViewIsWantedFirst(t *testing.T) {
	log := entries(50, 2)
	sent := append(wishes(1, anyView), leads(1, anyView, log, 2)...)
	for _, r := range []api.Replica{
		calm(1, 0, entries(0, 5), 1), calm(1, 4, entries(0, 5), 3), calm(1, 6, entries(0, 1), 1),
		wanting(1, anyView-1, 4, entries(0, 5), 1),
		informed(calm(1, 4, entries(0, 5), 3)), informed(wanting(1, 4, 2, entries(0, 5), 3)),
	} {
		o := hear(t, "a higher view", r, give(2, anyView, anyView, log, 2))
		expect(t, "a higher view", o, calm(1, anyView, log, 2), sent...)
	}
	o := hear(t, "the highest view", calm(1, 1, nil, 0), give(0, api.MaxView, 1, log, 1))
	expect(t, "the highest view", o, calm(1, api.MaxView, log, 1), append(wishes(1, api.MaxView), leads(1, api.MaxView, log, 1)...)...)
	// Its own log may be the better one.
	o = hear(t, "its own log", calm(1, 4, entries(0, 5), 3), give(0, anyView, 2, log, 1))
	expect(t, "its own log", o, calm(1, anyView, entries(0, 5), 3), append(wishes(1, anyView), leads(1, anyView, entries(0, 5), 3)...)...)
}

func TestGiveAtWhoIsCalmInThatView(t *testing.T) {
	for _, r := range []api.Replica{calm(1, anyView, entries(0, 2), 1), informed(calm(1, anyView, entries(0, 2), 1))} {
		expect(t, "calm", hear(t, "calm", r, give(0, anyView, anyView, entries(0, 9), 9)), r)
	}
}

// What a replica may know, even if no messages brought it there.
func TestGiveCountsWhatIsGiven(t *testing.T) {
	kept := func(normal int, log []string, commit int) api.Kept {
		return api.Kept{View: anyView, Normal: normal, Log: log, Commit: commit}
	}
	for _, c := range []struct {
		what      string
		change    func(*api.Replica)
		from      int
		log       []string
		committed int
	}{
		{"of three the best", func(r *api.Replica) {
			r.Given[2], r.Gives[2] = true, kept(5, entries(80, 2), 0)
		}, 0, entries(80, 2), 1},
		{"of three the greatest Commit", func(r *api.Replica) {
			r.Given[2], r.Gives[2] = true, kept(0, entries(80, 5), 3)
		}, 0, entries(50, 4), 3},
		{"of three as long the first", func(r *api.Replica) {
			r.Given[0], r.Gives[0] = true, kept(4, entries(80, 4), 0)
		}, 2, entries(80, 4), 1},
		{"what is not given does not count", func(r *api.Replica) {
			r.Gives[2] = kept(6, entries(80, 9), 9)
		}, 0, entries(50, 4), 1},
		{"the last that one gave counts", func(r *api.Replica) {
			r.Given[0], r.Gives[0] = true, kept(6, entries(80, 9), 9)
		}, 0, entries(50, 4), 1},
		{"itself, but once", func(r *api.Replica) {
			r.Given[1], r.Gives[1] = true, kept(6, entries(80, 9), 2)
		}, 0, entries(80, 9), 2},
		{"itself, not given yet", func(r *api.Replica) {
			r.Gives[1] = kept(6, entries(80, 9), 9)
		}, 0, entries(50, 4), 1},
	} {
		r := with(wanting(1, anyView, 3, entries(0, 6), 1), c.change)
		o := hear(t, c.what, r, give(c.from, anyView, 4, entries(50, 4), 1))
		expect(t, c.what, o, calm(1, anyView, c.log, c.committed), leads(1, anyView, c.log, c.committed)...)
	}
}

// P5.8

func TestTake(t *testing.T) {
	for me := range api.Replicas {
		for _, many := range []int{0, 1, 7, api.MaxLog - 1} {
			for _, commit := range []int{0, many} {
				view := 3 + me
				r := informed(calm(me, view, entries(0, many), commit))
				log := append(entries(0, many), entry(99))
				then := with(r, func(r *api.Replica) { r.Kept.Log = log })
				what := strconv.Itoa(me) + " takes behind " + strconv.Itoa(many)
				expect(t, what, take(t, what, r, entry(99)), then, leads(me, view, log, commit)...)
			}
		}
	}
	r := calm(1, api.MaxView, entries(0, 2), 1) // an entry that is there already is one more
	log := append(entries(0, 2), entry(0))
	expect(t, "twice", take(t, "twice", r, entry(0)), calm(1, api.MaxView, log, 1), leads(1, api.MaxView, log, 1)...)
}

func TestTakeRefusesWithTheFirst(t *testing.T) {
	full := entries(0, api.MaxLog)
	for s, want := range badEntries() {
		refused(t, "an entry that may not be", take(t, "bad", calm(1, anyView, entries(0, 3), 1), s), want)
		refused(t, "no room for it", take(t, "bad", calm(1, anyView, full, 1), s), api.ErrFull)
		refused(t, "not leading", take(t, "bad", calm(0, anyView, entries(0, 3), 1), s), api.ErrAway)
	}
	refused(t, "full", take(t, "full", calm(1, anyView, full, 1), entry(99)), api.ErrFull)
	for what, r := range map[string]api.Replica{
		"calm":                  calm(0, anyView, entries(0, 3), 1),
		"calm, too":             calm(2, anyView, nil, 0),
		"calm, and full":        calm(2, anyView, full, 1),
		"to lead, but not calm": wanting(1, anyView, 3, entries(0, 3), 1),
		"full, but not calm":    wanting(1, anyView, anyView, full, 1),
		"not calm":              wanting(0, anyView, 3, entries(0, 3), 1),
	} {
		refused(t, what, take(t, what, r, entry(99)), api.ErrAway)
	}
}

// P5.9

func TestTickOfWhoLeads(t *testing.T) {
	for me := range api.Replicas {
		for _, many := range []int{0, 3, api.MaxLog} {
			log := entries(0, many)
			r := informed(calm(me, 6+me, log, many/2))
			expect(t, "leads", tick(t, "leads", r), r, leads(me, 6+me, log, many/2)...)
		}
	}
}

func TestTickOfWhoIsCalm(t *testing.T) {
	for _, me := range []int{0, 2} {
		for _, many := range []int{0, 3, api.MaxLog} {
			for _, view := range []int{1, anyView, api.MaxView} {
				r := informed(calm(me, view, entries(0, many), many/2))
				expect(t, "calm", tick(t, "calm", r), r, has(me, view, many))
			}
		}
	}
}

func TestTickOfWhoIsNotCalm(t *testing.T) {
	for me := range api.Replicas { // be it to lead or not
		for _, view := range []int{0, anyView, api.MaxView} {
			kept := api.Kept{View: view, Normal: view / 2, Log: entries(0, 3), Commit: 1}
			then := wanting(me, view, view/2, kept.Log, 1)
			expect(t, "just begun", tick(t, "just begun", knowing(me, kept)), then, wishes(me, view)...)
			expect(t, "not calm", tick(t, "not calm", then), then, wishes(me, view)...)
			r := informed(knowing(me, kept))
			expect(t, "informed", tick(t, "informed", r), r, wishes(me, view)...)
			r.Wants[me] = false
			expect(t, "informed, but of itself", tick(t, "informed", r), with(r, func(r *api.Replica) { r.Wants[me] = true }), wishes(me, view)...)
		}
	}
}

func TestAlarm(t *testing.T) {
	log := entries(0, 3)
	for me := range api.Replicas {
		for _, view := range []int{0, 1, 2, anyView, api.MaxView - 1} {
			r := calm(me, view, log, 2)
			then := wanting(me, view+1, view, log, 2)
			expect(t, "calm", alarm(t, "calm", r), then, wishes(me, view+1)...)
			expect(t, "calm, informed", alarm(t, "calm", informed(r)), then, wishes(me, view+1)...)
			r = wanting(me, view, view/2, log, 2)
			then = wanting(me, view+1, view/2, log, 2)
			expect(t, "not calm", alarm(t, "not calm", r), then, wishes(me, view+1)...)
			expect(t, "not calm, informed", alarm(t, "not calm", informed(r)), then, wishes(me, view+1)...)
		}
		refused(t, "the highest view", alarm(t, "the highest view", calm(me, api.MaxView, log, 2)), api.ErrFull)
		refused(t, "the highest view", alarm(t, "the highest view", wanting(me, api.MaxView, 3, log, 2)), api.ErrFull)
	}
}
