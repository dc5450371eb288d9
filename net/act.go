package net

import (
	"slices"

	"sculling/api"
	"sculling/machine"
	"sculling/replica"
	"sculling/stage"
	"sculling/volume"
)

const whole = -1 // stored: all bytes

// settle what became of a replica, and what it sends: others hear only of what is stored.
func (w *world) settle(r api.Replica, sent []api.Message, e api.Errno) api.Errno {
	if e != api.OK {
		return e
	}
	if !sameKept(r.Kept, w.Replicas[r.Me].Kept) {
		if e := w.store(r, whole); e != api.OK {
			return e
		}
	}
	w.Replicas[r.Me] = r
	room := api.MaxFlying - len(w.Flying)
	w.Flying = append(w.Flying, sent[:min(room, len(sent))]...)
	return api.OK
}

// store what a replica keeps, up to so many bytes of it.
func (w *world) store(r api.Replica, upto int) api.Errno {
	slots, e := stage.Store(w.Slots[r.Me], r.Kept, upto)
	if e != api.OK {
		return e
	}
	w.Slots[r.Me] = slots
	return api.OK
}

// beginAnew: the replica at a place is what its slots tell.
func (w *world) beginAnew(at int) api.Errno {
	r, e := begun(at, w.Slots[at])
	if e != api.OK {
		return e
	}
	w.Replicas[at] = r
	return api.OK
}

// ask for an operation: a client waits for it.
func ask(c *api.Customer, o api.Op) api.Errno {
	if c.Wait.Num != 0 {
		return api.ErrBusy
	}
	if e := volume.CheckOp(o); e != api.OK {
		return e
	}
	c.Wait = api.Request{Client: c.Id, Num: c.Next, Op: o}
	c.Next++
	return api.OK
}

// send a request to a replica.
func (w *world) send(request api.Request, r api.Replica) api.Errno {
	entry, e := machine.Encode(request)
	if e != api.OK {
		return e
	}
	return w.settle(replica.Take(r, entry))
}

// answer a client, by what a replica knows to be committed.
func (w *world) answer(c *api.Customer, r api.Replica) api.Errno {
	s, e := machine.Play(r.Kept.Log[:r.Kept.Commit])
	if e != api.OK {
		return e
	}
	last := s.Lasts[c.Id-1] // clients are counted from 1 on, Lasts from 0
	if last.Num != c.Wait.Num {
		return api.ErrBusy
	}
	w.Told = append(w.Told, api.Told{Request: c.Wait, Reply: last.Reply})
	c.Wait = api.Request{}
	return api.OK
}

// double the message at a place.
func (w *world) double(at int) api.Errno {
	if len(w.Flying) >= api.MaxFlying {
		return api.ErrFull
	}
	m := w.Flying[at]
	// Both come out in one answer: each has a log of its own.
	log := make([]string, len(m.Log))
	copy(log, m.Log)
	m.Log = log
	w.Flying = append(w.Flying, m)
	return api.OK
}

// land: the message at a place is on its way no more.
func (w *world) land(at int) api.Message {
	m := w.Flying[at]
	w.Flying = slices.Delete(w.Flying, at, at+1)
	return m
}

// fall: the receiver of a message hears it, and begins anew while it stores what it keeps then.
func (w *world) fall(m api.Message, upto int) api.Errno {
	r, _, e := replica.Hear(w.Replicas[m.To], m)
	if e != api.OK {
		return e
	}
	if e := w.store(r, upto); e != api.OK {
		return e
	}
	return w.beginAnew(r.Me)
}

// sameKept: is what two replicas keep the same?
func sameKept(a, b api.Kept) bool {
	return a.View == b.View && a.Normal == b.Normal && a.Calm == b.Calm && a.Commit == b.Commit && slices.Equal(a.Log, b.Log)
}
