package replica

import (
	"reflect"
	"strconv"
	"strings"
	"testing"

	"sculling/api"
	"sculling/machine"
)

const (
	anyView = 7 // led by the replica 1
	mark    = "spare room"
)

// entry of a request that may be, another one for each n.
func entry(n int) string {
	op := api.Op{Kind: api.Write, At: n % api.Sectors, Data: strings.Repeat("\xff", n%(api.MaxSector+1))}
	s, e := machine.Encode(api.Request{Client: 1 + n%api.MaxClient, Num: 1 + n, Op: op})
	if e != api.OK {
		panic(e)
	}
	return s
}

// entries: so many, from one on.
func entries(first, many int) []string {
	var l []string
	for i := range many {
		l = append(l, entry(first+i))
	}
	return l
}

// calm replica that knows nothing of others.
func calm(me, view int, log []string, commit int) api.Replica {
	return knowing(me, api.Kept{View: view, Normal: view, Calm: true, Log: log, Commit: commit})
}

// wanting: a replica that is not calm, and knows nothing, but that it wants its view.
func wanting(me, view, normal int, log []string, commit int) api.Replica {
	r := knowing(me, api.Kept{View: view, Normal: normal, Log: log, Commit: commit})
	r.Wants[me] = true
	return r
}

// knowing nothing, written out here: not as the program makes it.
func knowing(me int, k api.Kept) api.Replica {
	return api.Replica{Me: me, Kept: k, Have: []int{0, 0, 0}, Wants: []bool{false, false, false}, Gives: []api.Kept{{}, {}, {}}, Given: []bool{false, false, false}}
}

// with something else in it.
func with(r api.Replica, change func(*api.Replica)) api.Replica {
	r = inOwnRoom(r)
	change(&r)
	return r
}

// informed: it knows something of everyone, wherever it may.
func informed(r api.Replica) api.Replica {
	return with(r, func(r *api.Replica) {
		for i := range r.Have {
			r.Have[i] = min(i+1, len(r.Kept.Log))
			r.Wants[i], r.Given[i] = true, true
			r.Gives[i] = api.Kept{View: 3 + i, Normal: 3 + i, Calm: i == 2, Log: entries(90+i, 2+i), Commit: i}
		}
	})
}

// inOwnRoom: the same, with marks in the spare room of each list.
func inOwnRoom[T any](x T) T {
	v := reflect.New(reflect.TypeOf(x)).Elem()
	v.Set(reflect.ValueOf(x))
	moveLists(v)
	return v.Interface().(T)
}

func moveLists(v reflect.Value) {
	switch v.Kind() {
	case reflect.Struct:
		for i := range v.NumField() {
			moveLists(v.Field(i))
		}
	case reflect.Slice:
		room := reflect.MakeSlice(v.Type(), v.Len()+3, v.Len()+3)
		reflect.Copy(room, v)
		for i := range room.Len() {
			if i >= v.Len() && v.Type().Elem().Kind() == reflect.String {
				room.Index(i).SetString(mark)
			}
			moveLists(room.Index(i))
		}
		v.Set(room.Slice3(0, v.Len(), room.Len()))
	}
}

// told: whatever it is, as a text; without spare room an empty list may be nil or not.
func told(x any, spare bool) string {
	var b strings.Builder
	tell(&b, reflect.ValueOf(x), spare)
	return b.String()
}

func tell(b *strings.Builder, v reflect.Value, spare bool) {
	switch v.Kind() {
	case reflect.Struct:
		b.WriteString("{")
		for i := range v.NumField() {
			b.WriteString(v.Type().Field(i).Name + ":")
			tell(b, v.Field(i), spare)
		}
		b.WriteString("}")
	case reflect.Slice:
		b.WriteString(strconv.Itoa(v.Len()) + "[")
		if spare && v.Cap() > 0 {
			v = v.Slice3(0, v.Cap(), v.Cap())
		}
		for i := range v.Len() {
			tell(b, v.Index(i), spare)
		}
		b.WriteString("]")
	case reflect.String:
		b.WriteString(strconv.Quote(v.String()) + " ")
	case reflect.Bool:
		b.WriteString(strconv.FormatBool(v.Bool()) + " ")
	case reflect.Int:
		b.WriteString(strconv.FormatInt(v.Int(), 10) + " ")
	default:
		panic(v.Kind())
	}
}

// stretch of memory that a list takes, spare room too.
type stretch struct{ from, to uintptr }

func stretches(v reflect.Value) []stretch {
	var l []stretch
	switch v.Kind() {
	case reflect.Struct:
		for i := range v.NumField() {
			l = append(l, stretches(v.Field(i))...)
		}
	case reflect.Slice:
		if v.Cap() == 0 {
			return nil
		}
		l = append(l, stretch{v.Pointer(), v.Pointer() + uintptr(v.Cap())*v.Type().Elem().Size()})
		all := v.Slice3(0, v.Cap(), v.Cap())
		for i := range all.Len() {
			l = append(l, stretches(all.Index(i))...)
		}
	}
	return l
}

// apart: no two lists of all these share memory.
func apart(t *testing.T, what string, xs ...any) {
	t.Helper()
	var l []stretch
	for _, x := range xs {
		l = append(l, stretches(reflect.ValueOf(x))...)
	}
	for i, a := range l {
		for _, b := range l[:i] {
			if a.from < b.to && b.from < a.to {
				t.Errorf("%s: two lists share memory", what)
				return
			}
		}
	}
}

// same? An empty list may be nil or not.
func same(a, b any) bool { return told(a, false) == told(b, false) }

// outcome of a call that answers a replica and messages.
type outcome struct {
	r    api.Replica
	sent []api.Message
	code api.Errno
}

// watched: a call; what was handed in stays as it was, what comes out is new memory, the same again each time, and may be.
func watched(t *testing.T, what string, r api.Replica, m api.Message, call func(api.Replica, api.Message) (api.Replica, []api.Message, api.Errno)) outcome {
	t.Helper()
	r, m = inOwnRoom(r), inOwnRoom(m)
	wasR, wasM := told(r, true), told(m, true)
	var o, again outcome
	o.r, o.sent, o.code = call(r, m)
	if told(r, true) != wasR || told(m, true) != wasM {
		t.Errorf("%s: what was handed in is not as it was", what)
	}
	again.r, again.sent, again.code = call(r, m)
	if told(o.r, false) != told(again.r, false) || told(o.sent, false) != told(again.sent, false) || o.code != again.code {
		t.Errorf("%s: the second time it is not the same", what)
	}
	apart(t, what, r, m, o.r, o.sent, again.r, again.sent)
	if o.code != api.OK {
		if !same(o.r, api.Replica{}) || len(o.sent) != 0 {
			t.Errorf("%s: refused with %d, but something is answered", what, int(o.code))
		}
		return o
	}
	mayBe(t, what, o)
	return o
}

// mayBe: what came out may be, and what is sent is from it, of its view.
func mayBe(t *testing.T, what string, o outcome) {
	t.Helper()
	if e := Check(o.r); e != api.OK {
		t.Errorf("%s: a replica that may not be: %d", what, int(e))
	}
	for i, m := range o.sent {
		if e := CheckMessage(m); e != api.OK {
			t.Errorf("%s: message %d may not be: %d", what, i, int(e))
		}
		if m.From != o.r.Me || m.View != o.r.Kept.View {
			t.Errorf("%s: message %d: From %d, View %d", what, i, m.From, m.View)
		}
	}
}

func hear(t *testing.T, what string, r api.Replica, m api.Message) outcome {
	t.Helper()
	return watched(t, what, r, m, Hear)
}

func take(t *testing.T, what string, r api.Replica, s string) outcome {
	t.Helper()
	return watched(t, what, r, api.Message{}, func(r api.Replica, _ api.Message) (api.Replica, []api.Message, api.Errno) {
		return Take(r, s)
	})
}

func tick(t *testing.T, what string, r api.Replica) outcome {
	t.Helper()
	return watched(t, what, r, api.Message{}, func(r api.Replica, _ api.Message) (api.Replica, []api.Message, api.Errno) {
		return Tick(r)
	})
}

func alarm(t *testing.T, what string, r api.Replica) outcome {
	t.Helper()
	return watched(t, what, r, api.Message{}, func(r api.Replica, _ api.Message) (api.Replica, []api.Message, api.Errno) {
		return Alarm(r)
	})
}

// expect an outcome: the replica then, and what it sends.
func expect(t *testing.T, what string, o outcome, r api.Replica, sent ...api.Message) {
	t.Helper()
	if o.code != api.OK {
		t.Errorf("%s: refused with %d", what, int(o.code))
		return
	}
	if !same(o.r, r) {
		t.Errorf("%s: the replica then is\n%s\nnot\n%s", what, told(o.r, false), told(r, false))
	}
	if told(o.sent, false) != told(append([]api.Message{}, sent...), false) {
		t.Errorf("%s: it sends\n%s\nnot\n%s", what, told(o.sent, false), told(sent, false))
	}
}

// refused: with what?
func refused(t *testing.T, what string, o outcome, want api.Errno) {
	t.Helper()
	if o.code != want {
		t.Errorf("%s: answered %d, not %d", what, int(o.code), int(want))
	}
}

// toOthers of a replica, by their places: a message.
func toOthers(me int, m api.Message) []api.Message {
	var l []api.Message
	for _, to := range [][]int{{1, 2}, {0, 2}, {0, 1}}[me] {
		m.From, m.To = me, to
		l = append(l, m)
	}
	return l
}

// leads: the messages of who leads on.
func leads(me, view int, log []string, commit int) []api.Message {
	return toOthers(me, api.Message{Kind: api.Lead, View: view, Commit: commit, Log: log})
}

// wishes: the messages of who wants a view.
func wishes(me, view int) []api.Message {
	return toOthers(me, api.Message{Kind: api.Want, View: view})
}

// badEntries: each refusal of an entry.
func badEntries() map[string]api.Errno {
	return map[string]api.Errno{
		"":                                      api.ErrShort,
		"abc":                                   api.ErrShort,
		"\x01\x04\x00\x00\x00\x00\x00\x01\x00z": api.ErrForm,
		"\x05\x04\x00\x00\x00\x00\x00\x01\x00":  api.ErrRange,
		"\x01\x07\x00\x00\x00\x00\x00\x01\x00":  api.ErrKind,
		"\x01\x01\x00\x00\x00\x00\x00\x01\x09123456789": api.ErrSize,
		strings.Repeat("\x01", api.MaxEntry+1):          api.ErrSize,
		strings.Repeat("\x01", 1<<17):                   api.ErrSize,
	}
}
