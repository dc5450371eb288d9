package volume

import (
	"math"
	"reflect"
	"slices"
	"strings"
	"testing"

	"sculling/api"
)

const mark = "spare room" // longer than any sector

// roomy: a list with spare room behind its elements, marks in it.
func roomy(l ...string) []string {
	room := append(slices.Clone(l), mark, mark, mark)
	return room[:len(l):len(room)]
}

// roomySnaps: snapshots with spare room behind them, a marked list in it.
func roomySnaps(l ...[]string) [][]string {
	room := append(slices.Clone(l), []string{mark}, []string{mark})
	return room[:len(l):len(room)]
}

// six sectors that begin alike.
func six(s string) []string {
	return roomy(s+"0", s+"1", s+"2", s+"3", s+"4", s+"5")
}

// with so many snapshots.
func with(snaps int) api.Volume {
	l := [][]string{}
	for i := range snaps {
		l = append(l, six(string(rune('a'+i))))
	}
	return api.Volume{Now: six("now"), Snaps: roomySnaps(l...)}
}

// whole: all of a volume, in memory of its own, spare room too.
func whole(v api.Volume) [][]string {
	l := [][]string{slices.Clone(v.Now[:cap(v.Now)])}
	for _, s := range v.Snaps[:cap(v.Snaps)] {
		l = append(l, slices.Clone(s[:cap(s)]))
	}
	return l
}

// same elements? An empty list may be nil or not.
func same(a, b api.Volume) bool {
	return slices.Equal(a.Now, b.Now) && slices.EqualFunc(a.Snaps, b.Snaps, slices.Equal[[]string])
}

// lists of a volume that hold sectors.
func lists(v api.Volume) [][]string {
	return append([][]string{v.Now}, v.Snaps...)
}

// spoil writes over a list, its spare room too.
func spoil(l []string) {
	for i := range l[:cap(l)] {
		l[:cap(l)][i] = "spoilt"
	}
}

// apart: nothing of got is shared with was, nor its lists with each other.
func apart(t *testing.T, what string, was, got api.Volume) {
	t.Helper()
	before := whole(was)
	all := append([][]string{got.Now}, got.Snaps[:cap(got.Snaps)]...)
	for i, l := range all {
		spoil(l)
		for j, other := range all[i+1:] {
			if slices.Contains(other[:cap(other)], "spoilt") {
				t.Errorf("%s: the lists %d and %d of the answer share memory", what, i, i+1+j)
			}
		}
	}
	for i := range got.Snaps[:cap(got.Snaps)] {
		got.Snaps[:cap(got.Snaps)][i] = []string{"spoilt"}
	}
	if !reflect.DeepEqual(before, whole(was)) {
		t.Errorf("%s: the answer shares memory with what was handed in", what)
	}
}

// P2.1

func TestNewIsEmptySectors(t *testing.T) {
	v := New()
	if !same(v, api.Volume{Now: []string{"", "", "", "", "", ""}}) {
		t.Errorf("New() = %q", v)
	}
	if len(v.Now) != api.Sectors || Check(v) != api.OK {
		t.Errorf("New() has %d sectors, Check: %v", len(v.Now), Check(v))
	}
	apart(t, "New", v, New())
}

// volumesThatMayNotBe, each one step beside one that may.
func volumesThatMayNotBe() map[string]api.Volume {
	long := strings.Repeat("x", api.MaxSector+1)
	m := map[string]api.Volume{
		"nothing":             {},
		"five sectors":        {Now: make([]string, api.Sectors-1)},
		"seven sectors":       {Now: make([]string, api.Sectors+1)},
		"empty list":          {Now: roomy()},
		"room for six":        {Now: make([]string, 0, api.Sectors)},
		"snapshots alone":     {Snaps: [][]string{six("a")}},
		"a snapshot too many": with(api.MaxSnaps + 1),
		"many snapshots":      with(100),
		"runes, too long":     {Now: []string{"", "ééééé", "", "", "", ""}}, // 5 runes, but 10 bytes
	}
	for i := range api.Sectors {
		v := New()
		v.Now[i] = long
		m["too long now at "+string(rune('0'+i))] = v
	}
	for i := range api.MaxSnaps {
		place := string(rune('0' + i))
		v := with(api.MaxSnaps)
		v.Snaps[i] = nil
		m["no sectors in snapshot "+place] = v
		v = with(api.MaxSnaps)
		v.Snaps[i] = v.Snaps[i][:api.Sectors-1]
		m["five sectors in snapshot "+place] = v
		v = with(api.MaxSnaps)
		v.Snaps[i] = append(v.Snaps[i], "")
		m["seven sectors in snapshot "+place] = v
		for j := range api.Sectors {
			v = with(api.MaxSnaps)
			v.Snaps[i][j] = long
			m["too long in snapshot "+place+" at "+string(rune('0'+j))] = v
		}
	}
	return m
}

func TestCheckTakesWhatMayBe(t *testing.T) {
	full := strings.Repeat("\xff", api.MaxSector)
	fulls := func() []string { return slices.Repeat([]string{full}, api.Sectors) }
	for i, v := range []api.Volume{
		New(),
		{Now: make([]string, api.Sectors), Snaps: [][]string{}},
		with(0), with(1), with(2), with(api.MaxSnaps),
		{Now: fulls(), Snaps: [][]string{fulls(), fulls(), fulls()}},
		{Now: []string{"\x00", "éééé", "", "12345678", "\n", "\xff"}},
	} {
		before := whole(v)
		if e := Check(v); e != api.OK {
			t.Errorf("%d: Check(%q) = %v, want OK", i, v, e)
		}
		if !reflect.DeepEqual(before, whole(v)) {
			t.Errorf("%d: Check changed what it was given", i)
		}
	}
}

func TestCheckRefusesWhatMayNotBe(t *testing.T) {
	for what, v := range volumesThatMayNotBe() {
		before := whole(v)
		if e := Check(v); e != api.ErrState {
			t.Errorf("Check of %s = %v, want ErrState", what, e)
		}
		if !reflect.DeepEqual(before, whole(v)) {
			t.Errorf("Check of %s changed it", what)
		}
	}
}

func TestCopyIsTheSame(t *testing.T) {
	l := volumesThatMayNotBe() // a copy is made of these, too
	l["new"], l["one"], l["most"] = New(), with(1), with(api.MaxSnaps)
	l["empty with room"] = api.Volume{Now: roomy(), Snaps: roomySnaps()}
	l["empty snapshots"] = api.Volume{Snaps: [][]string{nil, {}, roomy()}}
	twice := six("a")
	l["one list four times"] = api.Volume{Now: twice, Snaps: [][]string{twice, twice, twice}}
	for what, v := range l {
		before := whole(v)
		got := Copy(v)
		if !same(v, got) {
			t.Errorf("Copy of %s = %q, want %q", what, got, v)
		}
		if !reflect.DeepEqual(before, whole(v)) {
			t.Errorf("Copy of %s changed it", what)
		}
		apart(t, "Copy of "+what, v, got)
	}
}

// P2.2

var kinds = []int{api.Write, api.Trim, api.Read, api.Snap}

func TestCheckOpTakesWhatMayBe(t *testing.T) {
	for at := range api.Sectors {
		for _, o := range []api.Op{
			{Kind: api.Write, At: at},
			{Kind: api.Write, At: at, Data: "x"},
			{Kind: api.Write, At: at, Data: strings.Repeat("x", api.MaxSector)},
			{Kind: api.Write, At: at, Data: "éééé"},
			{Kind: api.Write, At: at, Data: strings.Repeat("\x00", api.MaxSector)},
			{Kind: api.Trim, At: at},
			{Kind: api.Read, At: at},
			{Kind: api.Read, At: at, Snap: 1},
			{Kind: api.Read, At: at, Snap: api.MaxSnaps},
			{Kind: api.Snap},
		} {
			if e := CheckOp(o); e != api.OK {
				t.Errorf("CheckOp(%+v) = %v, want OK", o, e)
			}
		}
	}
}

func TestCheckOpRefusesWithTheFirst(t *testing.T) {
	long := strings.Repeat("x", api.MaxSector+1)
	for _, kind := range []int{0, -1, 5, 6, 1 + 1<<32, math.MinInt, math.MaxInt} {
		for _, o := range []api.Op{
			{Kind: kind},
			{Kind: kind, At: -1},
			{Kind: kind, Snap: 9},
			{Kind: kind, Snap: 1, Data: long},
		} {
			if e := CheckOp(o); e != api.ErrKind {
				t.Errorf("CheckOp(%+v) = %v, want ErrKind", o, e)
			}
		}
	}
	for _, kind := range kinds {
		for _, data := range []string{"", "x", long} {
			for _, n := range []int{-1, math.MinInt, math.MaxInt, 1 << 32} {
				for _, o := range []api.Op{
					{Kind: kind, At: n, Data: data},
					{Kind: kind, Snap: n, Data: data},
					{Kind: kind, At: api.Sectors, Data: data},
					{Kind: kind, At: api.Sectors, Snap: 1, Data: data},
					{Kind: kind, Snap: api.MaxSnaps + 1, Data: data},
					{Kind: kind, At: 1, Snap: api.MaxSnaps + 1, Data: data},
				} {
					if e := CheckOp(o); e != api.ErrRange {
						t.Errorf("CheckOp(%+v) = %v, want ErrRange", o, e)
					}
				}
			}
		}
	}
	for _, c := range []struct {
		o    api.Op
		want api.Errno
	}{
		{api.Op{Kind: api.Write, Snap: 1}, api.ErrForm},
		{api.Op{Kind: api.Write, Snap: api.MaxSnaps, Data: "x"}, api.ErrForm},
		{api.Op{Kind: api.Write, Snap: 1, Data: long}, api.ErrForm},
		{api.Op{Kind: api.Trim, Snap: 1}, api.ErrForm},
		{api.Op{Kind: api.Trim, Data: "x"}, api.ErrForm},
		{api.Op{Kind: api.Trim, Data: long}, api.ErrForm},
		{api.Op{Kind: api.Read, Data: "x"}, api.ErrForm},
		{api.Op{Kind: api.Read, Snap: 1, Data: "\x00"}, api.ErrForm},
		{api.Op{Kind: api.Read, Data: long}, api.ErrForm},
		{api.Op{Kind: api.Snap, At: 1}, api.ErrForm},
		{api.Op{Kind: api.Snap, At: api.Sectors - 1}, api.ErrForm},
		{api.Op{Kind: api.Snap, Snap: 1}, api.ErrForm},
		{api.Op{Kind: api.Snap, Data: "x"}, api.ErrForm},
		{api.Op{Kind: api.Snap, Data: long}, api.ErrForm},
		{api.Op{Kind: api.Write, Data: long}, api.ErrSize},
		{api.Op{Kind: api.Write, At: 5, Data: "ééééé"}, api.ErrSize},
		{api.Op{Kind: api.Write, Data: strings.Repeat("x", 1<<16)}, api.ErrSize},
	} {
		if e := CheckOp(c.o); e != c.want {
			t.Errorf("CheckOp(%+v) = %v, want %v", c.o, e, c.want)
		}
	}
}

// P2.3

// done: what Do answers, if it refuses nothing and leaves what it was given.
func done(t *testing.T, v api.Volume, o api.Op) (api.Volume, api.Reply) {
	t.Helper()
	before := whole(v)
	next, r, e := Do(v, o)
	if e != api.OK {
		t.Fatalf("Do %+v: %v", o, e)
	}
	if !reflect.DeepEqual(before, whole(v)) {
		t.Fatalf("Do %+v changed what it was given", o)
	}
	if e := Check(next); e != api.OK {
		t.Fatalf("Do %+v leaves a volume that may not be: %q", o, next)
	}
	return next, r
}

func TestDoWritesAndTrimsOneSector(t *testing.T) {
	for snaps := range api.MaxSnaps + 1 {
		for at := range api.Sectors {
			for _, data := range []string{"", "x", "\xff\x00", strings.Repeat("y", api.MaxSector)} {
				want := with(snaps)
				want.Now[at] = data
				got, r := done(t, with(snaps), api.Op{Kind: api.Write, At: at, Data: data})
				if !same(got, want) || r != (api.Reply{}) {
					t.Errorf("Write %q at %d = %q, %+v, want %q", data, at, got, r, want)
				}
			}
			want := with(snaps)
			want.Now[at] = ""
			got, r := done(t, with(snaps), api.Op{Kind: api.Trim, At: at})
			if !same(got, want) || r != (api.Reply{}) {
				t.Errorf("Trim at %d = %q, %+v, want %q", at, got, r, want)
			}
		}
	}
}

func TestDoReads(t *testing.T) {
	for snaps := range api.MaxSnaps + 1 {
		for at := range api.Sectors {
			for snap := range api.MaxSnaps + 1 {
				v := with(snaps)
				want := api.Reply{Code: api.ErrNone}
				if snap <= snaps {
					want = api.Reply{Data: lists(v)[snap][at]}
				}
				got, r := done(t, v, api.Op{Kind: api.Read, At: at, Snap: snap})
				if r != want {
					t.Errorf("Read %d of snapshot %d of %d: %+v, want %+v", at, snap, snaps, r, want)
				}
				if !same(got, v) {
					t.Errorf("Read %d of snapshot %d of %d leaves %q", at, snap, snaps, got)
				}
			}
		}
	}
}

func TestDoSnaps(t *testing.T) {
	for snaps := range api.MaxSnaps {
		v := with(snaps)
		want := api.Volume{Now: v.Now, Snaps: append(slices.Clone(v.Snaps), v.Now)}
		got, r := done(t, v, api.Op{Kind: api.Snap})
		if r != (api.Reply{N: snaps + 1}) || !same(got, want) {
			t.Errorf("Snap with %d there: %+v, %q, want %q", snaps, r, got, want)
		}
	}
	v := with(api.MaxSnaps)
	got, r := done(t, v, api.Op{Kind: api.Snap})
	if r != (api.Reply{Code: api.ErrFull}) || !same(got, v) {
		t.Errorf("Snap with all there: %+v, %q, want ErrFull and %q", r, got, v)
	}
}

func TestSnapshotsStayAsTheyWere(t *testing.T) {
	v := New()
	for _, data := range []string{"one", "two", "three"} {
		v, _ = done(t, v, api.Op{Kind: api.Write, At: 2, Data: data})
		v, _ = done(t, v, api.Op{Kind: api.Snap})
	}
	v, _ = done(t, v, api.Op{Kind: api.Trim, At: 2})
	for snap, want := range []string{"", "one", "two", "three"} {
		if _, r := done(t, v, api.Op{Kind: api.Read, At: 2, Snap: snap}); r != (api.Reply{Data: want}) {
			t.Errorf("snapshot %d: %+v, want %q", snap, r, want)
		}
	}
}

func TestDoRefuses(t *testing.T) {
	refused := func(what string, v api.Volume, o api.Op, want api.Errno) {
		t.Helper()
		before := whole(v)
		next, r, e := Do(v, o)
		if e != want || len(next.Now) != 0 || len(next.Snaps) != 0 || r != (api.Reply{}) {
			t.Errorf("Do %+v to %s = %q, %+v, %v, want nothing and %v", o, what, next, r, e, want)
		}
		if !reflect.DeepEqual(before, whole(v)) {
			t.Errorf("Do %+v changed %s", o, what)
		}
	}
	wrong := []struct {
		o    api.Op
		want api.Errno
	}{
		{api.Op{}, api.ErrKind},
		{api.Op{Kind: 5}, api.ErrKind},
		{api.Op{Kind: api.Write, At: -1}, api.ErrRange},
		{api.Op{Kind: api.Trim, At: api.Sectors}, api.ErrRange},
		{api.Op{Kind: api.Read, Snap: api.MaxSnaps + 1}, api.ErrRange},
		{api.Op{Kind: api.Read, Snap: -1}, api.ErrRange},
		{api.Op{Kind: api.Snap, At: 1}, api.ErrForm},
		{api.Op{Kind: api.Trim, Data: "x"}, api.ErrForm},
		{api.Op{Kind: api.Write, Data: "123456789"}, api.ErrSize},
	}
	for _, c := range wrong {
		for snaps := range api.MaxSnaps + 1 {
			refused("a volume that may be", with(snaps), c.o, c.want)
		}
	}
	for what, v := range volumesThatMayNotBe() {
		for _, kind := range kinds {
			refused(what, v, api.Op{Kind: kind}, api.ErrState)
		}
		for _, c := range wrong { // what Check refuses comes first
			refused(what, v, c.o, api.ErrState)
		}
	}
}

func TestDoAnswersInNewMemory(t *testing.T) {
	for snaps := range api.MaxSnaps + 1 {
		for _, o := range []api.Op{
			{Kind: api.Write, At: 1, Data: "x"},
			{Kind: api.Trim, At: 1},
			{Kind: api.Read, At: 1},
			{Kind: api.Read, At: 1, Snap: 1},
			{Kind: api.Read, At: 1, Snap: api.MaxSnaps},
			{Kind: api.Snap},
		} {
			v := with(snaps)
			got, _ := done(t, v, o)
			apart(t, "Do", v, got)
			one := six("a") // handed in as all of them
			v = api.Volume{Now: one, Snaps: slices.Repeat([][]string{one}, snaps)}
			got, _ = done(t, v, o)
			apart(t, "Do with one list", v, got)
		}
	}
}
