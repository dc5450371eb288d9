package stage

import (
	"encoding/binary"
	"hash/adler32"
	"math"
	"reflect"
	"slices"
	"strings"
	"testing"

	"sculling/api"
	"sculling/machine"
)

const mark = "spare room"

// entry of a request that may be: a Write of data.
func entry(client, num int, data string) string {
	s, e := machine.Encode(api.Request{Client: client, Num: num, Op: api.Op{Kind: api.Write, At: num % api.Sectors, Data: data}})
	if e != api.OK {
		panic(e)
	}
	return s
}

// entries: so many that may be, no two alike, some of them as long as they may be.
func entries(many int) []string {
	var l []string
	for i := range many {
		l = append(l, entry(1+i%api.MaxClient, api.MaxNum-i, strings.Repeat("\xff", i%(api.MaxSector+1))))
	}
	return l
}

// roomy: a list with marks in its spare room.
func roomy(l ...string) []string {
	room := append(slices.Clone(l), mark, mark, mark)
	return room[:len(l):len(room)]
}

// untouched: ask it behind a call whether a list is, to its spare room, as it was ahead of that.
func untouched(t *testing.T, what string, l []string) func() {
	t.Helper()
	was := slices.Clone(l[:cap(l)])
	return func() {
		t.Helper()
		if !slices.Equal(was, l[:cap(l)]) {
			t.Errorf("%s: what was handed in is not as it was", what)
		}
	}
}

// apart: a list that came out shares no memory with one that went in, or came out, too.
func apart(t *testing.T, what string, in, out []string) {
	t.Helper()
	asked := untouched(t, what+": memory is shared", in)
	for i := range out[:cap(out)] {
		out[:cap(out)][i] = "spoilt"
	}
	asked()
}

// same? An empty list may be nil or not.
func same(a, b api.Kept) bool {
	logs := slices.Equal(a.Log, b.Log)
	a.Log, b.Log = nil, nil
	return logs && reflect.DeepEqual(a, b)
}

// nothing at all is kept?
func nothing(k api.Kept) bool { return same(k, api.Kept{}) }

// keptThatMayBe: the edges of views, commits and logs.
func keptThatMayBe() []api.Kept {
	var l []api.Kept
	for _, many := range []int{0, 1, 2, 9, api.MaxLog - 1, api.MaxLog} {
		log := entries(many)
		for _, commit := range []int{0, many / 2, many} {
			for _, view := range []int{0, 1, 2, 255, 256, 65536, api.MaxView - 1, api.MaxView} {
				for _, normal := range []int{0, view / 2, view} {
					l = append(l, api.Kept{View: view, Normal: normal, Log: roomy(log...), Commit: commit})
				}
				l = append(l, api.Kept{View: view, Normal: view, Calm: true, Log: roomy(log...), Commit: commit})
			}
		}
	}
	return append(l, api.Kept{}, api.Kept{Calm: true}, api.Kept{Log: []string{}})
}

// refusal: what may not be kept, and what refuses it.
type refusal struct {
	k    api.Kept
	want api.Errno
}

// wrongEntries: each refusal of an entry.
func wrongEntries() []struct {
	s    string
	want api.Errno
} {
	return []struct {
		s    string
		want api.Errno
	}{
		{"", api.ErrShort},
		{"abc", api.ErrShort},
		{"\x01\x04\x00\x00\x00\x00\x00\x01", api.ErrShort},
		{"\x01\x04\x00\x00\x40\x00\x00\x01\x00", api.ErrForm},
		{"\x01\x04\x00\x00\x00\x00\x00\x01\x00z", api.ErrForm},
		{"\x05\x04\x00\x00\x00\x00\x00\x01\x00", api.ErrRange},
		{"\x01\x04\x00\x00\x00\x00\x00\x00\x00", api.ErrRange},
		{"\x01\x07\x00\x00\x00\x00\x00\x01\x00", api.ErrKind},
		{"\x01\x01\x00\x00\x00\x00\x00\x01\x09123456789", api.ErrSize},
		{strings.Repeat("\x01", api.MaxEntry+1), api.ErrSize},
		{strings.Repeat("\x01", 255), api.ErrSize},
	}
}

// wrongNumbers: views, commits and logs that may not be, each refusal, and which comes first.
func wrongNumbers() []refusal {
	full, over, bad := entries(api.MaxLog), entries(api.MaxLog+1), []string{"abc"}
	l := []refusal{
		{api.Kept{View: 1, Calm: true}, api.ErrRange},
		{api.Kept{View: api.MaxView, Normal: api.MaxView - 1, Calm: true}, api.ErrRange},
		{api.Kept{View: 1, Normal: 2}, api.ErrRange},
		{api.Kept{View: 1, Normal: 2, Calm: true}, api.ErrRange},
		{api.Kept{View: api.MaxView, Normal: api.MaxView + 1}, api.ErrRange},
		{api.Kept{View: api.MaxView + 1}, api.ErrRange},
		{api.Kept{View: api.MaxView + 1, Normal: api.MaxView + 1, Calm: true}, api.ErrRange},
		{api.Kept{Log: over}, api.ErrSize},
		{api.Kept{Calm: true, Log: over, Commit: api.MaxLog + 1}, api.ErrSize},
		{api.Kept{Log: make([]string, 1<<17)}, api.ErrSize}, // ahead of what Decode refuses
		{api.Kept{Log: full, Commit: api.MaxLog + 1}, api.ErrRange},
		{api.Kept{Commit: 1}, api.ErrRange},
		{api.Kept{Log: roomy(full[:2]...), Commit: 3}, api.ErrRange}, // spare room holds no entries
		{api.Kept{View: -1, Log: over, Commit: -1}, api.ErrRange},
		{api.Kept{View: 1, Calm: true, Log: over}, api.ErrRange},
		{api.Kept{View: 1, Normal: 2, Log: over}, api.ErrRange},
		{api.Kept{Log: over, Commit: -1}, api.ErrSize},
		{api.Kept{Log: bad, Commit: 2}, api.ErrRange},
		{api.Kept{Log: bad, Commit: -1}, api.ErrRange},
		{api.Kept{View: 1, Calm: true, Log: bad}, api.ErrRange},
	}
	for _, n := range []int{-1, math.MinInt, math.MaxInt, 1 << 32, api.MaxGen, api.MaxGen + 1} {
		l = append(l,
			refusal{api.Kept{View: n}, api.ErrRange},
			refusal{api.Kept{View: n, Normal: n}, api.ErrRange},
			refusal{api.Kept{View: n, Normal: n, Calm: true}, api.ErrRange},
			refusal{api.Kept{View: 3, Normal: n}, api.ErrRange},
			refusal{api.Kept{View: 3, Normal: n, Calm: true}, api.ErrRange},
			refusal{api.Kept{Log: full[:3], Commit: n}, api.ErrRange},
			refusal{api.Kept{Log: over, Commit: n}, api.ErrSize},
		)
	}
	return l
}

// keptThatMayNotBe: wrong numbers, and wrong entries, the first one of which is told.
func keptThatMayNotBe() []refusal {
	l := wrongNumbers()
	good := entries(api.MaxLog - 1)
	for i, c := range wrongEntries() {
		worse := wrongEntries()[(i+5)%len(wrongEntries())]
		for _, log := range [][]string{
			{c.s},
			append(slices.Clone(good), c.s),
			append([]string{c.s}, good...),
			{good[0], c.s, worse.s, good[1]},
		} {
			l = append(l, refusal{api.Kept{Log: log}, c.want})
			l = append(l, refusal{api.Kept{View: 4, Normal: 4, Calm: true, Log: log, Commit: len(log)}, c.want})
		}
	}
	return l
}

// P4.1

func TestCheckTakesWhatMayBe(t *testing.T) {
	for _, k := range keptThatMayBe() {
		asked := untouched(t, "Check", k.Log)
		if e := Check(k); e != api.OK {
			t.Errorf("Check(%+v) = %v, want OK", k, e)
		}
		asked()
	}
}

func TestCheckRefusesWithTheFirst(t *testing.T) {
	for _, c := range keptThatMayNotBe() {
		asked := untouched(t, "Check", c.k.Log)
		if e := Check(c.k); e != c.want {
			t.Errorf("Check(%+v) = %v, want %v", c.k, e, c.want)
		}
		asked()
	}
}

func TestCopyIsTheSameInNewMemory(t *testing.T) {
	l := keptThatMayBe()
	for _, c := range keptThatMayNotBe() { // no struct is excepted
		l = append(l, c.k)
	}
	l = append(l, api.Kept{Log: roomy()}, api.Kept{Log: make([]string, 0, 5)})
	for _, k := range l {
		asked := untouched(t, "Copy", k.Log)
		got := Copy(k)
		if !same(got, k) {
			t.Errorf("Copy(%+v) = %+v", k, got)
		}
		asked()
		again := Copy(k)
		apart(t, "Copy", k.Log, got.Log)
		if !same(again, k) {
			t.Errorf("two copies share memory: %+v, want %+v", again, k)
		}
	}
}

// P4.2

// numbers as bytes, not by the program's own codec.
func numbers(l ...uint32) string {
	var b []byte
	for _, n := range l {
		b = binary.BigEndian.AppendUint32(b, n)
	}
	return string(b)
}

// texts as bytes, not by the program's own codec.
func texts(l ...string) string {
	s := ""
	for _, x := range l {
		s += string([]byte{byte(len(x))}) + x
	}
	return s
}

// sealed bytes.
func sealed(body string) string {
	return numbers(adler32.Checksum([]byte(body))) + body
}

// bytesOf what is kept.
func bytesOf(k api.Kept, gen int) string {
	calm := uint32(0)
	if k.Calm {
		calm = 1
	}
	head := numbers(uint32(gen), uint32(k.View), uint32(k.Normal), calm, uint32(k.Commit), uint32(len(k.Log)))
	return sealed(head + texts(k.Log...))
}

func TestEncodeIsByteByByte(t *testing.T) {
	snap := "\x02\x04\x00\x00\x00\x00\x00\x03\x00"
	for _, c := range []struct {
		k    api.Kept
		gen  int
		want string
	}{
		{api.Kept{}, 0, "\x00\x18\x00\x01" + strings.Repeat("\x00", 24)},
		{api.Kept{Calm: true}, 0,
			"\x00\x21\x00\x02" + "\x00\x00\x00\x00" + "\x00\x00\x00\x00" + "\x00\x00\x00\x00" + "\x00\x00\x00\x01" + "\x00\x00\x00\x00" + "\x00\x00\x00\x00"},
		{api.Kept{View: 5, Normal: 3, Log: []string{snap}, Commit: 1}, 258,
			"\x01\xf8\x00\x20" + "\x00\x00\x01\x02" + "\x00\x00\x00\x05" + "\x00\x00\x00\x03" + "\x00\x00\x00\x00" + "\x00\x00\x00\x01" + "\x00\x00\x00\x01" + "\x09" + snap},
	} {
		got, e := Encode(c.k, c.gen)
		if got != c.want || e != api.OK {
			t.Errorf("Encode(%+v, %d) = %q, %v, want %q", c.k, c.gen, got, e, c.want)
		}
	}
}

func TestEncodeOfAllThatMayBe(t *testing.T) {
	for _, k := range keptThatMayBe() {
		for _, gen := range []int{0, 1, 255, 256, 1 << 24, api.MaxGen - 1, api.MaxGen} {
			asked := untouched(t, "Encode", k.Log)
			got, e := Encode(k, gen)
			if want := bytesOf(k, gen); got != want || e != api.OK {
				t.Errorf("Encode(%+v, %d) = %q, %v, want %q", k, gen, got, e, want)
			}
			if len(got) > api.MaxBytes {
				t.Errorf("Encode(%+v, %d) has %d bytes", k, gen, len(got))
			}
			asked()
		}
	}
}

func TestEncodeRefuses(t *testing.T) {
	wrongGens := []int{-1, math.MinInt, api.MaxGen + 1, 1 << 32, math.MaxInt}
	for _, gen := range wrongGens {
		for _, k := range []api.Kept{{}, {Calm: true}, {View: 2, Log: entries(3), Commit: 3}} {
			if got, e := Encode(k, gen); got != "" || e != api.ErrRange {
				t.Errorf("Encode(%+v, %d) = %q, %v, want nothing and ErrRange", k, gen, got, e)
			}
		}
	}
	for _, c := range keptThatMayNotBe() {
		for _, gen := range append(wrongGens, 0, 7, api.MaxGen) { // what Check refuses comes first
			asked := untouched(t, "Encode", c.k.Log)
			if got, e := Encode(c.k, gen); got != "" || e != c.want {
				t.Errorf("Encode(%+v, %d) = %q, %v, want nothing and %v", c.k, gen, got, e, c.want)
			}
			asked()
		}
	}
}

// P4.3

func TestDecodeReadsWhatIsKept(t *testing.T) {
	for _, k := range keptThatMayBe() {
		for _, gen := range []int{0, 1, 256, api.MaxGen - 1, api.MaxGen} {
			got, g, e := Decode(bytesOf(k, gen))
			if !same(got, k) || g != gen || e != api.OK {
				t.Errorf("Decode of %+v, %d = %+v, %d, %v", k, gen, got, g, e)
			}
		}
	}
}

func TestDecodeAnswersInNewMemory(t *testing.T) {
	k := api.Kept{View: 2, Log: entries(7), Commit: 3}
	s := bytesOf(k, 4)
	first, _, _ := Decode(s)
	second, _, _ := Decode(s)
	apart(t, "Decode", second.Log, first.Log)
	if !same(second, k) {
		t.Errorf("Decode = %+v, want %+v", second, k)
	}
}

// undecoded: Decode refuses bytes so.
func undecoded(t *testing.T, s string, want api.Errno) {
	t.Helper()
	k, gen, e := Decode(s)
	if !nothing(k) || gen != 0 || e != want {
		t.Errorf("Decode(%q) = %+v, %d, %v, want nothing and %v", s, k, gen, e, want)
	}
}

func TestDecodeRefusesWhatIsCut(t *testing.T) {
	for _, k := range []api.Kept{{Calm: true}, {View: 3, Normal: 1, Log: entries(4), Commit: 2}, {Log: entries(api.MaxLog)}} {
		s := bytesOf(k, 9)
		for i := range len(s) {
			want := api.ErrSum
			if i < 4 {
				want = api.ErrShort
			}
			undecoded(t, s[:i], want)
		}
		body := s[4:]
		for i := range len(body) { // cut ahead of its seal
			undecoded(t, sealed(body[:i]), api.ErrShort)
		}
	}
}

func TestDecodeRefusesWhatIsLeft(t *testing.T) {
	for _, k := range []api.Kept{{Calm: true}, {View: 3, Normal: 1, Log: entries(4), Commit: 2}, {Log: entries(api.MaxLog)}} {
		s := bytesOf(k, 9)
		for _, more := range []string{"\x00", "z", texts(entry(1, 1, "x")), s} {
			undecoded(t, s+more, api.ErrSum)
			undecoded(t, sealed(s[4:]+more), api.ErrForm)
		}
	}
}

func TestDecodeRefusesAnotherByte(t *testing.T) {
	for _, k := range []api.Kept{{Calm: true}, {View: 300, Normal: 300, Calm: true, Log: entries(12), Commit: 5}} {
		s := bytesOf(k, 70000)
		for i := range len(s) {
			for _, by := range []byte{1, 2, 0x10, 0x80, 0xff} {
				undecoded(t, s[:i]+string([]byte{s[i] ^ by})+s[i+1:], api.ErrSum)
			}
		}
		undecoded(t, s[2:4]+s[:2]+s[4:], api.ErrSum) // the halves of the seal the other way round
	}
}

func TestDecodeRefusesWhatIsTooLong(t *testing.T) {
	body := bytesOf(api.Kept{Log: entries(5)}, 1)[4:]
	fill := func(size int) string { return body + strings.Repeat("\x00", size-4-len(body)) }
	for _, c := range []struct {
		size       int
		bare, seal api.Errno
	}{
		{api.MaxBytes - 1, api.ErrSum, api.ErrForm},
		{api.MaxBytes, api.ErrSum, api.ErrForm},
		{api.MaxBytes + 1, api.ErrSize, api.ErrSize},
		{1 << 20, api.ErrSize, api.ErrSize},
	} {
		undecoded(t, sealed(fill(c.size)), c.seal)
		undecoded(t, "\xff\xff\xff\xff"+fill(c.size), c.bare)
	}
	long := slices.Repeat([]string{strings.Repeat("x", 65)}, api.MaxLog)
	head := numbers(0, 0, 0, 0, 0, api.MaxLog)
	most := head + texts(long[:api.MaxLog-1]...) + texts(strings.Repeat("x", 77)) // all is read, and just MaxBytes
	if len(sealed(most)) != api.MaxBytes {
		t.Fatalf("%d bytes", len(sealed(most)))
	}
	undecoded(t, sealed(most), api.ErrSize) // of an entry
	last := head + texts(long[:api.MaxLog-1]...) + texts(strings.Repeat("x", 78))
	undecoded(t, sealed(last), api.ErrSize)
	undecoded(t, sealed("\xff"+last[1:]), api.ErrSize) // ahead of a number above MaxGen
}

func TestDecodeRefusesWithTheFirst(t *testing.T) {
	const above = api.MaxGen + 1
	good := entry(1, 1, "x")
	for _, c := range []struct {
		body string
		want api.Errno
	}{
		{"", api.ErrShort},
		{numbers(1, 2, 3), api.ErrShort},
		{numbers(above), api.ErrForm}, // ahead of no View
		{numbers(above)[:3], api.ErrShort},
		{numbers(0, above), api.ErrForm},
		{numbers(0, 0, above), api.ErrForm},
		{numbers(0, 0, 0, above), api.ErrForm},
		{numbers(0, 0, 0, 0, above), api.ErrForm},
		{numbers(0, 0, 0, 0, 0, above), api.ErrForm},
		{numbers(math.MaxUint32, 0, 0, 0, 0, 0), api.ErrForm},
		{numbers(0, 0, 0, 2), api.ErrShort}, // no Commit, ahead of what the fourth one is
		{numbers(0, 0, 0, 2, 0), api.ErrShort},
		{numbers(0, 0, 0, 2, 0, 0), api.ErrForm},
		{numbers(0, 0, 0, 256, 0, 0), api.ErrForm},
		{numbers(0, 0, 0, api.MaxGen, 0, 0), api.ErrForm},
		{numbers(0, 0, 0, 0, 0, api.MaxLog), api.ErrShort},
		{numbers(0, 0, 0, 0, 0, api.MaxLog+1), api.ErrForm}, // ahead of texts that are not there
		{numbers(0, 0, 0, 0, 0, api.MaxGen), api.ErrForm},
		{numbers(0, 0, 0, 2, 0, 1), api.ErrForm}, // the fourth one, ahead of no text
		{numbers(0, 0, 0, 0, 0, api.MaxLog+1) + texts(entries(api.MaxLog+1)...), api.ErrForm},
		{numbers(0, api.MaxGen, 0, 2, 0, 0), api.ErrForm},           // the fourth one, ahead of View
		{numbers(0, api.MaxGen, 0, 0, 0, 1), api.ErrShort},          // no text, ahead of View
		{numbers(0, 1, 2, 0, 0, 2) + "\x01a\x05abcd", api.ErrShort}, // the second text, ahead of the first entry
		{numbers(0, 1, 2, 0, 0, 1) + "\x01ab", api.ErrForm},         // a byte is left, ahead of Normal and of the entry
		{numbers(0, 1, 2, 0, 0, 1) + "\x01a", api.ErrRange},         // Normal, ahead of the entry
		{numbers(0, api.MaxView+1, 0, 0, 0, 0), api.ErrRange},
		{numbers(0, api.MaxGen, api.MaxGen, 1, 0, 0), api.ErrRange},
		{numbers(0, 1, 0, 1, 0, 0), api.ErrRange}, // Calm, and Normal is not View
		{numbers(0, 0, 0, 0, 1, 0), api.ErrRange},
		{numbers(0, 0, 0, 0, 2, 1) + texts("a"), api.ErrRange}, // Commit, ahead of the entry
		{numbers(0, 0, 0, 0, 1, 1) + texts("a"), api.ErrShort},
		{numbers(0, 0, 0, 0, 0, 1) + texts(""), api.ErrShort},
		{numbers(0, 0, 0, 0, 0, 2) + texts(good, good[:4]), api.ErrShort},
		{numbers(0, 0, 0, 0, 0, 2) + texts("\x01\x07"+good[2:], "a"), api.ErrKind}, // the first entry that is refused
		{numbers(api.MaxGen, 0, 0, 0, 0, 1) + texts("\x01\x07"+good[2:]), api.ErrKind},
	} {
		undecoded(t, sealed(c.body), c.want)
		undecoded(t, "\x00\x00\x00\x00"+c.body, api.ErrSum) // whatever they are
	}
	for _, c := range wrongEntries() {
		undecoded(t, sealed(numbers(1, 1, 1, 1, 2, 2)+texts(good, c.s)), c.want)
		undecoded(t, sealed(numbers(1, 1, 1, 1, 2, 2)+texts(c.s, "")), c.want)
	}
	for _, s := range []string{"", "a", "abc", "\xff\xff\xff"} {
		undecoded(t, s, api.ErrShort)
	}
	undecoded(t, "\x00\x00\x00\x01", api.ErrShort) // the seal of nothing
	undecoded(t, "\x00\x00\x00\x00", api.ErrSum)
}

// Whatever Decode takes is, byte by byte, what Encode makes of it; nothing else is taken.
func TestDecodeTakesOneFormAlone(t *testing.T) {
	body := bytesOf(api.Kept{View: 2, Normal: 1, Log: entries(3), Commit: 1}, 5)[4:]
	for i := range len(body) {
		for b := range 256 {
			s := sealed(body[:i] + string([]byte{byte(b)}) + body[i+1:])
			k, gen, e := Decode(s)
			if e != api.OK {
				undecoded(t, s, e)
				continue
			}
			if again, e := Encode(k, gen); again != s || e != api.OK {
				t.Errorf("Decode(%q) = %+v, %d, which is %q, %v", s, k, gen, again, e)
			}
		}
	}
}

// P4.4

func TestNewIsWhatANewReplicaKeeps(t *testing.T) {
	l := New()
	want := []string{sealed(numbers(0, 0, 0, 1, 0, 0)), ""}
	if !slices.Equal(l, want) {
		t.Errorf("New() = %q, want %q", l, want)
	}
	loaded(t, l, api.Kept{Calm: true}, 0, 0)
	again := New()
	apart(t, "New", again, l)
	if !slices.Equal(again, want) {
		t.Errorf("New() = %q, want %q", again, want)
	}
}

// loaded: Load answers so, and leaves what it was given.
func loaded(t *testing.T, l []string, want api.Kept, gen, at int) {
	t.Helper()
	room := roomy(l...)
	asked := untouched(t, "Load", room)
	k, g, a, e := Load(room)
	if !same(k, want) || g != gen || a != at || e != api.OK {
		t.Errorf("Load(%q) = %+v, %d, %d, %v, want %+v, %d, %d", l, k, g, a, e, want, gen, at)
	}
	asked()
	apart(t, "Load", room, k.Log)
}

// unloaded: Load refuses slots so, and leaves what it was given.
func unloaded(t *testing.T, l []string, want api.Errno) {
	t.Helper()
	room := roomy(l...)
	asked := untouched(t, "Load", room)
	k, gen, at, e := Load(room)
	if !nothing(k) || gen != 0 || at != 0 || e != want {
		t.Errorf("Load(%q) = %+v, %d, %d, %v, want nothing and %v", l, k, gen, at, e, want)
	}
	asked()
}

// unreadable: slots that Decode refuses, each in its way; some claim the highest generation.
func unreadable() []string {
	s := bytesOf(api.Kept{View: 1, Log: entries(2)}, api.MaxGen)
	l := []string{
		"", "abc", "\x00\x00\x00\x01", s[:len(s)-1], s + "\x00", "\xff" + s[1:], s[:4] + "\xff" + s[5:],
		sealed(s[4 : len(s)-1]), sealed(s[4:] + "\x00"),
		sealed(numbers(api.MaxGen+1, 0, 0, 1, 0, 0)), // a generation above all
		sealed(numbers(api.MaxGen, 0, 0, 2, 0, 0)),
		sealed(numbers(api.MaxGen, 0, 0, 1, 0, api.MaxLog+1)),
		sealed(numbers(api.MaxGen, 1, 0, 1, 0, 0)),
		sealed(numbers(api.MaxGen, api.MaxView+1, 0, 0, 0, 0)),
		sealed(numbers(api.MaxGen, 0, 0, 0, 1, 0)),
		sealed(s[4:] + strings.Repeat("\x00", api.MaxBytes)),
	}
	for _, c := range wrongEntries() {
		l = append(l, sealed(numbers(api.MaxGen, 0, 0, 1, 0, 1)+texts(c.s)))
	}
	return l
}

func TestLoadTakesTheHigherGeneration(t *testing.T) {
	one := api.Kept{View: 7, Normal: 7, Calm: true, Log: entries(3), Commit: 2}
	two := api.Kept{View: 2, Normal: 1, Log: entries(5), Commit: 5}
	for _, c := range []struct{ first, second, at int }{
		{0, 1, 1}, {1, 0, 0}, {1, 2, 1}, {2, 1, 0}, {0, api.MaxGen, 1}, {api.MaxGen, 0, 0},
		{api.MaxGen - 1, api.MaxGen, 1}, {api.MaxGen, api.MaxGen - 1, 0}, {255, 256, 1}, {256, 255, 0}, {9, 10, 1}, {10, 9, 0},
		{0, 0, 0}, {1, 1, 0}, {256, 256, 0}, {api.MaxGen, api.MaxGen, 0}, // the same: the first one
	} {
		l := []string{bytesOf(one, c.first), bytesOf(two, c.second)}
		if c.at == 0 {
			loaded(t, l, one, c.first, 0)
		} else {
			loaded(t, l, two, c.second, 1)
		}
	}
}

func TestLoadTakesTheOneThatCanBeRead(t *testing.T) {
	for _, bad := range unreadable() {
		for _, gen := range []int{0, 1, api.MaxGen} {
			for _, k := range []api.Kept{{}, {Calm: true}, {View: 4, Normal: 2, Log: entries(api.MaxLog), Commit: 9}} {
				loaded(t, []string{bytesOf(k, gen), bad}, k, gen, 0)
				loaded(t, []string{bad, bytesOf(k, gen)}, k, gen, 1)
			}
		}
	}
}

func TestLoadRefuses(t *testing.T) {
	good := New()[0]
	for _, l := range [][]string{
		nil, {}, {good}, {""}, {good, good, good}, {"", "", ""}, {good, "", ""}, slices.Repeat([]string{good}, 4), make([]string, 1<<16),
	} {
		unloaded(t, l, api.ErrForm)
	}
	if _, _, _, e := Load(nil); e != api.ErrForm {
		t.Errorf("Load(nil): %v, want ErrForm", e)
	}
	for _, first := range unreadable() {
		for _, second := range unreadable() {
			unloaded(t, []string{first, second}, api.ErrLost)
		}
	}
}

// P4.5

// stored: what Store answers, if it refuses nothing, leaves what it was given, and shares no memory with that.
func stored(t *testing.T, l []string, k api.Kept, upto int) []string {
	t.Helper()
	room := roomy(l...)
	askedSlots, askedLog := untouched(t, "Store: slots", room), untouched(t, "Store: log", k.Log)
	got, e := Store(room, k, upto)
	if e != api.OK || len(got) != 2 {
		t.Fatalf("Store(%q, %+v, %d) = %q, %v", l, k, upto, got, e)
	}
	askedSlots()
	askedLog()
	answer := slices.Clone(got)
	apart(t, "Store", room, got)
	askedLog()
	return answer
}

// unstored: Store refuses so, and leaves what it was given.
func unstored(t *testing.T, l []string, k api.Kept, upto int, want api.Errno) {
	t.Helper()
	room := roomy(l...)
	askedSlots, askedLog := untouched(t, "Store: slots", room), untouched(t, "Store: log", k.Log)
	got, e := Store(room, k, upto)
	if len(got) != 0 || e != want {
		t.Errorf("Store(%q, %+v, %d) = %q, %v, want nothing and %v", l, k, upto, got, e, want)
	}
	askedSlots()
	askedLog()
}

func TestStoreWritesTheOtherSlot(t *testing.T) {
	one, two := api.Kept{View: 7, Log: entries(3)}, api.Kept{View: 2, Log: entries(5), Commit: 5}
	for _, k := range keptThatMayBe() {
		for _, c := range []struct{ first, second, at int }{
			{0, 1, 1}, {1, 0, 0}, {5, 5, 0}, {255, 3, 0}, {3, 255, 1}, {0, api.MaxGen - 1, 1}, {api.MaxGen - 1, 0, 0}, {api.MaxGen - 1, api.MaxGen - 1, 0},
		} {
			l := []string{bytesOf(one, c.first), bytesOf(two, c.second)}
			want := slices.Clone(l)
			want[1-c.at] = bytesOf(k, max(c.first, c.second)+1)
			if got := stored(t, l, k, -1); !slices.Equal(got, want) {
				t.Errorf("Store(%q, %+v, -1) = %q, want %q", l, k, got, want)
			}
			loaded(t, want, k, max(c.first, c.second)+1, 1-c.at)
		}
	}
}

func TestStoreWritesWhatCanNotBeRead(t *testing.T) {
	k := api.Kept{View: 3, Normal: 3, Calm: true, Log: entries(2), Commit: 1}
	for _, bad := range unreadable() {
		good := bytesOf(api.Kept{View: 1}, 4)
		if got := stored(t, []string{good, bad}, k, -1); !slices.Equal(got, []string{good, bytesOf(k, 5)}) {
			t.Errorf("Store into the second slot, %q, = %q", bad, got)
		}
		if got := stored(t, []string{bad, good}, k, -1); !slices.Equal(got, []string{bytesOf(k, 5), good}) {
			t.Errorf("Store into the first slot, %q, = %q", bad, got)
		}
	}
}

func TestStoreInPart(t *testing.T) {
	was := api.Kept{View: 1, Normal: 1, Calm: true, Log: entries(6), Commit: 6}
	for _, k := range []api.Kept{{Calm: true}, was, {View: 3, Log: entries(4), Commit: 2}} {
		whole := bytesOf(k, 10)
		for _, old := range []string{"", bytesOf(was, 8)} { // nothing of what stood there is left
			for upto := range len(whole) {
				first := stored(t, []string{bytesOf(was, 9), old}, k, upto)
				if !slices.Equal(first, []string{bytesOf(was, 9), whole[:upto]}) {
					t.Errorf("Store of %d bytes = %q", upto, first)
				}
				loaded(t, first, was, 9, 0) // what was kept is kept still
				second := stored(t, []string{old, bytesOf(was, 9)}, k, upto)
				if !slices.Equal(second, []string{whole[:upto], bytesOf(was, 9)}) {
					t.Errorf("Store of %d bytes = %q", upto, second)
				}
				loaded(t, second, was, 9, 1)
			}
			for _, upto := range []int{-1, len(whole), len(whole) + 1, api.MaxBytes, api.MaxBytes + 1, math.MaxInt} {
				if got := stored(t, []string{bytesOf(was, 9), old}, k, upto); !slices.Equal(got, []string{bytesOf(was, 9), whole}) {
					t.Errorf("Store of %d bytes = %q", upto, got)
				}
			}
		}
	}
}

func TestStoreAgainAndAgain(t *testing.T) {
	l, kept, gen, at := New(), api.Kept{Calm: true}, 0, 0
	for i := range 200 {
		k := api.Kept{View: i, Normal: i / 2, Log: entries(i % (api.MaxLog + 1))}
		if i%3 == 0 { // it falls: the next one is written into the same slot
			l = stored(t, l, k, i)
			if i > len(bytesOf(k, gen+1)) {
				kept, gen, at = k, gen+1, 1-at
			}
		} else {
			l = stored(t, l, k, -1)
			kept, gen, at = k, gen+1, 1-at
		}
		loaded(t, l, kept, gen, at)
	}
}

func TestStoreRefusesWithTheFirst(t *testing.T) {
	good := New()[0]
	full := bytesOf(api.Kept{View: 1}, api.MaxGen)
	may, mayNot := api.Kept{Calm: true, Log: entries(1)}, api.Kept{View: -1}
	long := api.Kept{Log: entries(api.MaxLog + 1)}
	for _, upto := range []int{-1, 0, 5, api.MaxBytes, math.MaxInt, -2, math.MinInt} {
		for _, k := range []api.Kept{may, mayNot, long} {
			for _, l := range [][]string{nil, {}, {good}, {good, good, good}, {full}, {"", "", ""}} {
				unstored(t, l, k, upto, api.ErrForm)
			}
			for _, bad := range unreadable() {
				unstored(t, []string{bad, ""}, k, upto, api.ErrLost)
				unstored(t, []string{"", bad}, k, upto, api.ErrLost)
			}
			for _, l := range [][]string{{full, good}, {good, full}, {full, ""}, {"", full}, {full, full}} {
				unstored(t, l, k, upto, api.ErrFull)
			}
		}
		for _, c := range keptThatMayNotBe() {
			unstored(t, New(), c.k, upto, c.want)
		}
	}
	for _, upto := range []int{-2, -3, -1 << 32, math.MinInt, math.MinInt + 1} {
		unstored(t, New(), may, upto, api.ErrRange)
	}
}
