package codec

import (
	"encoding/binary"
	"hash/adler32"
	"math"
	"strings"
	"testing"

	"sculling/api"
)

// everyByte: all bytes there are, most of them no text in any alphabet.
func everyByte() string {
	l := make([]byte, 256)
	for i := range l {
		l[i] = byte(i)
	}
	return string(l)
}

// P1.1

func TestNumberIsFourBytesHighestFirst(t *testing.T) {
	for _, c := range []struct {
		n    int
		want string
	}{
		{0, "\x00\x00\x00\x00"},
		{1, "\x00\x00\x00\x01"},
		{127, "\x00\x00\x00\x7f"},
		{128, "\x00\x00\x00\x80"},
		{255, "\x00\x00\x00\xff"},
		{256, "\x00\x00\x01\x00"},
		{300, "\x00\x00\x01\x2c"},
		{65535, "\x00\x00\xff\xff"},
		{65536, "\x00\x01\x00\x00"},
		{1<<24 - 1, "\x00\xff\xff\xff"},
		{1 << 24, "\x01\x00\x00\x00"},
		{0x12345678, "\x12\x34\x56\x78"},
		{api.MaxGen - 1, "\x3f\xff\xff\xff"},
		{api.MaxGen, "\x40\x00\x00\x00"},
	} {
		got, e := Number(c.n)
		if got != c.want || e != api.OK {
			t.Errorf("Number(%d) = %q, %v, want %q", c.n, got, e, c.want)
		}
	}
}

func TestNumberRefusesWhatIsOutOfRange(t *testing.T) {
	for _, n := range []int{
		-1, -256, math.MinInt, math.MinInt + 1,
		api.MaxGen + 1, math.MaxInt32, math.MaxUint32, 1 << 32, 1<<32 + 5, math.MaxInt,
	} {
		got, e := Number(n)
		if got != "" || e != api.ErrRange {
			t.Errorf("Number(%d) = %q, %v, want nothing and ErrRange", n, got, e)
		}
	}
}

func TestTextStandsBehindItsLength(t *testing.T) {
	for _, c := range []struct{ s, want string }{
		{"", "\x00"},
		{"a", "\x01a"},
		{"\x00", "\x01\x00"},
		{"\xff\xfe", "\x02\xff\xfe"},
		{"é", "\x02\xc3\xa9"},
		{strings.Repeat("x", 127), "\x7f" + strings.Repeat("x", 127)},
		{strings.Repeat("x", 128), "\x80" + strings.Repeat("x", 128)},
		{strings.Repeat("x", 254), "\xfe" + strings.Repeat("x", 254)},
		{strings.Repeat("x", 255), "\xff" + strings.Repeat("x", 255)},
		{everyByte()[1:], "\xff" + everyByte()[1:]},
	} {
		got, e := Text(c.s)
		if got != c.want || e != api.OK {
			t.Errorf("Text(%q) = %q, %v, want %q", c.s, got, e, c.want)
		}
	}
}

func TestTextRefusesWhatIsTooLong(t *testing.T) {
	for _, s := range []string{
		strings.Repeat("x", 256),
		strings.Repeat("é", 128), // 128 runes, but 256 bytes
		strings.Repeat("x", 257),
		strings.Repeat("x", 512),
		strings.Repeat("x", 1<<16),
	} {
		got, e := Text(s)
		if got != "" || e != api.ErrSize {
			t.Errorf("Text of %d bytes = %q, %v, want nothing and ErrSize", len(s), got, e)
		}
	}
}

// P1.2

func TestReadNumberTakesItFromTheFront(t *testing.T) {
	for _, c := range []struct {
		s    string
		n    int
		rest string
	}{
		{"\x00\x00\x00\x00", 0, ""},
		{"\x00\x00\x01\x2c", 300, ""},
		{"\x00\x00\x00\x80x", 128, "x"},
		{"\x12\x34\x56\x78\x9a\xbc\xde\xf0", 0x12345678, "\x9a\xbc\xde\xf0"},
		{"\x3f\xff\xff\xff\xff", api.MaxGen - 1, "\xff"},
		{"\x40\x00\x00\x00", api.MaxGen, ""},
		{"\x40\x00\x00\x00\x01", api.MaxGen, "\x01"},
		{"\x00\x00\x00\x07" + everyByte(), 7, everyByte()},
	} {
		n, rest, e := ReadNumber(c.s)
		if n != c.n || rest != c.rest || e != api.OK {
			t.Errorf("ReadNumber(%q) = %d, %q, %v, want %d, %q", c.s, n, rest, e, c.n, c.rest)
		}
	}
}

func TestReadNumberRefuses(t *testing.T) {
	for _, c := range []struct {
		s    string
		want api.Errno
	}{
		{"", api.ErrShort},
		{"\x00", api.ErrShort},
		{"ab", api.ErrShort},
		{"\x00\x00\x00", api.ErrShort},
		{"\xff\xff\xff", api.ErrShort}, // too great already, but it ends first
		{"\x40\x00\x00\x01", api.ErrForm},
		{"\x40\x00\x00\x01rest", api.ErrForm},
		{"\x7f\xff\xff\xff", api.ErrForm},
		{"\x80\x00\x00\x00", api.ErrForm}, // below 0, were it signed
		{"\xff\x00\x00\x00", api.ErrForm},
		{"\xff\xff\xff\xff", api.ErrForm},
	} {
		n, rest, e := ReadNumber(c.s)
		if n != 0 || rest != "" || e != c.want {
			t.Errorf("ReadNumber(%q) = %d, %q, %v, want nothing and %v", c.s, n, rest, e, c.want)
		}
	}
}

func TestReadTextTakesItFromTheFront(t *testing.T) {
	long := everyByte()[1:]
	for _, c := range []struct{ s, text, rest string }{
		{"\x00", "", ""},
		{"\x00abc", "", "abc"},
		{"\x01ab", "a", "b"},
		{"\x02ab", "ab", ""},
		{"\x02\x00\xff\x00", "\x00\xff", "\x00"},
		{"\x80" + long, long[:128], long[128:]},
		{"\xff" + long, long, ""},
		{"\xff" + long + "\x00", long, "\x00"},
	} {
		text, rest, e := ReadText(c.s)
		if text != c.text || rest != c.rest || e != api.OK {
			t.Errorf("ReadText(%q) = %q, %q, %v, want %q, %q", c.s, text, rest, e, c.text, c.rest)
		}
	}
}

func TestReadTextRefusesWhatEndsEarly(t *testing.T) {
	for _, s := range []string{
		"",
		"\x01",
		"\x02a",
		"\x80",
		"\x80" + strings.Repeat("x", 127),
		"\xff",
		"\xff" + strings.Repeat("x", 254),
	} {
		text, rest, e := ReadText(s)
		if text != "" || rest != "" || e != api.ErrShort {
			t.Errorf("ReadText(%q) = %q, %q, %v, want nothing and ErrShort", s, text, rest, e)
		}
	}
}

func TestNumbersComeBack(t *testing.T) {
	check := func(n int) {
		t.Helper()
		s, e := Number(n)
		if want := binary.BigEndian.AppendUint32(nil, uint32(n)); s != string(want) || e != api.OK {
			t.Fatalf("Number(%d) = %q, %v, want %q", n, s, e, want)
		}
		back, rest, e := ReadNumber(s + "more")
		if back != n || rest != "more" || e != api.OK {
			t.Fatalf("ReadNumber of Number(%d) = %d, %q, %v", n, back, rest, e)
		}
		for i := range len(s) {
			if _, _, e := ReadNumber(s[:i]); e != api.ErrShort {
				t.Fatalf("ReadNumber of %d bytes of Number(%d): %v, want ErrShort", i, n, e)
			}
		}
	}
	for n := 0; n <= api.MaxGen; n += 999_983 {
		check(n)
	}
	for bit := range 31 {
		n := 1 << bit
		check(n)
		check(n - 1)
		if n < api.MaxGen {
			check(n + 1)
		}
	}
}

func TestTextsComeBack(t *testing.T) {
	all := everyByte()
	for size := range 256 {
		want := all[256-size:]
		s, e := Text(want)
		if len(s) != size+1 || e != api.OK {
			t.Fatalf("Text of %d bytes has %d, %v", size, len(s), e)
		}
		back, rest, e := ReadText(s + all)
		if back != want || rest != all || e != api.OK {
			t.Fatalf("ReadText of Text(%q) = %q, %q, %v", want, back, rest, e)
		}
		for i := range len(s) {
			if _, _, e := ReadText(s[:i]); e != api.ErrShort {
				t.Fatalf("ReadText of %d bytes of %d: %v, want ErrShort", i, len(s), e)
			}
		}
	}
}

// P1.3

func TestSealOfKnownBytes(t *testing.T) {
	for _, c := range []struct{ s, want string }{
		{"", "\x00\x00\x00\x01"},
		{"\x00", "\x00\x01\x00\x01"},
		{"a", "\x00\x62\x00\x62"},
		{"\xff", "\x01\x00\x01\x00"},
		{"ab", "\x01\x26\x00\xc4"},
		{"ba", "\x01\x27\x00\xc4"}, // the order counts
		{"Wikipedia", "\x11\xe6\x03\x98"},
	} {
		if got := Seal(c.s); got != c.want {
			t.Errorf("Seal(%q) = %q, want %q", c.s, got, c.want)
		}
	}
}

func TestSealAroundThePrime(t *testing.T) {
	most := strings.Repeat("\xff", 256) // the first number is 65281 then
	for _, c := range []struct{ last, first string }{
		{"\xef", "\xff\xf0"}, // 65520
		{"\xf0", "\x00\x00"}, // 65521 leaves nothing
		{"\xf1", "\x00\x01"},
	} {
		if got := Seal(most + c.last); len(got) != 4 || got[2:] != c.first {
			t.Errorf("Seal of 256 bytes and %q = %q, want it to end with %q", c.last, got, c.first)
		}
	}
	// Of bytes that are 0 the second number is how many there are.
	for _, c := range []struct {
		size int
		want string
	}{
		{65520, "\xff\xf0\x00\x01"},
		{65521, "\x00\x00\x00\x01"},
		{65522, "\x00\x01\x00\x01"},
	} {
		if got := Seal(strings.Repeat("\x00", c.size)); got != c.want {
			t.Errorf("Seal of %d zeroes = %q, want %q", c.size, got, c.want)
		}
	}
}

func TestSealOfManyBytes(t *testing.T) {
	for _, part := range []string{"\x00", "\x7f", "\x80", "\xff", "é", everyByte()} {
		for _, times := range []int{1, 2, 255, 256, 257, 5552, 5553, 70000} {
			s := strings.Repeat(part, times)
			want := binary.BigEndian.AppendUint32(nil, adler32.Checksum([]byte(s)))
			if got := Seal(s); got != string(want) {
				t.Errorf("Seal of %d times %q = %q, want %q", times, part, got, want)
			}
		}
	}
}
