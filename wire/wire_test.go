package wire_test

import (
	"fmt"
	"hash/crc32"
	"math/rand"
	"strings"
	"testing"

	"latecomer/api"
	"latecomer/wire"
)

// encode encodes n as the definition says, one group after the other.
func encode(n int) string {
	z := uint64(n) << 1
	if n < 0 {
		z = uint64(-n)<<1 - 1
	}
	var out []byte
	for ; z > 127; z >>= 7 {
		out = append(out, byte(z&127)|128)
	}
	return string(append(out, byte(z)))
}

// integers are the ends of the range, the integers on both sides of each change of length, and some at random.
func integers() []int {
	list := []int{0, api.MaxInt, -api.MaxInt, api.MaxInt - 1, 1 - api.MaxInt}
	for bits := range 62 {
		p := 1 << bits
		list = append(list, p-1, p, p+1, 1-p, -p, -p-1)
	}
	random := rand.New(rand.NewSource(1))
	for range 20000 {
		n := int(random.Uint64() >> (2 + random.Intn(62)))
		if random.Intn(2) == 0 {
			n = -n
		}
		list = append(list, n)
	}
	return list
}

// texts are strings of lengths on both sides of each change of the length of their encoding.
func texts() []string {
	list := []string{"a", "\x00", "\x80", "\xff\xfe", "größer", "a\x00b"}
	for _, n := range []int{0, 63, 64, 8191, 8192, api.MaxString - 1, api.MaxString} {
		list = append(list, strings.Repeat("\x83", n))
	}
	return list
}

var surroundings = []string{"", "\x00", "\x01", "\x80", "\xff", "\x80\x80", "\xff\xff\xff\xff\xff\xff\xff\xff\xff\xff", "abc"}

func TestPutInt(t *testing.T) { // P1.1
	for _, c := range []struct {
		n    int
		want string
	}{
		{0, "\x00"}, {1, "\x02"}, {-1, "\x01"}, {63, "\x7e"}, {-64, "\x7f"}, {64, "\x80\x01"}, {-65, "\x81\x01"}, {150, "\xac\x02"},
		{8191, "\xfe\x7f"}, {-8192, "\xff\x7f"}, {8192, "\x80\x80\x01"},
		{api.MaxInt, "\xfe\xff\xff\xff\xff\xff\xff\xff\x7f"}, {-api.MaxInt, "\xfd\xff\xff\xff\xff\xff\xff\xff\x7f"},
	} {
		if s, err := wire.PutInt(c.n); s != c.want || err != api.OK {
			t.Errorf("PutInt(%d) = %x, %d; want %x", c.n, s, err, c.want)
		}
	}
	for _, n := range integers() {
		if s, err := wire.PutInt(n); s != encode(n) || err != api.OK {
			t.Errorf("PutInt(%d) = %x, %d; want %x", n, s, err, encode(n))
		}
	}
}

func TestPutIntRefuses(t *testing.T) { // P1.1
	for _, n := range []int{api.MaxInt + 1, -api.MaxInt - 1, 1<<63 - 1, -1 << 63} {
		if s, err := wire.PutInt(n); s != "" || err != api.ErrWire {
			t.Errorf("PutInt(%d) = %x, %d; want ErrWire", n, s, err)
		}
	}
}

func TestInt(t *testing.T) { // P1.1, P1.4
	for _, n := range integers() {
		s := encode(n)
		for _, before := range surroundings {
			for _, after := range surroundings {
				m, next, err := wire.Int(before+s+after, len(before))
				if m != n || next != len(before)+len(s) || err != api.OK {
					t.Fatalf("Int of %x between %x and %x = %d, %d, %d; want %d", s, before, after, m, next, err, n)
				}
			}
		}
	}
}

func TestIntRefuses(t *testing.T) { // P1.1
	full := strings.Repeat("\xff", 8)
	for _, c := range []struct {
		s    string
		at   int
		want api.Errno
	}{
		{"\x02", -1, api.ErrArg}, {"\x02", 2, api.ErrArg}, {"", 1, api.ErrArg}, {"", -1 << 63, api.ErrArg}, {"\x02", 1<<63 - 1, api.ErrArg}, // no offset
		{"\x80", 2, api.ErrArg}, {"\x80", -1, api.ErrArg}, // both errors: ErrArg is first
		{"", 0, api.ErrWire}, {"\x02", 1, api.ErrWire}, // nothing is there
		{"\x80", 0, api.ErrWire}, {"\xff\xff\xff", 0, api.ErrWire}, {full, 0, api.ErrWire}, {full + full, 0, api.ErrWire}, // it ends too early
		{"\x80\x00", 0, api.ErrWire}, {"\xac\x82\x00", 0, api.ErrWire}, {"\x80\x80\x00", 0, api.ErrWire}, // superfluous groups
		{"\xfe" + full[1:] + "\xff\x00", 0, api.ErrWire}, {strings.Repeat("\x80", 20) + "\x00", 0, api.ErrWire},
		{full + "\x7f", 0, api.ErrWire}, {"\xfe" + full + "\x01", 0, api.ErrWire}, {strings.Repeat("\x80", 9) + "\x01", 0, api.ErrWire}, // too great
		{strings.Repeat("\x80", 10) + "\x01", 0, api.ErrWire}, {strings.Repeat("\x80", 64) + "\x02", 0, api.ErrWire},
	} {
		if n, next, err := wire.Int(c.s, c.at); n != 0 || next != 0 || err != c.want {
			t.Errorf("Int(%x, %d) = %d, %d, %d; want error %d", c.s, c.at, n, next, err, c.want)
		}
	}
}

func TestIntRefusesWhatEndsTooEarly(t *testing.T) { // P1.1, P1.4: no encoding begins with another one
	for _, n := range integers() {
		s := encode(n)
		for end := range len(s) {
			if m, next, err := wire.Int(s[:end], 0); m != 0 || next != 0 || err != api.ErrWire {
				t.Fatalf("Int of the first %d bytes of %x = %d, %d, %d; want ErrWire", end, s, m, next, err)
			}
		}
	}
}

// checkInt checks that if Int accepts what s begins with, PutInt returns exactly that, and otherwise that every result is zero.
func checkInt(t *testing.T, s string) {
	t.Helper()
	n, next, err := wire.Int(s, 0)
	switch err {
	case api.OK:
		if next < 1 || next > len(s) {
			t.Fatalf("Int(%x) ends at %d", s, next)
		}
		if u, err := wire.PutInt(n); u != s[:next] || err != api.OK {
			t.Fatalf("Int(%x) = %d, %d, but PutInt(%d) = %x, %d", s, n, next, n, u, err)
		}
	case api.ErrWire:
		if n != 0 || next != 0 {
			t.Fatalf("Int(%x) = %d, %d with ErrWire", s, n, next)
		}
	default:
		t.Fatalf("Int(%x) returned error %d", s, err)
	}
}

func TestIntAcceptsOnlyWhatPutIntReturns(t *testing.T) { // P1.4
	for i := range 1 << 16 {
		checkInt(t, string([]byte{byte(i), byte(i >> 8)}))
	}
	random := rand.New(rand.NewSource(2))
	for range 100000 {
		s := make([]byte, 11)
		random.Read(s)
		for i := range random.Intn(11) { // long encodings are rare by chance
			s[i] |= 128
		}
		for i := range random.Intn(11) {
			if random.Intn(4) == 0 {
				s[i] = s[i]&128 | []byte{0, 127}[random.Intn(2)]
			}
		}
		checkInt(t, string(s))
	}
}

func TestPutString(t *testing.T) { // P1.2
	if s, err := wire.PutString("ab"); s != "\x04ab" || err != api.OK {
		t.Errorf("PutString(ab) = %x, %d", s, err)
	}
	for _, s := range texts() {
		want := encode(len(s)) + s
		if u, err := wire.PutString(s); u != want || err != api.OK {
			t.Errorf("PutString of %d bytes = %.20x, %d; want %.20x", len(s), u, err, want)
		}
	}
	for _, n := range []int{api.MaxString + 1, 2 * api.MaxString, 1 << 21} {
		if s, err := wire.PutString(strings.Repeat("x", n)); s != "" || err != api.ErrWire {
			t.Errorf("PutString of %d bytes returns %d bytes, %d; want ErrWire", n, len(s), err)
		}
	}
}

func TestString(t *testing.T) { // P1.2, P1.4
	for _, s := range texts() {
		encoding := encode(len(s)) + s
		for _, before := range surroundings {
			for _, after := range surroundings {
				u, next, err := wire.String(before+encoding+after, len(before))
				if u != s || next != len(before)+len(encoding) || err != api.OK {
					t.Fatalf("String of the encoding of %d bytes between %x and %x = %.20x, %d, %d", len(s), before, after, u, next, err)
				}
			}
		}
	}
}

func TestStringRefuses(t *testing.T) { // P1.2
	long := strings.Repeat("x", api.MaxString+1)
	for _, c := range []struct {
		s    string
		at   int
		want api.Errno
	}{
		{"\x02a", -1, api.ErrArg}, {"\x02a", 3, api.ErrArg}, {"", 1, api.ErrArg}, {"\x04a", 1<<63 - 1, api.ErrArg},
		{"", 0, api.ErrWire}, {"\x02a", 2, api.ErrWire}, {"\x80", 0, api.ErrWire}, {"\x82\x00a", 0, api.ErrWire}, // no integer
		{"\x01a", 0, api.ErrWire}, {encode(-api.MaxInt) + "a", 0, api.ErrWire}, // a negative one
		{encode(api.MaxString+1) + long, 0, api.ErrWire}, {encode(api.MaxInt) + long, 0, api.ErrWire}, // one that is too great
		{"\x02", 0, api.ErrWire}, {"\x04a", 0, api.ErrWire}, {"ab\x06cd", 2, api.ErrWire}, // too few bytes
		{encode(api.MaxString) + long[:api.MaxString-1], 0, api.ErrWire},
	} {
		if s, next, err := wire.String(c.s, c.at); s != "" || next != 0 || err != c.want {
			t.Errorf("String(%.20x, %d) = %.20x, %d, %d; want error %d", c.s, c.at, s, next, err, c.want)
		}
	}
}

func TestStringAcceptsOnlyWhatPutStringReturns(t *testing.T) { // P1.4
	random := rand.New(rand.NewSource(3))
	for range 100000 {
		b := make([]byte, random.Intn(8))
		random.Read(b)
		if len(b) > 0 && random.Intn(2) == 0 { // short strings are rare by chance
			b[0] = byte(random.Intn(20))
		}
		s := string(b)
		u, next, err := wire.String(s, 0)
		if err == api.ErrWire && u == "" && next == 0 {
			continue
		}
		if v, f := wire.PutString(u); err != api.OK || f != api.OK || next > len(s) || v != s[:next] {
			t.Fatalf("String(%x) = %x, %d, %d, but PutString(%x) = %x, %d", s, u, next, err, u, v, f)
		}
	}
}

func TestEncodingsAreDistinct(t *testing.T) { // P1.4
	from := map[string]int{}
	for _, n := range append(integers(), api.MaxInt/2, api.MaxInt/3) {
		s, _ := wire.PutInt(n)
		if m, ok := from[s]; ok && m != n {
			t.Fatalf("%d and %d have the encoding %x", m, n, s)
		}
		from[s] = n
	}
}

func TestConcatenation(t *testing.T) { // P1.4
	random := rand.New(rand.NewSource(4))
	numbers, strs := integers(), texts()
	for range 50 {
		var kept []any
		all := ""
		for range 20 {
			var s string
			if random.Intn(2) == 0 {
				n := numbers[random.Intn(len(numbers))]
				s, _ = wire.PutInt(n)
				kept = append(kept, n)
			} else {
				text := strs[random.Intn(len(strs))]
				s, _ = wire.PutString(text)
				kept = append(kept, text)
			}
			all += s
		}
		at := 0
		for i, want := range kept {
			var got any
			var err api.Errno
			if _, ok := want.(int); ok {
				got, at, err = wire.Int(all, at)
			} else {
				got, at, err = wire.String(all, at)
			}
			if got != want || err != api.OK {
				t.Fatalf("element %d is not what was encoded (error %d)", i, err)
			}
		}
		if at != len(all) {
			t.Fatalf("decoding ends at %d of %d", at, len(all))
		}
	}
}

// sum computes the checksum as the definition says, bit by bit.
func sum(s string) int {
	register := uint32(0xFFFFFFFF)
	for i := range len(s) {
		register ^= uint32(s[i])
		for range 8 {
			out := register & 1
			register >>= 1
			if out == 1 {
				register ^= 0x82F63B78
			}
		}
	}
	return int(register ^ 0xFFFFFFFF)
}

func TestSum(t *testing.T) { // P1.3
	for s, want := range map[string]int{"": 0, "a": 3251651376, "123456789": 3808858755, strings.Repeat("\x00", 32): 0x8a9136aa, strings.Repeat("\xff", 32): 0x62a8ab43} {
		if got := wire.Sum(s); got != want {
			t.Errorf("Sum(%x) = %d, want %d", s, got, want)
		}
	}
	for i := range 1 << 16 {
		s := string([]byte{byte(i), byte(i >> 8)})
		if wire.Sum(s) != sum(s) || wire.Sum(s[:1]) != sum(s[:1]) {
			t.Fatalf("Sum(%x) = %d, want %d", s, wire.Sum(s), sum(s))
		}
	}
	random := rand.New(rand.NewSource(5))
	castagnoli := crc32.MakeTable(crc32.Castagnoli)
	for range 1000 {
		b := make([]byte, random.Intn(300))
		random.Read(b)
		if got := wire.Sum(string(b)); got != sum(string(b)) || got != int(crc32.Checksum(b, castagnoli)) {
			t.Fatalf("Sum(%x) = %d, want %d", b, got, sum(string(b)))
		}
	}
}

// change inverts those bits of s that are set in pattern, from the bit number from on; the bits of a byte are counted from the lowest one.
func change(s string, from int, pattern uint32) string {
	b := []byte(s)
	for i := range 32 {
		if at := from + i; pattern>>i&1 == 1 && at < 8*len(b) {
			b[at/8] ^= 1 << (at % 8)
		}
	}
	return string(b)
}

func TestSumOfChangedString(t *testing.T) { // P1.4
	random := rand.New(rand.NewSource(6))
	for _, length := range []int{1, 2, 4, 5, 9, 64, 300} {
		b := make([]byte, length)
		random.Read(b)
		s := string(b)
		before := wire.Sum(s)
		for from := range 8 * length {
			patterns := []uint32{1, 3, 1<<31 | 1, 1<<32 - 1, 0x82F63B78, 0x05EC76F1}
			for range 40 {
				patterns = append(patterns, random.Uint32()|1)
			}
			for _, pattern := range patterns {
				if u := change(s, from, pattern); u != s && wire.Sum(u) == before {
					t.Fatalf("Sum does not change with the bits %b from %d on, of %d bytes", pattern, from, length)
				}
			}
		}
	}
}

// Example shows two values that are encoded one after the other, and decoded again.
func Example() {
	number, _ := wire.PutInt(150)
	name, _ := wire.PutString("ab")
	s := number + name
	n, at, _ := wire.Int(s, 0)
	text, end, _ := wire.String(s, at)
	_, _, err := wire.Int(s, end)
	fmt.Printf("%x %d %s %v", s, n, text, err == api.ErrWire)
	// Output: ac02046162 150 ab true
}
