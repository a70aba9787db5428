package base_test

import (
	"bytes"
	"encoding/base64"
	"math"
	"math/rand"
	"strings"
	"testing"

	"longline/api"
	"longline/base"
)

const letters = "ABCDEFGHIJKLMNOPQRSTUVWXYZabcdefghijklmnopqrstuvwxyz0123456789+/"

// worded is bytes as letters, as the document words it: all bits in one row, six to a letter.
func worded(b []byte) string {
	var bits []byte
	for _, c := range b {
		for i := 7; i >= 0; i-- {
			bits = append(bits, c>>i&1)
		}
	}
	for len(bits)%6 != 0 {
		bits = append(bits, 0)
	}
	var s []byte
	for ; len(bits) > 0; bits = bits[6:] {
		n := 0
		for _, bit := range bits[:6] {
			n = 2*n + int(bit)
		}
		s = append(s, letters[n])
	}
	for len(s)%4 != 0 {
		s = append(s, '=')
	}
	return string(s)
}

// goesOn tells whether a text of letters goes on as that one does: the last four are tried with all that could stand behind.
func goesOn(s string) bool {
	whole := len(s) / 4 * 4
	for i := 0; i < whole; i += 4 {
		if !isFour(s[i:i+4], i+4 == len(s)) {
			return false
		}
	}
	switch rest := s[whole:]; len(rest) {
	case 1:
		return !strings.HasSuffix(s[:whole], "=") && isFour(rest+"AAA", false)
	case 2:
		return !strings.HasSuffix(s[:whole], "=") && isFour(rest+"AA", false)
	case 3:
		return !strings.HasSuffix(s[:whole], "=") && (isFour(rest+"A", false) || isFour(rest+"=", true))
	}
	return true
}

// isFour tells whether four bytes are letters of bytes; pads stand at the end alone.
func isFour(s string, end bool) bool {
	b, err := base64.StdEncoding.Strict().DecodeString(s)
	return err == nil && worded(b) == s && (end || len(b) == 3)
}

// wordedFault is a fault as the document words it.
func wordedFault(s string) int {
	for i := range len(s) {
		if !goesOn(s[:i+1]) {
			return i
		}
	}
	if len(s)%4 != 0 {
		return len(s)
	}
	return -1
}

func wantFault(t *testing.T, s string, want int) {
	t.Helper()
	if got := base.Fault(s); got != want {
		t.Fatalf("Fault(%q) = %d, want %d", s, got, want)
	}
	b, e := base.Read(s)
	switch {
	case want != -1 && (e != api.ErrForm || len(b) != 0):
		t.Fatalf("Read(%q) = % X, %v, the fault is at %d", s, b, e, want)
	case want == -1 && (e != api.OK || base.Write(b) != s):
		t.Fatalf("Read(%q) = % X, %v", s, b, e)
	}
}

func wantBack(t *testing.T, b []byte) {
	t.Helper()
	s := base.Write(b)
	if want := worded(b); s != want {
		t.Fatalf("Write(% X) = %q, want %q", b, s, want)
	}
	if got := base.Fault(s); got != -1 {
		t.Fatalf("Fault(%q) = %d", s, got)
	}
	if got, e := base.Read(s); e != api.OK || !bytes.Equal(got, b) {
		t.Fatalf("Read(%q) = % X, %v, want % X", s, got, e, b)
	}
}

// bytesOf is n bytes, always the same ones.
func bytesOf(n int) []byte {
	b := make([]byte, n)
	rand.New(rand.NewSource(int64(n))).Read(b)
	return b
}

// P14.1: the document's example, and known ones.
func TestWrite(t *testing.T) {
	for _, x := range []struct{ b, want string }{
		{"", ""}, {"M", "TQ=="}, {"Ma", "TWE="}, {"Man", "TWFu"}, {"f", "Zg=="}, {"fo", "Zm8="}, {"foo", "Zm9v"}, {"foob", "Zm9vYg=="}, {"fooba", "Zm9vYmE="}, {"foobar", "Zm9vYmFy"},
		{"\x00", "AA=="}, {"\x00\x00", "AAA="}, {"\x00\x00\x00", "AAAA"}, {"\xff", "/w=="}, {"\xff\xff", "//8="}, {"\xff\xff\xff", "////"}, {"\xfb\xef\xbe", "++++"}, {"\xfb\xff\xbf", "+/+/"},
	} {
		if got := base.Write([]byte(x.b)); got != x.want {
			t.Errorf("Write(%q) = %q, want %q", x.b, got, x.want)
		}
		if got, e := base.Read(x.want); e != api.OK || string(got) != x.b {
			t.Errorf("Read(%q) = %q, %v", x.want, got, e)
		}
	}
	if got := base.Write(nil); got != "" {
		t.Errorf("Write(nil) = %q", got)
	}
}

// P14.1: the letters stand in their order.
func TestLetters(t *testing.T) {
	var b []byte
	for i := 0; i < 64; i += 4 {
		b = append(b, byte(i<<2|(i+1)>>4), byte((i+1)<<4|(i+2)>>2), byte((i+2)<<6|(i+3)))
	}
	if got := base.Write(b); got != letters {
		t.Errorf("the letters are %q", got)
	}
	if got, e := base.Read(letters); e != api.OK || !bytes.Equal(got, b) {
		t.Errorf("the letters' bytes are % X, %v", got, e)
	}
}

// P14.1: how many letters, up to its limit, and beyond it.
func TestSize(t *testing.T) {
	for _, x := range []struct{ n, want int }{
		{0, 0}, {1, 4}, {2, 4}, {3, 4}, {4, 8}, {5, 8}, {6, 8}, {7, 12}, {256, 344}, {65533, 87380}, {65534, 87380}, {65535, 87380}, {65536, 87384},
		{65537, 0}, {65538, 0}, {1 << 31, 0}, {math.MaxInt, 0}, {math.MaxInt - 1, 0}, {-1, 0}, {-2, 0}, {-3, 0}, {math.MinInt, 0}, {math.MinInt + 1, 0},
	} {
		if got := base.Size(x.n); got != x.want {
			t.Errorf("Size(%d) = %d, want %d", x.n, got, x.want)
		}
	}
	for n := range 700 {
		if got := base.Size(n); got != len(base.Write(make([]byte, n))) {
			t.Fatalf("Size(%d) = %d", n, got)
		}
	}
}

// P14.3 and P2: bytes go there and back.
func TestThereAndBack(t *testing.T) {
	for a := range 256 {
		wantBack(t, []byte{byte(a)})
		for b := range 256 {
			wantBack(t, []byte{byte(a), byte(b)})
		}
	}
	r := rand.New(rand.NewSource(143))
	for range 3000 {
		b := make([]byte, r.Intn(50))
		r.Read(b)
		wantBack(t, b)
	}
	for _, n := range []int{255, 256, 257, 4096, 65534, 65535, 65536, 67499, 67500} {
		wantBack(t, bytesOf(n))
	}
}

// P14.1: Write has no limit of its own, and Fault knows what it writes, though Read does not take it.
func TestBeyond(t *testing.T) {
	for _, n := range []int{67501, 67502, 100000} {
		b := bytesOf(n)
		s := base.Write(b)
		if s != base64.StdEncoding.EncodeToString(b) {
			t.Errorf("Write of %d bytes goes wrong", n)
		}
		if got := base.Fault(s); got != -1 {
			t.Errorf("Fault of %d bytes' letters: %d", n, got)
		}
		if got, e := base.Read(s); e != api.ErrLong || len(got) != 0 {
			t.Errorf("Read of %d bytes' letters: %d bytes, %v", n, len(got), e)
		}
	}
}

// P14.2: ErrLong comes ahead of ErrForm, and of what is right.
func TestLong(t *testing.T) {
	for _, x := range []struct {
		s    string
		want api.Errno
	}{
		{strings.Repeat("A", 90000), api.OK}, {strings.Repeat("A", 90001), api.ErrLong}, {strings.Repeat("A", 90004), api.ErrLong}, {strings.Repeat("=", 90001), api.ErrLong},
		{strings.Repeat("=", 90000), api.ErrForm}, {strings.Repeat("A", 89999), api.ErrForm}, {strings.Repeat("A", 89999) + "=", api.OK}, {strings.Repeat("A", 89998) + "==", api.OK},
		{strings.Repeat("A", 89997) + "===", api.ErrForm}, {strings.Repeat("A", 90000) + "=", api.ErrLong}, {strings.Repeat("\u00e4", 45000), api.ErrForm}, {strings.Repeat("\u00e4", 45001), api.ErrLong},
	} {
		b, e := base.Read(x.s)
		if e != x.want || e != api.OK && len(b) != 0 {
			t.Errorf("Read of %d letters: %d bytes, %v, want %v", len(x.s), len(b), e, x.want)
		}
	}
}

// P14.2: where a text goes wrong.
func TestFault(t *testing.T) {
	for _, x := range []struct {
		s    string
		want int
	}{
		{"", -1}, {"TWE=", -1}, {"TQ==", -1}, {"TWFu", -1}, {"TWFuTWE=", -1},
		// Too early.
		{"T", 1}, {"TW", 2}, {"TWE", 3}, {"TWF", 3}, {"TWFuT", 5}, {"TWFuTQ=", 7}, {"TQ=", 3}, {"TR", 2},
		// A pad where none may stand.
		{"=", 0}, {"==", 0}, {"====", 0}, {"T=", 1}, {"T===", 1}, {"TWFu=", 4}, {"TWFu====", 4}, {"TQ==TQ==", 4}, {"TQ===", 4}, {"TWE==", 4},
		// Bits that no byte takes: the pad is the first place at which none goes on so.
		{"TR==", 2}, {"TX==", 2}, {"TWF=", 3}, {"TWG=", 3}, {"TWH=", 3}, {"TWI=", -1}, {"TA==", -1}, {"TP==", 2}, {"T/==", 2}, {"TW/=", 3}, {"TWFuTR==", 6},
		// Behind a pad.
		{"TQ=A", 3}, {"TQ=\n", 3}, {"TQ==A", 4}, {"TWE=A", 4}, {"TWE=TWE=", 4}, {"TQ==\n", 4},
		// What is no letter.
		{" ", 0}, {"\n", 0}, {"T W=", 1}, {"TW\n=", 2}, {"TWE\n", 3}, {"TWE-", 3}, {"TWE_", 3}, {"TWFu\n", 4}, {"TWFu\x00", 4}, {"@AAA", 0}, {"[AAA", 0}, {"`AAA", 0}, {"{AAA", 0}, {".AAA", 0}, {":AAA", 0}, {",AAA", 0}, {"*AAA", 0},
		// Bytes above 7F, whether they are points' or not; the place is a byte's.
		{"\xc3\xa4AA", 0}, {"T\xc3\xa4A", 1}, {"TW\xff=", 2}, {"TWFuT\xf0\x9f\x98\x80", 5}, {"\x80", 0}, {"A\xc1", 1}, {"TWE\u00bd", 3}, {"TW\ufffd", 2}, {"\u0141AAA", 0},
	} {
		wantFault(t, x.s, x.want)
	}
}

// P14.2: every byte at every place of four, behind four others or not.
func TestFaultBytes(t *testing.T) {
	for _, ahead := range []string{"", "TWFu"} {
		for _, s := range []string{"TWFu", "TWE=", "TQ==", "TR==", "TWF="} {
			for place := range 4 {
				for c := range 256 {
					b := []byte(s)
					b[place] = byte(c)
					text := ahead + string(b)
					wantFault(t, text, wordedFault(text))
				}
			}
		}
	}
}

// P14.2: all short texts of a few letters, pads and what is none.
func TestFaultShort(t *testing.T) {
	const few = "AQRE/=\n"
	texts := []string{""}
	for range 5 {
		for _, s := range texts {
			wantFault(t, s, wordedFault(s))
		}
		var longer []string
		for _, s := range texts {
			for _, c := range few {
				longer = append(longer, s+string(c))
			}
		}
		texts = longer
	}
}

// P14.2: random texts, most of them a text of letters that was turned somewhere.
func TestFaultRandom(t *testing.T) {
	r := rand.New(rand.NewSource(142))
	right, wrong, early := 0, 0, 0
	for range 5000 {
		b := make([]byte, r.Intn(20))
		r.Read(b)
		s := []byte(worded(b))
		for range r.Intn(3) {
			if len(s) > 0 {
				s[r.Intn(len(s))] = (letters + "==\n-\xc3")[r.Intn(69)]
			}
		}
		s = s[:len(s)-min(len(s), max(0, r.Intn(6)-3))]
		want := wordedFault(string(s))
		wantFault(t, string(s), want)
		switch want {
		case -1:
			right++
		case len(s):
			early++
		default:
			wrong++
		}
	}
	if right < 500 || wrong < 500 || early < 500 {
		t.Errorf("%d were right, %d wrong, %d too early", right, wrong, early)
	}
}

// P14.3: in one way alone: no two texts of four have the same bytes.
func TestOneWay(t *testing.T) {
	const some = "AQRwx89/="
	seen := map[string]string{}
	for i := range len(some) * len(some) * len(some) * len(some) {
		s := ""
		for range 4 {
			s, i = s+string(some[i%len(some)]), i/len(some)
		}
		b, e := base.Read(s)
		if e != api.OK {
			continue
		}
		if was, ok := seen[string(b)]; ok {
			t.Fatalf("% X is %q and %q", b, was, s)
		}
		seen[string(b)] = s
	}
	if len(seen) < 1000 {
		t.Errorf("%d texts alone were read", len(seen))
	}
}

// Rules 4 and 5: what is handed in is not changed nor read behind its length; what is handed out is new.
func TestMemory(t *testing.T) {
	held := []byte("Manx")
	if got := base.Write(held[:2]); got != "TWE=" || string(held) != "Manx" {
		t.Errorf("Write: %q, %q", got, held)
	}
	s := base.Write(held)
	held[0] = 'x'
	if s != "TWFueA==" {
		t.Errorf("Write shares memory: %q", s)
	}
	first, _ := base.Read("TWE=")
	second, _ := base.Read("TWE=")
	first[0] = 'x'
	if string(second) != "Ma" {
		t.Errorf("two answers of Read share memory: %q", second)
	}
	for _, s := range []string{"TQ==", "TWE=", "TWFu", "TWFuTQ=="} {
		if b, e := base.Read(s); e != api.OK || cap(b) != len(b) {
			t.Errorf("Read(%q) has room behind: %d, %d", s, len(b), cap(b))
		}
	}
	for range 3 {
		if base.Fault("TR==") != 2 || base.Size(5) != 8 || base.Write([]byte("Ma")) != "TWE=" {
			t.Error("the same is not answered the same")
		}
	}
}
