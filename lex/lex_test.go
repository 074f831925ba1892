package lex_test

import (
	"slices"
	"strconv"
	"strings"
	"testing"

	"livery/api"
	"livery/lex"
)

// token returns a token without a number.
func token(kind uint8, text string, at int) api.Token {
	return api.Token{Kind: kind, Text: text, At: at}
}

// number returns a number token.
func number(text string, n int64, at int) api.Token {
	return api.Token{Kind: api.TkNumber, Text: text, N: n, At: at}
}

// lexed holds what Lex answers for s against what is expected; without tokens the list must be nil.
func lexed(t *testing.T, s string, want []api.Token, place int, we api.Errno) {
	t.Helper()
	l, at, e := lex.Lex(s)
	if !slices.Equal(l, want) || len(l) == 0 && l != nil || at != place || e != we {
		t.Fatalf("Lex(%q) = %v, %d, %d; expected %v, %d, %d", s, l, at, e, want, place, we)
	}
}

// in reports whether the byte b is one of set.
func in(set string, b byte) bool { return strings.IndexByte(set, b) >= 0 }

const (
	letters = "abcdefghijklmnopqrstuvwxyz"
	digits  = "0123456789"
	marks   = "():"
	white   = " \t\n\r"
)

// only reports whether s is not empty and has only bytes of set.
func only(s, set string) bool { return s != "" && strings.Trim(s, set) == "" }

// isWord is Word by the document's words.
func isWord(s string) bool { return only(s, letters) }

// toNumber is Number by the document's words: a number is written in just one way.
func toNumber(s string) (int64, bool) {
	n, err := strconv.ParseInt(s, 10, 64)
	if err != nil || n < 0 || n > 1<<40 || strconv.FormatInt(n, 10) != s {
		return 0, false
	}
	return n, true
}

// reference is Lex in another way: a blank beside each byte that is in no run separates everything.
func reference(s string) ([]api.Token, int, api.Errno) {
	if len(s) > 4096 {
		return nil, 0, api.ErrLong
	}
	var b strings.Builder
	var places []int // of the bytes of b
	put := func(c string, at int) {
		b.WriteString(c)
		for range len(c) {
			places = append(places, at)
		}
	}
	for i := range len(s) {
		switch {
		case in(letters+digits, s[i]):
			put(s[i:i+1], i)
		case in(white, s[i]):
			put(" ", i)
		default:
			put(" "+s[i:i+1]+" ", i)
		}
	}
	wide, at := b.String(), 0
	var l []api.Token
	for _, run := range strings.Split(wide, " ") {
		if run != "" {
			n, isNumber := toNumber(run)
			switch {
			case isWord(run):
				l = append(l, token(0, run, places[at]))
			case isNumber:
				l = append(l, number(run, n, places[at]))
			case len(run) == 1 && in(marks, run[0]):
				l = append(l, token(uint8(2+strings.Index(marks, run)), run, places[at]))
			default:
				return nil, places[at], api.ErrLex
			}
		}
		at += len(run) + 1
	}
	return l, 0, api.OK
}

// texts calls each with all texts of at most many bytes of the alphabet.
func texts(alphabet string, many int, each func(s string)) {
	each("")
	row := []string{""}
	for range many {
		var next []string
		for _, s := range row {
			for i := range len(alphabet) {
				next = append(next, s+alphabet[i:i+1])
				each(next[len(next)-1])
			}
		}
		row = next
	}
}

// TestExamples: the document's examples (P6.1, P6.2).
func TestExamples(t *testing.T) {
	atom := []api.Token{token(2, "(", 0), token(0, "atom", 1), number("2", 2, 6), number("1", 1, 8), number("10", 10, 10), token(3, ")", 12)}
	lexed(t, "(atom 2 1 10)", atom, 0, api.OK)
	from := []api.Token{token(0, "from", 0), number("0", 0, 5), token(0, "to", 7), number("9", 9, 10), token(4, ":", 11), token(0, "x", 13)}
	lexed(t, "from 0 to 9: x", from, 0, api.OK)
	lexed(t, "a1", nil, 0, api.ErrLex)
	lexed(t, "07", nil, 0, api.ErrLex)
	lexed(t, "1099511627777", nil, 0, api.ErrLex)
	lexed(t, "a - b", nil, 2, api.ErrLex)
	lexed(t, "", nil, 0, api.OK)
	if s := lex.Text(atom); s != "(atom 2 1 10)" {
		t.Error(s)
	}
	if s := lex.Text(from); s != "from 0 to 9: x" {
		t.Error(s)
	}
	if s := lex.Text(nil); s != "" {
		t.Error(s)
	}
}

// TestBytes: what each byte is, alone and beside others (P6.1).
func TestBytes(t *testing.T) {
	for i := range 256 {
		b := string([]byte{byte(i)})
		c := byte(i)
		switch {
		case in(white, c):
			lexed(t, b, nil, 0, api.OK)
			lexed(t, "a"+b+"7", []api.Token{token(0, "a", 0), number("7", 7, 2)}, 0, api.OK)
		case in(marks, c):
			kind := uint8(2 + strings.IndexByte(marks, c))
			lexed(t, b, []api.Token{token(kind, b, 0)}, 0, api.OK)
			lexed(t, "a"+b+"7", []api.Token{token(0, "a", 0), token(kind, b, 1), number("7", 7, 2)}, 0, api.OK)
			lexed(t, b+b, []api.Token{token(kind, b, 0), token(kind, b, 1)}, 0, api.OK)
		case in(letters, c):
			lexed(t, b, []api.Token{token(0, b, 0)}, 0, api.OK)
			lexed(t, "a"+b+"z", []api.Token{token(0, "a"+b+"z", 0)}, 0, api.OK)
			lexed(t, "  1"+b, nil, 2, api.ErrLex)
		case in(digits, c):
			lexed(t, b, []api.Token{number(b, int64(c-'0'), 0)}, 0, api.OK)
			lexed(t, "1"+b+"5", []api.Token{number("1"+b+"5", 105+10*int64(c-'0'), 0)}, 0, api.OK)
			lexed(t, "  z"+b, nil, 2, api.ErrLex)
		default:
			lexed(t, b, nil, 0, api.ErrLex)
			lexed(t, "a"+b+"7", nil, 1, api.ErrLex)
			lexed(t, "( "+b, nil, 2, api.ErrLex)
		}
	}
}

// TestAllShort: all short texts of some bytes of each kind, against the reference (P6.1).
func TestAllShort(t *testing.T) {
	for _, alphabet := range []string{"az09 (:-", "a1)\t\n\r(\xc3", "019:", "b0 -A"} {
		texts(alphabet, 5, func(s string) {
			l, at, e := reference(s)
			lexed(t, s, l, at, e)
		})
	}
}

// TestFirstFault: of several faults the first one in the text counts, with the offset of its byte, or of the first byte of its run (P6.1).
func TestFirstFault(t *testing.T) {
	for _, x := range []struct {
		s  string
		at int
	}{
		{"a b1 - 07", 2}, {"a - b1", 2}, {"07 -", 0}, {"1 2 00x", 4}, {"12a34(", 0}, {"(a)(b)9z:", 6},
		{"a\x00", 1}, {"ab_c", 2}, {"from 0 to -1", 10}, {"1.5", 1}, {"+1", 0}, {"Atom", 0}, {"atoM", 3}, {"é", 0}, {"aé", 1},
		{"a\v", 1}, {"a\f", 1}, {"a\u00a0", 1}, {"\xff", 0}, {"1,2", 1}, {"(]", 1}, {"{", 0}, {"`", 0}, {"@", 0}, {"/", 0}, {";", 0}, {"9 10995116277760", 2},
		{"5 00", 2}, {"5 01099511627776", 2}, {" 1099511627777", 1}, {strings.Repeat(" ", 4095) + "-", 4095},
	} {
		lexed(t, x.s, nil, x.at, api.ErrLex)
	}
}

// TestNumbers: a number is at most 2^40, and has no leading 0 (P6.1, P6.2).
func TestNumbers(t *testing.T) {
	good := []int64{0, 1, 9, 10, 99, 100, 4096, 1<<32 - 1, 1 << 32, 999999999999, 1 << 39, 1<<40 - 1, 1 << 40}
	for _, n := range good {
		s := strconv.FormatInt(n, 10)
		if got, is := lex.Number(s); got != n || !is {
			t.Error(s, got, is)
		}
		lexed(t, s, []api.Token{number(s, n, 0)}, 0, api.OK)
		for _, bad := range []string{"0" + s, s + "a", "a" + s, s + " ", " " + s, "-" + s, "+" + s, s + "\x00"} {
			if got, is := lex.Number(bad); got != 0 || is {
				t.Errorf("%q %d %t", bad, got, is)
			}
		}
	}
	bad := []string{"", "00", "01", "1099511627777", "1099511627780", "1099511627786", "1999999999999", "2000000000000", "9999999999999", "10000000000000", "10995116277760",
		"9223372036854775807", "9223372036854775808", "18446744073709551615", "18446744073709551616", "18446744073709551617", "36893488147419103232",
		"a", "1_0", "0x1", "1e3", "1.0", "(", ":", "１", "٣", "\xb2", strings.Repeat("9", 5000), strings.Repeat("0", 5000), "1" + strings.Repeat("0", 1<<20)}
	for _, s := range bad {
		if got, is := lex.Number(s); got != 0 || is {
			t.Errorf("%.30q %d %t", s, got, is)
		}
	}
	for n := int64(1); n < 1<<44; n = n*3 + 1 {
		for _, s := range []string{strconv.FormatInt(n, 10), strconv.FormatInt(n, 10) + "0", "0" + strconv.FormatInt(n, 10)} {
			got, is := lex.Number(s)
			if want, may := toNumber(s); got != want || is != may {
				t.Error(s, got, is, want, may)
			}
		}
	}
	texts("0129a-+ ", 5, func(s string) {
		got, is := lex.Number(s)
		if want, may := toNumber(s); got != want || is != may {
			t.Fatalf("%q %d %t", s, got, is)
		}
	})
}

// TestWords: a word is a run of letters only, of any length (P6.1, P6.2).
func TestWords(t *testing.T) {
	texts("azAZ0 (é", 4, func(s string) {
		if lex.Word(s) != isWord(s) {
			t.Fatalf("%q %t", s, lex.Word(s))
		}
	})
	for i := range 256 {
		b := string([]byte{byte(i)})
		if want := in(letters, byte(i)); lex.Word(b) != want || lex.Word("a"+b) != want || lex.Word(b+"a") != want || lex.Word("a"+b+"a") != want {
			t.Errorf("%q", b)
		}
	}
	long := strings.Repeat("q", 4096)
	if !lex.Word(long) || !lex.Word(long+"q") || lex.Word(long[1:]+"1") || lex.Word("1"+long) {
		t.Error("a long word")
	}
	lexed(t, long, []api.Token{token(0, long, 0)}, 0, api.OK)
}

// TestOneToken: a text is a single token without white space just if Word, or Number, says so of it, or it is a mark (P6.2).
func TestOneToken(t *testing.T) {
	texts("az09 (): -", 4, func(s string) {
		l, _, e := lex.Lex(s)
		single := e == api.OK && len(l) == 1 && l[0].Text == s
		n, isNumber := lex.Number(s)
		if lex.Word(s) != (single && l[0].Kind == api.TkWord) || isNumber != (single && l[0].Kind == api.TkNumber) || isNumber && l[0].N != n {
			t.Fatalf("%q", s)
		}
	})
}

// TestLong: a text has at most 4096 bytes; that it is too long comes first, with the offset 0 (P6.1).
func TestLong(t *testing.T) {
	lexed(t, strings.Repeat("\t", 4096), nil, 0, api.OK)
	lexed(t, strings.Repeat(" ", 4097), nil, 0, api.ErrLong)
	lexed(t, strings.Repeat(" ", 4096)+"-", nil, 0, api.ErrLong)
	lexed(t, " -"+strings.Repeat(" ", 4095), nil, 0, api.ErrLong)
	lexed(t, " -"+strings.Repeat(" ", 4094), nil, 1, api.ErrLex)
	lexed(t, strings.Repeat("é", 2049), nil, 0, api.ErrLong)
	lexed(t, strings.Repeat("a", 1<<20), nil, 0, api.ErrLong)
	lexed(t, strings.Repeat(" ", 4095)+"7", []api.Token{number("7", 7, 4095)}, 0, api.OK)
	l, at, e := lex.Lex(strings.Repeat("(", 4096))
	if len(l) != 4096 || at != 0 || e != api.OK || l[4095] != token(2, "(", 4095) {
		t.Error(len(l), at, e)
	}
}

// spaced is Text in another way: blanks everywhere, of which those are cut out that do not belong.
func spaced(l []api.Token) string {
	s := ""
	for i, t := range l {
		s += t.Text
		if i+1 == len(l) || t.Kind == 2 {
			continue
		}
		if next := l[i+1].Kind; next == 3 || next == 4 {
			continue
		}
		s += " "
	}
	return s
}

// TestText: a blank between adjacent tokens, but none after a TkOpen and none before a TkClose or a TkColon; the kinds and the texts are those of the list, whatever they are (P6.2).
func TestText(t *testing.T) {
	all := []api.Token{token(0, "a", 5), number("7", 7, 5), token(2, "(", 5), token(3, ")", 5), token(4, ":", 5)}
	odd := []api.Token{token(0, "(", 1), token(2, "xy z", -1), token(3, "", 0), token(5, "\xff", 9), token(255, "", 1<<40), number("-3", 4, 0), token(4, "é", 0)}
	for _, pool := range [][]api.Token{all, odd} {
		lists := [][]api.Token{nil}
		for range 3 {
			var next [][]api.Token
			for _, l := range lists {
				for _, x := range pool {
					next = append(next, append(slices.Clone(l), x))
				}
			}
			for _, l := range next {
				before := slices.Clone(l)
				if s := lex.Text(l); s != spaced(l) || !slices.Equal(l, before) {
					t.Fatalf("%v %q", l, s)
				}
			}
			lists = next
		}
	}
	for _, x := range []struct{ s, want string }{
		{"(  (a:b )c ( d) )1 2:(", "((a: b) c (d)) 1 2: ("},
		{"()", "()"}, {"::", "::"}, {")(", ") ("}, {": :", "::"}, {"(:", "(:"}, {":(", ": ("}, {":)", ":)"}, {"( )", "()"}, {"a(b", "a (b"}, {"\n", ""}, {"a\r", "a"},
	} {
		l, _, e := lex.Lex(x.s)
		if s := lex.Text(l); s != x.want || e != api.OK {
			t.Errorf("%q %q", x.s, s)
		}
	}
	if s := lex.Text([]api.Token{}); s != "" {
		t.Error(s)
	}
	if s := lex.Text(slices.Repeat([]api.Token{token(4, ":", 0)}, 1<<16)); s != strings.Repeat(":", 1<<16) {
		t.Error(len(s))
	}
}

// alike reports whether the tokens of a and b are equal but for their At.
func alike(a, b []api.Token) bool {
	return slices.EqualFunc(a, b, func(x, y api.Token) bool {
		x.At, y.At = 0, 0
		return x == y
	})
}

// follows checks what P6.3 says of one text.
func follows(t *testing.T, s string) {
	t.Helper()
	l, _, e := lex.Lex(s)
	if e != api.OK {
		return
	}
	last := -1
	for _, x := range l {
		if x.At <= last || x.At >= len(s) || !strings.HasPrefix(s[x.At:], x.Text) || x.Text == "" || x.Kind != api.TkNumber && x.N != 0 {
			t.Fatalf("%q %v", s, x)
		}
		last = x.At
	}
	if text := lex.Text(l); len(text) <= 4096 {
		if again, at, e := lex.Lex(text); e != api.OK || at != 0 || !alike(l, again) || lex.Text(again) != text {
			t.Fatalf("%q %q", s, text)
		}
	}
	var b strings.Builder
	end := 0
	for i, x := range l {
		b.WriteString(s[end:x.At] + white[i%4:i%4+1] + x.Text)
		end = x.At + len(x.Text)
	}
	if wide := b.String() + "\n \r"; len(wide) <= 4096 {
		if again, at, e := lex.Lex(wide); e != api.OK || at != 0 || !alike(l, again) {
			t.Fatalf("%q %q", s, wide)
		}
	}
}

// TestFollows: tokens are found at their At, which are increasing; the text of the tokens has the same tokens; additional white space changes the At only (P6.3).
func TestFollows(t *testing.T) {
	texts("a1 ():", 6, func(s string) { follows(t, s) })
	follows(t, "from 0 to 100: (order (atom 2 1 10) (any (atom 4 2 5) (atom 1 1 20)))")
	follows(t, strings.Repeat("(any ", 819))
	follows(t, strings.Repeat("a:", 2048))
	// The text of the tokens may be longer than a text can be: with blanks there are 6144 bytes.
	many, _, e := lex.Lex(strings.Repeat("a(", 2048))
	if text := lex.Text(many); e != api.OK || len(text) != 6144 {
		t.Error(e, len(text))
	} else {
		lexed(t, text, nil, 0, api.ErrLong)
	}
}

// TestMemory: no two answers share memory, and the list that Text is given is not changed, its spare capacity included (P6.1, P6.2; R5).
func TestMemory(t *testing.T) {
	s := "from 0 to 9: (atom 1 1 3)"
	a, _, _ := lex.Lex(s)
	b, _, _ := lex.Lex(s)
	whole := a[:cap(a)]
	for i := range whole {
		whole[i] = token(9, "spoilt", -7)
	}
	c, _, _ := lex.Lex(s)
	if !slices.Equal(b, c) || lex.Text(b) != s {
		t.Error(b, c)
	}
	room := append(make([]api.Token, 0, len(b)+8), b...)
	full := room[:cap(room)]
	for i := len(b); i < len(full); i++ {
		full[i] = token(7, "spare", i)
	}
	before := slices.Clone(full)
	if lex.Text(room) != s || !slices.Equal(full, before) {
		t.Error(full)
	}
}
