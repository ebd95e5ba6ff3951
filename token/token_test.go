package token_test

import (
	"math/rand"
	"strconv"
	"strings"
	"testing"

	"gnomon/api"
	"gnomon/token"
)

// tell puts words into one line, so that they can be held against a text.
func tell(l []api.Token) string {
	var out []string
	for _, w := range l {
		kind := string("?nks$"[min(int(w.Kind), 4)])
		s := kind + w.Text + "@" + strconv.Itoa(w.Spot.Line) + "," + strconv.Itoa(w.Spot.Col)
		if w.N != 0 {
			s += "=" + strconv.Itoa(w.N)
		}
		out = append(out, s)
	}
	return strings.Join(out, " ")
}

func TestWords(t *testing.T) {
	for _, x := range []struct{ text, want string }{
		{"", "$@1,1"},
		{"a.1=copy b;x", "na.1@1,1 s=@1,4 ncopy@1,5 nb@1,10 $@1,13"},
		{"12\n(", "k12@1,1=12 s(@2,1 $@2,2"},
		{"0", "k0@1,1 $@1,2"},
		{"999999999", "k999999999@1,1=999999999 $@1,10"},
		{" \t\r\n\n x", "nx@3,2 $@3,3"},
		{"a\tb\rc", "na@1,1 nb@1,3 nc@1,5 $@1,6"},
		{"_ _.9Z.", "n_@1,1 n_.9Z.@1,3 $@1,8"},
		{"=,:(){}[]", "s=@1,1 s,@1,2 s:@1,3 s(@1,4 s)@1,5 s{@1,6 s}@1,7 s[@1,8 s]@1,9 $@1,10"},
		{";\x01\xff-;\n;", "$@2,2"},
		{"azAZ09", "nazAZ09@1,1 $@1,7"},
		{"1;a", "k1@1,1=1 $@1,4"},
		{"1(2", "k1@1,1=1 s(@1,2 k2@1,3=2 $@1,4"},
		{"a\n", "na@1,1 $@2,1"},
		{"x==y", "nx@1,1 s=@1,2 s=@1,3 ny@1,4 $@1,5"},
	} {
		l, s, e := token.Lex(x.text)
		if got := tell(l); got != x.want || s != (api.Spot{}) || e != api.OK {
			t.Errorf("%q: %s, %v, %v; want %s", x.text, got, s, e, x.want)
		}
	}
}

func TestErrors(t *testing.T) {
	for _, x := range []struct {
		text      string
		e         api.Errno
		line, col int
	}{
		{"007", api.ErrNumber, 1, 1},
		{"00", api.ErrNumber, 1, 1},
		{"1234567890", api.ErrNumber, 1, 1},
		{"1a", api.ErrNumber, 1, 1},
		{"1_", api.ErrNumber, 1, 1},
		{"1.", api.ErrNumber, 1, 1},
		{"a-b", api.ErrByte, 1, 2},
		{".", api.ErrByte, 1, 1},
		{"x .a", api.ErrByte, 1, 3},
		{"\x00", api.ErrByte, 1, 1},
		{"a\v", api.ErrByte, 1, 2},
		{"a\f", api.ErrByte, 1, 2},
		{"\n\té", api.ErrByte, 2, 2},
		{"\n a 01 -", api.ErrNumber, 2, 4},
		{"\n a - 01", api.ErrByte, 2, 4},
		{"; -\n 5b", api.ErrNumber, 2, 2},
		{"1-", api.ErrByte, 1, 2},
	} {
		l, s, e := token.Lex(x.text)
		if len(l) != 0 || s != (api.Spot{Line: x.line, Col: x.col}) || e != x.e {
			t.Errorf("%q: %d words, %v, %v", x.text, len(l), s, e)
		}
	}
	for c := range 256 {
		_, s, e := token.Lex("a " + string([]byte{byte(c)}))
		good := strings.IndexByte(" \t\r\n;=,:(){}[]_0123456789", byte(c)) >= 0 || c >= 'a' && c <= 'z' || c >= 'A' && c <= 'Z'
		if good != (e == api.OK) || !good && (e != api.ErrByte || s != api.Spot{Line: 1, Col: 3}) {
			t.Errorf("byte %d: %v, %v", c, s, e)
		}
	}
}

func TestLong(t *testing.T) {
	at := strings.Repeat("a", api.MaxText)
	if l, _, e := token.Lex(at); e != api.OK || len(l) != 2 || l[0].Text != at {
		t.Error("a text of MaxText bytes")
	}
	if l, s, e := token.Lex("-" + at); e != api.ErrLong || len(l) != 0 || s != (api.Spot{}) {
		t.Error("a text of one byte more")
	}
}

// Words are told as they are laid, wherever blanks and comments stand between them.
func TestLaid(t *testing.T) {
	r := rand.New(rand.NewSource(3))
	words := []string{"a", "b.1", "null", "_", "Z9", "0", "7", "120", "999999999", "=", ",", ":", "(", ")", "{", "}", "[", "]"}
	gaps := []string{" ", "\t", "\r", "\n", ";x - 01\n", "; ;\n\n", "  "}
	for range 500 {
		var b strings.Builder
		var want []api.Token
		spot := api.Spot{Line: 1, Col: 1}
		put := func(s string) {
			b.WriteString(s)
			for i := range len(s) {
				spot.Col++
				if s[i] == '\n' {
					spot = api.Spot{Line: spot.Line + 1, Col: 1}
				}
			}
		}
		sign := true
		for range r.Intn(30) {
			k := r.Intn(len(words))
			w := api.Token{Kind: api.TokName, Text: words[k]}
			if k >= 5 {
				w.Kind = api.TokNumber
				w.N, _ = strconv.Atoi(w.Text)
			}
			if k >= 9 {
				w.Kind = api.TokSign
			}
			n := r.Intn(3)
			if n == 0 && !sign && w.Kind != api.TokSign {
				n = 1
			}
			for range n {
				put(gaps[r.Intn(len(gaps))])
			}
			w.Spot = spot
			put(w.Text)
			want = append(want, w)
			sign = w.Kind == api.TokSign
		}
		if r.Intn(2) == 0 {
			put(" ;end")
		}
		want = append(want, api.Token{Kind: api.TokEnd, Spot: spot})
		l, _, e := token.Lex(b.String())
		if e != api.OK || tell(l) != tell(want) {
			t.Fatalf("%q: %v\n%s\n%s", b.String(), e, tell(l), tell(want))
		}
	}
}
