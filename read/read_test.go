package read_test

import (
	"math/rand"
	"reflect"
	"strings"
	"testing"

	"gnomon/api"
	"gnomon/read"
	"gnomon/token"
)

// in puts instructions into the one block of a function, so that each may be held against what it is read as.
func in(l ...string) string {
	return "func f() {\na:\n" + strings.Join(l, "\n") + "\n}\n"
}

func TestInstructions(t *testing.T) {
	for _, x := range []struct {
		text string
		want api.Instr
	}{
		{"x = alloca 2", api.Instr{Op: api.Alloca, Dst: "x", N: 2}},
		{"x = malloc 999999999", api.Instr{Op: api.Malloc, Dst: "x", N: 999999999}},
		{"x = null", api.Instr{Op: api.Null, Dst: "x"}},
		{"x = addr f", api.Instr{Op: api.Addr, Dst: "x", Fn: "f"}},
		{"x = copy null", api.Instr{Op: api.Copy, Dst: "x", A: "null"}},
		{"x = load p.1", api.Instr{Op: api.Load, Dst: "x", A: "p.1"}},
		{"x = field y 0", api.Instr{Op: api.Field, Dst: "x", A: "y"}},
		{"x = field y 7", api.Instr{Op: api.Field, Dst: "x", A: "y", N: 7}},
		{"x = phi [a: y]", api.Instr{Op: api.Phi, Dst: "x", Args: []string{"y"}, Labels: []string{"a"}}},
		{"x=phi[a:y,b:null,a:x]", api.Instr{Op: api.Phi, Dst: "x", Args: []string{"y", "null", "x"}, Labels: []string{"a", "b", "a"}}},
		{"x = call f()", api.Instr{Op: api.Call, Dst: "x", Fn: "f"}},
		{"call f(x)", api.Instr{Op: api.Call, Fn: "f", Args: []string{"x"}}},
		{"x = call null(a, null, b)", api.Instr{Op: api.Call, Dst: "x", Fn: "null", Args: []string{"a", "null", "b"}}},
		{"x = icall p(q)", api.Instr{Op: api.ICall, Dst: "x", A: "p", Args: []string{"q"}}},
		{"icall null()", api.Instr{Op: api.ICall, A: "null"}},
		{"store x, y", api.Instr{Op: api.Store, A: "x", B: "y"}},
		{"br a b", api.Instr{Op: api.Br, Labels: []string{"a", "b"}}},
		{"goto a", api.Instr{Op: api.Goto, Labels: []string{"a"}}},
		{"ret", api.Instr{Op: api.Ret}},
		{"ret null", api.Instr{Op: api.Ret, A: "null"}},
		{"ret ret", api.Instr{Op: api.Ret, A: "ret"}},
		{"ret = null", api.Instr{Op: api.Null, Dst: "ret"}},
		{"store = copy store", api.Instr{Op: api.Copy, Dst: "store", A: "store"}},
		{"call = call call(call)", api.Instr{Op: api.Call, Dst: "call", Fn: "call", Args: []string{"call"}}},
		{"func = addr func", api.Instr{Op: api.Addr, Dst: "func", Fn: "func"}},
		{"null = load null", api.Instr{Op: api.Load, Dst: "null", A: "null"}},
		{"br br goto", api.Instr{Op: api.Br, Labels: []string{"br", "goto"}}},
	} {
		p, s, e := read.Parse(in(x.text, "ret"))
		want := api.Program{Funcs: []api.Func{{Name: "f", Blocks: []api.Block{{Label: "a", Code: []api.Instr{x.want, {Op: api.Ret}}}}}}}
		if !reflect.DeepEqual(p, want) || s != (api.Spot{}) || e != api.OK {
			t.Errorf("%s: %+v, %v, %v", x.text, p, s, e)
		}
	}
}

func TestFunctions(t *testing.T) {
	text := "\n; none yet\nfunc main() {\na:\n x = alloca 2\nstore x, x ; here\n\n\tret\n}\nfunc g(a, null, a) {\n}\nfunc func(func) {\nret:\ngoto:\nret\ncall:\n}"
	want := api.Program{Funcs: []api.Func{
		{Name: "main", Blocks: []api.Block{{Label: "a", Code: []api.Instr{
			{Op: api.Alloca, Dst: "x", N: 2}, {Op: api.Store, A: "x", B: "x"}, {Op: api.Ret}}}}},
		{Name: "g", Params: []string{"a", "null", "a"}},
		{Name: "func", Params: []string{"func"}, Blocks: []api.Block{{Label: "ret"}, {Label: "goto", Code: []api.Instr{{Op: api.Ret}}}, {Label: "call"}}},
	}}
	if p, s, e := read.Parse(text); !reflect.DeepEqual(p, want) || s != (api.Spot{}) || e != api.OK {
		t.Errorf("%+v, %v, %v", p, s, e)
	}
	for _, none := range []string{"", "\n", " ;x", ";\n\n"} {
		if p, s, e := read.Parse(none); len(p.Funcs) != 0 || s != (api.Spot{}) || e != api.OK {
			t.Errorf("%q: %+v, %v, %v", none, p, s, e)
		}
	}
}

func TestErrors(t *testing.T) {
	for _, x := range []struct {
		text      string
		e         api.Errno
		line, col int
	}{
		{"func f() { a: ..", api.ErrByte, 1, 15},
		{"func f() { a:", api.ErrSyntax, 1, 12},
		{"func f(\n) {", api.ErrSyntax, 2, 1},
		{"func f() {\na:\nx = copy\n}", api.ErrSyntax, 4, 1},
		{"func f() {\na:\nret", api.ErrEnd, 3, 4},
		{"func f() {\nx = null\n}", api.ErrSyntax, 2, 3},
		{"func f() {\nret\n}", api.ErrSyntax, 3, 1},
		{"func f() {\nret x\n}", api.ErrSyntax, 2, 5},
		{"func f() {\na:\nret x y\n}", api.ErrSyntax, 3, 7},
		{"func f() {\na:\nret,\n}", api.ErrSyntax, 3, 4},
		{"func f() {\na:\nret\n} func g() {\n}", api.ErrSyntax, 4, 3},
		{"func f() {\na: ret\n}", api.ErrSyntax, 2, 4},
		{"func f() {}", api.ErrSyntax, 1, 11},
		{"func f() {\na:\n}\n}", api.ErrSyntax, 4, 1},
		{"x", api.ErrSyntax, 1, 1},
		{"1", api.ErrSyntax, 1, 1},
		{"{", api.ErrSyntax, 1, 1},
		{"func", api.ErrEnd, 1, 5},
		{"func\n", api.ErrEnd, 2, 1},
		{"func 1", api.ErrSyntax, 1, 6},
		{"func f", api.ErrEnd, 1, 7},
		{"func f(,", api.ErrSyntax, 1, 8},
		{"func f(a,)", api.ErrSyntax, 1, 10},
		{"func f(a b)", api.ErrSyntax, 1, 10},
		{"func f() ;x\n{", api.ErrSyntax, 2, 1},
		{"func f() {\n1:\n}", api.ErrSyntax, 2, 1},
		{"func f() {\na\n:\n}", api.ErrSyntax, 3, 1},
		{"func f() {\nfunc g() {\n}\n}", api.ErrSyntax, 2, 6},
		{in("x = store"), api.ErrSyntax, 3, 5},
		{in("x = y"), api.ErrSyntax, 3, 5},
		{in("x = 1"), api.ErrSyntax, 3, 5},
		{in("x ="), api.ErrSyntax, 4, 1},
		{in("x = \n null"), api.ErrSyntax, 4, 2},
		{in("x\n= null"), api.ErrSyntax, 4, 1},
		{in("alloca 1"), api.ErrSyntax, 3, 8},
		{in("x = alloca y"), api.ErrSyntax, 3, 12},
		{in("x = alloca\n1"), api.ErrSyntax, 4, 1},
		{in("x = alloca 1 1"), api.ErrSyntax, 3, 14},
		{in("x = null y"), api.ErrSyntax, 3, 10},
		{in("x = addr"), api.ErrSyntax, 4, 1},
		{in("x = field 1 y"), api.ErrSyntax, 3, 11},
		{in("x = field y"), api.ErrSyntax, 4, 1},
		{in("x = phi []"), api.ErrSyntax, 3, 10},
		{in("x = phi [a]"), api.ErrSyntax, 3, 11},
		{in("x = phi [a: b,]"), api.ErrSyntax, 3, 15},
		{in("x = phi [a: b c: d]"), api.ErrSyntax, 3, 15},
		{in("phi [a: b]"), api.ErrSyntax, 3, 5},
		{in("store x y"), api.ErrSyntax, 3, 9},
		{in("store x,"), api.ErrSyntax, 4, 1},
		{in("call f"), api.ErrSyntax, 4, 1},
		{in("call f(x"), api.ErrSyntax, 4, 1},
		{in("call f[x]"), api.ErrSyntax, 3, 7},
		{in("icall 1()"), api.ErrSyntax, 3, 7},
		{in("br a"), api.ErrSyntax, 4, 1},
		{in("br a, b"), api.ErrSyntax, 3, 5},
		{in("goto a b"), api.ErrSyntax, 3, 8},
		{in("= x"), api.ErrSyntax, 3, 1},
		{in("x : y"), api.ErrSyntax, 3, 5},
		{in("goto"), api.ErrSyntax, 4, 1},
		{"func f(\n 01", api.ErrNumber, 2, 2},
		{strings.Repeat(" ", api.MaxText+1), api.ErrLong, 0, 0},
	} {
		p, s, e := read.Parse(x.text)
		if len(p.Funcs) != 0 || s != (api.Spot{Line: x.line, Col: x.col}) || e != x.e {
			t.Errorf("%q: %+v, %v, %v", x.text, p, s, e)
		}
	}
}

// forms are all pieces, by the state of what was read ahead: 0 no function is open, 1 a function, 2 a block. N stands for a name, K for a number.
func forms() [3][]string {
	lists := []string{"( )"}
	for k := range 7 {
		lists = append(lists, "( N"+strings.Repeat(" , N", k)+" )")
	}
	out := [3][]string{nil, {"}", "N :"}, {"}", "N :", "N = alloca K", "N = malloc K", "N = null", "N = addr N", "N = copy N", "N = load N", "N = field N K",
		"store N , N", "br N N", "goto N", "ret", "ret N"}}
	for k := range 7 {
		out[2] = append(out[2], "N = phi [ N : N"+strings.Repeat(" , N : N", k)+" ]")
	}
	for _, l := range lists {
		out[0] = append(out[0], "func N "+l+" {")
		out[2] = append(out[2], "call N "+l, "icall N "+l, "N = call N "+l, "N = icall N "+l)
	}
	return out
}

func fits(f string, w api.Token) bool {
	switch f {
	case "N":
		return w.Kind == api.TokName
	case "K":
		return w.Kind == api.TokNumber
	}
	return f == w.Text
}

// firstWrong goes through the lines of words piece by piece, trying all forms: the word with which none goes on, and whether there is one.
func firstWrong(words []api.Token) (api.Token, bool) {
	all := forms()
	state, at := 0, 0
	for {
		if words[at].Kind == api.TokEnd {
			return words[at], state > 0
		}
		line := words[at].Spot.Line
		left := all[state]
		for k := 0; ; k++ {
			w := words[at]
			if w.Kind == api.TokEnd || w.Spot.Line > line {
				whole := ""
				for _, f := range left {
					if len(strings.Fields(f)) == k {
						whole = f
					}
				}
				if whole == "" {
					return w, true
				}
				state = map[string]int{"}": 0, "N :": 2}[whole]
				if strings.HasPrefix(whole, "func") {
					state = 1
				} else if whole != "}" {
					state = 2
				}
				break
			}
			var next []string
			for _, f := range left {
				if s := strings.Fields(f); k < len(s) && fits(s[k], w) {
					next = append(next, f)
				}
			}
			if len(next) == 0 {
				return w, true
			}
			left = next
			at++
		}
	}
}

// An error's place is that of the first word with which no text goes on, and what stands behind it plays no part.
func TestAgainstForms(t *testing.T) {
	r := rand.New(rand.NewSource(4))
	names := []string{"a", "b", "null", "ret", "store", "call", "icall", "br", "goto", "func", "alloca", "phi", "copy", "field"}
	stray := []string{"=", ",", ":", "(", ")", "{", "}", "[", "]", "1", "22", "a", "ret", "func"}
	all := forms()
	bad, good := 0, 0
	for range 30000 {
		var b strings.Builder
		state := 0
		for range 1 + r.Intn(8) {
			f := all[state][r.Intn(len(all[state]))]
			if state == 2 && r.Intn(4) > 0 {
				f = all[2][2+r.Intn(len(all[2])-2)]
			}
			if state == 1 && r.Intn(4) > 0 {
				f = "N :"
			}
			if strings.Count(f, ",") > 3 { // room for what is put in astray
				continue
			}
			switch {
			case f == "}":
				state = 0
			case state == 0:
				state = 1
			default:
				state = 2
			}
			for _, w := range strings.Fields(f) {
				switch w {
				case "N":
					w = names[r.Intn(len(names))]
				case "K":
					w = stray[9+r.Intn(2)]
				}
				switch r.Intn(60) {
				case 0:
					w = stray[r.Intn(len(stray))]
				case 1:
					w += " " + stray[r.Intn(len(stray))]
				case 2:
					w = ""
				case 3:
					w += "\n"
				}
				b.WriteString(w + " ")
			}
			if r.Intn(40) > 0 {
				b.WriteString(" ; x 1 \n")
			}
		}
		if state > 0 && r.Intn(3) > 0 {
			b.WriteString("}")
		}
		words, _, _ := token.Lex(b.String())
		w, wrong := firstWrong(words)
		p, s, e := read.Parse(b.String())
		if !wrong {
			good++
			if e != api.OK || s != (api.Spot{}) {
				t.Fatalf("%q: %v, %v", b.String(), s, e)
			}
			continue
		}
		bad++
		want := api.ErrSyntax
		if w.Kind == api.TokEnd {
			want = api.ErrEnd
		}
		if e != want || s != w.Spot || len(p.Funcs) != 0 {
			t.Fatalf("%q: %v, %v; want %v, %v", b.String(), s, e, w.Spot, want)
		}
	}
	if bad < 1000 || good < 1000 {
		t.Errorf("%d texts were wrong, %d were not", bad, good)
	}
}

// However pieces are laid, the same program is told.
func TestLaid(t *testing.T) {
	plain := "func f(a,b) {\nx:\np = phi [x:a,y:b]\nstore p,a\nq = icall p(a,b)\nbr x x\n}\nfunc g() {\n}\n"
	want, _, e := read.Parse(plain)
	if e != api.OK || len(want.Funcs) != 2 {
		t.Fatal(e)
	}
	for _, x := range [][2]string{{"\n", "\n\n"}, {"\n", " \t;, } x\n\n ;\n"}, {" ", "\t \r"}, {",", " , "}, {"(", " ( "}, {":", " :"}, {"\n", "\r\n"}} {
		if p, _, e := read.Parse("\n " + strings.ReplaceAll(plain, x[0], x[1])); e != api.OK || !reflect.DeepEqual(p, want) {
			t.Errorf("%q by %q: %+v, %v", x[0], x[1], p, e)
		}
	}
}
