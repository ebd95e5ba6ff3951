package show_test

import (
	"math/rand"
	"reflect"
	"strconv"
	"strings"
	"testing"

	"gnomon/api"
	"gnomon/names"
	"gnomon/read"
	"gnomon/sample"
	"gnomon/show"
)

func TestText(t *testing.T) {
	p := api.Program{Funcs: []api.Func{
		{Name: "main", Blocks: []api.Block{{Label: "a", Code: []api.Instr{
			{Op: api.Alloca, Dst: "x", N: 2}, {Op: api.Store, A: "x", B: "null"}, {Op: api.Ret}}}}},
		{Name: "f", Params: []string{"a"}},
		{Name: "func", Params: []string{"a", "b", "c"}, Blocks: []api.Block{{Label: "ret"}, {Label: "b", Code: []api.Instr{
			{Op: api.Malloc, Dst: "x", N: 64},
			{Op: api.Null, Dst: "x"},
			{Op: api.Addr, Dst: "x", Fn: "f"},
			{Op: api.Copy, Dst: "x", A: "null"},
			{Op: api.Phi, Dst: "h", Args: []string{"x", "null"}, Labels: []string{"a", "b"}},
			{Op: api.Phi, Dst: "h", Args: []string{"x"}, Labels: []string{"a"}},
			{Op: api.Field, Dst: "d", A: "x", N: 1},
			{Op: api.Field, Dst: "d", A: "x"},
			{Op: api.Load, Dst: "d", A: "x"},
			{Op: api.Call, Dst: "r", Fn: "f", Args: []string{"x", "y"}},
			{Op: api.Call, Fn: "f"},
			{Op: api.ICall, Dst: "r", A: "p", Args: []string{"null"}},
			{Op: api.ICall, A: "p"},
			{Op: api.Br, Labels: []string{"a", "b"}},
			{Op: api.Goto, Labels: []string{"a"}},
			{Op: api.Ret, A: "null"},
		}}}},
	}}
	want := `func main() {
a:
  x = alloca 2
  store x, null
  ret
}
func f(a) {
}
func func(a, b, c) {
ret:
b:
  x = malloc 64
  x = null
  x = addr f
  x = copy null
  h = phi [a: x, b: null]
  h = phi [a: x]
  d = field x 1
  d = field x 0
  d = load x
  r = call f(x, y)
  call f()
  r = icall p(null)
  icall p()
  br a b
  goto a
  ret null
}
`
	if got, e := show.Print(p); got != want || e != api.OK {
		t.Errorf("%v\n%s", e, got)
	}
	if got, e := show.Print(api.Program{}); got != "" || e != api.OK {
		t.Errorf("no functions: %q, %v", got, e)
	}
}

func TestShape(t *testing.T) {
	ret := api.Instr{Op: api.Ret}
	one := func(x api.Instr) api.Program {
		return api.Program{Funcs: []api.Func{{Name: "main", Blocks: []api.Block{{Label: "a", Code: []api.Instr{ret, x}}}}}}
	}
	for k, p := range []api.Program{
		{Funcs: []api.Func{{Name: "1"}}},
		{Funcs: []api.Func{{Name: "f"}, {}}},
		{Funcs: []api.Func{{Name: "f", Params: []string{"null"}}}},
		{Funcs: []api.Func{{Name: "f", Blocks: []api.Block{{}}}}},
		one(api.Instr{}),
		one(api.Instr{Op: 99}),
		one(api.Instr{Op: api.Phi, Dst: "a"}),
		one(api.Instr{Op: api.Phi, Dst: "a", Args: []string{"null"}}),
		one(api.Instr{Op: api.Copy, Dst: "a"}),
		one(api.Instr{Op: api.Copy, Dst: "a", A: "1"}),
		one(api.Instr{Op: api.Call, Fn: "f", Args: []string{""}}),
		one(api.Instr{Op: api.Alloca, Dst: "a", N: 65}),
		one(api.Instr{Op: api.Field, Dst: "a", A: "b", N: -1}),
	} {
		if s, e := show.Print(p); s != "" || e != api.ErrShape {
			t.Errorf("row %d: %q, %v", k, s, e)
		}
	}
	long := api.Func{Name: "f", Blocks: []api.Block{{Label: "a", Code: make([]api.Instr, api.MaxText)}}}
	for i := range long.Blocks[0].Code {
		long.Blocks[0].Code[i] = ret
	}
	if s, e := show.Print(api.Program{Funcs: []api.Func{long, {}}}); s != "" || e != api.ErrShape {
		t.Errorf("long and in no shape: %d bytes, %v", len(s), e)
	}
}

func TestLong(t *testing.T) {
	// Lines of "func f() {", "a:", "}" and of "  ret" in between, and a name that takes what is left.
	f := api.Func{Name: "f", Blocks: []api.Block{{Label: "a"}}}
	left := api.MaxText - len("func f() {\na:\n}\n")
	for left > 200 {
		f.Blocks[0].Code = append(f.Blocks[0].Code, api.Instr{Op: api.Ret})
		left -= len("  ret\n")
	}
	for left > 0 {
		n := min(left-3, 60)
		if left-n-3 > 0 && left-n-3 < 4 {
			n -= 4
		}
		f.Blocks = append(f.Blocks, api.Block{Label: strings.Repeat("b", n+1)})
		left -= n + 3
	}
	s, e := show.Print(api.Program{Funcs: []api.Func{f}})
	if len(s) != api.MaxText || e != api.OK {
		t.Fatalf("%d bytes, %v", len(s), e)
	}
	f.Params = []string{"p"}
	if s, e := show.Print(api.Program{Funcs: []api.Func{f}}); s != "" || e != api.ErrLong {
		t.Errorf("one byte more: %d bytes, %v", len(s), e)
	}
	f.Params = nil
	if s, e := show.Print(api.Program{Funcs: []api.Func{f, {Name: "g"}}}); s != "" || e != api.ErrLong {
		t.Errorf("a function more: %d bytes, %v", len(s), e)
	}
}

// again holds a program against what its text is read as, and that against its text.
func again(t *testing.T, p api.Program) {
	t.Helper()
	s, e := show.Print(p)
	if e != api.OK {
		t.Fatalf("%+v: %v", p, e)
	}
	q, _, e := read.Parse(s)
	if e != api.OK || len(p.Funcs)+len(q.Funcs) > 0 && !reflect.DeepEqual(p, q) {
		t.Fatalf("%v\n%s\n%+v\n%+v", e, s, p, q)
	}
	if s2, e := show.Print(q); s2 != s || e != api.OK {
		t.Fatalf("%s\n%s", s, s2)
	}
	laid := strings.NewReplacer("\n", " \t;x\n\n", ":", " :", ",", " ,\t", "(", "( ").Replace(s)
	if q, _, e = read.Parse(laid); e != api.OK {
		t.Fatalf("%s: %v", laid, e)
	}
	if s2, e := show.Print(q); s2 != s || e != api.OK {
		t.Fatalf("laid otherwise: %s\n%s", s, s2)
	}
}

func TestReadAgain(t *testing.T) {
	for seed := range 300 {
		again(t, sample.Program(seed, sample.Small()))
	}
}

// Programs that are told may break any rule beside two.
func TestReadAgainUnsound(t *testing.T) {
	r := rand.New(rand.NewSource(6))
	name := func() string {
		l := []string{"a", "b", "ret", "func", "call", "store", "x.1", "_", "goto", "phi"}
		return l[r.Intn(len(l))]
	}
	list := func() (l []string) {
		for range r.Intn(4) {
			l = append(l, name())
		}
		return l
	}
	instr := func(op api.Op, name func() string, list func() []string) (api.Instr, bool) {
		for range 300 {
			x := api.Instr{Op: op}
			for _, s := range []*string{&x.Dst, &x.A, &x.B, &x.Fn} {
				if r.Intn(2) == 0 {
					*s = name()
				}
			}
			x.Args, x.Labels, x.N = list(), list(), r.Intn(2)*r.Intn(64)
			one := api.Program{Funcs: []api.Func{{Name: "f", Blocks: []api.Block{{Label: "a", Code: []api.Instr{x}}}}}}
			if _, bad := names.First(one, api.BadInstr); !bad {
				return x, true
			}
		}
		return api.Instr{}, false
	}
	told := 0
	for range 500 {
		var p api.Program
		for range r.Intn(3) {
			f := api.Func{Name: name(), Params: list()}
			for range r.Intn(3) {
				b := api.Block{Label: name()}
				for range r.Intn(9) {
					x, is := instr(api.Op(1+r.Intn(14)), name, list)
					if is {
						b.Code = append(b.Code, x)
						told++
					}
				}
				f.Blocks = append(f.Blocks, b)
			}
			p.Funcs = append(p.Funcs, f)
		}
		again(t, p)
	}
	if told < 500 {
		t.Error("only "+strconv.Itoa(told), "instructions were told")
	}
}
