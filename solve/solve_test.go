package solve_test

import (
	"math"
	"slices"
	"testing"

	"gnomon/api"
	"gnomon/bits"
	"gnomon/read"
	"gnomon/rule"
	"gnomon/run"
	"gnomon/sample"
	"gnomon/sites"
	"gnomon/solve"
)

func mapOf(t *testing.T, text string) *sites.Map {
	t.Helper()
	p, s, e := read.Parse(text)
	if e != api.OK {
		t.Fatal(s, e)
	}
	m, e := sites.New(p)
	if e != api.OK {
		t.Fatal(e)
	}
	return m
}

func at(f, b, i int) api.Point { return api.Point{Func: f, Block: b, At: i} }

func isList(t *testing.T, what string, got []int, want ...int) {
	t.Helper()
	if !slices.Equal(got, want) {
		t.Errorf("%s: %v, want %v", what, got, want)
	}
}

func TestExample(t *testing.T) {
	a := solve.Solve(mapOf(t, "func f(a) {\ne:\nret a\n}\nfunc main() {\ne:\np = alloca 2\nq = field p 1\nstore q, p\nx = load p\ny = call f(x)\nret\n}"))
	isList(t, "a", a.Var(0), 1)
	isList(t, "p", a.Var(1), 0)
	isList(t, "q", a.Var(2), 1)
	isList(t, "x", a.Var(3), 1)
	isList(t, "y", a.Var(4), 1)
	isList(t, "field 0", a.Obj(0), 1)
	isList(t, "field 1", a.Obj(1))
	for _, o := range []int{2, 3, 4, -1, math.MaxInt} {
		isList(t, "what is no field", a.Obj(o))
	}
	for _, v := range []int{5, -1, math.MinInt} {
		isList(t, "what is no variable", a.Var(v))
		if a.Has(v, 0) {
			t.Error("Has of no variable")
		}
	}
	if !a.Has(3, 1) || a.Has(3, 0) || a.Has(3, -1) || a.Has(3, math.MaxInt) {
		t.Error("Has")
	}
	if a.Steps() < 1 {
		t.Error("no set took another one in")
	}
	isList(t, "the call", a.Callees(at(1, 0, 4)), 0)
	for _, p := range []api.Point{at(1, 0, 3), at(1, 0, 9), at(-1, 0, 0), at(0, 0, 0)} {
		isList(t, "what is no call", a.Callees(p))
	}
}

func TestIndirect(t *testing.T) {
	m := mapOf(t, "func f(a) {\ne:\nret a\n}\nfunc g(b) {\ne:\nr = copy b\nret r\n}\nfunc h() {\ne:\nret\n}\nfunc k(c) {\ne:\nret\n}\nfunc main() {\ne:\np = alloca 1\nx = addr f\ny = addr g\nz = addr h\nstore x, p\nstore y, p\nstore z, p\nstore p, p\nw = load p\nv = icall w(p)\nicall w()\nicall null(p)\nu = icall w(p, p)\nj = addr k\nret\n}")
	a := solve.Solve(m)
	isList(t, "one argument", a.Callees(at(4, 0, 9)), 0, 1)
	isList(t, "none", a.Callees(at(4, 0, 10)), 2)
	isList(t, "null", a.Callees(at(4, 0, 11)))
	isList(t, "two", a.Callees(at(4, 0, 12)))
	v, _ := m.Var(4, "v")
	isList(t, "v", a.Var(v), 0)
	u, _ := m.Var(4, "u")
	isList(t, "u", a.Var(u))
	c, _ := m.Var(3, "c")
	isList(t, "the parameter of what is not called", a.Var(c))
	w, _ := m.Var(4, "w")
	isList(t, "w", a.Var(w), 0, m.FuncObj(0), m.FuncObj(1), m.FuncObj(2))
}

func TestNil(t *testing.T) {
	if solve.Solve(nil) != nil {
		t.Error("an answer of no map")
	}
	var a *solve.Answer
	if len(a.Var(0))+len(a.Obj(0))+len(a.Callees(at(0, 0, 0)))+a.Steps() != 0 || a.Has(0, 0) {
		t.Error("a nil answer has something")
	}
}

func TestBound(t *testing.T) {
	for _, x := range [][2]int{{0, 0}, {-1, 0}, {math.MinInt, 0}, {1, 1000}, {2, 8000}, {10, 1000000}, {166451, 1000 * 166451 * 166451 * 166451}, {166520, 1 << 62}, {1 << 40, 1 << 62}, {math.MaxInt, 1 << 62}} {
		if got := solve.Bound(x[0]); got != x[1] {
			t.Errorf("Bound(%d) = %d, want %d", x[0], got, x[1])
		}
	}
}

// slow are the least sets of the constraints: variables, and behind them fields.
func slow(m *sites.Map) []*bits.Set {
	var sets []*bits.Set
	for range m.Vars() + m.Fields() {
		sets = append(sets, bits.Of())
	}
	rels, dials := rule.Of(m)
	fields := func(v int) []int {
		return slices.DeleteFunc(sets[v].List(), func(o int) bool { return o >= m.Fields() })
	}
	for grown := true; grown; {
		grown = false
		put := func(to, from int) { grown = sets[to].Union(sets[from]) || grown }
		for _, r := range rels {
			switch r.Kind {
			case api.CBase:
				grown = sets[r.A].Add(r.B) || grown
			case api.CCopy:
				put(r.A, r.B)
			case api.CLoad:
				for _, o := range fields(r.B) {
					put(r.A, m.Vars()+o)
				}
			case api.CStore:
				for _, o := range fields(r.A) {
					put(m.Vars()+o, r.B)
				}
			case api.CField:
				for _, o := range fields(r.B) {
					if to, is := m.Step(o, r.K); is {
						grown = sets[r.A].Add(to) || grown
					}
				}
			case api.CCall:
				d := dials[r.K]
				for f := range m.Funcs() {
					if !sets[r.A].Has(m.FuncObj(f)) || len(m.Params(f)) != len(d.Args) {
						continue
					}
					for i, p := range m.Params(f) {
						if d.Args[i] >= 0 {
							put(p, d.Args[i])
						}
					}
					for _, x := range m.Rets(f) {
						if x >= 0 && d.Dst >= 0 {
							put(d.Dst, x)
						}
					}
				}
			}
		}
	}
	return sets
}

func hold(t *testing.T, m *sites.Map, what int) *solve.Answer {
	t.Helper()
	a := solve.Solve(m)
	sets := slow(m)
	for v := range m.Vars() {
		if !slices.Equal(a.Var(v), sets[v].List()) {
			t.Fatalf("program %d: variable %d has %v, want %v", what, v, a.Var(v), sets[v].List())
		}
		for o := -1; o <= m.Objs(); o++ {
			if a.Has(v, o) != sets[v].Has(o) {
				t.Fatalf("program %d: Has(%d, %d)", what, v, o)
			}
		}
	}
	for o := range m.Fields() {
		if !slices.Equal(a.Obj(o), sets[m.Vars()+o].List()) {
			t.Fatalf("program %d: field %d has %v, want %v", what, o, a.Obj(o), sets[m.Vars()+o].List())
		}
	}
	for _, p := range m.Points() {
		x, _ := m.Instr(p)
		var want []int
		for f := range m.Funcs() {
			v, _ := m.Var(p.Func, x.A)
			g, _ := m.Func(x.Fn)
			if x.Op == api.Call && g == f || x.Op == api.ICall && v >= 0 && sets[v].Has(m.FuncObj(f)) && len(m.Params(f)) == len(x.Args) {
				want = append(want, f)
			}
		}
		if !slices.Equal(a.Callees(p), want) {
			t.Fatalf("program %d: %v calls %v, want %v", what, p, a.Callees(p), want)
		}
	}
	if a.Steps() < 0 || a.Steps() > solve.Bound(m.Size()) {
		t.Fatalf("program %d: %d steps", what, a.Steps())
	}
	if a.Steps() != solve.Solve(m).Steps() {
		t.Fatalf("program %d: steps hang on something", what)
	}
	return a
}

func TestAgainstSlow(t *testing.T) {
	for seed := range 1500 {
		m, e := sites.New(sample.Program(seed, sample.Small()))
		if e != api.OK {
			t.Fatal(e)
		}
		hold(t, m, seed)
	}
	for seed := range 30 {
		m, e := sites.New(sample.Program(seed, sample.Shape{Funcs: 6, Params: 3, Blocks: 12, Code: 12, Fields: 6}))
		if e != api.OK {
			t.Fatal(e)
		}
		hold(t, m, seed)
	}
}

// Circles of copies come to be while sets grow, too.
func TestLateCircles(t *testing.T) {
	for seed := range 6 {
		m, e := sites.New(sample.Program(seed, sample.Shape{Funcs: 10, Params: 4, Blocks: 20, Code: 10, Fields: 4}))
		if e != api.OK {
			t.Fatal(e)
		}
		hold(t, m, seed)
	}
}

// Whatever run sees is told.
func TestRuns(t *testing.T) {
	facts := 0
	for seed := range 500 {
		p := sample.Program(seed, sample.Small())
		m, _ := sites.New(p)
		a := solve.Solve(m)
		d := sample.Throw(seed)
		for range 5 {
			saw, _ := run.Run(p, d.Choices(40))
			for _, f := range saw.Facts {
				if !a.Has(f.Var, f.Obj) {
					t.Fatalf("program %d: %v is not told", seed, f)
				}
			}
			for _, c := range saw.Calls {
				if !slices.Contains(a.Callees(c.At), c.Func) {
					t.Fatalf("program %d: %v is not told", seed, c)
				}
			}
			facts += len(saw.Facts)
		}
	}
	if facts < 1000 {
		t.Error("runs saw but little")
	}
}

func TestApart(t *testing.T) {
	a := solve.Solve(mapOf(t, "func main() {\ne:\np = alloca 1\nstore p, p\ncall main()\nret\n}"))
	a.Var(0)[0] = 7
	a.Obj(0)[0] = 7
	a.Callees(at(0, 0, 2))[0] = 7
	isList(t, "variable", a.Var(0), 0)
	isList(t, "field", a.Obj(0), 0)
	isList(t, "call", a.Callees(at(0, 0, 2)), 0)
}

// Many fields, all of which come to be in one set, and are stored into one another.
func TestGreat(t *testing.T) {
	p := api.Program{Funcs: []api.Func{{Name: "main", Blocks: []api.Block{{Label: "e"}, {Label: "l"}, {Label: "m", Code: []api.Instr{{Op: api.Ret}}}}}}}
	entry, loop := &p.Funcs[0].Blocks[0].Code, &p.Funcs[0].Blocks[1].Code
	*entry = append(*entry, api.Instr{Op: api.Alloca, Dst: "c", N: 1})
	for i := range 40 {
		name := "p" + string(rune('a'+i/26)) + string(rune('a'+i%26))
		*entry = append(*entry, api.Instr{Op: api.Malloc, Dst: name, N: 64}, api.Instr{Op: api.Store, A: name, B: "c"})
	}
	*entry = append(*entry, api.Instr{Op: api.Goto, Labels: []string{"l"}})
	*loop = append(*loop, api.Instr{Op: api.Load, Dst: "x", A: "c"}, api.Instr{Op: api.Field, Dst: "y", A: "x", N: 1}, api.Instr{Op: api.Store, A: "y", B: "c"},
		api.Instr{Op: api.Store, A: "y", B: "x"}, api.Instr{Op: api.Br, Labels: []string{"l", "m"}})
	m, e := sites.New(p)
	if e != api.OK {
		t.Fatal(e)
	}
	a := solve.Solve(m)
	x, _ := m.Var(0, "x")
	if got := len(a.Var(x)); got != 40*64 {
		t.Errorf("%d fields", got)
	}
}
