package chi_test

import (
	"math"
	"slices"
	"testing"

	"gnomon/api"
	"gnomon/bits"
	"gnomon/calls"
	"gnomon/chi"
	"gnomon/modref"
	"gnomon/read"
	"gnomon/sample"
	"gnomon/sites"
	"gnomon/solve"
	"gnomon/step"
)

type all struct {
	m *sites.Map
	a *solve.Answer
	c *calls.Calls
	s *modref.Sums
	n *chi.Notes
}

func of(t *testing.T, p api.Program) all {
	t.Helper()
	m, e := sites.New(p)
	if e != api.OK {
		t.Fatal(e)
	}
	a := solve.Solve(m)
	c := calls.Of(m, a)
	s := modref.Of(m, a, c)
	return all{m, a, c, s, chi.Of(m, a, c, s)}
}

func parse(t *testing.T, text string) api.Program {
	t.Helper()
	p, s, e := read.Parse(text)
	if e != api.OK {
		t.Fatal(s, e)
	}
	return p
}

func at(f, b, i int) api.Point { return api.Point{Func: f, Block: b, At: i} }

func isNote(t *testing.T, n *chi.Notes, p api.Point, uses, defs []int) {
	t.Helper()
	if !slices.Equal(n.Uses(p), uses) || !slices.Equal(n.Defs(p), defs) {
		t.Errorf("%v: %v, %v; want %v, %v", p, n.Uses(p), n.Defs(p), uses, defs)
	}
}

func isFunc(t *testing.T, n *chi.Notes, f int, entry, exit []int) {
	t.Helper()
	if !slices.Equal(n.Entry(f), entry) || !slices.Equal(n.Exit(f), exit) {
		t.Errorf("function %d: %v, %v; want %v, %v", f, n.Entry(f), n.Exit(f), entry, exit)
	}
}

func TestExample(t *testing.T) {
	n := of(t, parse(t, "func f(a) {\ne:\nstore a, a\nret\n}\nfunc main() {\ne:\np = alloca 1\ncall f(p)\nx = load p\nret\n}")).n
	isNote(t, n, at(0, 0, 0), []int{0}, []int{0})
	isNote(t, n, at(0, 0, 1), []int{0}, nil)
	isNote(t, n, at(1, 0, 0), nil, nil)
	isNote(t, n, at(1, 0, 1), []int{0}, []int{0})
	isNote(t, n, at(1, 0, 2), []int{0}, nil)
	isNote(t, n, at(1, 0, 3), []int{0}, nil)
	isFunc(t, n, 0, []int{0}, []int{0})
	isFunc(t, n, 1, []int{0}, []int{0})
	for _, p := range []api.Point{at(1, 0, 4), at(2, 0, 0), at(-1, 0, 0), at(1, 1, 0)} {
		isNote(t, n, p, nil, nil)
	}
	for _, f := range []int{2, -1, math.MaxInt, math.MinInt} {
		isFunc(t, n, f, nil, nil)
	}
	n.Uses(at(0, 0, 0))[0] = 9
	n.Defs(at(1, 0, 1))[0] = 9
	n.Entry(0)[0] = 9
	n.Exit(1)[0] = 9
	isNote(t, n, at(0, 0, 0), []int{0}, []int{0})
	isNote(t, n, at(1, 0, 1), []int{0}, []int{0})
	isFunc(t, n, 0, []int{0}, []int{0})
	isFunc(t, n, 1, []int{0}, []int{0})
}

func TestReadsAndChanges(t *testing.T) {
	n := of(t, parse(t, "func f(a) {\ne:\nx = load a\nret\n}\nfunc g(a) {\ne:\nstore a, a\nret\n}\nfunc main() {\ne:\np = alloca 2\nq = field p 1\ni = addr f\nj = addr g\ncall f(p)\ncall g(q)\nbr l m\nl:\ngoto m\nm:\nk = phi [e: i, l: j]\nicall k(p)\nicall i(p, p)\nstore p, null\nx = load null\nicall null()\nstore i, i\nret\n}")).n
	isNote(t, n, at(2, 0, 4), []int{0}, nil)
	isNote(t, n, at(2, 0, 5), []int{0, 1}, []int{0, 1})
	isNote(t, n, at(2, 2, 1), []int{0, 1}, []int{0, 1})
	for i := 2; i < 7; i++ {
		isNote(t, n, at(2, 2, i), nil, nil)
	}
	isNote(t, n, at(0, 0, 0), []int{0}, nil)
	isNote(t, n, at(0, 0, 1), nil, nil)
	isNote(t, n, at(2, 2, 7), []int{0, 1}, nil)
	isFunc(t, n, 0, []int{0}, nil)
	isFunc(t, n, 1, []int{0, 1}, []int{0, 1})
}

func TestNil(t *testing.T) {
	x := of(t, parse(t, "func main() {\ne:\nret\n}"))
	if chi.Of(nil, x.a, x.c, x.s) != nil || chi.Of(x.m, nil, x.c, x.s) != nil || chi.Of(x.m, x.a, nil, x.s) != nil || chi.Of(x.m, x.a, x.c, nil) != nil {
		t.Error("Of nil")
	}
	isNote(t, nil, at(0, 0, 0), nil, nil)
	isFunc(t, nil, 0, nil, nil)
}

func TestSamples(t *testing.T) {
	for seed := range 400 {
		p := sample.Program(seed, sample.Small())
		x := of(t, p)
		for f := range x.m.Funcs() {
			isFunc(t, x.n, f, x.s.Touch(f), x.s.Mod(f))
		}
		for _, p := range x.m.Points() {
			i, _ := x.m.Instr(p)
			uses, defs := bits.Of(), bits.Of()
			through := func(name string) *bits.Set {
				v, _ := x.m.Var(p.Func, name)
				return bits.Of(slices.DeleteFunc(x.a.Var(v), func(o int) bool { return o >= x.m.Fields() })...)
			}
			switch i.Op {
			case api.Load:
				uses = through(i.A)
			case api.Store:
				uses, defs = through(i.B), through(i.B)
			case api.Call, api.ICall:
				for _, f := range x.a.Callees(p) {
					uses.Union(bits.Of(x.s.Touch(f)...))
					defs.Union(bits.Of(x.s.Mod(f)...))
				}
			case api.Ret:
				uses = bits.Of(x.s.Mod(p.Func)...)
			}
			isNote(t, x.n, p, uses.List(), defs.List())
			if !defs.In(bits.Of(x.s.Mod(p.Func)...)) || !uses.In(bits.Of(x.s.Touch(p.Func)...)) {
				t.Fatal("a function does less than its points")
			}
		}
		follow(t, p, x, seed)
	}
}

// follow holds what runs load and store against what their points use.
func follow(t *testing.T, p api.Program, x all, seed int) {
	d := sample.Throw(seed)
	r, _ := step.New(p)
	for range 200 {
		at, goes := r.At()
		if !goes {
			return
		}
		i, _ := x.m.Instr(at)
		v, _ := x.m.Var(at.Func, map[api.Op]string{api.Load: i.A, api.Store: i.B}[i.Op])
		for _, f := range r.Facts() {
			if f.Var == v && f.Obj < x.m.Fields() && !slices.Contains(x.n.Uses(at), f.Obj) {
				t.Fatalf("program %d: field %d is not used at %v", seed, f.Obj, at)
			}
		}
		r.Move(d.Below(2))
	}
}

// What is not of one program may be handed in: all calls end.
func TestOtherProgram(t *testing.T) {
	for seed := range 100 {
		x := of(t, sample.Program(seed, sample.Small()))
		y := of(t, sample.Program(seed+1, sample.Small()))
		for _, n := range []*chi.Notes{chi.Of(x.m, y.a, x.c, x.s), chi.Of(x.m, x.a, y.c, x.s), chi.Of(x.m, x.a, x.c, y.s), chi.Of(x.m, y.a, y.c, y.s)} {
			for _, p := range append(x.m.Points(), y.m.Points()...) {
				n.Uses(p)
				n.Defs(p)
			}
			n.Entry(1)
			n.Exit(1)
		}
	}
}
