package modref_test

import (
	"math"
	"slices"
	"testing"

	"gnomon/api"
	"gnomon/bits"
	"gnomon/calls"
	"gnomon/graph"
	"gnomon/modref"
	"gnomon/read"
	"gnomon/sample"
	"gnomon/sites"
	"gnomon/solve"
	"gnomon/step"
)

func of(t *testing.T, p api.Program) (*sites.Map, *solve.Answer, *calls.Calls, *modref.Sums) {
	t.Helper()
	m, e := sites.New(p)
	if e != api.OK {
		t.Fatal(e)
	}
	a := solve.Solve(m)
	c := calls.Of(m, a)
	return m, a, c, modref.Of(m, a, c)
}

func parse(t *testing.T, text string) api.Program {
	t.Helper()
	p, s, e := read.Parse(text)
	if e != api.OK {
		t.Fatal(s, e)
	}
	return p
}

func isSums(t *testing.T, s *modref.Sums, f int, mod, ref, touch []int) {
	t.Helper()
	if !slices.Equal(s.Mod(f), mod) || !slices.Equal(s.Ref(f), ref) || !slices.Equal(s.Touch(f), touch) {
		t.Errorf("function %d: %v, %v, %v; want %v, %v, %v", f, s.Mod(f), s.Ref(f), s.Touch(f), mod, ref, touch)
	}
}

func TestExample(t *testing.T) {
	_, _, _, s := of(t, parse(t, "func f(a) {\ne:\nstore a, a\nret\n}\nfunc main() {\ne:\np = alloca 1\nq = alloca 1\ncall f(p)\nx = load q\nret\n}"))
	isSums(t, s, 0, []int{0}, nil, []int{0})
	isSums(t, s, 1, []int{0}, []int{1}, []int{0, 1})
	for _, f := range []int{2, -1, math.MaxInt, math.MinInt} {
		isSums(t, s, f, nil, nil, nil)
	}
	s.Mod(0)[0], s.Ref(1)[0], s.Touch(1)[0] = 9, 9, 9
	isSums(t, s, 0, []int{0}, nil, []int{0})
	isSums(t, s, 1, []int{0}, []int{1}, []int{0, 1})
}

// Null has nothing, and functions are no fields.
func TestWhatIsNoField(t *testing.T) {
	_, _, _, s := of(t, parse(t, "func main() {\ne:\nf = addr main\np = alloca 3\nq = field p 2\nstore p, null\nx = load null\nstore f, f\ny = load f\nstore f, q\ncall main()\nret p\n}"))
	isSums(t, s, 0, []int{2}, nil, []int{2})
}

// What is called by others' callees, and in circles, counts; what is not called does not.
func TestChains(t *testing.T) {
	_, _, _, s := of(t, parse(t, "func f(a) {\ne:\nx = load a\ncall g(a)\nret\n}\nfunc g(a) {\ne:\nstore a, a\nbr l m\nl:\ncall f(a)\nret\nm:\nret\n}\nfunc h() {\ne:\nq = alloca 1\nstore q, q\nret\n}\nfunc main() {\ne:\np = alloca 1\ni = addr f\nicall i(p)\nret\n}"))
	isSums(t, s, 0, []int{1}, []int{1}, []int{1})
	isSums(t, s, 1, []int{1}, []int{1}, []int{1})
	isSums(t, s, 2, []int{0}, nil, []int{0})
	isSums(t, s, 3, []int{1}, []int{1}, []int{1})
}

func TestNil(t *testing.T) {
	m, a, c, _ := of(t, parse(t, "func main() {\ne:\nret\n}"))
	if modref.Of(nil, a, c) != nil || modref.Of(m, nil, c) != nil || modref.Of(m, a, nil) != nil {
		t.Error("Of nil")
	}
	isSums(t, nil, 0, nil, nil, nil)
}

func TestSamples(t *testing.T) {
	for seed := range 500 {
		p := sample.Program(seed, sample.Shape{Funcs: 4, Params: 2, Blocks: 4, Code: 6, Fields: 2})
		m, a, c, s := of(t, p)
		for f := range m.Funcs() {
			mod, ref := bits.Of(), bits.Of()
			for _, x := range m.Points() {
				if !graph.Leads(c.Graph(), f, x.Func) {
					continue
				}
				i, _ := m.Instr(x)
				b, _ := m.Var(x.Func, i.B)
				v, _ := m.Var(x.Func, i.A)
				for o := range m.Fields() {
					if i.Op == api.Store && a.Has(b, o) {
						mod.Add(o)
					}
					if i.Op == api.Load && a.Has(v, o) {
						ref.Add(o)
					}
				}
			}
			both := mod.Copy()
			both.Union(ref)
			isSums(t, s, f, mod.List(), ref.List(), both.List())
		}
		follow(t, p, m, s, seed)
	}
}

// follow holds what runs store against what the functions that are active change.
func follow(t *testing.T, p api.Program, m *sites.Map, s *modref.Sums, seed int) {
	d := sample.Throw(seed)
	x, _ := step.New(p)
	var active []int
	for range 300 {
		at, goes := x.At()
		if !goes {
			return
		}
		active = append(active[:x.Depth()-1], at.Func)
		i, _ := m.Instr(at)
		b, _ := m.Var(at.Func, i.B)
		changed := -1
		for _, f := range x.Facts() {
			if i.Op == api.Store && f.Var == b && f.Obj < m.Fields() {
				changed = f.Obj
			}
		}
		for _, f := range active {
			if changed >= 0 && !slices.Contains(s.Mod(f), changed) {
				t.Fatalf("program %d: field %d is changed within function %d", seed, changed, f)
			}
		}
		x.Move(d.Below(2))
	}
}

// What is not of one program may be handed in: all calls end.
func TestOtherProgram(t *testing.T) {
	for seed := range 100 {
		m, a, c, _ := of(t, sample.Program(seed, sample.Small()))
		o, b, d, _ := of(t, sample.Program(seed+1, sample.Small()))
		for _, s := range []*modref.Sums{modref.Of(m, b, c), modref.Of(m, a, d), modref.Of(o, a, c)} {
			for f := -1; f < 6; f++ {
				s.Mod(f)
				s.Ref(f)
				s.Touch(f)
			}
		}
	}
}
