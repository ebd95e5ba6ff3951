package step_test

import (
	"math"
	"reflect"
	"slices"
	"testing"

	"gnomon/api"
	"gnomon/read"
	"gnomon/sample"
	"gnomon/sites"
	"gnomon/step"
)

func parse(t *testing.T, text string) api.Program {
	t.Helper()
	p, s, e := read.Parse(text)
	if e != api.OK {
		t.Fatal(s, e)
	}
	return p
}

func machine(t *testing.T, text string) *step.Machine {
	t.Helper()
	m, e := step.New(parse(t, text))
	if e != api.OK || m == nil {
		t.Fatal(e)
	}
	return m
}

// moves makes so many moves, all of which go on.
func moves(t *testing.T, m *step.Machine, n int) {
	t.Helper()
	for range n {
		if s := m.Move(0); s != api.Goes {
			t.Fatalf("a move stops: %d", s)
		}
	}
}

func isAt(t *testing.T, m *step.Machine, f, b, i int) {
	t.Helper()
	if at, is := m.At(); at != (api.Point{Func: f, Block: b, At: i}) || !is {
		t.Errorf("control is at %v, %v", at, is)
	}
}

func isVar(t *testing.T, m *step.Machine, v int, want api.Value) {
	t.Helper()
	if got, is := m.Var(v); got != want || !is {
		t.Errorf("variable %d has %v, %v; want %v", v, got, is, want)
	}
}

func noVar(t *testing.T, m *step.Machine, l ...int) {
	t.Helper()
	for _, v := range l {
		if got, is := m.Var(v); got != (api.Value{}) || is {
			t.Errorf("variable %d has %v", v, got)
		}
	}
}

func cellAt(obj, n int) api.Value { return api.Value{Kind: api.ValCell, Obj: obj, N: n} }

func fnAt(f int) api.Value { return api.Value{Kind: api.ValFunc, N: f} }

func TestExample(t *testing.T) {
	m := machine(t, "func main() {\ne:\np = alloca 1\nf = addr main\nstore f, p\nq = load p\nicall q()\nret\n}")
	isAt(t, m, 0, 0, 0)
	if m.State() != api.Goes || m.Depth() != 1 || len(m.Facts()) != 0 {
		t.Error("a new machine")
	}
	noVar(t, m, 0, 1, 2, 3, -1)
	moves(t, m, 4)
	isAt(t, m, 0, 0, 4)
	isVar(t, m, 2, fnAt(0))
	if _, is := m.Entered(); is {
		t.Error("no call was made")
	}
	at := api.Point{At: 4}
	if f := m.Facts(); !slices.Equal(f, []api.Fact{{At: at, Var: 0, Obj: 0}, {At: at, Var: 1, Obj: 1}, {At: at, Var: 2, Obj: 1}}) {
		t.Errorf("facts: %v", f)
	}
	moves(t, m, 1)
	if c, is := m.Entered(); !is || c != (api.Entered{At: at}) || m.Depth() != 2 {
		t.Error("the call")
	}
	isAt(t, m, 0, 0, 0)
	noVar(t, m, 0, 1, 2)
	moves(t, m, 1)
	if _, is := m.Entered(); is {
		t.Error("the last move made no call")
	}
	isVar(t, m, 0, cellAt(1, 0))
	for m.Move(1) == api.Goes {
	}
	if m.State() != api.Deep || m.Depth() != api.MaxDepth {
		t.Error("depth")
	}
	if at, is := m.At(); is || at != (api.Point{}) || len(m.Facts()) != 0 {
		t.Error("control of a machine that stopped")
	}
	isVar(t, m, 2, fnAt(0))
	if m.Move(0) != api.Deep || m.Depth() != api.MaxDepth {
		t.Error("a machine that stopped moves")
	}
	if c, is := m.Entered(); is || c != (api.Entered{}) {
		t.Error("Deep enters nothing")
	}
}

func TestOperations(t *testing.T) {
	m := machine(t, "func f(a, b) {\ne:\nret b\n}\nfunc main() {\ne:\nn = null\np = malloc 3\nq = field p 2\nc = copy q\nf = addr f\nstore c, p\nl = load p\nk = load q\nr = call f(null, l)\ns = icall f(p, f)\ncall f(p, p)\nz = field q 0\nret r\n}")
	moves(t, m, 8)
	isVar(t, m, 2, api.Value{})
	isVar(t, m, 3, cellAt(0, 0))
	isVar(t, m, 4, cellAt(0, 2))
	isVar(t, m, 5, cellAt(0, 2))
	isVar(t, m, 6, fnAt(0))
	isVar(t, m, 7, cellAt(0, 2))
	isVar(t, m, 8, api.Value{})
	noVar(t, m, 0, 1, 9, 10, 11, 12, math.MaxInt, math.MinInt)
	moves(t, m, 1)
	isVar(t, m, 0, api.Value{})
	isVar(t, m, 1, cellAt(0, 2))
	noVar(t, m, 2, 3)
	if f := m.Facts(); !slices.Equal(f, []api.Fact{{Var: 1, Obj: 2}}) {
		t.Errorf("facts: %v", f)
	}
	moves(t, m, 1)
	isAt(t, m, 1, 0, 9)
	isVar(t, m, 9, cellAt(0, 2))
	moves(t, m, 1)
	if c, is := m.Entered(); !is || c != (api.Entered{At: api.Point{Func: 1, At: 9}}) {
		t.Error("an indirect call")
	}
	isVar(t, m, 0, cellAt(0, 0))
	isVar(t, m, 1, fnAt(0))
	if f := m.Facts(); !slices.Equal(f, []api.Fact{{Var: 0, Obj: 0}, {Var: 1, Obj: 3}}) {
		t.Errorf("facts: %v", f)
	}
	moves(t, m, 1)
	isVar(t, m, 10, fnAt(0))
	moves(t, m, 3)
	isAt(t, m, 1, 0, 12)
	isVar(t, m, 11, cellAt(0, 2))
	if m.Move(0) != api.Done || m.State() != api.Done || m.Depth() != 0 {
		t.Error("Done")
	}
	noVar(t, m, 2, 9)
	if at, is := m.At(); is || at != (api.Point{}) || len(m.Facts()) != 0 || m.Move(0) != api.Done {
		t.Error("a machine that is done")
	}
}

func TestStops(t *testing.T) {
	for _, x := range []struct {
		code  string
		n     int
		want  api.Stop
		depth int
	}{
		{"x = load null", 0, api.NullUse, 1},
		{"store null, null", 0, api.NullUse, 1},
		{"x = field null 0", 0, api.NullUse, 1},
		{"f = addr main\nx = load f", 1, api.NullUse, 1},
		{"icall null()", 0, api.NullUse, 1},
		{"p = alloca 1\nicall p()", 1, api.NullUse, 1},
		{"p = alloca 1\nq = field p 1", 1, api.OutField, 1},
		{"f = addr main\nicall f(f)", 1, api.BadCall, 1},
		{"f = addr main\nicall f(null, null)", 1, api.BadCall, 1},
		{"call main()", api.MaxDepth - 1, api.Deep, api.MaxDepth},
		{"f = addr main\nx = icall f()", 2*api.MaxDepth - 1, api.Deep, api.MaxDepth},
		{"p = alloca 2\nstore p, p\nq = load p\nr = field q 1\ns = field r 1", 4, api.OutField, 1},
	} {
		m := machine(t, "func main() {\ne:\n"+x.code+"\nret\n}")
		moves(t, m, x.n)
		before := m.Depth()
		if s := m.Move(0); s != x.want || m.State() != s || m.Depth() != x.depth || before != x.depth {
			t.Errorf("%s: %d, depth %d", x.code, s, m.Depth())
		}
		if _, is := m.Entered(); is {
			t.Errorf("%s: entered", x.code)
		}
	}
	m := machine(t, "func main() {\ne:\ngoto l\nl:\np = malloc 64\ngoto l\n}")
	moves(t, m, 1+2*api.MaxCells/64)
	if m.Move(0) != api.Full || m.State() != api.Full {
		t.Error("Full")
	}
}

// The order of an indirect call's faults: no function, other parameters, too deep.
func TestCallOrder(t *testing.T) {
	m := machine(t, "func g(a) {\ne:\nret\n}\nfunc main() {\ne:\nf = addr g\nbr a b\na:\ncall main()\nret\nb:\nicall f()\nret\n}")
	for m.Depth() < api.MaxDepth {
		moves(t, m, 1)
	}
	moves(t, m, 1)
	if m.Move(1) != api.Goes || m.Move(0) != api.BadCall {
		t.Error("BadCall is ahead of Deep")
	}
}

func TestChoices(t *testing.T) {
	for _, x := range []struct{ choice, block int }{{0, 1}, {1, 2}, {2, 1}, {-1, 2}, {-2, 1}, {math.MaxInt, 2}, {math.MinInt, 1}} {
		m := machine(t, "func main() {\ne:\nbr a b\na:\nret\nb:\nret\n}")
		m.Move(x.choice)
		isAt(t, m, 0, x.block, 0)
	}
}

// Phis of a block change places with one another, as all are asked first.
func TestPhis(t *testing.T) {
	m := machine(t, "func main() {\ne:\np = alloca 1\nq = alloca 1\ngoto l\nl:\nx = phi [l: y, e: p]\ny = phi [e: q, l: x]\nbr l m\nm:\nz = phi [l: x]\nret\n}")
	moves(t, m, 3)
	isAt(t, m, 0, 1, 2)
	isVar(t, m, 2, cellAt(0, 0))
	isVar(t, m, 3, cellAt(1, 0))
	moves(t, m, 1)
	isAt(t, m, 0, 1, 2)
	isVar(t, m, 2, cellAt(1, 0))
	isVar(t, m, 3, cellAt(0, 0))
	if m.Move(1) != api.Goes {
		t.Error("the branch")
	}
	isAt(t, m, 0, 2, 1)
	isVar(t, m, 4, cellAt(1, 0))
}

// A block that has nothing but its end goes round on itself.
func TestEmptyLoop(t *testing.T) {
	m := machine(t, "func main() {\ne:\ngoto l\nl:\nbr l m\nm:\nret\n}")
	moves(t, m, 3)
	isAt(t, m, 0, 1, 0)
	m.Move(1)
	isAt(t, m, 0, 2, 0)
}

func TestShapeAndNil(t *testing.T) {
	if m, e := step.New(api.Program{}); m != nil || e != api.ErrShape {
		t.Error("New")
	}
	if m, e := step.New(parse(t, "func main() {\na:\nx = copy x\nret\n}")); m != nil || e != api.ErrShape {
		t.Error("New")
	}
	var m *step.Machine
	if m.Move(0) != api.NullUse || m.State() != api.NullUse || m.Depth() != 0 || len(m.Facts()) != 0 {
		t.Error("a nil machine")
	}
	noVar(t, m, 0, -1)
	if at, is := m.At(); is || at != (api.Point{}) {
		t.Error("At of a nil machine")
	}
	if c, is := m.Entered(); is || c != (api.Entered{}) {
		t.Error("Entered of a nil machine")
	}
}

// slow runs a program by the document's words, with maps for everything.
type slow struct {
	prog  api.Program
	objs  [][]api.Value
	first []int
	open  []frame
	state api.Stop
}

type frame struct {
	f, b, i int
	vars    map[string]api.Value
}

func (s *slow) top() *frame { return &s.open[len(s.open)-1] }

func (s *slow) move(m *sites.Map, choice int) {
	a := s.top()
	fn := s.prog.Funcs[a.f]
	x := fn.Blocks[a.b].Code[a.i]
	v := func(name string) api.Value { return a.vars[name] }
	cell := func(p api.Value) (*api.Value, api.Stop) {
		if p.Kind != api.ValCell {
			return nil, api.NullUse
		}
		if p.Obj >= len(s.objs) || p.N >= len(s.objs[p.Obj]) {
			return nil, api.OutField
		}
		return &s.objs[p.Obj][p.N], api.Goes
	}
	jump := func(label string) {
		from := fn.Blocks[a.b].Label
		a.b = slices.IndexFunc(fn.Blocks, func(b api.Block) bool { return b.Label == label })
		old := map[string]api.Value{}
		for k, y := range a.vars {
			old[k] = y
		}
		for a.i = 0; fn.Blocks[a.b].Code[a.i].Op == api.Phi; a.i++ {
			y := fn.Blocks[a.b].Code[a.i]
			a.vars[y.Dst] = old[y.Args[slices.Index(y.Labels, from)]]
		}
	}
	enter := func(f int) {
		if len(s.open) == api.MaxDepth {
			s.state = api.Deep
			return
		}
		vars := map[string]api.Value{}
		for k, p := range s.prog.Funcs[f].Params {
			vars[p] = v(x.Args[k])
		}
		s.open = append(s.open, frame{f: f, vars: vars})
	}
	number := func(name string) int {
		return slices.IndexFunc(s.prog.Funcs, func(f api.Func) bool { return f.Name == name })
	}
	switch x.Op {
	case api.Alloca, api.Malloc:
		cells := 0
		for _, o := range s.objs {
			cells += len(o)
		}
		if cells+x.N > api.MaxCells {
			s.state = api.Full
			return
		}
		first, _, _ := m.Site(api.Point{Func: a.f, Block: a.b, At: a.i})
		s.objs = append(s.objs, make([]api.Value, x.N))
		s.first = append(s.first, first)
		a.vars[x.Dst] = cellAt(len(s.objs)-1, 0)
	case api.Null:
		a.vars[x.Dst] = api.Value{}
	case api.Addr:
		a.vars[x.Dst] = fnAt(number(x.Fn))
	case api.Copy:
		a.vars[x.Dst] = v(x.A)
	case api.Field:
		p := v(x.A)
		if _, s.state = cell(p); s.state == api.Goes {
			p.N += x.N
			if _, s.state = cell(p); s.state == api.Goes {
				a.vars[x.Dst] = p
			}
		}
	case api.Load, api.Store:
		where := x.A
		if x.Op == api.Store {
			where = x.B
		}
		c, stop := cell(v(where))
		if s.state = stop; stop != api.Goes {
			return
		}
		if x.Op == api.Store {
			*c = v(x.A)
		} else {
			a.vars[x.Dst] = *c
		}
	case api.Call:
		enter(number(x.Fn))
		return
	case api.ICall:
		to := v(x.A)
		if to.Kind != api.ValFunc {
			s.state = api.NullUse
		} else if len(s.prog.Funcs[to.N].Params) != len(x.Args) {
			s.state = api.BadCall
		} else {
			enter(to.N)
		}
		return
	case api.Br:
		jump(x.Labels[choice&1])
		return
	case api.Goto:
		jump(x.Labels[0])
		return
	case api.Ret:
		y := v(x.A)
		s.open = s.open[:len(s.open)-1]
		if len(s.open) == 0 {
			s.state = api.Done
			return
		}
		a = s.top()
		if c := s.prog.Funcs[a.f].Blocks[a.b].Code[a.i]; c.Dst != "" {
			a.vars[c.Dst] = y
		}
	}
	if s.state == api.Goes {
		a.i++
	}
}

func TestAgainstSlow(t *testing.T) {
	stops := map[api.Stop]int{}
	for seed := range 1500 {
		p := sample.Program(seed, sample.Small())
		m, e := step.New(p)
		q, _ := step.New(p)
		s, _ := sites.New(p)
		if e != api.OK {
			t.Fatal(e)
		}
		main, _ := s.Func("main")
		o := &slow{prog: p, open: []frame{{f: main, vars: map[string]api.Value{}}}}
		d := sample.Throw(seed)
		for range 300 {
			var facts []api.Fact
			if m.State() != o.state || m.Depth() != len(o.open) {
				t.Fatalf("program %d: %d at depth %d; want %d at %d", seed, m.State(), m.Depth(), o.state, len(o.open))
			}
			if len(o.open) > 0 {
				a := o.top()
				at := api.Point{Func: a.f, Block: a.b, At: a.i}
				if got, is := m.At(); is != (o.state == api.Goes) || is && got != at {
					t.Fatalf("program %d: at %v, want %v", seed, got, at)
				}
				for v := range s.Vars() {
					f, name, _ := s.VarOf(v)
					want, is := a.vars[name]
					is = is && f == a.f
					if got, has := m.Var(v); has != is || is && got != want {
						t.Fatalf("program %d: variable %d has %v, %v; want %v, %v", seed, v, got, has, want, is)
					}
					if is && want.Kind == api.ValCell {
						facts = append(facts, api.Fact{At: at, Var: v, Obj: o.first[want.Obj] + want.N})
					}
					if is && want.Kind == api.ValFunc {
						facts = append(facts, api.Fact{At: at, Var: v, Obj: s.FuncObj(want.N)})
					}
				}
			}
			if o.state != api.Goes {
				break
			}
			if got := m.Facts(); !slices.Equal(got, facts) {
				t.Fatalf("program %d: facts %v, want %v", seed, got, facts)
			}
			choice := d.Below(100) - 50
			depth, top := len(o.open), *o.top()
			o.move(s, choice)
			if m.Move(choice) != m.State() || q.Move(choice) != m.State() {
				t.Fatal("Move and State")
			}
			c, is := m.Entered()
			if is != (len(o.open) > depth) || is && c != (api.Entered{At: api.Point{Func: top.f, Block: top.b, At: top.i}, Func: o.top().f}) {
				t.Fatalf("program %d: entered %v, %v", seed, c, is)
			}
			if !reflect.DeepEqual(q.Facts(), m.Facts()) {
				t.Fatal("two machines that were moved alike")
			}
		}
		stops[m.State()]++
	}
	for _, s := range []api.Stop{api.Goes, api.Done, api.NullUse, api.Deep} {
		if stops[s] < 10 {
			t.Errorf("%d machines stand at %d", stops[s], s)
		}
	}
}
