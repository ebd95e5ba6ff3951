package calls_test

import (
	"math"
	"slices"
	"testing"

	"gnomon/api"
	"gnomon/calls"
	"gnomon/cfg"
	"gnomon/graph"
	"gnomon/read"
	"gnomon/sample"
	"gnomon/sites"
	"gnomon/solve"
	"gnomon/step"
)

func mapOf(t *testing.T, text string) *sites.Map {
	t.Helper()
	p, s, e := read.Parse(text)
	if e != api.OK {
		t.Fatal(s, e)
	}
	m, e := sites.New(p)
	if e != api.OK {
		t.Fatal(e)
	}
	return m
}

func callsOf(t *testing.T, text string) *calls.Calls {
	t.Helper()
	m := mapOf(t, text)
	return calls.Of(m, solve.Solve(m))
}

func at(f, b, i int) api.Point { return api.Point{Func: f, Block: b, At: i} }

func same(a, b [][]int) bool {
	return slices.EqualFunc(a, b, func(x, y []int) bool { return slices.Equal(x, y) })
}

func TestExample(t *testing.T) {
	c := callsOf(t, "func f() {\ne:\nret\n}\nfunc main() {\ne:\np = alloca 1\ncall f()\ngoto l\nl:\nq = alloca 1\nbr l m\nm:\nret\n}")
	if !slices.Equal(c.Callers(0), []api.Point{at(1, 0, 1)}) || len(c.Callers(1))+len(c.Callers(2))+len(c.Callers(-1)) != 0 {
		t.Error("Callers")
	}
	if !slices.Equal(c.Callees(at(1, 0, 1)), []int{0}) || len(c.Callees(at(1, 0, 0)))+len(c.Callees(at(7, 0, 0))) != 0 {
		t.Error("Callees")
	}
	if !same(c.Graph(), [][]int{nil, {0}}) {
		t.Error("Graph")
	}
	for _, f := range []int{0, 1, 2, -1, math.MaxInt, math.MinInt} {
		if c.Rec(f) {
			t.Errorf("Rec(%d)", f)
		}
		if c.Once(f) != (f == 0 || f == 1) {
			t.Errorf("Once(%d)", f)
		}
	}
	for _, o := range []int{-1, 0, 1, 2, 3, 4, math.MaxInt} {
		if c.Single(o) != (o == 0) {
			t.Errorf("Single(%d)", o)
		}
	}
}

func TestOnce(t *testing.T) {
	for _, x := range []struct {
		text string
		once []bool
	}{
		// Twice called, in a chain, in a loop, not at all.
		{"func f() {\ne:\nret\n}\nfunc main() {\ne:\ncall f()\ncall f()\nret\n}", []bool{false, true}},
		{"func f() {\ne:\nret\n}\nfunc g() {\ne:\ncall f()\nret\n}\nfunc main() {\ne:\ncall g()\nret\n}", []bool{true, true, true}},
		{"func f() {\ne:\nret\n}\nfunc g() {\ne:\ncall f()\nret\n}\nfunc main() {\ne:\ngoto l\nl:\ncall g()\nbr l m\nm:\nret\n}", []bool{false, false, true}},
		{"func f() {\ne:\nret\n}\nfunc main() {\ne:\nret\n}", []bool{false, true}},
		{"func f() {\ne:\nret\n}\nfunc g() {\ne:\ncall f()\nret\n}\nfunc main() {\ne:\nret\n}", []bool{false, false, true}},
		// Called from itself, in a circle, from main and a circle.
		{"func f() {\ne:\ncall f()\nret\n}\nfunc main() {\ne:\nret\n}", []bool{false, true}},
		{"func f() {\ne:\ncall g()\nret\n}\nfunc g() {\ne:\ncall f()\nret\n}\nfunc main() {\ne:\nret\n}", []bool{false, false, true}},
		{"func f() {\ne:\ncall f()\nret\n}\nfunc main() {\ne:\ncall f()\nret\n}", []bool{false, true}},
		{"func f() {\ne:\nret\n}\nfunc main() {\ne:\ncall f()\ncall main()\nret\n}", []bool{false, false}},
		{"func f() {\ne:\ncall main()\nret\n}\nfunc main() {\ne:\ncall f()\nret\n}", []bool{false, false}},
		// One indirect call of two functions, and of one twice by other ways.
		{"func f() {\ne:\nret\n}\nfunc g() {\ne:\nret\n}\nfunc main() {\ne:\nx = addr f\ny = addr g\nbr a b\na:\ngoto b\nb:\nz = phi [e: x, a: y]\nicall z()\nret\n}", []bool{true, true, true}},
		{"func f() {\ne:\nret\n}\nfunc main() {\ne:\nx = addr f\nbr a b\na:\nicall x()\nret\nb:\ncall f()\nret\n}", []bool{false, true}},
	} {
		c := callsOf(t, x.text)
		for f, want := range x.once {
			if c.Once(f) != want {
				t.Errorf("%s: Once(%d) = %v", x.text, f, !want)
			}
		}
	}
}

func TestNil(t *testing.T) {
	m := mapOf(t, "func main() {\ne:\nret\n}")
	if calls.Of(nil, solve.Solve(m)) != nil || calls.Of(m, nil) != nil || calls.Of(nil, nil) != nil {
		t.Error("Of nil")
	}
	var c *calls.Calls
	if len(c.Callees(at(0, 0, 0)))+len(c.Callers(0))+len(c.Graph()) != 0 || c.Rec(0) || c.Once(0) || c.Single(0) {
		t.Error("nil calls tell something")
	}
}

// All is held against the words of the document, and runs against what is once and single.
func TestSamples(t *testing.T) {
	seen := [3]int{}
	for seed := range 600 {
		p := sample.Program(seed, sample.Shape{Funcs: 4, Params: 1, Blocks: 4, Code: 5, Fields: 2})
		m, _ := sites.New(p)
		a := solve.Solve(m)
		c := calls.Of(m, a)
		main, _ := m.Func("main")
		rows := make([][]int, m.Funcs())
		callers := make([][]api.Point, m.Funcs())
		for _, x := range m.Points() {
			if !slices.Equal(c.Callees(x), a.Callees(x)) {
				t.Fatal("Callees")
			}
			for _, f := range a.Callees(x) {
				rows[x.Func] = append(rows[x.Func], f)
				callers[f] = append(callers[f], x)
			}
		}
		rows = graph.Norm(rows...)
		if !same(c.Graph(), rows) {
			t.Fatal("Graph")
		}
		once := make([]bool, m.Funcs())
		once[main] = len(callers[main]) == 0
		for range m.Funcs() {
			for f := range once {
				if f != main && len(callers[f]) == 1 {
					x := callers[f][0]
					once[f] = once[x.Func] && !cfg.Loops(p.Funcs[x.Func])[x.Block]
				}
			}
		}
		for f := range rows {
			if !slices.Equal(c.Callers(f), callers[f]) {
				t.Fatal("Callers")
			}
			rec := false
			for _, g := range rows[f] {
				rec = rec || graph.Leads(rows, g, f)
			}
			if c.Rec(f) != rec || c.Once(f) != once[f] || rec && once[f] {
				t.Fatalf("program %d: function %d: Rec %v, Once %v", seed, f, c.Rec(f), c.Once(f))
			}
			if rec {
				seen[0]++
			}
			if once[f] && f != main {
				seen[1]++
			}
		}
		for o := range m.Objs() {
			x, _, f, _ := m.Obj(o)
			want := f < 0 && once[x.Func] && !cfg.Loops(p.Funcs[x.Func])[x.Block]
			if c.Single(o) != want {
				t.Fatalf("program %d: Single(%d)", seed, o)
			}
			if want {
				seen[2]++
			}
		}
		follow(t, p, m, c, seed)
	}
	if seen[0] < 50 || seen[1] < 20 || seen[2] < 50 {
		t.Error("samples have but little", seen)
	}
}

// follow counts, in runs, how often functions are entered and sites are executed.
func follow(t *testing.T, p api.Program, m *sites.Map, c *calls.Calls, seed int) {
	d := sample.Throw(seed)
	for range 3 {
		entered, made := map[int]int{}, map[api.Point]int{}
		x, _ := step.New(p)
		for range 200 {
			from, goes := x.At()
			if !goes {
				break
			}
			made[from]++
			x.Move(d.Below(2))
			if e, is := x.Entered(); is {
				entered[e.Func]++
			}
		}
		main, _ := m.Func("main")
		for f, n := range entered {
			if c.Once(f) && (n > 1 || f == main) {
				t.Fatalf("program %d: function %d was entered %d times", seed, f, n)
			}
		}
		for at, n := range made {
			if first, _, is := m.Site(at); is && n > 1 && c.Single(first) {
				t.Fatalf("program %d: the site %v was executed %d times", seed, at, n)
			}
		}
	}
}

// Answers of another program may be handed in: nothing is promised but that all calls end.
func TestOtherProgram(t *testing.T) {
	for seed := range 100 {
		m, _ := sites.New(sample.Program(seed, sample.Small()))
		o, _ := sites.New(sample.Program(seed+1, sample.Small()))
		c := calls.Of(m, solve.Solve(o))
		for f := -1; f < 5; f++ {
			c.Callers(f)
			c.Once(f)
			c.Rec(f)
			c.Single(f)
		}
		c.Graph()
	}
}

func TestApart(t *testing.T) {
	c := callsOf(t, "func f() {\ne:\nret\n}\nfunc main() {\ne:\ncall f()\nret\n}")
	c.Graph()[1][0] = 9
	c.Callers(0)[0] = at(9, 9, 9)
	c.Callees(at(1, 0, 0))[0] = 9
	if !same(c.Graph(), [][]int{nil, {0}}) || c.Callers(0)[0] != at(1, 0, 0) || c.Callees(at(1, 0, 0))[0] != 0 {
		t.Error("what was told is shared")
	}
}
