package sites_test

import (
	"math"
	"reflect"
	"slices"
	"testing"

	"gnomon/api"
	"gnomon/read"
	"gnomon/sample"
	"gnomon/sites"
)

func parse(t *testing.T, text string) api.Program {
	t.Helper()
	p, s, e := read.Parse(text)
	if e != api.OK {
		t.Fatal(s, e)
	}
	return p
}

func newMap(t *testing.T, p api.Program) *sites.Map {
	t.Helper()
	m, e := sites.New(p)
	if e != api.OK || m == nil {
		t.Fatal(e)
	}
	return m
}

const example = `
func f(a) {
e:
ret a
}
func main() {
e:
p = alloca 2
q = malloc 1
x = call f(p)
ret
}`

func at(f, b, i int) api.Point { return api.Point{Func: f, Block: b, At: i} }

func TestExample(t *testing.T) {
	m := newMap(t, parse(t, example))
	if got := []int{m.Vars(), m.Objs(), m.Fields(), m.Size(), m.Funcs()}; !slices.Equal(got, []int{4, 5, 3, 8, 2}) {
		t.Errorf("counts: %v", got)
	}
	for _, x := range []struct {
		f    int
		name string
		v    int
		is   bool
	}{{1, "p", 1, true}, {0, "a", 0, true}, {0, "p", -1, false}, {1, "null", -1, true}, {0, "null", -1, true}, {2, "null", -1, false}, {-1, "null", -1, false},
		{-1, "p", -1, false}, {2, "p", -1, false}, {1, "q", 2, true}, {1, "x", 3, true}, {1, "", -1, false}, {1, "f", -1, false}, {math.MaxInt, "a", -1, false}} {
		if v, is := m.Var(x.f, x.name); v != x.v || is != x.is {
			t.Errorf("Var(%d, %s) = %d, %v", x.f, x.name, v, is)
		}
	}
	for _, x := range []struct {
		at       api.Point
		first, n int
		is       bool
	}{{at(1, 0, 0), 0, 2, true}, {at(1, 0, 1), 2, 1, true}, {at(1, 0, 2), 0, 0, false}, {at(0, 0, 0), 0, 0, false}, {at(-1, 0, 0), 0, 0, false}, {at(1, 0, 9), 0, 0, false}, {at(1, 1, 0), 0, 0, false}} {
		if first, n, is := m.Site(x.at); first != x.first || n != x.n || is != x.is {
			t.Errorf("Site(%v) = %d, %d, %v", x.at, first, n, is)
		}
	}
	for _, x := range []struct {
		o    int
		at   api.Point
		k, f int
		e    api.Errno
	}{{0, at(1, 0, 0), 0, -1, api.OK}, {1, at(1, 0, 0), 1, -1, api.OK}, {2, at(1, 0, 1), 0, -1, api.OK}, {3, api.Point{}, 0, 0, api.OK}, {4, api.Point{}, 0, 1, api.OK},
		{5, api.Point{}, 0, 0, api.ErrNone}, {-1, api.Point{}, 0, 0, api.ErrNone}, {math.MaxInt, api.Point{}, 0, 0, api.ErrNone}} {
		if p, k, f, e := m.Obj(x.o); p != x.at || k != x.k || f != x.f || e != x.e {
			t.Errorf("Obj(%d) = %v, %d, %d, %v", x.o, p, k, f, e)
		}
	}
	for _, x := range []struct {
		o, k, to int
		is       bool
	}{{0, 1, 1, true}, {1, 1, 0, false}, {1, -1, 0, true}, {0, 0, 0, true}, {0, -1, 0, false}, {0, 2, 0, false}, {2, -1, 0, false}, {2, 0, 2, true}, {2, 1, 0, false},
		{3, 0, 0, false}, {4, -1, 0, false}, {-1, 1, 0, false}, {9, 0, 0, false}, {1, math.MaxInt, 0, false}, {1, math.MinInt, 0, false}} {
		if to, is := m.Step(x.o, x.k); to != x.to || is != x.is {
			t.Errorf("Step(%d, %d) = %d, %v", x.o, x.k, to, is)
		}
	}
	if f, name, e := m.VarOf(3); f != 1 || name != "x" || e != api.OK {
		t.Errorf("VarOf(3) = %d, %s, %v", f, name, e)
	}
	for _, v := range []int{-1, 4, math.MaxInt} {
		if f, name, e := m.VarOf(v); f != 0 || name != "" || e != api.ErrNone {
			t.Errorf("VarOf(%d) = %d, %s, %v", v, f, name, e)
		}
	}
	if m.FuncObj(0) != 3 || m.FuncObj(1) != 4 || m.FuncObj(2) != -1 || m.FuncObj(-1) != -1 {
		t.Error("FuncObj")
	}
	if !slices.Equal(m.Params(0), []int{0}) || len(m.Params(1))+len(m.Params(2))+len(m.Params(-1)) != 0 {
		t.Error("Params")
	}
	if !slices.Equal(m.Rets(0), []int{0}) || !slices.Equal(m.Rets(1), []int{-1}) || len(m.Rets(2))+len(m.Rets(-1)) != 0 {
		t.Error("Rets")
	}
	if f, is := m.Func("main"); f != 1 || !is {
		t.Error("Func")
	}
	if f, is := m.Func("g"); f != 0 || is {
		t.Error("Func of what there is not")
	}
	if l := m.Points(); !slices.Equal(l, []api.Point{at(0, 0, 0), at(1, 0, 0), at(1, 0, 1), at(1, 0, 2), at(1, 0, 3)}) {
		t.Errorf("Points: %v", l)
	}
	if x, is := m.Instr(at(1, 0, 2)); !is || !reflect.DeepEqual(x, api.Instr{Op: api.Call, Dst: "x", Fn: "f", Args: []string{"p"}}) {
		t.Errorf("Instr: %+v, %v", x, is)
	}
	for _, p := range []api.Point{at(1, 0, 4), at(1, 1, 0), at(2, 0, 0), at(-1, 0, 0), at(0, -1, 0), at(0, 0, -1)} {
		if x, is := m.Instr(p); is || !reflect.DeepEqual(x, api.Instr{}) {
			t.Errorf("Instr(%v): %+v, %v", p, x, is)
		}
	}
}

func TestRets(t *testing.T) {
	m := newMap(t, parse(t, "func main() {\na:\nx = null\nbr b c\nb:\nret null\nc:\nbr d e\nd:\nret x\ne:\nret\n}"))
	if l := m.Rets(0); !slices.Equal(l, []int{-1, 0, -1}) {
		t.Errorf("%v", l)
	}
}

func TestShape(t *testing.T) {
	for _, p := range []api.Program{{}, parse(t, "func f() {\na:\nret\n}"), parse(t, "func main() {\na:\ngoto a\n}"), parse(t, "func main() {\na:\nx = copy x\nret\n}")} {
		if m, e := sites.New(p); m != nil || e != api.ErrShape {
			t.Errorf("%+v: %v", p, e)
		}
	}
}

func TestNil(t *testing.T) {
	var m *sites.Map
	if m.Vars()+m.Objs()+m.Fields()+m.Size()+m.Funcs()+len(m.Points())+len(m.Params(0))+len(m.Rets(0))+len(m.Prog().Funcs) != 0 {
		t.Error("a nil map has something")
	}
	if v, is := m.Var(0, "null"); v != -1 || is {
		t.Error("Var")
	}
	if f, name, e := m.VarOf(0); f != 0 || name != "" || e != api.ErrNil {
		t.Error("VarOf")
	}
	if first, n, is := m.Site(api.Point{}); first != 0 || n != 0 || is {
		t.Error("Site")
	}
	if p, k, f, e := m.Obj(0); p != (api.Point{}) || k != 0 || f != 0 || e != api.ErrNil {
		t.Error("Obj")
	}
	if m.FuncObj(0) != -1 {
		t.Error("FuncObj")
	}
	if o, is := m.Step(0, 0); o != 0 || is {
		t.Error("Step")
	}
	if x, is := m.Instr(api.Point{}); is || !reflect.DeepEqual(x, api.Instr{}) {
		t.Error("Instr")
	}
	if f, is := m.Func("main"); f != 0 || is {
		t.Error("Func")
	}
}

// What was handed in, and what is handed out, may change without the map.
func TestApart(t *testing.T) {
	p := parse(t, example)
	m := newMap(t, p)
	spoil := func(p api.Program) {
		for f := range p.Funcs {
			for b := range p.Funcs[f].Blocks {
				for i := range p.Funcs[f].Blocks[b].Code {
					x := &p.Funcs[f].Blocks[b].Code[i]
					for k := range x.Args {
						x.Args[k] = "-"
					}
					*x = api.Instr{}
				}
				p.Funcs[f].Blocks[b].Label = "-"
			}
			for k := range p.Funcs[f].Params {
				p.Funcs[f].Params[k] = "-"
			}
			p.Funcs[f].Name = "-"
		}
	}
	spoil(p)
	spoil(m.Prog())
	x, _ := m.Instr(at(1, 0, 2))
	x.Args[0] = "-"
	m.Points()[0] = at(9, 9, 9)
	m.Params(0)[0] = 9
	m.Rets(0)[0] = 9
	want := parse(t, example)
	if !reflect.DeepEqual(m.Prog(), want) {
		t.Error("Prog")
	}
	if x, _ := m.Instr(at(1, 0, 2)); x.Args[0] != "p" {
		t.Error("Instr")
	}
	if m.Points()[0] != at(0, 0, 0) || m.Params(0)[0] != 0 || m.Rets(0)[0] != 0 {
		t.Error("numbers")
	}
	if f, is := m.Func("main"); f != 1 || !is {
		t.Error("Func")
	}
}

// Numbers are told by going through the program once more.
func TestSamples(t *testing.T) {
	for seed := range 300 {
		p := sample.Program(seed, sample.Small())
		m := newMap(t, p)
		if !reflect.DeepEqual(m.Prog(), p) {
			t.Fatal("Prog")
		}
		var points []api.Point
		v, o := 0, 0
		isVar := func(f int, name string) {
			if got, is := m.Var(f, name); got != v || !is {
				t.Fatalf("Var(%d, %s) = %d, want %d", f, name, got, v)
			}
			if gf, gn, e := m.VarOf(v); gf != f || gn != name || e != api.OK {
				t.Fatalf("VarOf(%d) = %d, %s", v, gf, gn)
			}
			v++
		}
		for f, fn := range p.Funcs {
			if got, is := m.Func(fn.Name); got != f || !is {
				t.Fatal("Func")
			}
			for k, name := range fn.Params {
				if m.Params(f)[k] != v {
					t.Fatal("Params")
				}
				isVar(f, name)
			}
			if len(m.Params(f)) != len(fn.Params) {
				t.Fatal("Params")
			}
			var rets []int
			for b, block := range fn.Blocks {
				for i, x := range block.Code {
					p := at(f, b, i)
					points = append(points, p)
					if got, is := m.Instr(p); !is || !reflect.DeepEqual(got, x) {
						t.Fatal("Instr")
					}
					if x.Dst != "" {
						isVar(f, x.Dst)
					}
					first, n, is := m.Site(p)
					if is != (x.Op == api.Alloca || x.Op == api.Malloc) {
						t.Fatal("Site")
					}
					for k := range n {
						if ga, gk, gf, e := m.Obj(o + k); ga != p || gk != k || gf != -1 || e != api.OK {
							t.Fatal("Obj")
						}
						for j := -2; j <= n+1; j++ {
							to, is := m.Step(o+k, j-k)
							if is != (j >= 0 && j < n) || is && to != o+j || !is && to != 0 {
								t.Fatal("Step")
							}
						}
					}
					if is && (first != o || n != x.N) {
						t.Fatal("Site")
					}
					o += n
					if x.Op == api.Ret {
						r, is := m.Var(f, x.A)
						if x.A == "" {
							r, is = -1, true
						}
						if !is {
							t.Fatal("Var of what is returned")
						}
						rets = append(rets, r)
					}
				}
			}
			if !slices.Equal(m.Rets(f), rets) {
				t.Fatal("Rets")
			}
		}
		if m.Vars() != v || m.Fields() != o || m.Objs() != o+len(p.Funcs) || m.Size() != o+len(points) || m.Funcs() != len(p.Funcs) || !slices.Equal(m.Points(), points) {
			t.Fatal("counts")
		}
		for f := range p.Funcs {
			if m.FuncObj(f) != o+f {
				t.Fatal("FuncObj")
			}
			if ga, gk, gf, e := m.Obj(o + f); ga != (api.Point{}) || gk != 0 || gf != f || e != api.OK {
				t.Fatal("Obj of a function")
			}
		}
	}
}
