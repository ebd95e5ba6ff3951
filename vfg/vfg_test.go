package vfg_test

import (
	"math"
	"slices"
	"testing"

	"gnomon/api"
	"gnomon/calls"
	"gnomon/cfg"
	"gnomon/chi"
	"gnomon/memphi"
	"gnomon/modref"
	"gnomon/mssa"
	"gnomon/read"
	"gnomon/sample"
	"gnomon/sites"
	"gnomon/solve"
	"gnomon/vfg"
)

type all struct {
	m *sites.Map
	c *calls.Calls
	n *chi.Notes
	x *memphi.Meets
	r *mssa.Reach
	g *vfg.Graph
}

func of(t *testing.T, p api.Program) all {
	t.Helper()
	m, e := sites.New(p)
	if e != api.OK {
		t.Fatal(e)
	}
	a := solve.Solve(m)
	c := calls.Of(m, a)
	n := chi.Of(m, a, c, modref.Of(m, a, c))
	x := memphi.Of(m, n)
	r := mssa.Of(m, n, x)
	return all{m, c, n, x, r, vfg.Of(m, c, n, x, r)}
}

func parse(t *testing.T, text string) api.Program {
	t.Helper()
	p, s, e := read.Parse(text)
	if e != api.OK {
		t.Fatal(s, e)
	}
	return p
}

func at(f, b, i int) api.Point { return api.Point{Func: f, Block: b, At: i} }

func TestExample(t *testing.T) {
	g := of(t, parse(t, "func f(a) {\ne:\nstore a, a\nret a\n}\nfunc main() {\ne:\np = alloca 1\nx = call f(p)\ny = load p\nret\n}")).g
	call := at(1, 0, 1)
	nodes := []api.Node{{Kind: api.NodeVar}, {Kind: api.NodeVar, A: 1}, {Kind: api.NodeVar, A: 2}, {Kind: api.NodeVar, A: 3},
		{Kind: api.NodeEntry}, {Kind: api.NodeExit}, {Kind: api.NodeStore},
		{Kind: api.NodeEntry, A: 1}, {Kind: api.NodeExit, A: 1}, {Kind: api.NodeIn, At: call}, {Kind: api.NodeOut, At: call}}
	if g.Len() != len(nodes) {
		t.Fatalf("%d nodes", g.Len())
	}
	for i, n := range nodes {
		if got, e := g.Node(i); got != n || e != api.OK {
			t.Errorf("Node(%d) = %v, %v", i, got, e)
		}
		if got, is := g.Id(n); got != i || !is {
			t.Errorf("Id(%v) = %d, %v", n, got, is)
		}
	}
	for i, want := range [][]int{{6}, {3}, nil, nil, {6}, nil, {5}, {9, 10}, nil, nil, {3, 8}} {
		if got := g.Succ(i); !slices.Equal(got, want) {
			t.Errorf("Succ(%d) = %v, want %v", i, got, want)
		}
	}
	link := [][2]int{{0, 2}, {1, 0}, {5, 10}, {9, 4}}
	if got := g.Link(call, 0); !slices.Equal(got, link) {
		t.Errorf("Link: %v", got)
	}
	for _, x := range []struct {
		at api.Point
		f  int
	}{{call, 1}, {call, 2}, {call, -1}, {at(1, 0, 0), 0}, {at(1, 0, 3), 1}, {at(1, 0, 9), 0}, {at(-1, 0, 0), 0}, {at(9, 0, 0), 7}} {
		if got := g.Link(x.at, x.f); len(got) != 0 {
			t.Errorf("Link(%v, %d): %v", x.at, x.f, got)
		}
	}
	for _, i := range []int{-1, 11, math.MaxInt, math.MinInt} {
		if n, e := g.Node(i); n != (api.Node{}) || e != api.ErrRange {
			t.Errorf("Node(%d) = %v, %v", i, n, e)
		}
		if l := g.Succ(i); len(l) != 0 {
			t.Errorf("Succ(%d) = %v", i, l)
		}
	}
	for _, n := range []api.Node{{}, {Kind: api.NodeVar, A: 4}, {Kind: api.NodePhi}, {Kind: api.NodeIn}, {Kind: 99}} {
		if i, is := g.Id(n); i != 0 || is {
			t.Errorf("Id(%v) = %d, %v", n, i, is)
		}
	}
	g.Succ(7)[0] = 99
	g.Link(call, 0)[0][0] = 99
	if !slices.Equal(g.Succ(7), []int{9, 10}) || !slices.Equal(g.Link(call, 0), link) {
		t.Error("what was told is shared")
	}
}

// A link is of any function that a call might enter by its arguments, the one it calls or not.
func TestLinks(t *testing.T) {
	y := of(t, parse(t, "func f(a, b) {\ne:\nbr l m\nl:\nret a\nm:\nret a\n}\nfunc g(a, b) {\ne:\nret\n}\nfunc main() {\ne:\np = alloca 1\nx = call f(p, p)\ncall f(null, p)\ni = addr g\ny = icall i(p, null)\nret\n}"))
	// a 0, b 1, a 2, b 3, p 4, x 5, i 6, y 7
	for _, x := range []struct {
		at   api.Point
		f    int
		want [][2]int
	}{
		{at(2, 0, 1), 0, [][2]int{{0, 5}, {4, 0}, {4, 1}}},
		{at(2, 0, 1), 1, [][2]int{{4, 2}, {4, 3}}},
		{at(2, 0, 2), 0, [][2]int{{4, 1}}},
		{at(2, 0, 4), 0, [][2]int{{0, 7}, {4, 0}}},
		{at(2, 0, 4), 1, [][2]int{{4, 2}}},
		{at(2, 0, 4), 2, nil},
	} {
		if got := y.g.Link(x.at, x.f); !slices.Equal(got, x.want) {
			t.Errorf("Link(%v, %d): %v, want %v", x.at, x.f, got, x.want)
		}
	}
}

func TestNil(t *testing.T) {
	y := of(t, parse(t, "func main() {\ne:\nret\n}"))
	if vfg.Of(nil, y.c, y.n, y.x, y.r) != nil || vfg.Of(y.m, nil, y.n, y.x, y.r) != nil || vfg.Of(y.m, y.c, nil, y.x, y.r) != nil || vfg.Of(y.m, y.c, y.n, nil, y.r) != nil || vfg.Of(y.m, y.c, y.n, y.x, nil) != nil {
		t.Error("Of nil")
	}
	var g *vfg.Graph
	if g.Len()+len(g.Succ(0))+len(g.Link(at(0, 0, 0), 0)) != 0 {
		t.Error("a nil graph has something")
	}
	if n, e := g.Node(0); n != (api.Node{}) || e != api.ErrNil {
		t.Error("Node")
	}
	if i, is := g.Id(api.Node{Kind: api.NodeVar}); i != 0 || is {
		t.Error("Id")
	}
}

// nodes are all, in order, by the document's words.
func nodes(y all, p api.Program) []api.Node {
	var l []api.Node
	put := func(kind uint8, a int, at api.Point, fields []int) {
		for _, o := range fields {
			l = append(l, api.Node{Kind: kind, A: a, B: o, At: at})
		}
	}
	for v := range y.m.Vars() {
		l = append(l, api.Node{Kind: api.NodeVar, A: v})
	}
	for f, fn := range p.Funcs {
		put(api.NodeEntry, f, api.Point{}, y.n.Entry(f))
		put(api.NodeExit, f, api.Point{}, y.n.Exit(f))
		for b := range fn.Blocks {
			put(api.NodePhi, 0, at(f, b, 0), y.x.Phis(f, b))
		}
		for b, block := range fn.Blocks {
			for i, x := range block.Code {
				switch x.Op {
				case api.Store:
					put(api.NodeStore, 0, at(f, b, i), y.n.Defs(at(f, b, i)))
				case api.Call, api.ICall:
					put(api.NodeIn, 0, at(f, b, i), y.n.Uses(at(f, b, i)))
					put(api.NodeOut, 0, at(f, b, i), y.n.Defs(at(f, b, i)))
				}
			}
		}
	}
	return l
}

type edge [2]api.Node

// edges are all, by the document's words.
func edges(y all, p api.Program) map[edge]bool {
	out := map[edge]bool{}
	for _, pt := range y.m.Points() {
		x, _ := y.m.Instr(pt)
		variable := func(name string) api.Node {
			v, is := y.m.Var(pt.Func, name)
			if !is || v < 0 {
				return api.Node{}
			}
			return api.Node{Kind: api.NodeVar, A: v}
		}
		put := func(from, to api.Node) {
			if from.Kind != 0 && to.Kind != 0 {
				out[edge{from, to}] = true
			}
		}
		reach := func(o int) api.Node {
			n, _ := y.r.At(pt, o)
			return n
		}
		switch x.Op {
		case api.Copy, api.Field, api.Load:
			put(variable(x.A), variable(x.Dst))
			for _, o := range y.n.Uses(pt) {
				put(reach(o), variable(x.Dst))
			}
		case api.Phi:
			for _, a := range x.Args {
				put(variable(a), variable(x.Dst))
			}
		case api.Store:
			for _, o := range y.n.Defs(pt) {
				n := api.Node{Kind: api.NodeStore, B: o, At: pt}
				put(variable(x.A), n)
				put(variable(x.B), n)
				put(reach(o), n)
			}
		case api.Call, api.ICall:
			for _, o := range y.n.Uses(pt) {
				put(reach(o), api.Node{Kind: api.NodeIn, B: o, At: pt})
			}
			for _, o := range y.n.Defs(pt) {
				put(reach(o), api.Node{Kind: api.NodeOut, B: o, At: pt})
			}
		case api.Ret:
			for _, o := range y.n.Uses(pt) {
				put(reach(o), api.Node{Kind: api.NodeExit, A: pt.Func, B: o})
			}
		}
	}
	for f, fn := range p.Funcs {
		flow, _ := cfg.Of(fn)
		for b := range fn.Blocks {
			for _, o := range y.x.Phis(f, b) {
				for _, a := range flow.Pred[b] {
					n, _ := y.r.End(f, a, o)
					out[edge{n, {Kind: api.NodePhi, B: o, At: at(f, b, 0)}}] = true
				}
			}
		}
	}
	return out
}

// link is that of a call and a function, by the document's words.
func link(y all, pt api.Point, f int) map[edge]bool {
	out := map[edge]bool{}
	x, _ := y.m.Instr(pt)
	if x.Op != api.Call && x.Op != api.ICall || len(x.Args) != len(y.m.Params(f)) {
		return out
	}
	variable := func(v int) api.Node { return api.Node{Kind: api.NodeVar, A: v} }
	for i, p := range y.m.Params(f) {
		if v, _ := y.m.Var(pt.Func, x.Args[i]); v >= 0 {
			out[edge{variable(v), variable(p)}] = true
		}
	}
	for _, r := range y.m.Rets(f) {
		if v, is := y.m.Var(pt.Func, x.Dst); is && r >= 0 {
			out[edge{variable(r), variable(v)}] = true
		}
	}
	for _, o := range y.n.Uses(pt) {
		if slices.Contains(y.n.Entry(f), o) {
			out[edge{{Kind: api.NodeIn, B: o, At: pt}, {Kind: api.NodeEntry, A: f, B: o}}] = true
		}
	}
	for _, o := range y.n.Defs(pt) {
		if slices.Contains(y.n.Exit(f), o) {
			out[edge{{Kind: api.NodeExit, A: f, B: o}, {Kind: api.NodeOut, B: o, At: pt}}] = true
		}
	}
	return out
}

func TestSamples(t *testing.T) {
	kinds := map[uint8]int{}
	for seed := range 250 {
		p := sample.Program(seed, sample.Shape{Funcs: 3, Params: 2, Blocks: 5, Code: 5, Fields: 2})
		y := of(t, p)
		l := nodes(y, p)
		if y.g.Len() != len(l) {
			t.Fatalf("program %d: %d nodes, want %d", seed, y.g.Len(), len(l))
		}
		for i, n := range l {
			kinds[n.Kind]++
			got, _ := y.g.Node(i)
			if id, is := y.g.Id(n); got != n || id != i || !is {
				t.Fatalf("program %d: node %d is %v, want %v", seed, i, got, n)
			}
		}
		want := edges(y, p)
		count := 0
		for i := range l {
			row := y.g.Succ(i)
			for k, j := range row {
				if k > 0 && row[k-1] >= j || !want[edge{l[i], l[j]}] {
					t.Fatalf("program %d: an edge from %v to %v", seed, l[i], l[j])
				}
			}
			count += len(row)
		}
		if count != len(want) {
			t.Fatalf("program %d: %d edges, want %d", seed, count, len(want))
		}
		for _, pt := range y.m.Points() {
			for f := range y.m.Funcs() {
				want := link(y, pt, f)
				got := y.g.Link(pt, f)
				for k, e := range got {
					if k > 0 && (got[k-1][0] > e[0] || got[k-1][0] == e[0] && got[k-1][1] >= e[1]) || !want[edge{l[e[0]], l[e[1]]}] {
						t.Fatalf("program %d: the link of %v and %d has %v", seed, pt, f, got)
					}
				}
				if len(got) != len(want) {
					t.Fatalf("program %d: the link of %v and %d has %d edges, want %d", seed, pt, f, len(got), len(want))
				}
			}
		}
		blocks := 0
		for _, fn := range p.Funcs {
			blocks += len(fn.Blocks)
		}
		if y.g.Len() > y.m.Vars()+y.m.Fields()*(2*y.m.Funcs()+blocks+2*len(y.m.Points())) {
			t.Fatal("too many nodes")
		}
	}
	for k := api.NodeVar; k <= api.NodeOut; k++ {
		if kinds[k] < 50 {
			t.Errorf("%d nodes of kind %d", kinds[k], k)
		}
	}
}

// What is not of one program may be handed in: all calls end.
func TestOtherProgram(t *testing.T) {
	for seed := range 100 {
		y := of(t, sample.Program(seed, sample.Small()))
		z := of(t, sample.Program(seed+1, sample.Small()))
		for _, g := range []*vfg.Graph{vfg.Of(y.m, y.c, z.n, y.x, y.r), vfg.Of(y.m, z.c, y.n, z.x, y.r), vfg.Of(y.m, y.c, y.n, y.x, z.r), vfg.Of(z.m, y.c, y.n, y.x, y.r)} {
			for _, p := range append(y.m.Points(), z.m.Points()...) {
				g.Link(p, 0)
				g.Link(p, 1)
			}
			for i := range g.Len() {
				g.Succ(i)
			}
		}
	}
}
