package mssa_test

import (
	"math"
	"slices"
	"testing"

	"gnomon/api"
	"gnomon/calls"
	"gnomon/cfg"
	"gnomon/chi"
	"gnomon/memphi"
	"gnomon/modref"
	"gnomon/mssa"
	"gnomon/read"
	"gnomon/sample"
	"gnomon/sites"
	"gnomon/solve"
)

type all struct {
	m *sites.Map
	n *chi.Notes
	x *memphi.Meets
	r *mssa.Reach
}

func of(t *testing.T, p api.Program) all {
	t.Helper()
	m, e := sites.New(p)
	if e != api.OK {
		t.Fatal(e)
	}
	a := solve.Solve(m)
	c := calls.Of(m, a)
	n := chi.Of(m, a, c, modref.Of(m, a, c))
	x := memphi.Of(m, n)
	return all{m, n, x, mssa.Of(m, n, x)}
}

func parse(t *testing.T, text string) api.Program {
	t.Helper()
	p, s, e := read.Parse(text)
	if e != api.OK {
		t.Fatal(s, e)
	}
	return p
}

func at(f, b, i int) api.Point { return api.Point{Func: f, Block: b, At: i} }

func isNode(t *testing.T, what string, want api.Node) func(got api.Node, is bool) {
	return func(got api.Node, is bool) {
		t.Helper()
		if got != want || is != (want.Kind != 0) {
			t.Errorf("%s: %v, %v; want %v", what, got, is, want)
		}
	}
}

func TestExample(t *testing.T) {
	r := of(t, parse(t, "func main() {\ne:\np = alloca 1\nbr l m\nl:\nstore p, p\ngoto m\nm:\nx = load p\nbr m n\nn:\nret\n}")).r
	phi := api.Node{Kind: api.NodePhi, At: at(0, 2, 0)}
	entry := api.Node{Kind: api.NodeEntry}
	store := api.Node{Kind: api.NodeStore, At: at(0, 1, 0)}
	none := api.Node{}
	isNode(t, "m's load", phi)(r.At(at(0, 2, 0), 0))
	isNode(t, "l's store", entry)(r.At(at(0, 1, 0), 0))
	isNode(t, "behind it", store)(r.At(at(0, 1, 1), 0))
	isNode(t, "l's end", store)(r.End(0, 1, 0))
	isNode(t, "e's end", entry)(r.End(0, 0, 0))
	isNode(t, "n's ret", phi)(r.At(at(0, 3, 0), 0))
	isNode(t, "n's end", phi)(r.End(0, 3, 0))
	isNode(t, "another thing", none)(r.At(at(0, 3, 0), 1))
	isNode(t, "made", store)(r.Made(at(0, 1, 0), 0))
	isNode(t, "of another thing", none)(r.Made(at(0, 1, 0), 1))
	for _, p := range []api.Point{at(0, 2, 0), at(0, 1, 1), at(0, 3, 0), at(0, 9, 0), at(1, 0, 0), at(-1, 0, 0), at(0, 1, math.MaxInt)} {
		isNode(t, "made by what makes nothing", none)(r.Made(p, 0))
	}
	for _, p := range []api.Point{at(0, 1, 2), at(0, 4, 0), at(1, 0, 0), at(-1, 0, 0), at(0, -1, 0), at(0, 0, -1)} {
		isNode(t, "no point", none)(r.At(p, 0))
	}
	for _, e := range [][3]int{{0, 4, 0}, {1, 0, 0}, {-1, 0, 0}, {0, -1, 0}, {0, 0, 1}, {0, 0, -1}} {
		isNode(t, "no end", none)(r.End(e[0], e[1], e[2]))
	}
}

func TestCalls(t *testing.T) {
	r := of(t, parse(t, "func f(a) {\ne:\nstore a, a\nret\n}\nfunc g(a) {\ne:\nx = load a\nret\n}\nfunc main() {\ne:\np = alloca 1\ncall f(p)\ncall g(p)\ni = addr f\nicall i(p)\nstore p, p\nret\n}")).r
	out := func(i int) api.Node { return api.Node{Kind: api.NodeOut, At: at(2, 0, i)} }
	isNode(t, "the first call", api.Node{Kind: api.NodeEntry, A: 2})(r.At(at(2, 0, 1), 0))
	isNode(t, "behind it", out(1))(r.At(at(2, 0, 2), 0))
	isNode(t, "behind one that reads", out(1))(r.At(at(2, 0, 4), 0))
	isNode(t, "behind the indirect one", out(4))(r.At(at(2, 0, 5), 0))
	isNode(t, "the end", api.Node{Kind: api.NodeStore, At: at(2, 0, 5)})(r.End(2, 0, 0))
	isNode(t, "made by the call", out(1))(r.Made(at(2, 0, 1), 0))
	isNode(t, "made by the indirect one", out(4))(r.Made(at(2, 0, 4), 0))
	isNode(t, "made by one that reads", api.Node{})(r.Made(at(2, 0, 2), 0))
	isNode(t, "the end of g", api.Node{Kind: api.NodeEntry, A: 1})(r.End(1, 0, 0))
}

func TestNil(t *testing.T) {
	y := of(t, parse(t, "func main() {\ne:\nret\n}"))
	if mssa.Of(nil, y.n, y.x) != nil || mssa.Of(y.m, nil, y.x) != nil || mssa.Of(y.m, y.n, nil) != nil {
		t.Error("Of nil")
	}
	var r *mssa.Reach
	isNode(t, "At", api.Node{})(r.At(at(0, 0, 0), 0))
	isNode(t, "End", api.Node{})(r.End(0, 0, 0))
	isNode(t, "Made", api.Node{})(r.Made(at(0, 0, 0), 0))
}

// walker goes back from a place of a block on all ways, and gathers what it comes to first.
type walker struct {
	y    all
	flow cfg.Flow
	f, o int
	seen map[int]bool
	got  map[api.Node]bool
}

func (w *walker) back(b, i int) {
	for i--; i >= 0; i-- {
		p := at(w.f, b, i)
		if slices.Contains(w.y.n.Defs(p), w.o) {
			x, _ := w.y.m.Instr(p)
			kind := api.NodeOut
			if x.Op == api.Store {
				kind = api.NodeStore
			}
			w.got[api.Node{Kind: kind, B: w.o, At: p}] = true
			return
		}
	}
	switch {
	case b == 0:
		w.got[api.Node{Kind: api.NodeEntry, A: w.f, B: w.o}] = true
	case slices.Contains(w.y.x.Phis(w.f, b), w.o):
		w.got[api.Node{Kind: api.NodePhi, B: w.o, At: at(w.f, b, 0)}] = true
	default:
		for _, a := range w.flow.Pred[b] {
			if !w.seen[a] {
				w.seen[a] = true
				w.back(a, 1<<12)
			}
		}
	}
}

func TestSamples(t *testing.T) {
	kinds := map[uint8]int{}
	for seed := range 400 {
		p := sample.Program(seed, sample.Shape{Funcs: 3, Params: 2, Blocks: 7, Code: 5, Fields: 2})
		y := of(t, p)
		for f, fn := range p.Funcs {
			flow, _ := cfg.Of(fn)
			for o := range y.m.Objs() {
				has := slices.Contains(y.n.Entry(f), o)
				hold := func(b, i int, got api.Node, is bool) {
					t.Helper()
					if is != has || !has && got != (api.Node{}) {
						t.Fatalf("program %d: %v, %v", seed, got, is)
					}
					if !has {
						return
					}
					w := &walker{y, flow, f, o, map[int]bool{}, map[api.Node]bool{}}
					w.back(b, i)
					if len(w.got) != 1 || !w.got[got] {
						t.Fatalf("program %d: field %d at %d %d of %d: %v, want %v", seed, o, b, i, f, got, w.got)
					}
					kinds[got.Kind]++
				}
				for b, block := range fn.Blocks {
					for i := range block.Code {
						got, is := y.r.At(at(f, b, i), o)
						hold(b, i, got, is)
						made, is := y.r.Made(at(f, b, i), o)
						if is != slices.Contains(y.n.Defs(at(f, b, i)), o) || is && (made.B != o || made.At != at(f, b, i) || made.A != 0) {
							t.Fatalf("program %d: made %v, %v", seed, made, is)
						}
					}
					got, is := y.r.End(f, b, o)
					hold(b, len(block.Code), got, is)
				}
			}
		}
	}
	for _, k := range []uint8{api.NodeEntry, api.NodePhi, api.NodeStore, api.NodeOut} {
		if kinds[k] < 100 {
			t.Errorf("kind %d reaches %d times", k, kinds[k])
		}
	}
}

// What is not of one program may be handed in: all calls end.
func TestOtherProgram(t *testing.T) {
	for seed := range 100 {
		y := of(t, sample.Program(seed, sample.Small()))
		z := of(t, sample.Program(seed+1, sample.Small()))
		for _, r := range []*mssa.Reach{mssa.Of(y.m, z.n, y.x), mssa.Of(y.m, y.n, z.x), mssa.Of(z.m, y.n, y.x)} {
			for _, p := range append(y.m.Points(), z.m.Points()...) {
				for o := range 6 {
					r.At(p, o)
					r.Made(p, o)
					r.End(p.Func, p.Block, o)
				}
			}
		}
	}
}
