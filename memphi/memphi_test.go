package memphi_test

import (
	"math"
	"slices"
	"testing"

	"gnomon/api"
	"gnomon/calls"
	"gnomon/cfg"
	"gnomon/chi"
	"gnomon/dom"
	"gnomon/memphi"
	"gnomon/modref"
	"gnomon/read"
	"gnomon/sample"
	"gnomon/sites"
	"gnomon/solve"
)

func of(t *testing.T, p api.Program) (*sites.Map, *chi.Notes, *memphi.Meets) {
	t.Helper()
	m, e := sites.New(p)
	if e != api.OK {
		t.Fatal(e)
	}
	a := solve.Solve(m)
	c := calls.Of(m, a)
	n := chi.Of(m, a, c, modref.Of(m, a, c))
	return m, n, memphi.Of(m, n)
}

func parse(t *testing.T, text string) api.Program {
	t.Helper()
	p, s, e := read.Parse(text)
	if e != api.OK {
		t.Fatal(s, e)
	}
	return p
}

func isList(t *testing.T, what string, got []int, want ...int) {
	t.Helper()
	if !slices.Equal(got, want) {
		t.Errorf("%s: %v, want %v", what, got, want)
	}
}

func TestExample(t *testing.T) {
	_, _, x := of(t, parse(t, "func main() {\ne:\np = alloca 1\nbr l m\nl:\nstore p, p\ngoto m\nm:\nx = load p\nbr m n\nn:\nret\n}"))
	isList(t, "Blocks(main, 0)", x.Blocks(0, 0), 2)
	isList(t, "Phis(main, 2)", x.Phis(0, 2), 0)
	for _, b := range []int{0, 1, 3, 4, -1, math.MaxInt} {
		isList(t, "Phis where nothing meets", x.Phis(0, b))
	}
	for _, f := range []int{1, -1, math.MinInt} {
		isList(t, "Phis of no function", x.Phis(f, 2))
		isList(t, "Blocks of no function", x.Blocks(f, 0))
	}
	for _, o := range []int{1, -1, math.MaxInt} {
		isList(t, "Blocks of no field", x.Blocks(0, o))
	}
	x.Phis(0, 2)[0] = 9
	x.Blocks(0, 0)[0] = 9
	isList(t, "Blocks again", x.Blocks(0, 0), 2)
	isList(t, "Phis again", x.Phis(0, 2), 0)
}

// A field that is read alone meets nowhere; what meets makes others meet behind it.
func TestWhere(t *testing.T) {
	_, _, x := of(t, parse(t, "func main() {\ne:\np = alloca 2\nq = field p 1\nz = load q\nbr a b\na:\nstore p, p\ngoto b\nb:\nbr c d\nc:\ngoto d\nd:\nbr e2 b\ne2:\nret\n}"))
	isList(t, "what is stored", x.Blocks(0, 0), 2)
	isList(t, "what is loaded", x.Blocks(0, 1))
	_, _, x = of(t, parse(t, "func f(a) {\ne:\nbr a b\na:\nstore a, a\ngoto b\nb:\nret\n}\nfunc main() {\ne:\np = alloca 1\nr = alloca 1\nbr a d\na:\nbr b c\nb:\ncall f(p)\ngoto c\nc:\ngoto d\nd:\nstore r, r\nret\n}"))
	isList(t, "in f", x.Blocks(0, 0), 2)
	isList(t, "in main", x.Blocks(1, 0), 3, 4)
	isList(t, "another field", x.Blocks(1, 1))
	isList(t, "what f does not touch", x.Blocks(0, 1))
}

func TestNil(t *testing.T) {
	m, n, _ := of(t, parse(t, "func main() {\ne:\nret\n}"))
	if memphi.Of(nil, n) != nil || memphi.Of(m, nil) != nil {
		t.Error("Of nil")
	}
	var x *memphi.Meets
	isList(t, "nil", x.Phis(0, 0))
	isList(t, "nil", x.Blocks(0, 0))
}

func TestSamples(t *testing.T) {
	met := 0
	for seed := range 400 {
		p := sample.Program(seed, sample.Shape{Funcs: 3, Params: 2, Blocks: 9, Code: 4, Fields: 2})
		m, n, x := of(t, p)
		for f, fn := range p.Funcs {
			flow, _ := cfg.Of(fn)
			front := dom.Frontier(flow.Succ, 0)
			phis := make([][]int, len(fn.Blocks))
			for o := range m.Objs() {
				if !slices.Contains(n.Entry(f), o) {
					isList(t, "a field that the function has not", x.Blocks(f, o))
					continue
				}
				in := []int{0}
				defines := func(b int) bool {
					for i := range fn.Blocks[b].Code {
						if slices.Contains(n.Defs(api.Point{Func: f, Block: b, At: i}), o) {
							return true
						}
					}
					return false
				}
				for b := range fn.Blocks {
					if defines(b) {
						in = append(in, b)
					}
				}
				want := dom.Iterate(front, in...)
				isList(t, "Blocks", x.Blocks(f, o), want...)
				for _, b := range want {
					phis[b] = append(phis[b], o)
					if b == 0 || len(flow.Pred[b]) < 2 {
						t.Fatalf("program %d: it meets at %d", seed, b)
					}
					met++
				}
				for b := 1; b < len(fn.Blocks); b++ {
					if from := sources(flow, b, defines, want); len(from) > 1 && !slices.Contains(want, b) {
						t.Fatalf("program %d: to %d it comes from %v", seed, b, from)
					}
				}
			}
			for b := range phis {
				isList(t, "Phis", x.Phis(f, b), phis[b]...)
			}
		}
	}
	if met < 100 {
		t.Error("but little meets")
	}
}

// sources are the blocks from whose ends what a block begins with may come: going back, the first ones that define, or where it meets, or the entry.
func sources(flow cfg.Flow, b int, defines func(int) bool, meets []int) []int {
	var from []int
	seen := map[int]bool{}
	next := slices.Clone(flow.Pred[b])
	for len(next) > 0 {
		a := next[0]
		next = next[1:]
		if seen[a] {
			continue
		}
		seen[a] = true
		if a == 0 || defines(a) || slices.Contains(meets, a) {
			from = append(from, a)
			continue
		}
		next = append(next, flow.Pred[a]...)
	}
	return from
}

// What is not of one program may be handed in: all calls end.
func TestOtherProgram(t *testing.T) {
	for seed := range 100 {
		m, _, _ := of(t, sample.Program(seed, sample.Small()))
		_, n, _ := of(t, sample.Program(seed+1, sample.Small()))
		x := memphi.Of(m, n)
		x.Phis(0, 1)
		x.Blocks(0, 1)
	}
}
