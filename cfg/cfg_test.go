package cfg_test

import (
	"math/rand"
	"slices"
	"testing"

	"gnomon/api"
	"gnomon/cfg"
	"gnomon/graph"
	"gnomon/sample"
)

func same(a, b [][]int) bool {
	return slices.EqualFunc(a, b, func(x, y []int) bool { return slices.Equal(x, y) })
}

func end(labels ...string) api.Instr {
	return api.Instr{Op: []api.Op{api.Ret, api.Goto, api.Br}[min(len(labels), 2)], Labels: labels}
}

func block(label string, l ...api.Instr) api.Block { return api.Block{Label: label, Code: l} }

func fn(l ...api.Block) api.Func { return api.Func{Blocks: l} }

func TestExamples(t *testing.T) {
	for k, x := range []struct {
		f          api.Func
		succ, pred [][]int
		loops      []bool
	}{
		{fn(block("a", end("b", "b")), block("b", end("a"))), [][]int{{1}, {0}}, [][]int{{1}, {0}}, []bool{true, true}},
		{fn(block("a", end("b")), block("b", end())), [][]int{{1}, nil}, [][]int{nil, {0}}, []bool{false, false}},
		{fn(), nil, nil, nil},
		{fn(block("a", end("a"))), [][]int{{0}}, [][]int{{0}}, []bool{true}},
		{fn(block("a", end("c", "b")), block("b", end("c")), block("c", api.Instr{Op: api.Null}, end())), [][]int{{1, 2}, {2}, nil}, [][]int{nil, {0}, {0, 1}}, []bool{false, false, false}},
		// A label is that of the first block that has it; a Br has all its labels as ways, a Ret none.
		{fn(block("a", end("b")), block("b", end()), block("b", end("b"))), [][]int{{1}, nil, {1}}, [][]int{nil, {0, 2}, nil}, []bool{false, false, false}},
		{fn(block("a", end("c", "b", "c")), block("b", api.Instr{Op: api.Ret, Labels: []string{"a"}}), block("c", end())), [][]int{{1, 2}, nil, nil}, [][]int{nil, {0}, {0}}, []bool{false, false, false}},
		{fn(block("a", api.Instr{Op: api.Goto})), [][]int{nil}, [][]int{nil}, []bool{false}},
	} {
		flow, e := cfg.Of(x.f)
		if e != api.OK || !same(flow.Succ, x.succ) || !same(flow.Pred, x.pred) {
			t.Errorf("row %d: %v, %v", k, flow, e)
		}
		if l := cfg.Loops(x.f); !slices.Equal(l, x.loops) {
			t.Errorf("row %d: Loops %v", k, l)
		}
	}
}

func TestNone(t *testing.T) {
	for k, f := range []api.Func{
		fn(block("a", end("z"))),
		fn(block("a")),
		fn(block("a", end()), block("b")),
		fn(block("a", end("a", "z"))),
		fn(block("a", end("a"), api.Instr{Op: api.Null})),
		fn(block("a", api.Instr{})),
		fn(block("a", api.Instr{Op: 200})),
		fn(block("a", end("")), block("b", end())),
	} {
		if flow, e := cfg.Of(f); e != api.ErrNone || len(flow.Succ) != 0 || len(flow.Pred) != 0 {
			t.Errorf("row %d: %v, %v", k, flow, e)
		}
		if l := cfg.Loops(f); len(l) != 0 {
			t.Errorf("row %d: Loops %v", k, l)
		}
	}
}

func TestUses(t *testing.T) {
	for _, x := range []struct {
		x    api.Instr
		want []string
	}{
		{api.Instr{Op: api.ICall, A: "p", Args: []string{"null", "q", "p", ""}}, []string{"p", "q", "p"}},
		{api.Instr{Op: api.Store, A: "null", B: "y"}, []string{"y"}},
		{api.Instr{Op: api.Store, A: "x", B: "y"}, []string{"x", "y"}},
		{api.Instr{Op: api.Ret}, nil},
		{api.Instr{Op: api.Call, Dst: "d", Fn: "f", Labels: []string{"l"}, Args: []string{"a"}}, []string{"a"}},
	} {
		was := slices.Clone(x.x.Args)
		got := cfg.Uses(x.x)
		if !slices.Equal(got, x.want) {
			t.Errorf("%+v: %v", x.x, got)
		}
		for i := range got {
			got[i] = "-"
		}
		if !slices.Equal(x.x.Args, was) {
			t.Errorf("%+v was changed", x.x)
		}
	}
}

func TestAgainstLabels(t *testing.T) {
	r := rand.New(rand.NewSource(11))
	for seed := range 300 {
		for _, f := range sample.Program(seed, sample.Small()).Funcs {
			if r.Intn(3) == 0 {
				f.Blocks[r.Intn(len(f.Blocks))].Label = "b0"
			}
			flow, e := cfg.Of(f)
			rows := make([][]int, len(f.Blocks))
			good := true
			for b, x := range f.Blocks {
				for _, l := range x.Code[len(x.Code)-1].Labels {
					to := slices.IndexFunc(f.Blocks, func(y api.Block) bool { return y.Label == l })
					good = good && to >= 0
					rows[b] = append(rows[b], to)
				}
			}
			if good != (e == api.OK) {
				t.Fatalf("%+v: %v", f, e)
			}
			if !good {
				continue
			}
			if !same(flow.Succ, graph.Norm(rows...)) || !same(flow.Pred, graph.Back(rows)) {
				t.Fatalf("%+v: %v", f, flow)
			}
			for b, is := range cfg.Loops(f) {
				back := false
				for _, s := range flow.Succ[b] {
					back = back || graph.Leads(flow.Succ, s, b)
				}
				if is != back {
					t.Fatalf("%+v: Loops of %d is %v", f, b, is)
				}
			}
		}
	}
}
