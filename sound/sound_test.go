package sound_test

import (
	"reflect"
	"slices"
	"strconv"
	"strings"
	"testing"

	"gnomon/api"
	"gnomon/graph"
	"gnomon/names"
	"gnomon/read"
	"gnomon/sample"
	"gnomon/sound"
)

// main_ is main of blocks: "a: x = null, ret; b: ret".
func main_(blocks string) api.Program {
	text := "func main() {\n"
	for _, b := range strings.Split(blocks, ";") {
		label, code, _ := strings.Cut(b, ":")
		text += label + ":\n"
		for _, x := range strings.Split(code, "/") {
			text += x + "\n"
		}
	}
	p, spot, e := read.Parse(text + "}\n")
	if e != api.OK {
		panic(text + strconv.Itoa(spot.Line))
	}
	return p
}

func at(f, b, i int) api.Point { return api.Point{Func: f, Block: b, At: i} }

func TestRules(t *testing.T) {
	for _, x := range []struct {
		blocks string
		r      api.Rule
		at     api.Point
	}{
		{"a: ret", api.Sound, at(0, 0, 0)},
		{"a: goto a", api.EntryPred, at(0, 0, 0)},
		{"a: goto b; b: x = null / br c a; c: ret", api.EntryPred, at(0, 1, 1)},
		{"a: ret; b: ret", api.Unreached, at(0, 1, 0)},
		{"a: ret; b: goto c; c: goto b", api.Unreached, at(0, 1, 0)},
		{"a: goto c; c: ret; b: goto c", api.Unreached, at(0, 2, 0)},
		{"a: br b c; b: x = null / goto c; c: ret x", api.NotDom, at(0, 2, 0)},
		{"a: br b c; b: x = null / goto c; c: y = phi [a: null, b: x] / ret y", api.Sound, at(0, 0, 0)},
		{"a: br b c; b: x = null / goto c; c: y = phi [b: x, a: null] / ret y", api.Sound, at(0, 0, 0)},
		{"a: br b c; b: x = null / goto c; c: y = phi [b: x] / ret y", api.PhiPreds, at(0, 2, 0)},
		{"a: br b c; b: x = null / goto c; c: y = phi [a: x, b: x] / ret y", api.NotDom, at(0, 2, 0)},
		{"a: br b c; b: goto c; c: y = phi [a: null, b: null, b: null] / ret", api.PhiPreds, at(0, 2, 0)},
		{"a: br b c; b: goto c; c: y = phi [a: null, a: null] / ret", api.PhiPreds, at(0, 2, 0)},
		{"a: br b c; b: goto c; c: y = phi [a: null, c: null] / ret", api.PhiPreds, at(0, 2, 0)},
		{"a: br b c; b: goto c; c: y = phi [a: null, b: null] / z = phi [b: null] / ret", api.PhiPreds, at(0, 2, 1)},
		{"a: br b b; b: y = phi [a: null] / ret", api.Sound, at(0, 0, 0)},
		{"a: br b b; b: y = phi [a: null, a: null] / ret", api.PhiPreds, at(0, 1, 0)},
		{"a: x = copy x / ret", api.NotDom, at(0, 0, 0)},
		{"a: store y, y / y = null / ret", api.NotDom, at(0, 0, 0)},
		{"a: x = null / y = copy x / ret y", api.Sound, at(0, 0, 0)},
		{"a: y = null / store null, x / x = null / ret", api.NotDom, at(0, 0, 1)},
		{"a: call main() / icall null(x) / x = null / ret", api.NotDom, at(0, 0, 1)},
		{"a: goto b; b: x = phi [a: null, b: x] / br b c; c: ret x", api.Sound, at(0, 0, 0)},
		{"a: goto b; b: x = phi [a: null, b: y] / y = copy x / br b c; c: ret y", api.Sound, at(0, 0, 0)},
		{"a: goto b; b: x = phi [a: y, b: y] / y = copy x / br b c; c: ret", api.NotDom, at(0, 1, 0)},
		{"a: goto b; b: y = copy x / x = null / br b c; c: ret", api.NotDom, at(0, 1, 0)},
		{"a: goto b; b: x = null / br c d; c: goto e; d: goto e; e: ret x", api.Sound, at(0, 0, 0)},
		{"a: goto c; c: y = copy x / br b d; b: x = null / goto c; d: ret", api.NotDom, at(0, 1, 0)},
		// The rule that is told first is broken behind those that are not.
		{"a: x = copy x / goto b; b: y = phi [b: null] / goto a; c: ret", api.EntryPred, at(0, 1, 1)},
		{"a: x = copy x / goto b; b: y = phi [b: null] / ret; c: ret", api.Unreached, at(0, 2, 0)},
		{"a: x = copy x / goto b; b: y = phi [b: null] / ret", api.PhiPreds, at(0, 1, 0)},
		{"a: x = copy y / ret", api.NoVar, at(0, 0, 0)},
		{"a: goto a; a: ret", api.TwiceLabel, at(0, 1, 0)},
	} {
		if w := sound.Check(main_(x.blocks)); w != (api.Wrong{Rule: x.r, At: x.at}) {
			t.Errorf("%s: %v", x.blocks, w)
		}
	}
	if w := sound.Check(api.Program{}); w != (api.Wrong{Rule: api.ManyFuncs}) {
		t.Errorf("no functions: %v", w)
	}
	f := api.Func{Name: "f", Params: []string{"p"}, Blocks: main_("a: goto b; b: x = phi [a: p] / ret p").Funcs[0].Blocks}
	p := main_("a: ret")
	p.Funcs = append(p.Funcs, f)
	if w := sound.Check(p); w.Rule != api.Sound {
		t.Errorf("parameters: %v", w)
	}
	p.Funcs[0].Blocks[0].Code = []api.Instr{{Op: api.Goto, Labels: []string{"a"}}}
	p.Funcs[1].Blocks[1].Code = []api.Instr{{Op: api.Goto, Labels: []string{"a"}}}
	if w := sound.Check(p); w != (api.Wrong{Rule: api.EntryPred}) {
		t.Errorf("two functions: %v", w)
	}
}

func TestManyIds(t *testing.T) {
	p := main_("a: ret")
	sites := func(n, fields int) {
		p.Funcs[0].Blocks[0].Code = nil
		for i := range n {
			p.Funcs[0].Blocks[0].Code = append(p.Funcs[0].Blocks[0].Code, api.Instr{Op: api.Alloca + api.Op(i%2), Dst: "x" + strconv.Itoa(i), N: fields})
		}
	}
	end := func(l ...api.Instr) {
		p.Funcs[0].Blocks[0].Code = append(p.Funcs[0].Blocks[0].Code, append(l, api.Instr{Op: api.Ret})...)
	}
	sites(1023, 64)
	end(api.Instr{Op: api.Alloca, Dst: "y", N: 63}, api.Instr{Op: api.Field, Dst: "z", A: "y", N: 1})
	if w := sound.Check(p); w.Rule != api.Sound {
		t.Errorf("MaxIds things: %v", w)
	}
	sites(1023, 64)
	end(api.Instr{Op: api.Alloca, Dst: "y", N: 64})
	if w := sound.Check(p); w != (api.Wrong{Rule: api.ManyIds}) {
		t.Errorf("one more: %v", w)
	}
	end(api.Instr{Op: api.Copy, Dst: "z", A: "zz"})
	if w := sound.Check(p); w.Rule == api.ManyIds {
		t.Errorf("a rule ahead: %v", w)
	}
}

func TestSamples(t *testing.T) {
	for seed := range 500 {
		p := sample.Program(seed, sample.Small())
		if w := sound.Check(p); w != (api.Wrong{}) {
			t.Fatalf("program %d: %v", seed, w)
		}
	}
	if w := sound.Check(sample.Program(1, sample.Shape{Funcs: 20, Params: 8, Blocks: 60, Code: 6, Fields: 20})); w != (api.Wrong{}) {
		t.Errorf("a great program: %v", w)
	}
}

// slow tells the rules by walks: a block dominates another one, if it can't be come to without it.
func slow(p api.Program) api.Wrong {
	found := map[api.Rule]api.Point{}
	put := func(r api.Rule, at api.Point) {
		if _, is := found[r]; !is {
			found[r] = at
		}
	}
	for f, fn := range p.Funcs {
		n := len(fn.Blocks)
		number := func(l string) int {
			return slices.IndexFunc(fn.Blocks, func(b api.Block) bool { return b.Label == l })
		}
		succ := make([][]int, n)
		for b, block := range fn.Blocks {
			last := block.Code[len(block.Code)-1]
			for _, l := range last.Labels {
				succ[b] = append(succ[b], number(l))
				if l == fn.Blocks[0].Label {
					put(api.EntryPred, at(f, b, len(block.Code)-1))
				}
			}
		}
		dominates := func(a, b int) bool {
			g := make([][]int, n)
			for i := range g {
				if i != a {
					g[i] = succ[i]
				}
			}
			return a == b || !graph.Leads(g, 0, b)
		}
		where := map[string]api.Point{}
		for b, block := range fn.Blocks {
			for i, x := range block.Code {
				where[x.Dst] = at(f, b, i)
			}
		}
		there := func(name string, b, i int) bool {
			d, is := where[name]
			return name == "" || name == "null" || !is || d.Block == b && d.At < i || d.Block != b && dominates(d.Block, b)
		}
		for b, block := range fn.Blocks {
			if !graph.Leads(succ, 0, b) {
				put(api.Unreached, at(f, b, 0))
			}
			preds := map[string]bool{}
			for a := range n {
				if slices.Contains(succ[a], b) {
					preds[fn.Blocks[a].Label] = true
				}
			}
			for i, x := range block.Code {
				if x.Op == api.Phi {
					labels := map[string]bool{}
					for k, l := range x.Labels {
						labels[l] = true
						if !there(x.Args[k], number(l), 1<<20) {
							put(api.NotDom, at(f, b, i))
						}
					}
					if len(labels) != len(x.Labels) || !reflect.DeepEqual(labels, preds) {
						put(api.PhiPreds, at(f, b, i))
					}
					continue
				}
				for _, name := range append([]string{x.A, x.B}, x.Args...) {
					if !there(name, b, i) {
						put(api.NotDom, at(f, b, i))
					}
				}
			}
		}
	}
	for r := api.EntryPred; r <= api.NotDom; r++ {
		if at, is := found[r]; is {
			return api.Wrong{Rule: r, At: at}
		}
	}
	return api.Wrong{}
}

func TestAgainstSlow(t *testing.T) {
	seen := map[api.Rule]int{}
	d := sample.Throw(1)
	for seed := range 4000 {
		p := sample.Program(seed, sample.Small())
		for range 1 + d.Below(2) {
			harm(d, &p)
		}
		if names.Check(p).Rule != api.Sound {
			continue
		}
		want := slow(p)
		if w := sound.Check(p); w != want {
			t.Fatalf("%+v: %v, want %v", p, w, want)
		}
		seen[want.Rule]++
	}
	for _, r := range []api.Rule{api.Sound, api.EntryPred, api.Unreached, api.PhiPreds, api.NotDom} {
		if seen[r] < 20 {
			t.Errorf("rule %d was met %d times", r, seen[r])
		}
	}
}

// harm changes a label, or a variable that is used, or lets two instructions change places.
func harm(d *sample.Dice, p *api.Program) {
	fn := &p.Funcs[d.Below(len(p.Funcs))]
	block := &fn.Blocks[d.Below(len(fn.Blocks))]
	x := &block.Code[d.Below(len(block.Code))]
	vars := []string{"null"}
	for _, b := range fn.Blocks {
		for _, y := range b.Code {
			if y.Dst != "" {
				vars = append(vars, y.Dst)
			}
		}
	}
	some := vars[d.Below(len(vars))]
	switch {
	case len(x.Labels) > 0 && d.Below(2) == 0:
		x.Labels[d.Below(len(x.Labels))] = fn.Blocks[d.Below(len(fn.Blocks))].Label
	case len(x.Args) > 0 && d.Below(2) == 0:
		x.Args[d.Below(len(x.Args))] = some
	case x.A != "":
		x.A = some
	case len(block.Code) > 2:
		i := d.Below(len(block.Code) - 2)
		block.Code[i], block.Code[i+1] = block.Code[i+1], block.Code[i]
	}
}
