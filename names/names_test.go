package names_test

import (
	"reflect"
	"strings"
	"testing"

	"gnomon/api"
	"gnomon/names"
)

type code = []api.Instr

var (
	ret   = api.Instr{Op: api.Ret}
	param = strings.Fields("a b c d e f g h i")
)

func block(label string, l ...api.Instr) api.Block { return api.Block{Label: label, Code: l} }

func fn(name string, params []string, l ...api.Block) api.Func {
	return api.Func{Name: name, Params: params, Blocks: l}
}

func prog(l ...api.Func) api.Program { return api.Program{Funcs: l} }

// one is main of one block of these instructions and a ret, behind a function f of two parameters.
func one(l ...api.Instr) api.Program {
	return prog(fn("f", param[:2], block("e", ret)), fn("main", nil, block("e", append(code{}, l...)...)))
}

func at(f, b, i int) api.Point { return api.Point{Func: f, Block: b, At: i} }

func TestIs(t *testing.T) {
	for _, s := range []string{"a.1", "_", "_0", "Z", "a", "nulls", "Null", "a..", strings.Repeat("a", api.MaxName), "main", "z9", "zZ_.0"} {
		if !names.Is(s) {
			t.Errorf("%q is no name", s)
		}
	}
	for _, s := range []string{"null", "1a", "", ".a", "a b", "a-", "é", "aé", "a\x00", strings.Repeat("a", api.MaxName+1), "@", "a[", "a`", "a{", "a/", "a:", " a"} {
		if names.Is(s) {
			t.Errorf("%q is a name", s)
		}
	}
}

// good is a program that has every operation and breaks nothing.
func good() api.Program {
	return prog(
		fn("f", param[:2], block("e", api.Instr{Op: api.Ret, A: "a"})),
		fn("main", nil,
			block("e", api.Instr{Op: api.Alloca, Dst: "x", N: 1}, api.Instr{Op: api.Malloc, Dst: "y", N: api.MaxFields}, api.Instr{Op: api.Null, Dst: "n"},
				api.Instr{Op: api.Addr, Dst: "g", Fn: "f"}, api.Instr{Op: api.Br, Labels: []string{"l", "m"}}),
			block("l", api.Instr{Op: api.Phi, Dst: "p", Args: []string{"x"}, Labels: []string{"e"}}, api.Instr{Op: api.Phi, Dst: "q", Args: []string{"null"}, Labels: []string{"e"}},
				api.Instr{Op: api.Copy, Dst: "r", A: "null"}, api.Instr{Op: api.Field, Dst: "s", A: "y", N: api.MaxFields - 1}, api.Instr{Op: api.Field, Dst: "t", A: "y"},
				api.Instr{Op: api.Load, Dst: "u", A: "x"}, api.Instr{Op: api.Store, A: "null", B: "x"}, api.Instr{Op: api.Goto, Labels: []string{"m"}}),
			block("m", api.Instr{Op: api.Call, Dst: "v", Fn: "f", Args: []string{"x", "null"}}, api.Instr{Op: api.Call, Fn: "f", Args: []string{"x", "x"}},
				api.Instr{Op: api.ICall, Dst: "w", A: "g"}, api.Instr{Op: api.ICall, A: "null", Args: param[:0]}, ret)))
}

func TestGood(t *testing.T) {
	p := good()
	if w := names.Check(p); w != (api.Wrong{}) {
		t.Errorf("Check = %v", w)
	}
	for r := range 256 {
		if x, broken := names.First(p, api.Rule(r)); broken || x != (api.Point{}) {
			t.Errorf("rule %d is broken at %v", r, x)
		}
	}
	if !reflect.DeepEqual(p, good()) {
		t.Error("the program was changed")
	}
}

// broken has programs, and where each breaks a rule first.
func broken() []struct {
	r  api.Rule
	at api.Point
	p  api.Program
} {
	x := api.Instr{Op: api.Null, Dst: "x"}
	use := func(op api.Op) api.Instr { return api.Instr{Op: op, Dst: "y", A: "x"} }
	phi := api.Instr{Op: api.Phi, Dst: "p", Args: []string{"null"}, Labels: []string{"e"}}
	many := make(code, api.MaxCode)
	for i := range many {
		many[i] = api.Instr{Op: api.ICall, A: "null"}
	}
	funcs := make([]api.Func, api.MaxFuncs+1)
	blocks := make([]api.Block, api.MaxBlocks+1)
	for i := range funcs {
		funcs[i] = fn("f"+strings.Repeat("_", i), nil, block("e", ret))
		blocks[i] = block("b"+strings.Repeat("_", i), ret)
	}
	funcs[0].Name = "main"
	long := strings.Repeat("a", api.MaxName+1)
	return []struct {
		r  api.Rule
		at api.Point
		p  api.Program
	}{
		{api.ManyFuncs, at(0, 0, 0), prog()},
		{api.ManyFuncs, at(0, 0, 0), prog(funcs...)},
		{api.BadName, at(1, 0, 0), prog(fn("main", nil, block("e", ret)), fn("null", nil, block("1", ret)))},
		{api.BadName, at(0, 0, 0), prog(fn("", nil))},
		{api.BadName, at(1, 0, 0), prog(fn("main", nil, block("e", ret)), fn("f", []string{"a", "null"}, block("1", ret)))},
		{api.BadName, at(0, 0, 0), prog(fn("f", []string{""}))},
		{api.BadName, at(0, 1, 0), prog(fn("main", nil, block("e", ret), block("", ret)))},
		{api.BadName, at(0, 1, 0), prog(fn("main", nil, block("e", ret), block(long, ret)))},
		{api.BadName, at(1, 0, 1), one(x, api.Instr{Op: api.Null, Dst: "null"}, ret)},
		{api.BadName, at(1, 0, 1), one(x, api.Instr{Op: api.Alloca, Dst: "1", N: 1}, ret)},
		{api.BadName, at(1, 0, 0), one(api.Instr{Op: api.Addr, Dst: "a", Fn: "null"}, ret)},
		{api.BadName, at(1, 0, 0), one(api.Instr{Op: api.Call, Dst: "-", Fn: "f"}, ret)},
		{api.BadName, at(1, 0, 0), one(api.Instr{Op: api.Call, Fn: "null"}, ret)},
		{api.BadName, at(1, 0, 0), one(api.Instr{Op: api.Copy, Dst: "a", A: "1"}, ret)},
		{api.BadName, at(1, 0, 0), one(api.Instr{Op: api.Load, Dst: "a", A: long}, ret)},
		{api.BadName, at(1, 0, 0), one(api.Instr{Op: api.Store, A: "null", B: " "}, ret)},
		{api.BadName, at(1, 0, 0), one(api.Instr{Op: api.Store, A: "é", B: "null"}, ret)},
		{api.BadName, at(1, 0, 0), one(api.Instr{Op: api.ICall, A: "null", Args: []string{"null", "1"}}, ret)},
		{api.BadName, at(1, 0, 0), one(api.Instr{Op: api.ICall, A: "null", Args: []string{""}}, ret)},
		{api.BadName, at(1, 0, 0), one(api.Instr{Op: api.ICall, A: "null", Dst: "null"}, ret)},
		{api.BadName, at(1, 0, 0), one(api.Instr{Op: api.Ret, A: "1"})},
		{api.BadName, at(1, 0, 0), one(api.Instr{Op: api.Goto, Labels: []string{"null"}})},
		{api.BadName, at(1, 0, 0), one(api.Instr{Op: api.Br, Labels: []string{"e", ""}})},
		{api.BadName, at(1, 0, 0), one(api.Instr{Op: api.Phi, Dst: "p", Args: []string{"null", ""}, Labels: []string{"a", "b"}})},
		{api.BadName, at(1, 0, 0), one(api.Instr{Op: api.Phi, Dst: "p", Args: []string{"null"}, Labels: []string{"null"}})},
		{api.BadName, at(1, 0, 0), one(api.Instr{Op: api.Field, Dst: "a", A: "."}, ret)},
		{api.TwiceFunc, at(2, 0, 0), prog(fn("main", nil, block("e", ret)), fn("f", nil, block("e", ret)), fn("main", nil, block("e", ret)), fn("f", nil))},
		{api.NoMain, at(0, 0, 0), prog(fn("f", nil, block("e", ret)))},
		{api.NoMain, at(1, 0, 0), prog(fn("f", nil, block("e", ret)), fn("main", param[:1], block("e", ret)))},
		{api.ManyParams, at(1, 0, 0), prog(fn("main", nil, block("e", ret)), fn("f", param[:9], block("e", ret)))},
		{api.ManyParams, at(1, 0, 1), one(x, api.Instr{Op: api.ICall, A: "null", Args: strings.Fields(strings.Repeat("x ", 9))}, ret)},
		{api.ManyParams, at(1, 0, 1), one(x, api.Instr{Op: api.Call, Fn: "f", Args: strings.Fields(strings.Repeat("x ", 9))}, ret)},
		{api.ManyBlocks, at(1, 0, 0), prog(fn("main", nil, block("e", ret)), fn("f", nil))},
		{api.ManyBlocks, at(0, 0, 0), prog(fn("main", nil, blocks...))},
		{api.TwiceLabel, at(1, 2, 0), prog(fn("f", nil, block("e", ret)), fn("main", nil, block("e", ret), block("a", ret), block("e", ret), block("a", ret)))},
		{api.ManyCode, at(1, 0, api.MaxCode-1), one(append(many, ret)...)},
		{api.ManyCode, at(0, 1, 1), prog(fn("main", nil, block("e", many[:api.MaxCode-1]...), block("a", many[:2]...), block("b")))},
		{api.BadInstr, at(1, 0, 1), one(x, api.Instr{}, ret)},
		{api.BadInstr, at(1, 0, 1), one(x, api.Instr{Op: api.Ret + 1}, ret)},
		{api.BadInstr, at(1, 0, 0), one(api.Instr{Op: 255}, ret)},
		{api.BadInstr, at(1, 0, 0), one(api.Instr{Op: api.Alloca, Dst: "a"}, ret)},
		{api.BadInstr, at(1, 0, 0), one(api.Instr{Op: api.Alloca, N: 1}, ret)},
		{api.BadInstr, at(1, 0, 0), one(api.Instr{Op: api.Alloca, Dst: "a", N: 1, A: "null"}, ret)},
		{api.BadInstr, at(1, 0, 0), one(api.Instr{Op: api.Malloc, Dst: "a", N: api.MaxFields + 1}, ret)},
		{api.BadInstr, at(1, 0, 0), one(api.Instr{Op: api.Malloc, Dst: "a", N: -1}, ret)},
		{api.BadInstr, at(1, 0, 0), one(api.Instr{Op: api.Null}, ret)},
		{api.BadInstr, at(1, 0, 0), one(api.Instr{Op: api.Null, Dst: "a", N: 1}, ret)},
		{api.BadInstr, at(1, 0, 0), one(api.Instr{Op: api.Null, Dst: "a", N: -1}, ret)},
		{api.BadInstr, at(1, 0, 0), one(api.Instr{Op: api.Addr, Dst: "a"}, ret)},
		{api.BadInstr, at(1, 0, 0), one(api.Instr{Op: api.Addr, Fn: "f"}, ret)},
		{api.BadInstr, at(1, 0, 0), one(api.Instr{Op: api.Copy, Dst: "a"}, ret)},
		{api.BadInstr, at(1, 0, 0), one(api.Instr{Op: api.Copy, A: "null"}, ret)},
		{api.BadInstr, at(1, 0, 0), one(api.Instr{Op: api.Copy, Dst: "a", A: "null", Fn: "f"}, ret)},
		{api.BadInstr, at(1, 0, 0), one(api.Instr{Op: api.Copy, Dst: "a", A: "null", Args: []string{"null"}}, ret)},
		{api.BadInstr, at(1, 0, 0), one(api.Instr{Op: api.Load, Dst: "a", A: "null", Labels: []string{"e"}}, ret)},
		{api.BadInstr, at(1, 0, 0), one(api.Instr{Op: api.Load, Dst: "a", A: "null", B: "null"}, ret)},
		{api.BadInstr, at(1, 0, 0), one(api.Instr{Op: api.Phi, Dst: "a"}, ret)},
		{api.BadInstr, at(1, 0, 0), one(api.Instr{Op: api.Phi, Args: []string{"null"}, Labels: []string{"e"}}, ret)},
		{api.BadInstr, at(1, 0, 0), one(api.Instr{Op: api.Phi, Dst: "a", Args: []string{"null"}, Labels: []string{"e", "e"}}, ret)},
		{api.BadInstr, at(1, 0, 0), one(api.Instr{Op: api.Phi, Dst: "a", Args: []string{"null", "null"}, Labels: []string{"e"}}, ret)},
		{api.BadInstr, at(1, 0, 0), one(api.Instr{Op: api.Field, Dst: "a", A: "null", N: api.MaxFields}, ret)},
		{api.BadInstr, at(1, 0, 0), one(api.Instr{Op: api.Field, Dst: "a", A: "null", N: -1}, ret)},
		{api.BadInstr, at(1, 0, 0), one(api.Instr{Op: api.Field, Dst: "a"}, ret)},
		{api.BadInstr, at(1, 0, 0), one(api.Instr{Op: api.Store, A: "null"}, ret)},
		{api.BadInstr, at(1, 0, 0), one(api.Instr{Op: api.Store, B: "null"}, ret)},
		{api.BadInstr, at(1, 0, 0), one(api.Instr{Op: api.Store, A: "null", B: "null", Dst: "a"}, ret)},
		{api.BadInstr, at(1, 0, 0), one(api.Instr{Op: api.Call}, ret)},
		{api.BadInstr, at(1, 0, 0), one(api.Instr{Op: api.Call, Fn: "f", A: "null"}, ret)},
		{api.BadInstr, at(1, 0, 0), one(api.Instr{Op: api.ICall}, ret)},
		{api.BadInstr, at(1, 0, 0), one(api.Instr{Op: api.ICall, A: "null", Fn: "f"}, ret)},
		{api.BadInstr, at(1, 0, 0), one(api.Instr{Op: api.Br, Labels: []string{"e"}})},
		{api.BadInstr, at(1, 0, 0), one(api.Instr{Op: api.Br, Labels: []string{"e", "e", "e"}})},
		{api.BadInstr, at(1, 0, 0), one(api.Instr{Op: api.Goto})},
		{api.BadInstr, at(1, 0, 0), one(api.Instr{Op: api.Goto, Labels: []string{"e", "e"}})},
		{api.BadInstr, at(1, 0, 0), one(api.Instr{Op: api.Ret, Dst: "a"})},
		{api.BadInstr, at(1, 0, 0), one(api.Instr{Op: api.Ret, Labels: []string{"e"}})},
		{api.BadEnd, at(0, 1, 0), prog(fn("main", nil, block("e", ret), block("a"), block("b")))},
		{api.BadEnd, at(1, 0, 0), one(ret, ret)},
		{api.BadEnd, at(1, 0, 1), one(x, api.Instr{Op: api.Goto, Labels: []string{"e"}}, ret)},
		{api.BadEnd, at(1, 0, 0), one(x)},
		{api.BadPhi, at(0, 0, 0), prog(fn("main", nil, block("e", phi, ret)))},
		{api.BadPhi, at(0, 1, 2), prog(fn("main", nil, block("e", ret), block("a", phi, x, phi, ret)))},
		{api.BadPhi, at(0, 1, 1), prog(fn("main", nil, block("e", ret), block("a", x, phi, ret)))},
		{api.NoLabel, at(1, 0, 0), one(api.Instr{Op: api.Goto, Labels: []string{"x"}})},
		{api.NoLabel, at(1, 0, 0), one(api.Instr{Op: api.Br, Labels: []string{"e", "x"}})},
		{api.NoLabel, at(1, 1, 0), prog(fn("f", nil, block("g", ret)), fn("main", nil, block("e", ret), block("a", api.Instr{Op: api.Phi, Dst: "p", Args: []string{"null", "null"}, Labels: []string{"e", "g"}}, ret)))},
		{api.NoFunc, at(1, 0, 0), one(api.Instr{Op: api.Call, Fn: "g"}, ret)},
		{api.NoFunc, at(1, 0, 0), one(api.Instr{Op: api.Addr, Dst: "a", Fn: "e"}, ret)},
		{api.Arity, at(1, 0, 1), one(x, api.Instr{Op: api.Call, Fn: "f", Args: []string{"x"}}, ret)},
		{api.Arity, at(1, 0, 1), one(x, api.Instr{Op: api.Call, Fn: "f", Args: []string{"x", "x", "x"}}, ret)},
		{api.Arity, at(1, 0, 0), one(api.Instr{Op: api.Call, Fn: "f"}, ret)},
		{api.TwiceVar, at(1, 0, 0), prog(fn("main", nil, block("e", ret)), fn("f", []string{"a", "b", "a"}, block("e", ret)))},
		{api.TwiceVar, at(1, 0, 2), one(x, api.Instr{Op: api.ICall, A: "x"}, x, x, ret)},
		{api.TwiceVar, at(1, 1, 0), prog(fn("main", nil, block("e", ret)), fn("f", []string{"x"}, block("e", ret), block("a", x, ret)))},
		{api.NoVar, at(1, 0, 2), one(use(api.Copy), x, api.Instr{Op: api.Copy, Dst: "z", A: "b"}, ret)},
		{api.NoVar, at(1, 0, 1), one(x, api.Instr{Op: api.Store, A: "x", B: "b"}, ret)},
		{api.NoVar, at(1, 0, 1), one(x, api.Instr{Op: api.Store, A: "b", B: "x"}, ret)},
		{api.NoVar, at(1, 0, 0), one(api.Instr{Op: api.Ret, A: "f"})},
		{api.NoVar, at(1, 0, 1), one(x, api.Instr{Op: api.ICall, A: "x", Args: []string{"x", "null", "y"}}, ret)},
	}
}

func TestBroken(t *testing.T) {
	for k, x := range broken() {
		if got, is := names.First(x.p, x.r); !is || got != x.at {
			t.Errorf("row %d: First(%d) = %v, %v; want %v", k, x.r, got, is, x.at)
		}
		ahead := false
		for r := api.ManyFuncs; r < x.r; r++ {
			_, is := names.First(x.p, r)
			ahead = ahead || is
		}
		if w := names.Check(x.p); !ahead && w != (api.Wrong{Rule: x.r, At: x.at}) {
			t.Errorf("row %d: Check = %v; want %d at %v", k, w, x.r, x.at)
		}
	}
}

// What a rule does not ask is no fault by it.
func TestNotBroken(t *testing.T) {
	full := make(code, api.MaxCode-2)
	for i := range full {
		full[i] = api.Instr{Op: api.ICall, A: "null", Args: strings.Fields(strings.Repeat("null ", 8))}
	}
	blocks := make([]api.Block, api.MaxBlocks)
	funcs := make([]api.Func, api.MaxFuncs)
	for i := range blocks {
		blocks[i] = block("b"+strings.Repeat("_", i), ret)
		funcs[i] = fn("f"+strings.Repeat("_", i), nil, block("e", ret))
	}
	funcs[0].Name = "main"
	for k, x := range []struct {
		r api.Rule
		p api.Program
	}{
		{api.Sound, one(append(full, ret)...)},
		{api.Sound, prog(fn("main", nil, blocks...))},
		{api.Sound, prog(funcs...)},
		{api.Sound, prog(fn("main", nil, block("e", ret)), fn("f", param[:8], block("e", ret)))},
		{api.BadName, one(api.Instr{Dst: "1", A: "1"}, api.Instr{Op: api.Null, Dst: "a", A: "1", Fn: "1", Args: []string{"1"}, Labels: []string{"1"}}, api.Instr{Op: api.Copy}, ret)},
		{api.ManyParams, one(api.Instr{Op: api.Phi, Args: make([]string, 20)}, ret)},
		{api.NoMain, prog(fn("main", nil), fn("main", param[:1]))},
		{api.TwiceLabel, prog(fn("main", nil, block("e")), fn("f", nil, block("e")))},
		{api.BadInstr, one(api.Instr{Op: api.Ret, Args: []string{}, Labels: []string{}}, api.Instr{Op: api.Call, Fn: "f", Args: make([]string, 20)})},
		{api.NoFunc, one(api.Instr{Op: api.ICall, Fn: "g"}, ret)},
		{api.Arity, one(api.Instr{Op: api.Call, Fn: "g", Args: param[:1]}, api.Instr{Op: api.ICall, Fn: "f"}, ret)},
		{api.Arity, prog(fn("f", param[:1]), fn("f", param[:2]), fn("main", nil, block("e", api.Instr{Op: api.Call, Fn: "f", Args: param[:1]})))},
		{api.TwiceVar, prog(fn("main", nil, block("e", api.Instr{}, api.Instr{})), fn("f", []string{"x"}), fn("g", []string{"x"}))},
		{api.NoVar, one(api.Instr{Op: api.Copy, A: "x", B: "null", Args: []string{"", "null"}}, api.Instr{Op: api.Null, Dst: "x"}, ret)},
		{api.NoVar, prog(fn("main", nil, block("e", api.Instr{Op: api.Null, Dst: "x"})))},
		{api.BadPhi, prog(fn("main", nil, block("e", ret), block("a", api.Instr{Op: api.Phi}, api.Instr{Op: api.Phi})))},
	} {
		if x.r == api.Sound {
			if w := names.Check(x.p); w != (api.Wrong{}) {
				t.Errorf("row %d: Check = %v", k, w)
			}
		} else if got, is := names.First(x.p, x.r); is || got != (api.Point{}) {
			t.Errorf("row %d: First(%d) = %v, %v", k, x.r, got, is)
		}
	}
}

// Of two rules that are broken the one ahead is told, wherever it is broken.
func TestOrder(t *testing.T) {
	all := broken()
	for _, x := range all {
		for _, y := range all {
			if len(x.p.Funcs) == 0 || len(y.p.Funcs) == 0 || len(x.p.Funcs)+len(y.p.Funcs) > api.MaxFuncs {
				continue
			}
			p := api.Program{Funcs: append(append([]api.Func{}, x.p.Funcs...), y.p.Funcs...)}
			want := api.Wrong{}
			for r := api.NoVar; r > api.Sound; r-- {
				if at, is := names.First(p, r); is {
					want = api.Wrong{Rule: r, At: at}
				}
			}
			if w := names.Check(p); w != want || w.Rule == api.Sound {
				t.Fatalf("Check = %v, want %v", w, want)
			}
		}
	}
}
