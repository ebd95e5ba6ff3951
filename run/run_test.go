package run_test

import (
	"reflect"
	"slices"
	"testing"

	"gnomon/api"
	"gnomon/read"
	"gnomon/run"
	"gnomon/sample"
	"gnomon/step"
)

func parse(t *testing.T, text string) api.Program {
	t.Helper()
	p, s, e := read.Parse(text)
	if e != api.OK {
		t.Fatal(s, e)
	}
	return p
}

func at(f, b, i int) api.Point { return api.Point{Func: f, Block: b, At: i} }

const loop = "func main() {\ne:\np = alloca 1\ngoto l\nl:\nbr l m\nm:\nret\n}"

func TestExample(t *testing.T) {
	p := parse(t, loop)
	for _, x := range []struct {
		choices []int
		want    run.Trace
	}{
		{nil, run.Trace{Facts: []api.Fact{{At: at(0, 0, 1)}, {At: at(0, 1, 0)}}, Stop: api.Choices, Moves: 2}},
		{[]int{0}, run.Trace{Facts: []api.Fact{{At: at(0, 0, 1)}, {At: at(0, 1, 0)}}, Stop: api.Choices, Moves: 3}},
		{[]int{0, 0, 1}, run.Trace{Facts: []api.Fact{{At: at(0, 0, 1)}, {At: at(0, 1, 0)}, {At: at(0, 2, 0)}}, Stop: api.Done, Moves: 6}},
		{[]int{-3, 0, 0}, run.Trace{Facts: []api.Fact{{At: at(0, 0, 1)}, {At: at(0, 1, 0)}, {At: at(0, 2, 0)}}, Stop: api.Done, Moves: 4}},
	} {
		got, e := run.Run(p, x.choices)
		if e != api.OK || !slices.Equal(got.Facts, x.want.Facts) || len(got.Calls) != 0 || got.Stop != x.want.Stop || got.Moves != x.want.Moves {
			t.Errorf("%v: %+v, %v", x.choices, got, e)
		}
	}
}

func TestCalls(t *testing.T) {
	p := parse(t, "func g() {\ne:\nret\n}\nfunc main() {\ne:\nf = addr g\nicall f()\ng = addr main\nstore f, null\nret\n}")
	got, e := run.Run(p, nil)
	want := run.Trace{
		Facts: []api.Fact{{At: at(1, 0, 1)}, {At: at(1, 0, 2)}, {At: at(1, 0, 3)}, {At: at(1, 0, 3), Var: 1, Obj: 1}},
		Calls: []api.Entered{{At: at(1, 0, 1)}}, Stop: api.NullUse, Moves: 5}
	if e != api.OK || !reflect.DeepEqual(got, want) {
		t.Errorf("%+v, %v", got, e)
	}
	p = parse(t, "func main() {\ne:\nbr a b\na:\ncall main()\nret\nb:\nf = addr main\nicall f()\nret\n}")
	got, _ = run.Run(p, append(append(make([]int, 20), 1), make([]int, 100)...))
	if !slices.Equal(got.Calls, []api.Entered{{At: at(0, 1, 0)}, {At: at(0, 2, 1)}}) || got.Stop != api.Deep {
		t.Errorf("%+v", got)
	}
}

func TestMoves(t *testing.T) {
	p := parse(t, loop)
	got, _ := run.Run(p, make([]int, api.MaxMoves+5))
	if got.Moves != api.MaxMoves || got.Stop != api.Choices {
		t.Errorf("%d moves, %d", got.Moves, got.Stop)
	}
	choices := make([]int, api.MaxMoves)
	choices[api.MaxMoves-4] = 1
	if got, _ := run.Run(p, choices); got.Moves != api.MaxMoves || got.Stop != api.Done {
		t.Errorf("the last move: %d moves, %d", got.Moves, got.Stop)
	}
	// What the machine tells behind the last move was seen, too.
	choices = make([]int, api.MaxMoves)
	choices[api.MaxMoves-3] = 1
	if got, _ := run.Run(p, choices); got.Moves != api.MaxMoves || got.Stop != api.Choices || !slices.Contains(got.Facts, api.Fact{At: at(0, 2, 0)}) {
		t.Errorf("behind the last move: %d moves, %d, %v", got.Moves, got.Stop, got.Facts)
	}
	p = parse(t, "func main() {\ne:\ngoto l\nl:\ngoto l\n}")
	if got, _ := run.Run(p, nil); got.Moves != api.MaxMoves || got.Stop != api.Choices {
		t.Errorf("a circle: %d moves, %d", got.Moves, got.Stop)
	}
}

func TestShape(t *testing.T) {
	for _, p := range []api.Program{{}, parse(t, "func main() {\na:\ngoto a\n}")} {
		if got, e := run.Run(p, []int{1}); e != api.ErrShape || !reflect.DeepEqual(got, run.Trace{}) {
			t.Errorf("%+v, %v", got, e)
		}
	}
}

func TestOrder(t *testing.T) {
	facts := []api.Fact{{At: at(-1, 5, 5), Var: 5, Obj: 5}, {At: at(0, 0, 9), Var: 9, Obj: 9}, {At: at(0, 1, 0), Var: 9, Obj: 9}, {At: at(0, 1, 1), Var: -1, Obj: 9}, {At: at(0, 1, 1), Obj: 8}, {At: at(0, 1, 1), Obj: 9}, {At: at(1, 0, 0)}}
	for i, a := range facts {
		for j, b := range facts {
			if got := run.CmpFact(a, b); got != sign(i-j) {
				t.Errorf("CmpFact(%v, %v) = %d", a, b, got)
			}
		}
	}
	calls := []api.Entered{{At: at(0, 0, 9), Func: 9}, {At: at(0, 1, 0), Func: 8}, {At: at(0, 1, 1), Func: 0}, {At: at(0, 1, 1), Func: 7}, {At: at(2, 0, 0), Func: -1}}
	for i, a := range calls {
		for j, b := range calls {
			if got := run.CmpCall(a, b); got != sign(i-j) {
				t.Errorf("CmpCall(%v, %v) = %d", a, b, got)
			}
		}
	}
}

func sign(n int) int {
	switch {
	case n < 0:
		return -1
	case n > 0:
		return 1
	}
	return 0
}

// What a run saw is what its machine tells ahead of each move and at the end.
func TestAgainstMachine(t *testing.T) {
	for seed := range 400 {
		p := sample.Program(seed, sample.Small())
		d := sample.Throw(seed)
		choices := d.Choices(d.Below(30))
		was := slices.Clone(choices)
		got, e := run.Run(p, choices)
		if e != api.OK || !slices.Equal(choices, was) {
			t.Fatal(e)
		}
		m, _ := step.New(p)
		facts, calls := map[api.Fact]bool{}, map[api.Entered]bool{}
		moves := 0
		for m.State() == api.Goes && moves < api.MaxMoves {
			at, _ := m.At()
			for _, f := range m.Facts() {
				facts[f] = true
			}
			c := 0
			if p.Funcs[at.Func].Blocks[at.Block].Code[at.At].Op == api.Br {
				if len(was) == 0 {
					break
				}
				c, was = was[0], was[1:]
			}
			m.Move(c)
			moves++
			if x, is := m.Entered(); is {
				calls[x] = true
			}
		}
		for _, f := range m.Facts() {
			facts[f] = true
		}
		stop := m.State()
		if stop == api.Goes {
			stop = api.Choices
		}
		if got.Moves != moves || got.Stop != stop || len(got.Facts) != len(facts) || len(got.Calls) != len(calls) {
			t.Fatalf("program %d: %d moves, %d; want %d, %d", seed, got.Moves, got.Stop, moves, stop)
		}
		for i, f := range got.Facts {
			if !facts[f] || i > 0 && run.CmpFact(got.Facts[i-1], f) != -1 {
				t.Fatalf("program %d: facts %v", seed, got.Facts)
			}
		}
		for i, c := range got.Calls {
			if !calls[c] || i > 0 && run.CmpCall(got.Calls[i-1], c) != -1 {
				t.Fatalf("program %d: calls %v", seed, got.Calls)
			}
		}
		more, _ := run.Run(p, append(slices.Clone(choices), d.Choices(5)...))
		if got.Stop != api.Choices && !reflect.DeepEqual(more, got) {
			t.Fatalf("program %d: choices behind the end change the run", seed)
		}
		for _, f := range got.Facts {
			if !slices.Contains(more.Facts, f) {
				t.Fatalf("program %d: more choices see less", seed)
			}
		}
	}
}
