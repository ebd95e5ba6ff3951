package sparse_test

import (
	"math"
	"slices"
	"testing"

	"gnomon/api"
	"gnomon/bits"
	"gnomon/calls"
	"gnomon/cfg"
	"gnomon/chi"
	"gnomon/memphi"
	"gnomon/modref"
	"gnomon/mssa"
	"gnomon/read"
	"gnomon/run"
	"gnomon/sample"
	"gnomon/sites"
	"gnomon/solve"
	"gnomon/sparse"
	"gnomon/update"
	"gnomon/vfg"
)

func mapOf(t *testing.T, text string) *sites.Map {
	t.Helper()
	p, s, e := read.Parse(text)
	if e != api.OK {
		t.Fatal(s, e)
	}
	m, e := sites.New(p)
	if e != api.OK {
		t.Fatal(e)
	}
	return m
}

func at(f, b, i int) api.Point { return api.Point{Func: f, Block: b, At: i} }

const enough = 1 << 30

// asker asks for sets by names.
type asker struct {
	t *testing.T
	m *sites.Map
	a *solve.Answer
	r *sparse.Result
}

func ask(t *testing.T, text string, budget int) asker {
	t.Helper()
	m := mapOf(t, text)
	a := solve.Solve(m)
	return asker{t, m, a, sparse.Solve(m, a, nil, budget)}
}

func (x asker) things(names ...string) []int {
	s := bits.Of()
	for _, name := range names {
		if f, is := x.m.Func(name); is {
			s.Add(x.m.FuncObj(f))
			continue
		}
		for _, p := range x.m.Points() {
			i, _ := x.m.Instr(p)
			if first, _, is := x.m.Site(p); is && i.Dst == name {
				s.Add(first)
			}
		}
	}
	return s.List()
}

// has holds a variable of a function against the sites' first fields, and functions, that it must have.
func (x asker) has(fn, v string, names ...string) {
	x.t.Helper()
	f, _ := x.m.Func(fn)
	n, is := x.m.Var(f, v)
	if got := x.r.Var(n); !is || !slices.Equal(got, x.things(names...)) {
		x.t.Errorf("%s has %v, want %v", v, got, x.things(names...))
	}
}

const straight = "p = alloca 1\na = alloca 1\nb = alloca 1\nstore a, p\nx = load p\nstore b, p\ny = load p\n"

func TestExample(t *testing.T) {
	x := ask(t, "func main() {\ne:\n"+straight+"ret\n}", enough)
	if x.r.Status() != api.Complete || x.r.Steps() < 1 {
		t.Error(x.r.Status(), x.r.Steps())
	}
	x.has("main", "x", "a")
	x.has("main", "y", "b")
	for i, want := range [][]int{nil, nil, nil, nil, {1}, {1}, {2}, {2}, nil} {
		if got := x.r.Mem(at(0, 0, i), 0); !slices.Equal(got, want) {
			t.Errorf("Mem at %d: %v, want %v", i, got, want)
		}
	}
	if len(x.r.Mem(at(0, 0, 5), 1))+len(x.r.Mem(at(0, 0, 5), -1))+len(x.r.Mem(at(1, 0, 5), 0))+len(x.r.Mem(at(0, 0, 5), math.MaxInt)) != 0 {
		t.Error("Mem of what there is not")
	}
	if !x.r.Has(3, 1) || x.r.Has(3, 2) || x.r.Has(-1, 0) || x.r.Has(99, 0) || x.r.Has(3, -1) {
		t.Error("Has")
	}
	if len(x.r.Var(-1))+len(x.r.Var(5))+len(x.r.Var(6))+len(x.r.Var(math.MaxInt)) != 0 {
		t.Error("Var of what there is not")
	}
	x.r.Var(3)[0] = 9
	x.r.Mem(at(0, 0, 4), 0)[0] = 9
	x.has("main", "x", "a")
}

func TestCut(t *testing.T) {
	for _, budget := range []int{0, 1, 5, -1, math.MinInt} {
		x := ask(t, "func main() {\ne:\n"+straight+"ret\n}", budget)
		if x.r.Status() != api.Cut || x.r.Steps() != max(budget, 0) {
			t.Error(budget, x.r.Status(), x.r.Steps())
		}
		x.has("main", "x", "a", "b")
		x.has("main", "y", "a", "b")
		if !slices.Equal(x.r.Mem(at(0, 0, 3), 0), []int{1, 2}) || len(x.r.Mem(at(0, 0, 3), 1))+len(x.r.Mem(at(0, 0, 9), 0)) != 0 {
			t.Error("Mem")
		}
		if !x.r.Has(3, 2) || x.r.Has(3, 0) || x.r.Has(-1, 0) {
			t.Error("Has")
		}
	}
	// Where there is nothing to do nothing is cut.
	if x := ask(t, "func main() {\ne:\nret\n}", 0); x.r.Status() != api.Complete || x.r.Steps() != 0 {
		t.Error("a program without nodes")
	}
}

// The examples of the whole.
func TestWhole(t *testing.T) {
	x := ask(t, "func main() {\ne:\np = alloca 2\nq = field p 1\nr = field q 1\nret\n}", enough)
	if !slices.Equal(x.r.Var(0), []int{0}) || !slices.Equal(x.r.Var(1), []int{1}) || len(x.r.Var(2)) != 0 {
		t.Error("fields")
	}
	x = ask(t, "func main() {\ne:\na = alloca 1\nb = alloca 1\ngoto l\nl:\np = malloc 1\nstore a, p\nx = load p\nstore b, p\ny = load p\nbr l m\nm:\nret\n}", enough)
	x.has("main", "x", "a", "b")
	x.has("main", "y", "a", "b")
	x = ask(t, "func main() {\ne:\np = alloca 1\na = alloca 1\nb = alloca 1\nbr l m\nl:\nstore a, p\ngoto n\nm:\nstore b, p\ngoto n\nn:\nx = load p\nret\n}", enough)
	x.has("main", "x", "a", "b")
	x = ask(t, "func set(a) {\ne:\nret a\n}\nfunc main() {\ne:\np = alloca 1\nq = alloca 1\nf = addr set\nstore f, p\ng = load p\nz = icall g(q)\nicall g(q, q)\nret\n}", enough)
	x.has("set", "a", "q")
	x.has("main", "z", "q")
	if !slices.Equal(x.r.Callees(at(1, 0, 5)), []int{0}) || len(x.r.Callees(at(1, 0, 6)))+len(x.r.Callees(at(1, 0, 4)))+len(x.r.Callees(at(9, 0, 0))) != 0 {
		t.Error("Callees")
	}
	x.r.Callees(at(1, 0, 5))[0] = 9
	if !slices.Equal(x.r.Callees(at(1, 0, 5)), []int{0}) {
		t.Error("Callees are shared")
	}
	x = ask(t, "func set(a, v) {\ne:\nstore v, a\nret\n}\nfunc main() {\ne:\np = alloca 1\nq = alloca 1\nstore q, p\nstore p, q\ncall set(p, p)\nx = load p\ny = load q\nret\n}", enough)
	x.has("main", "x", "p")
	x.has("main", "y", "p")
	x = ask(t, "func main() {\ne:\np = alloca 1\nq = alloca 1\na = alloca 1\nc = alloca 1\nstore a, p\nstore a, q\ng = load c\nstore p, c\nstore a, g\nx = load p\ny = load q\nret\n}", enough)
	x.has("main", "g")
	x.has("main", "x")
	x.has("main", "y", "a")
	x = ask(t, "func main() {\ne:\n"+straight+"br l m\nl:\ncall main()\ngoto m\nm:\nret\n}", enough)
	x.has("main", "x", "a", "b")
	x.has("main", "y", "a", "b")
}

// A call that may enter two functions by the pre-analysis enters the one that is stored there.
func TestSharperCalls(t *testing.T) {
	x := ask(t, "func keep(a) {\ne:\nret a\n}\nfunc set(c) {\ne:\nstore c, c\nret null\n}\nfunc main() {\ne:\np = alloca 1\nq = alloca 1\nb = alloca 1\nk = addr keep\ns = addr set\nstore b, q\nstore k, p\ng = load p\nu = icall g(q)\nx = load q\nstore s, p\nh = load p\nv = icall h(q)\ny = load q\nret\n}", enough)
	x.has("main", "x", "b")
	x.has("main", "y", "q")
	x.has("main", "u", "q")
	x.has("main", "v")
	if !slices.Equal(x.r.Callees(at(2, 0, 8)), []int{0}) || !slices.Equal(x.r.Callees(at(2, 0, 12)), []int{1}) || len(x.a.Callees(at(2, 0, 8))) != 2 {
		t.Error("Callees")
	}
	// Picks may take what a call leaves long ahead of whom it enters.
	d := sample.Throw(26)
	for k := range 300 {
		var picks []int
		for range d.Below(60) {
			picks = append(picks, d.Below(60))
		}
		r := sparse.Solve(x.m, x.a, picks, enough)
		same(t, k, x.m, r, x.r)
		if steps := newWords(x.m, x.a).run(picks); r.Steps() != steps {
			t.Fatalf("picks %v: %d steps, want %d", picks, r.Steps(), steps)
		}
	}
}

func TestNil(t *testing.T) {
	m := mapOf(t, "func main() {\ne:\nret\n}")
	if sparse.Solve(nil, solve.Solve(m), nil, 9) != nil || sparse.Solve(m, nil, nil, 9) != nil {
		t.Error("Solve of nil")
	}
	var r *sparse.Result
	if r.Status() != api.Rejected || r.Steps()+len(r.Var(0))+len(r.Callees(at(0, 0, 0)))+len(r.Mem(at(0, 0, 0), 0)) != 0 || r.Has(0, 0) {
		t.Error("a nil result has something")
	}
}

func TestBound(t *testing.T) {
	for _, x := range [][2]int{{0, 0}, {-1, 0}, {math.MinInt, 0}, {1, 1000}, {2, 16000}, {10, 10000000}, {8000, 1000 * 8000 * 8000 * 8000 * 8000}, {8300, 1 << 62}, {1 << 40, 1 << 62}, {math.MaxInt, 1 << 62}} {
		if got := sparse.Bound(x[0]); got != x[1] {
			t.Errorf("Bound(%d) = %d, want %d", x[0], got, x[1])
		}
	}
}

// words goes by the document's words: it asks what reaches, and the graph, anew for each step.
type words struct {
	m     *sites.Map
	p     api.Program
	c     *calls.Calls
	sums  *modref.Sums
	n     *chi.Notes
	r     *mssa.Reach
	g     *vfg.Graph
	sets  []*bits.Set
	where map[int]api.Point
}

func newWords(m *sites.Map, a *solve.Answer) *words {
	w := &words{m: m, p: m.Prog(), where: map[int]api.Point{}}
	w.c = calls.Of(m, a)
	w.sums = modref.Of(m, a, w.c)
	w.n = chi.Of(m, a, w.c, w.sums)
	x := memphi.Of(m, w.n)
	w.r = mssa.Of(m, w.n, x)
	w.g = vfg.Of(m, w.c, w.n, x, w.r)
	for range w.g.Len() {
		w.sets = append(w.sets, bits.Of())
	}
	for _, p := range m.Points() {
		x, _ := m.Instr(p)
		if v, is := m.Var(p.Func, x.Dst); is {
			w.where[v] = p
		}
	}
	return w
}

func (w *words) operand(f int, name string) *bits.Set {
	if v, _ := w.m.Var(f, name); v >= 0 {
		return w.sets[v]
	}
	return bits.Of()
}

func (w *words) mem(n api.Node, is bool) *bits.Set {
	if !is {
		return bits.Of()
	}
	i, _ := w.g.Id(n)
	return w.sets[i]
}

func (w *words) enters(p api.Point) []int {
	x, _ := w.m.Instr(p)
	var l []int
	for f := range w.m.Funcs() {
		g, _ := w.m.Func(x.Fn)
		if x.Op == api.Call && g == f || x.Op == api.ICall && len(x.Args) == len(w.m.Params(f)) && w.operand(p.Func, x.A).Has(w.m.FuncObj(f)) {
			l = append(l, f)
		}
	}
	return l
}

// entering tells of each call that enters a function.
func (w *words) entering(f int, tell func(p api.Point, x api.Instr)) {
	for _, p := range w.m.Points() {
		if slices.Contains(w.enters(p), f) {
			x, _ := w.m.Instr(p)
			tell(p, x)
		}
	}
}

func (w *words) variable(v int) *bits.Set {
	out := bits.Of()
	p, is := w.where[v]
	if !is {
		f, _, _ := w.m.VarOf(v)
		k := slices.Index(w.m.Params(f), v)
		w.entering(f, func(p api.Point, x api.Instr) { out.Union(w.operand(p.Func, x.Args[k])) })
		return out
	}
	x, _ := w.m.Instr(p)
	switch x.Op {
	case api.Alloca, api.Malloc:
		first, _, _ := w.m.Site(p)
		out.Add(first)
	case api.Addr:
		f, _ := w.m.Func(x.Fn)
		out.Add(w.m.FuncObj(f))
	case api.Copy:
		out.Union(w.operand(p.Func, x.A))
	case api.Phi:
		for _, a := range x.Args {
			out.Union(w.operand(p.Func, a))
		}
	case api.Field:
		for _, o := range w.operand(p.Func, x.A).List() {
			if to, is := w.m.Step(o, x.N); is {
				out.Add(to)
			}
		}
	case api.Load:
		for _, o := range w.operand(p.Func, x.A).List() {
			out.Union(w.mem(w.r.At(p, o)))
		}
	case api.Call, api.ICall:
		for _, f := range w.enters(p) {
			for _, r := range w.m.Rets(f) {
				if r >= 0 {
					out.Union(w.sets[r])
				}
			}
		}
	}
	return out
}

func (w *words) node(i int) *bits.Set {
	n, _ := w.g.Node(i)
	x, _ := w.m.Instr(n.At)
	out := bits.Of()
	switch n.Kind {
	case api.NodeVar:
		return w.variable(n.A)
	case api.NodeEntry:
		w.entering(n.A, func(p api.Point, _ api.Instr) {
			out.Union(w.mem(api.Node{Kind: api.NodeIn, B: n.B, At: p}, true))
		})
	case api.NodeExit:
		for _, p := range w.m.Points() {
			if x, _ := w.m.Instr(p); x.Op == api.Ret && p.Func == n.A {
				out.Union(w.mem(w.r.At(p, n.B)))
			}
		}
	case api.NodePhi:
		flow, _ := cfg.Of(w.p.Funcs[n.At.Func])
		for _, a := range flow.Pred[n.At.Block] {
			out.Union(w.mem(w.r.End(n.At.Func, a, n.B)))
		}
	case api.NodeStore:
		return update.Store(w.mem(w.r.At(n.At, n.B)), w.operand(n.At.Func, x.A), w.operand(n.At.Func, x.B), n.B, w.c.Single(n.B))
	case api.NodeIn:
		out.Union(w.mem(w.r.At(n.At, n.B)))
	case api.NodeOut:
		var exits []update.Exit
		for _, f := range w.enters(n.At) {
			mod := slices.Contains(w.sums.Mod(f), n.B)
			exits = append(exits, update.Exit{Mod: mod, Set: w.mem(api.Node{Kind: api.NodeExit, A: f, B: n.B}, mod)})
		}
		return update.Call(w.mem(w.r.At(n.At, n.B)), exits...)
	}
	return out
}

// run makes steps as the document tells, with a list for what waits, and tells how many.
func (w *words) run(picks []int) int {
	waits := bits.Of()
	for i := range w.sets {
		waits.Add(i)
	}
	steps := 0
	for ; waits.Len() > 0; steps++ {
		k := 0
		if len(picks) > 0 {
			if picks[0] > 0 && picks[0] < waits.Len() {
				k = picks[0]
			}
			picks = picks[1:]
		}
		i := waits.List()[k]
		waits.Drop(i)
		was := map[api.Point][]int{}
		for _, p := range w.m.Points() {
			was[p] = w.enters(p)
		}
		now := w.node(i)
		if !w.sets[i].In(now) {
			panic("a set has shrunk")
		}
		if now.Same(w.sets[i]) {
			continue
		}
		w.sets[i] = now
		waits.Union(bits.Of(w.g.Succ(i)...))
		for _, p := range w.m.Points() {
			x, _ := w.m.Instr(p)
			for _, f := range w.enters(p) {
				fresh := !slices.Contains(was[p], f)
				for _, e := range w.g.Link(p, f) {
					if e[0] == i || fresh {
						waits.Add(e[1])
					}
				}
				for o := range w.m.Fields() {
					if out, is := w.g.Id(api.Node{Kind: api.NodeOut, B: o, At: p}); fresh && is && x.Op == api.ICall {
						waits.Add(out)
					}
				}
			}
		}
	}
	return steps
}

func somePicks(d *sample.Dice) []int {
	var l []int
	for range d.Below(120) {
		l = append(l, d.Below(40)-3)
	}
	return l
}

// same holds two results against one another, by all questions.
func same(t *testing.T, seed int, m *sites.Map, a, b interface {
	Var(int) []int
	Callees(api.Point) []int
	Has(int, int) bool
}) {
	t.Helper()
	for v := range m.Vars() {
		if !slices.Equal(a.Var(v), b.Var(v)) {
			t.Fatalf("program %d: variable %d has %v, %v", seed, v, a.Var(v), b.Var(v))
		}
		for o := range m.Objs() {
			if a.Has(v, o) != slices.Contains(b.Var(v), o) {
				t.Fatalf("program %d: Has(%d, %d)", seed, v, o)
			}
		}
	}
	for _, p := range m.Points() {
		if !slices.Equal(a.Callees(p), b.Callees(p)) {
			t.Fatalf("program %d: %v calls %v, %v", seed, p, a.Callees(p), b.Callees(p))
		}
	}
}

func TestAgainstWords(t *testing.T) {
	sharper := 0
	small := sample.Shape{Funcs: 3, Params: 2, Blocks: 4, Code: 5, Fields: 2}
	for seed := range 1600 {
		shape := small
		if seed >= 1500 { // 821 calls functions by the very variables that these calls give something to
			shape = sample.Shape{Funcs: 4, Params: 3, Blocks: 8, Code: 6, Fields: 3}
			seed += 821 - 1500
		}
		m, _ := sites.New(sample.Program(seed, shape))
		a := solve.Solve(m)
		d := sample.Throw(seed)
		var picks []int
		if seed%2 == 0 {
			picks = somePicks(d)
		}
		w := newWords(m, a)
		steps := w.run(picks)
		r := sparse.Solve(m, a, picks, enough)
		if r.Status() != api.Complete || r.Steps() != steps {
			t.Fatalf("program %d: %d after %d steps, want %d", seed, r.Status(), r.Steps(), steps)
		}
		for v := range m.Vars() {
			if !slices.Equal(r.Var(v), w.sets[v].List()) {
				t.Fatalf("program %d: variable %d has %v, want %v", seed, v, r.Var(v), w.sets[v].List())
			}
			if len(r.Var(v)) < len(a.Var(v)) {
				sharper++
			}
		}
		for _, pt := range m.Points() {
			x, _ := m.Instr(pt)
			var want []int
			if x.Op == api.Call || x.Op == api.ICall {
				want = w.enters(pt)
			}
			if !slices.Equal(r.Callees(pt), want) {
				t.Fatalf("program %d: %v calls %v, want %v", seed, pt, r.Callees(pt), want)
			}
			for o := range m.Objs() {
				if got := r.Mem(pt, o); !slices.Equal(got, w.mem(w.r.At(pt, o)).List()) {
					t.Fatalf("program %d: Mem of %d at %v is %v", seed, o, pt, got)
				}
			}
		}
		if steps > 0 {
			cut := sparse.Solve(m, a, picks, steps-1)
			if cut.Status() != api.Cut || cut.Steps() != steps-1 {
				t.Fatalf("program %d: one step less: %d, %d", seed, cut.Status(), cut.Steps())
			}
		}
		if full := sparse.Solve(m, a, picks, steps); full.Status() != api.Complete || full.Steps() != steps {
			t.Fatalf("program %d: just so many steps: %d, %d", seed, full.Status(), full.Steps())
		}
	}
	if sharper < 50 {
		t.Errorf("but %d sets were sharper", sharper)
	}
}

func TestPicksAndBudgets(t *testing.T) {
	for seed := range 400 {
		m, _ := sites.New(sample.Program(seed, sample.Small()))
		a := solve.Solve(m)
		d := sample.Throw(seed)
		plain := sparse.Solve(m, a, nil, sparse.Bound(m.Size()))
		if plain.Status() != api.Complete || plain.Steps() > sparse.Bound(m.Size()) {
			t.Fatalf("program %d: a budget of Bound", seed)
		}
		for range 3 {
			picks := somePicks(d)
			r := sparse.Solve(m, a, picks, enough)
			same(t, seed, m, r, plain)
			for _, p := range m.Points() {
				for o := range m.Objs() {
					if !slices.Equal(r.Mem(p, o), plain.Mem(p, o)) {
						t.Fatalf("program %d: Mem hangs on picks", seed)
					}
				}
			}
			cut := sparse.Solve(m, a, picks, d.Below(r.Steps()))
			if r.Steps() > 0 {
				same(t, seed, m, cut, a)
			}
			for _, p := range m.Points() {
				for o := range m.Objs() {
					got := cut.Mem(p, o)
					if len(got) > 0 && !slices.Equal(got, a.Obj(o)) || !bits.Of(plain.Mem(p, o)...).In(bits.Of(a.Obj(o)...)) {
						t.Fatalf("program %d: Mem of what is cut", seed)
					}
				}
			}
		}
		if len(plain.Var(m.Vars())) > 0 {
			t.Fatalf("program %d: a variable behind the last one", seed)
		}
		for o := range m.Objs() {
			if plain.Has(m.Vars(), o) {
				t.Fatalf("program %d: a variable behind the last one has %d", seed, o)
			}
		}
		for v := range m.Vars() {
			if !bits.Of(plain.Var(v)...).In(bits.Of(a.Var(v)...)) {
				t.Fatalf("program %d: variable %d has more than ahead", seed, v)
			}
		}
		for _, p := range m.Points() {
			if !bits.Of(plain.Callees(p)...).In(bits.Of(a.Callees(p)...)) {
				t.Fatalf("program %d: %v calls more than ahead", seed, p)
			}
		}
	}
}

// Whatever run sees is told.
func TestRuns(t *testing.T) {
	facts := 0
	for seed := range 1500 {
		p := sample.Program(seed, sample.Shape{Funcs: 3, Params: 2, Blocks: 5, Code: 6, Fields: 2})
		m, _ := sites.New(p)
		r := sparse.Solve(m, solve.Solve(m), nil, enough)
		d := sample.Throw(seed)
		for range 4 {
			saw, _ := run.Run(p, d.Choices(40))
			for _, f := range saw.Facts {
				if !r.Has(f.Var, f.Obj) {
					t.Fatalf("program %d: %v is not told", seed, f)
				}
			}
			for _, c := range saw.Calls {
				if !slices.Contains(r.Callees(c.At), c.Func) {
					t.Fatalf("program %d: %v is not told", seed, c)
				}
			}
			facts += len(saw.Facts)
		}
	}
	if facts < 1000 {
		t.Error("runs saw but little")
	}
}

// What is not of one program may be handed in: all calls end.
func TestOtherProgram(t *testing.T) {
	for seed := range 100 {
		m, _ := sites.New(sample.Program(seed, sample.Small()))
		o, _ := sites.New(sample.Program(seed+1, sample.Small()))
		r := sparse.Solve(m, solve.Solve(o), nil, 10000)
		for _, p := range o.Points() {
			r.Callees(p)
			r.Mem(p, 0)
		}
		r.Var(0)
	}
}
