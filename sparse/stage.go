package sparse

import (
	"gnomon/api"
	"gnomon/bits"
	"gnomon/calls"
	"gnomon/chi"
	"gnomon/memphi"
	"gnomon/modref"
	"gnomon/mssa"
	"gnomon/queue"
	"gnomon/sites"
	"gnomon/solve"
	"gnomon/vfg"
)

// noVar is the number of null, and of a variable that there is not.
const noVar = -1

// callSite is a call: where it is, the variable by which it calls if it is an indirect one, the functions that it may enter by the pre-analysis, the nodes of what it leaves behind, and the functions that it was seen to enter.
type callSite struct {
	at       api.Point
	indirect bool
	by       int
	fns      []int
	outs     []int
	entered  *bits.Set
}

// store is what is stored, and to what, by the numbers of variables.
type store struct {
	value, to int
}

// way is an edge of the link of a call and a function, seen from one of its ends: the node at the other one, and how many things that had when it was asked last.
type way struct {
	node, call, fn int
	asked          int
}

// stage is the second stage as it goes on.
type stage struct {
	sites   *sites.Map
	reach   *mssa.Reach
	graph   *vfg.Graph
	mods    []*bits.Set
	single  *bits.Set
	nodes   []api.Node
	ahead   [][]int           // the nodes from which edges lead
	defs    map[int]api.Instr // what defines a variable
	stores  map[api.Point]store
	bases   map[int]int // the field 0 of a variable's site
	calls   []callSite
	numbers map[api.Point]int // of calls
	dials   map[int][]int     // the indirect calls by a variable
	asked   [][]int           // how many things those ahead had when they were asked last
	in, out map[int][]way
	sets    []*bits.Set
	how     map[uint8]reckoning
}

func newStage(m *sites.Map, a *solve.Answer) *stage {
	c := calls.Of(m, a)
	sums := modref.Of(m, a, c)
	notes := chi.Of(m, a, c, sums)
	meets := memphi.Of(m, notes)
	reach := mssa.Of(m, notes, meets)
	s := &stage{sites: m, reach: reach, graph: vfg.Of(m, c, notes, meets, reach), single: bits.Of(), how: reckonings(),
		defs: map[int]api.Instr{}, stores: map[api.Point]store{}, bases: map[int]int{}, numbers: map[api.Point]int{}, dials: map[int][]int{}, in: map[int][]way{}, out: map[int][]way{}}
	for f := range m.Funcs() {
		s.mods = append(s.mods, bits.Of(sums.Mod(f)...))
	}
	for o := range m.Fields() {
		if c.Single(o) {
			s.single.Add(o)
		}
	}
	s.readNodes()
	for _, at := range m.Points() {
		x, _ := m.Instr(at)
		s.define(at, x)
		if x.Op == api.Call || x.Op == api.ICall {
			s.link(at, x, c.Callees(at))
		}
	}
	for i, n := range s.nodes {
		if k, is := s.numbers[n.At]; is && n.Kind == api.NodeOut {
			s.calls[k].outs = append(s.calls[k].outs, i)
		}
	}
	return s
}

// readNodes takes the graph's nodes, with its edges turned round.
func (s *stage) readNodes() {
	n := s.graph.Len()
	s.ahead, s.asked = make([][]int, n), make([][]int, n)
	for i := range n {
		node, _ := s.graph.Node(i)
		s.nodes = append(s.nodes, node)
		s.sets = append(s.sets, bits.Of())
		for _, to := range s.graph.Succ(i) {
			s.ahead[to] = append(s.ahead[to], i)
			s.asked[to] = append(s.asked[to], 0)
		}
	}
}

func (s *stage) variable(f int, name string) int {
	v, is := s.sites.Var(f, name)
	if !is {
		return noVar
	}
	return v
}

func (s *stage) define(at api.Point, x api.Instr) {
	if x.Op == api.Store {
		s.stores[at] = store{s.variable(at.Func, x.A), s.variable(at.Func, x.B)}
	}
	v := s.variable(at.Func, x.Dst)
	if v == noVar {
		return
	}
	s.defs[v] = x
	if first, _, is := s.sites.Site(at); is {
		s.bases[v] = first
	}
}

// link takes a call, and its links with all functions that it may enter.
func (s *stage) link(at api.Point, x api.Instr, fns []int) {
	k := len(s.calls)
	c := callSite{at: at, indirect: x.Op == api.ICall, by: s.variable(at.Func, x.A), fns: fns, entered: bits.Of()}
	if c.indirect && c.by != noVar {
		s.dials[c.by] = append(s.dials[c.by], k)
	}
	s.calls = append(s.calls, c)
	s.numbers[at] = k
	for _, f := range fns {
		for _, e := range s.graph.Link(at, f) {
			s.out[e[0]] = append(s.out[e[0]], way{node: e[1], call: k, fn: f})
			s.in[e[1]] = append(s.in[e[1]], way{node: e[0], call: k, fn: f})
		}
	}
}

// enters tells whether a call enters a function, by the sets as they are.
func (s *stage) enters(call, f int) bool {
	c := s.calls[call]
	return !c.indirect || c.by != noVar && s.sets[c.by].Has(s.sites.FuncObj(f))
}

// entered are the functions that calls enter.
func (s *stage) entered() map[api.Point][]int {
	out := map[api.Point][]int{}
	for k, c := range s.calls {
		for _, f := range c.fns {
			if s.enters(k, f) {
				out[c.at] = append(out[c.at], f)
			}
		}
	}
	return out
}

// run makes steps until nothing waits, or the budget is used up; whether nothing waits, and how many steps were made.
func (s *stage) run(picks []int, budget int) (bool, int) {
	q := queue.New(len(s.nodes), picks)
	for i := range s.nodes {
		q.Add(i)
	}
	for q.Len() > 0 && q.Taken() < budget {
		i, _ := q.Take()
		s.step(q, i)
	}
	return q.Len() == 0, q.Taken()
}

// step reckons a node's set, and lets wait what hangs on it.
func (s *stage) step(q *queue.Queue, i int) {
	was := s.sets[i].Len()
	s.how[s.nodes[i].Kind](s, i)
	if s.sets[i].Len() == was {
		return
	}
	for _, to := range s.graph.Succ(i) {
		q.Add(to)
	}
	for _, w := range s.out[i] {
		if s.enters(w.call, w.fn) {
			q.Add(w.node)
		}
	}
	for _, k := range s.dials[i] {
		s.wake(q, k)
	}
}

// wake lets wait what hangs on the functions that an indirect call enters only now.
func (s *stage) wake(q *queue.Queue, k int) {
	c := s.calls[k]
	for _, f := range c.fns {
		if !s.enters(k, f) || !c.entered.Add(f) {
			continue
		}
		for _, i := range c.outs {
			q.Add(i)
		}
		for _, e := range s.graph.Link(c.at, f) {
			q.Add(e[1])
		}
	}
}
