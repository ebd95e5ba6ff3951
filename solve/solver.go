package solve

import (
	"maps"
	"slices"

	"gnomon/api"
	"gnomon/bits"
	"gnomon/scc"
	"gnomon/sites"
)

// Up to so many edges circles are looked for but once.
const fewEdges = 128

// node is a variable, or a field: its set, what of it was worked through, and what is done with what comes into it.
type node struct {
	*bits.Set
	done   *bits.Set
	to     map[int]struct{}
	loads  []int
	stores []int
	shifts []shift
	dials  []int
}

// shift is a Field's variable, and how many fields further on.
type shift struct {
	to, k int
}

// entry is an indirect call, and a function that it may enter.
type entry struct {
	dial, fn int
}

// solver has nodes: the variables, and behind them the fields. Those of a circle of copies have one node for all: up leads to it.
type solver struct {
	sites         *sites.Map
	dials         []api.Dial
	nodes         []*node
	up            []int
	waits         map[int]struct{}
	linked        map[entry]struct{}
	edges, folded int
	steps         int
}

func newSolver(m *sites.Map) *solver {
	s := &solver{sites: m, waits: map[int]struct{}{}, linked: map[entry]struct{}{}}
	for i := range m.Vars() + m.Fields() {
		s.nodes = append(s.nodes, &node{Set: bits.Of(), done: bits.Of(), to: map[int]struct{}{}})
		s.up = append(s.up, i)
	}
	return s
}

// cell is the node of a field.
func (s *solver) cell(o int) int { return s.sites.Vars() + o }

// find is the node that stands for a node.
func (s *solver) find(i int) int {
	for s.up[i] != i {
		s.up[i] = s.up[s.up[i]]
		i = s.up[i]
	}
	return i
}

// say takes a constraint. All are taken ahead of the first step.
func (s *solver) say(r api.Rel) {
	n := s.nodes[r.A]
	switch r.Kind {
	case api.CBase:
		n.Add(r.B)
		s.waits[r.A] = struct{}{}
	case api.CCopy:
		s.edge(r.B, r.A)
	case api.CLoad:
		s.nodes[r.B].loads = append(s.nodes[r.B].loads, r.A)
	case api.CStore:
		n.stores = append(n.stores, r.B)
	case api.CField:
		s.nodes[r.B].shifts = append(s.nodes[r.B].shifts, shift{r.A, r.K})
	case api.CCall:
		n.dials = append(n.dials, r.K)
	}
}

// edge lets what a node has go on to another one, now and from now on.
func (s *solver) edge(from, to int) {
	from, to = s.find(from), s.find(to)
	if from == to {
		return
	}
	if _, is := s.nodes[from].to[to]; is {
		return
	}
	s.nodes[from].to[to] = struct{}{}
	s.edges++
	s.pour(s.nodes[from].Set, to)
}

// pour puts things into a node's set.
func (s *solver) pour(things *bits.Set, to int) {
	s.steps++
	if s.nodes[to].Union(things) {
		s.waits[to] = struct{}{}
	}
}

// run goes on until nothing waits. Who waits is taken rising, so that how many steps there are hangs on no order of a map.
func (s *solver) run() {
	for len(s.waits) > 0 {
		// Looking for circles takes as long as all edges: it is worth it only when there are many new ones.
		if s.edges > s.folded+s.folded/2 {
			s.fold()
			s.folded = max(s.edges, fewEdges)
		}
		for _, i := range slices.Sorted(maps.Keys(s.waits)) {
			delete(s.waits, i)
			s.work(s.find(i))
		}
	}
}

// work goes through what came into a node since it was worked through last.
func (s *solver) work(i int) {
	n := s.nodes[i]
	fresh := n.Minus(n.done)
	if !n.done.Union(fresh) {
		return
	}
	things := fresh.List()
	for _, o := range things {
		if o < s.sites.Fields() {
			s.field(n, o)
		} else {
			s.function(n, o-s.sites.Fields())
		}
	}
	for _, x := range n.shifts {
		s.pour(s.further(things, x.k), s.find(x.to))
	}
	for to := range n.to {
		s.pour(fresh, s.find(to))
	}
}

// field lets what a field has come to those that load through a node, and what they store through it into the field.
func (s *solver) field(n *node, o int) {
	for _, v := range n.loads {
		s.edge(s.cell(o), v)
	}
	for _, v := range n.stores {
		s.edge(v, s.cell(o))
	}
}

// further are the fields so many further on.
func (s *solver) further(things []int, k int) *bits.Set {
	out := bits.Of()
	for _, o := range things {
		if to, is := s.sites.Step(o, k); is {
			out.Add(to)
		}
	}
	return out
}

// function links the indirect calls of a node with a function that it has.
func (s *solver) function(n *node, f int) {
	params := s.sites.Params(f)
	for _, k := range n.dials {
		d := s.dials[k]
		if _, is := s.linked[entry{k, f}]; is || len(params) != len(d.Args) {
			continue
		}
		s.linked[entry{k, f}] = struct{}{}
		for i, p := range params {
			s.flow(d.Args[i], p)
		}
		for _, r := range s.sites.Rets(f) {
			s.flow(r, d.Dst)
		}
	}
}

// flow is an edge between variables, unless one of them is null or missing.
func (s *solver) flow(from, to int) {
	if from >= 0 && to >= 0 {
		s.edge(from, to)
	}
}

// fold lets one node stand for each circle of edges: all on it have the same things.
func (s *solver) fold() {
	g := make([][]int, len(s.nodes))
	for i, n := range s.nodes {
		for to := range n.to {
			g[i] = append(g[i], s.find(to))
		}
	}
	first := map[int]int{}
	for i, c := range scc.Comps(g) {
		if s.up[i] != i {
			continue
		}
		to, is := first[c]
		if !is {
			first[c] = i
			continue
		}
		s.merge(i, to)
	}
}

// merge puts a node's set, and what is done with it, to another one's. What was done for one was not for the other: all is gone through once more.
func (s *solver) merge(i, to int) {
	from, n := s.nodes[i], s.nodes[to]
	s.pour(from.Set, to)
	n.done = bits.Of()
	maps.Copy(n.to, from.to)
	n.loads = append(n.loads, from.loads...)
	n.stores = append(n.stores, from.stores...)
	n.shifts = append(n.shifts, from.shifts...)
	n.dials = append(n.dials, from.dials...)
	s.up[i] = to
	s.nodes[i] = &node{}
	s.waits[to] = struct{}{}
}
