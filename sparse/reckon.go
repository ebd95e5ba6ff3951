package sparse

import (
	"gnomon/api"
	"gnomon/bits"
	"gnomon/update"
)

// reckoning puts into a node's set what those of the others let it have. All sets only grow, and so does what follows from them: what was put in once need not be asked again.
type reckoning func(s *stage, i int)

// reckonings tells how each kind of node is reckoned.
func reckonings() map[uint8]reckoning {
	return map[uint8]reckoning{
		api.NodeVar:   (*stage).ofVar,
		api.NodeEntry: (*stage).ofLinks,
		api.NodeExit:  (*stage).ofAhead,
		api.NodePhi:   (*stage).ofAhead,
		api.NodeStore: (*stage).ofStore,
		api.NodeIn:    (*stage).ofAhead,
		api.NodeOut:   (*stage).ofOut,
	}
}

// put puts sets together into a node's.
func (s *stage) put(i int, sets ...*bits.Set) {
	for _, x := range sets {
		s.sets[i].Union(x)
	}
}

// grown are the sets that have grown since they were asked for a node: of the nodes from which edges lead to it, those that count.
func (s *stage) grown(i int, counts func(from int) bool) []*bits.Set {
	var l []*bits.Set
	for k, from := range s.ahead[i] {
		if n := s.sets[from].Len(); n > s.asked[i][k] && counts(from) {
			s.asked[i][k] = n
			l = append(l, s.sets[from])
		}
	}
	return l
}

// ofAhead is what the nodes have from which edges lead.
func (s *stage) ofAhead(i int) {
	s.put(i, s.grown(i, func(int) bool { return true })...)
}

// ofLinks is what comes by the links of calls that are entered. Whether they are is asked ahead of the first that is put in: a call may be by the very variable that it gives something to.
func (s *stage) ofLinks(i int) {
	var l []*bits.Set
	in := s.in[i]
	for k, w := range in {
		if n := s.sets[w.node].Len(); n > w.asked && s.enters(w.call, w.fn) {
			in[k].asked = n
			l = append(l, s.sets[w.node])
		}
	}
	s.put(i, l...)
}

// ofVar is for variables; one that no instruction defines is a parameter.
func (s *stage) ofVar(i int) {
	x := s.defs[i]
	switch x.Op {
	case api.Alloca, api.Malloc:
		s.put(i, bits.Of(s.bases[i]))
	case api.Null:
	case api.Addr:
		f, _ := s.sites.Func(x.Fn)
		s.put(i, bits.Of(s.sites.FuncObj(f)))
	case api.Copy, api.Phi:
		s.ofAhead(i)
	case api.Field:
		for _, from := range s.grown(i, func(int) bool { return true }) {
			s.put(i, s.further(from, x.N))
		}
	case api.Load:
		s.ofLoad(i)
	default:
		s.ofLinks(i)
	}
}

// further are the fields so many further on.
func (s *stage) further(things *bits.Set, k int) *bits.Set {
	out := bits.Of()
	for _, o := range things.List() {
		if to, is := s.sites.Step(o, k); is {
			out.Add(to)
		}
	}
	return out
}

// ofLoad is what the fields that a Load's A has have in what reaches it.
func (s *stage) ofLoad(i int) {
	from := bits.Of()
	for _, j := range s.ahead[i] {
		if s.nodes[j].Kind == api.NodeVar {
			from = s.sets[j]
		}
	}
	s.put(i, s.grown(i, func(j int) bool { return s.nodes[j].Kind != api.NodeVar && from.Has(s.nodes[j].B) })...)
}

// reaching is what reaches a node of a point: there is one memory ahead of it.
func (s *stage) reaching(i int) *bits.Set {
	for _, j := range s.ahead[i] {
		if s.nodes[j].Kind != api.NodeVar {
			return s.sets[j]
		}
	}
	return nil
}

// has is what an operand has.
func (s *stage) has(v int) *bits.Set {
	if v == noVar {
		return nil
	}
	return s.sets[v]
}

func (s *stage) ofStore(i int) {
	n := s.nodes[i]
	x := s.stores[n.At]
	s.put(i, update.Store(s.reaching(i), s.has(x.value), s.has(x.to), n.B, s.single.Has(n.B)))
}

func (s *stage) ofOut(i int) {
	n := s.nodes[i]
	k := s.numbers[n.At]
	var exits []update.Exit
	for _, f := range s.calls[k].fns {
		if !s.enters(k, f) {
			continue
		}
		x := update.Exit{Mod: s.mods[f].Has(n.B)}
		if exit, is := s.graph.Id(api.Node{Kind: api.NodeExit, A: f, B: n.B}); is {
			x.Set = s.sets[exit]
		}
		exits = append(exits, x)
	}
	s.put(i, update.Call(s.reaching(i), exits...))
}
