package sparse

import (
	"gnomon/api"
	"gnomon/bits"
	"gnomon/update"
)

// reckoning tells a node's set by those of the others.
type reckoning func(s *stage, i int) *bits.Set

// reckonings tells how each kind of node is reckoned.
func reckonings() map[uint8]reckoning {
	return map[uint8]reckoning{
		api.NodeVar:   (*stage).ofVar,
		api.NodeEntry: (*stage).ofLinks,
		api.NodeExit:  (*stage).ofAhead,
		api.NodePhi:   (*stage).ofAhead,
		api.NodeStore: (*stage).ofStore,
		api.NodeIn:    (*stage).ofAhead,
		api.NodeOut:   (*stage).ofOut,
	}
}

// together are the things of some sets.
func together(sets ...*bits.Set) *bits.Set {
	out := bits.Of()
	for _, s := range sets {
		out.Union(s)
	}
	return out
}

// ofAhead is what the nodes have from which edges lead.
func (s *stage) ofAhead(i int) *bits.Set {
	var l []*bits.Set
	for _, from := range s.ahead[i] {
		l = append(l, s.sets[from])
	}
	return together(l...)
}

// ofLinks is what comes by the links of calls that are entered.
func (s *stage) ofLinks(i int) *bits.Set {
	var l []*bits.Set
	for _, w := range s.in[i] {
		if s.enters(w.call, w.fn) {
			l = append(l, s.sets[w.node])
		}
	}
	return together(l...)
}

// ofVar is for variables; one that no instruction defines is a parameter.
func (s *stage) ofVar(i int) *bits.Set {
	x := s.defs[i]
	switch x.Op {
	case api.Alloca, api.Malloc:
		return bits.Of(s.bases[i])
	case api.Null:
		return bits.Of()
	case api.Addr:
		f, _ := s.sites.Func(x.Fn)
		return bits.Of(s.sites.FuncObj(f))
	case api.Copy, api.Phi:
		return s.ofAhead(i)
	case api.Field:
		return s.further(s.ofAhead(i), x.N)
	case api.Load:
		return s.loaded(i)
	}
	return s.ofLinks(i)
}

// further are the fields so many further on.
func (s *stage) further(things *bits.Set, k int) *bits.Set {
	out := bits.Of()
	for _, o := range things.List() {
		if to, is := s.sites.Step(o, k); is {
			out.Add(to)
		}
	}
	return out
}

// loaded is what the fields that a Load's A has have in what reaches it.
func (s *stage) loaded(i int) *bits.Set {
	from := bits.Of()
	for _, j := range s.ahead[i] {
		if s.nodes[j].Kind == api.NodeVar {
			from = s.sets[j]
		}
	}
	var l []*bits.Set
	for _, j := range s.ahead[i] {
		if n := s.nodes[j]; n.Kind != api.NodeVar && from.Has(n.B) {
			l = append(l, s.sets[j])
		}
	}
	return together(l...)
}

// reaching is what reaches a node of a point: there is one memory ahead of it.
func (s *stage) reaching(i int) *bits.Set {
	for _, j := range s.ahead[i] {
		if s.nodes[j].Kind != api.NodeVar {
			return s.sets[j]
		}
	}
	return nil
}

// has is what an operand has.
func (s *stage) has(v int) *bits.Set {
	if v == noVar {
		return nil
	}
	return s.sets[v]
}

func (s *stage) ofStore(i int) *bits.Set {
	n := s.nodes[i]
	x := s.stores[n.At]
	return update.Store(s.reaching(i), s.has(x.value), s.has(x.to), n.B, s.single.Has(n.B))
}

func (s *stage) ofOut(i int) *bits.Set {
	n := s.nodes[i]
	k := s.numbers[n.At]
	var exits []update.Exit
	for _, f := range s.calls[k].fns {
		if !s.enters(k, f) {
			continue
		}
		x := update.Exit{Mod: s.mods[f].Has(n.B)}
		if exit, is := s.graph.Id(api.Node{Kind: api.NodeExit, A: f, B: n.B}); is {
			x.Set = s.sets[exit]
		}
		exits = append(exits, x)
	}
	return update.Call(s.reaching(i), exits...)
}
