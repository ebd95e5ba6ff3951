package vfg

import (
	"gnomon/api"
	"gnomon/cfg"
)

// operations tells what puts the edges of each operation.
func (g *Graph) operations() map[api.Op]func(at api.Point, x api.Instr) {
	return map[api.Op]func(at api.Point, x api.Instr){
		api.Copy:  g.copies,
		api.Field: g.copies,
		api.Phi:   g.copies,
		api.Load:  g.load,
		api.Store: g.store,
		api.Call:  g.call,
		api.ICall: g.call,
		api.Ret:   g.ret,
	}
}

// put puts edges from nodes to one, but from and to what is none.
func (g *Graph) put(to int, from ...int) {
	for _, i := range from {
		if i != noNode && to != noNode {
			g.succ[i] = append(g.succ[i], to)
		}
	}
}

// reaching is the number of what reaches a point.
func (g *Graph) reaching(at api.Point, o int) int {
	n, is := g.reach.At(at, o)
	if !is {
		return noNode
	}
	return g.number(n)
}

// copies is for what hangs on an A, or on Args, alone.
func (g *Graph) copies(at api.Point, x api.Instr) {
	dst := g.variable(at.Func, x.Dst)
	g.put(dst, g.variable(at.Func, x.A))
	for _, name := range x.Args {
		g.put(dst, g.variable(at.Func, name))
	}
}

func (g *Graph) load(at api.Point, x api.Instr) {
	g.copies(at, x)
	for _, o := range g.notes.Uses(at) {
		g.put(g.variable(at.Func, x.Dst), g.reaching(at, o))
	}
}

func (g *Graph) store(at api.Point, x api.Instr) {
	a, b := g.variable(at.Func, x.A), g.variable(at.Func, x.B)
	for _, o := range g.notes.Defs(at) {
		g.put(g.number(api.Node{Kind: api.NodeStore, B: o, At: at}), a, b, g.reaching(at, o))
	}
}

func (g *Graph) call(at api.Point, _ api.Instr) {
	for _, o := range g.notes.Uses(at) {
		g.put(g.number(api.Node{Kind: api.NodeIn, B: o, At: at}), g.reaching(at, o))
	}
	for _, o := range g.notes.Defs(at) {
		g.put(g.number(api.Node{Kind: api.NodeOut, B: o, At: at}), g.reaching(at, o))
	}
}

func (g *Graph) ret(at api.Point, _ api.Instr) {
	for _, o := range g.notes.Uses(at) {
		g.put(g.number(api.Node{Kind: api.NodeExit, A: at.Func, B: o}), g.reaching(at, o))
	}
}

// phiEdges puts the edges to where ways meet.
func (g *Graph) phiEdges(f int, fn api.Func) {
	flow, _ := cfg.Of(fn)
	for b := range fn.Blocks {
		for _, o := range g.meets.Phis(f, b) {
			for _, a := range flow.Pred[b] {
				if n, is := g.reach.End(f, a, o); is {
					g.put(g.number(phiAt(f, b, o)), g.number(n))
				}
			}
		}
	}
}
