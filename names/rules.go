package names

import "gnomon/api"

// questions tells what asks each rule.
func questions(l look) map[api.Rule]func() (api.Point, bool) {
	return map[api.Rule]func() (api.Point, bool){
		api.ManyFuncs:  l.manyFuncs,
		api.BadName:    l.badName,
		api.TwiceFunc:  l.twiceFunc,
		api.NoMain:     l.noMain,
		api.ManyParams: l.manyParams,
		api.ManyBlocks: l.manyBlocks,
		api.TwiceLabel: l.twiceLabel,
		api.ManyCode:   l.manyCode,
		api.BadInstr:   l.badInstr,
		api.BadEnd:     l.badEnd,
		api.BadPhi:     l.badPhi,
		api.NoLabel:    l.noLabel,
		api.NoFunc:     l.noFunc,
		api.Arity:      l.arity,
		api.TwiceVar:   l.twiceVar,
		api.NoVar:      l.noVar,
	}
}

func (l look) manyFuncs() (api.Point, bool) {
	n := len(l.prog.Funcs)
	return api.Point{}, n == 0 || n > api.MaxFuncs
}

func (l look) badName() (api.Point, bool) {
	return l.where(func(x part) bool {
		switch {
		case x.isFunc():
			return !allNames(x.fn.Name) || !allNames(x.fn.Params...)
		case x.isBlock():
			return !allNames(x.block.Label)
		}
		return badNames(x.code)
	})
}

func (l look) twiceFunc() (api.Point, bool) {
	seen := map[string]struct{}{}
	return l.where(func(x part) bool { return x.isFunc() && twice(seen, x.fn.Name) })
}

// twice tells whether one of some keys was seen, and sees them.
func twice[K comparable](seen map[K]struct{}, keys ...K) bool {
	for _, k := range keys {
		if _, is := seen[k]; is {
			return true
		}
		seen[k] = struct{}{}
	}
	return false
}

func (l look) noMain() (api.Point, bool) {
	for f, fn := range l.prog.Funcs {
		if fn.Name == "main" {
			return pointIf(api.Point{Func: f}, len(fn.Params) > 0)
		}
	}
	return api.Point{}, true
}

func pointIf(at api.Point, is bool) (api.Point, bool) {
	if !is {
		at = api.Point{}
	}
	return at, is
}

func (l look) manyParams() (api.Point, bool) {
	return l.where(func(x part) bool {
		if x.isFunc() {
			return len(x.fn.Params) > api.MaxParams
		}
		return isCall(x.op()) && len(x.code.Args) > api.MaxParams
	})
}

func isCall(op api.Op) bool { return op == api.Call || op == api.ICall }

func (l look) manyBlocks() (api.Point, bool) {
	return l.where(func(x part) bool {
		return x.isFunc() && (len(x.fn.Blocks) == 0 || len(x.fn.Blocks) > api.MaxBlocks)
	})
}

func (l look) twiceLabel() (api.Point, bool) {
	var seen map[string]struct{}
	return l.where(func(x part) bool {
		if x.isFunc() {
			seen = map[string]struct{}{}
		}
		return x.isBlock() && twice(seen, x.block.Label)
	})
}

func (l look) manyCode() (api.Point, bool) {
	n := 0
	return l.where(func(x part) bool {
		if x.code != nil {
			n++
		}
		return n > api.MaxCode
	})
}

func (l look) badInstr() (api.Point, bool) {
	return l.where(func(x part) bool { return x.code != nil && badFields(x.code) })
}

func (l look) badEnd() (api.Point, bool) {
	return l.where(func(x part) bool {
		if x.code == nil {
			return x.isBlock() && len(x.block.Code) == 0
		}
		last := x.at.At == len(x.block.Code)-1
		return last != ends(x.op())
	})
}

func ends(op api.Op) bool { return op == api.Br || op == api.Goto || op == api.Ret }

func (l look) badPhi() (api.Point, bool) {
	return l.where(func(x part) bool {
		if x.op() != api.Phi {
			return false
		}
		return x.at.Block == 0 || x.at.At > 0 && x.block.Code[x.at.At-1].Op != api.Phi
	})
}

func (l look) noLabel() (api.Point, bool) {
	var labels map[string]struct{}
	return l.where(func(x part) bool {
		if x.isFunc() {
			labels = map[string]struct{}{}
			for _, b := range x.fn.Blocks {
				labels[b.Label] = struct{}{}
			}
		}
		return x.code != nil && !hasAll(labels, x.code.Labels...)
	})
}

func hasAll(m map[string]struct{}, l ...string) bool {
	for _, s := range l {
		if _, is := m[s]; !is {
			return false
		}
	}
	return true
}

// arities tells how many parameters the first function of each name has.
func (l look) arities() map[string]int {
	m := map[string]int{}
	for _, fn := range l.prog.Funcs {
		if _, is := m[fn.Name]; !is {
			m[fn.Name] = len(fn.Params)
		}
	}
	return m
}

func (l look) noFunc() (api.Point, bool) {
	known := l.arities()
	return l.where(func(x part) bool {
		if x.op() != api.Call && x.op() != api.Addr {
			return false
		}
		_, is := known[x.code.Fn]
		return !is
	})
}

func (l look) arity() (api.Point, bool) {
	known := l.arities()
	return l.where(func(x part) bool {
		if x.op() != api.Call {
			return false
		}
		n, is := known[x.code.Fn]
		return is && n != len(x.code.Args)
	})
}

func (l look) twiceVar() (api.Point, bool) {
	var seen map[string]struct{}
	return l.where(func(x part) bool {
		if x.isFunc() {
			seen = map[string]struct{}{}
			return twice(seen, x.fn.Params...)
		}
		return x.code != nil && twice(seen, given(x.code.Dst)...)
	})
}

func (l look) noVar() (api.Point, bool) {
	var vars map[string]struct{}
	return l.where(func(x part) bool {
		if x.isFunc() {
			vars = variables(x.fn)
		}
		if x.code == nil {
			return false
		}
		for s := range used(x.code) {
			if !hasAll(vars, s) {
				return true
			}
		}
		return false
	})
}

func variables(fn *api.Func) map[string]struct{} {
	m := map[string]struct{}{}
	for _, s := range fn.Params {
		m[s] = struct{}{}
	}
	for _, b := range fn.Blocks {
		for _, x := range b.Code {
			m[x.Dst] = struct{}{}
		}
	}
	return m
}
