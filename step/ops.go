package step

import "gnomon/api"

// operation executes an instruction; where control goes on it tells the machine itself.
type operation func(m *Machine, x api.Instr, choice int) api.Stop

// operations tells what each operation does.
func operations() map[api.Op]operation {
	return map[api.Op]operation{
		api.Alloca: (*Machine).makeObject,
		api.Malloc: (*Machine).makeObject,
		api.Null:   (*Machine).null,
		api.Addr:   (*Machine).addr,
		api.Copy:   (*Machine).copyOf,
		api.Field:  (*Machine).field,
		api.Load:   (*Machine).load,
		api.Store:  (*Machine).store,
		api.Call:   (*Machine).call,
		api.ICall:  (*Machine).icall,
		api.Br:     (*Machine).branch,
		api.Goto:   (*Machine).jump,
		api.Ret:    (*Machine).ret,
	}
}

func (m *Machine) makeObject(x api.Instr, _ int) api.Stop {
	first, _, _ := m.sites.Site(m.last().Point)
	v, stop := m.heap.Make(first, x.N)
	return m.define(x.Dst, v, stop)
}

func (m *Machine) null(x api.Instr, _ int) api.Stop {
	return m.define(x.Dst, api.Value{}, api.Goes)
}

func (m *Machine) addr(x api.Instr, _ int) api.Stop {
	f, _ := m.sites.Func(x.Fn)
	return m.define(x.Dst, api.Value{Kind: api.ValFunc, N: f}, api.Goes)
}

func (m *Machine) copyOf(x api.Instr, _ int) api.Stop {
	return m.define(x.Dst, m.has(x.A), api.Goes)
}

func (m *Machine) field(x api.Instr, _ int) api.Stop {
	v, stop := m.heap.Step(m.has(x.A), x.N)
	return m.define(x.Dst, v, stop)
}

func (m *Machine) load(x api.Instr, _ int) api.Stop {
	v, stop := m.heap.Load(m.has(x.A))
	return m.define(x.Dst, v, stop)
}

func (m *Machine) store(x api.Instr, _ int) api.Stop {
	return m.onward(m.heap.Store(m.has(x.B), m.has(x.A)))
}

func (m *Machine) call(x api.Instr, _ int) api.Stop {
	f, _ := m.sites.Func(x.Fn)
	return m.into(f, x)
}

func (m *Machine) icall(x api.Instr, _ int) api.Stop {
	to := m.has(x.A)
	if to.Kind != api.ValFunc {
		return api.NullUse
	}
	if len(m.funcs[to.N].params) != len(x.Args) {
		return api.BadCall
	}
	return m.into(to.N, x)
}

// into enters a function by a call. Control stays at the call, in the activation that is left.
func (m *Machine) into(f int, x api.Instr) api.Stop {
	if len(m.open) >= api.MaxDepth {
		return api.Deep
	}
	m.entered = []api.Entered{{At: m.last().Point, Func: f}}
	m.enter(f, m.all(x.Args))
	return api.Goes
}

func (m *Machine) branch(x api.Instr, choice int) api.Stop {
	return m.goTo(x.Labels[choice&1])
}

func (m *Machine) jump(x api.Instr, _ int) api.Stop {
	return m.goTo(x.Labels[0])
}

// goTo goes to the block of a label. All its phis are asked ahead of the first that is defined: one may be another one's argument.
func (m *Machine) goTo(label string) api.Stop {
	a := m.last()
	blocks := m.prog.Funcs[a.Func].Blocks
	from := blocks[a.Block].Label
	a.Block, a.At = m.funcs[a.Func].block[label], 0
	var phis []api.Instr
	var values []api.Value
	for _, x := range blocks[a.Block].Code {
		if x.Op != api.Phi {
			break
		}
		phis = append(phis, x)
		values = append(values, m.has(argument(x, from)))
	}
	for k, x := range phis {
		m.define(x.Dst, values[k], api.Goes)
	}
	return api.Goes
}

func argument(x api.Instr, label string) string {
	for k, l := range x.Labels {
		if l == label {
			return x.Args[k]
		}
	}
	return api.Nought
}

func (m *Machine) ret(x api.Instr, _ int) api.Stop {
	value := m.has(x.A)
	m.open = m.open[:len(m.open)-1]
	if len(m.open) == 0 {
		return api.Done
	}
	return m.define(m.code().Dst, value, api.Goes)
}
