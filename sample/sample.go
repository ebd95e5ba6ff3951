// Package sample makes programs that are well formed out of numbers, for the tests of all layers.
package sample

import (
	"strconv"

	"gnomon/api"
)

// Shape is how great a program is at most.
type Shape struct {
	Funcs, Params, Blocks, Code, Fields int
}

// Small is the shape of a program that a test can hold against something slow.
func Small() Shape { return Shape{Funcs: 3, Params: 2, Blocks: 5, Code: 4, Fields: 3} }

// Program is the program of a number: the same one for the same number and shape.
func Program(seed int, s Shape) api.Program {
	m := &maker{dice: Dice{state: uint64(seed)*2 + 1}, shape: s}
	n := 1 + m.dice.Below(s.Funcs)
	main := m.dice.Below(n)
	for f := range n {
		fn := api.Func{Name: "f" + strconv.Itoa(f)}
		if f == main {
			fn.Name = "main"
		} else {
			for k := range m.dice.Below(s.Params + 1) {
				fn.Params = append(fn.Params, "p"+strconv.Itoa(k))
			}
		}
		m.funcs = append(m.funcs, fn)
	}
	for f := range m.funcs {
		m.fill(f)
	}
	return api.Program{Funcs: m.funcs}
}

// Dice tells numbers that look as if they hung on nothing.
type Dice struct {
	state uint64
}

// Throw are the dice of a number.
func Throw(seed int) *Dice { return &Dice{state: uint64(seed)*2 + 1} }

// Below is a number from 0 to n - 1; 0, if n is below 1.
func (d *Dice) Below(n int) int {
	d.state = d.state*6364136223846793005 + 1442695040888963407
	if n < 1 {
		return 0
	}
	x := d.state ^ d.state>>29
	x *= 0xbf58476d1ce4e5b9
	return int((x ^ x>>32) >> 1 % uint64(n))
}

// Choices are n of them.
func (d *Dice) Choices(n int) []int {
	l := make([]int, n)
	for i := range l {
		l[i] = d.Below(2)
	}
	return l
}

type maker struct {
	dice  Dice
	shape Shape
	funcs []api.Func
	vars  int
}

// fill makes a function's blocks: first their ways, then code that uses only what is defined on each way there.
func (m *maker) fill(f int) {
	fn := &m.funcs[f]
	succ := m.ways(1 + m.dice.Below(m.shape.Blocks))
	n := len(succ)
	fn.Blocks = make([]api.Block, n)
	for b := range n {
		fn.Blocks[b].Label = "b" + strconv.Itoa(b)
	}
	m.vars = 0
	own := make([][]string, n)
	for b := range n { // a block's dominators have lesser numbers
		known := append([]string{}, fn.Params...)
		for a := range b {
			if dominates(succ, a, b) {
				known = append(known, own[a]...)
			}
		}
		own[b] = m.block(fn, b, succ, known)
	}
	for b := range n {
		m.args(fn, succ, own, b)
	}
}

// ways makes a graph each node of which is come to from one with a lesser number, and whose node 0 none leads to.
func (m *maker) ways(n int) [][]int {
	succ := make([][]int, n)
	for b := 1; b < n; b++ {
		from := m.dice.Below(b)
		for len(succ[from]) == 2 {
			from = (from + 1) % b
		}
		succ[from] = append(succ[from], b)
	}
	for b := range n {
		for n > 1 && len(succ[b]) < 2 && m.dice.Below(3) > 0 {
			succ[b] = append(succ[b], 1+m.dice.Below(n-1))
		}
	}
	return succ
}

// dominates tells whether b can't be come to without a.
func dominates(succ [][]int, a, b int) bool {
	seen := make([]bool, len(succ))
	seen[a] = true
	next := []int{0}
	for len(next) > 0 {
		x := next[len(next)-1]
		next = next[:len(next)-1]
		if seen[x] {
			continue
		}
		seen[x] = true
		next = append(next, succ[x]...)
	}
	return a == b || !seen[b]
}

func preds(succ [][]int, b int) []int {
	var l []int
	for a, row := range succ {
		for _, x := range row {
			if x == b && (len(l) == 0 || l[len(l)-1] != a) {
				l = append(l, a)
			}
		}
	}
	return l
}

func (m *maker) fresh() string {
	m.vars++
	return "v" + strconv.Itoa(m.vars)
}

// block makes a block's code, and tells the variables that it defines.
func (m *maker) block(fn *api.Func, b int, succ [][]int, known []string) []string {
	var code []api.Instr
	var own []string
	define := func() string {
		own = append(own, m.fresh())
		return own[len(own)-1]
	}
	if b > 0 && m.dice.Below(2) == 0 {
		for range 1 + m.dice.Below(2) {
			x := api.Instr{Op: api.Phi, Dst: define()}
			for _, a := range preds(succ, b) {
				x.Labels = append(x.Labels, fn.Blocks[a].Label)
			}
			code = append(code, x)
		}
	}
	if b == 0 {
		code = append(code, m.first(fn.Name, define)...)
	}
	for range m.dice.Below(m.shape.Code + 1) {
		operand := func() string { return m.operand(append(append([]string{}, known...), own...)) }
		code = append(code, m.instr(operand, define))
	}
	end := api.Instr{Op: api.Ret}
	switch len(succ[b]) {
	case 0:
		if m.dice.Below(3) > 0 {
			end.A = m.operand(append(append([]string{}, known...), own...))
		}
	case 1:
		end = api.Instr{Op: api.Goto}
	default:
		end = api.Instr{Op: api.Br}
	}
	for _, x := range succ[b] {
		end.Labels = append(end.Labels, fn.Blocks[x].Label)
	}
	fn.Blocks[b].Code = append(code, end)
	return own
}

// first is what an entry begins with, so that there is something to point to: more of it in main, which all runs go through.
func (m *maker) first(name string, define func() string) []api.Instr {
	n := m.dice.Below(2)
	if name == "main" {
		n = 1 + m.dice.Below(3)
	}
	var code []api.Instr
	for range n {
		code = append(code, api.Instr{Op: api.Alloca, Dst: define(), N: 1 + m.dice.Below(m.shape.Fields)})
	}
	if m.dice.Below(2) == 0 {
		code = append(code, api.Instr{Op: api.Addr, Dst: define(), Fn: m.funcs[m.dice.Below(len(m.funcs))].Name})
	}
	return code
}

// operand is one of the variables that are known, late ones rather than early ones, or null.
func (m *maker) operand(known []string) string {
	if len(known) == 0 || m.dice.Below(16) == 0 {
		return api.Nought
	}
	if m.dice.Below(2) == 0 {
		known = known[len(known)*2/3:]
	}
	return known[m.dice.Below(len(known))]
}

func (m *maker) instr(operand, define func() string) api.Instr {
	k := m.dice.Below(100)
	switch {
	case k < 10:
		return api.Instr{Op: api.Alloca, Dst: define(), N: 1 + m.dice.Below(m.shape.Fields)}
	case k < 20:
		return api.Instr{Op: api.Malloc, Dst: define(), N: 1 + m.dice.Below(m.shape.Fields)}
	case k < 22:
		return api.Instr{Op: api.Null, Dst: define()}
	case k < 29:
		return api.Instr{Op: api.Addr, Fn: m.funcs[m.dice.Below(len(m.funcs))].Name, Dst: define()}
	case k < 34:
		return api.Instr{Op: api.Copy, A: operand(), Dst: define()}
	case k < 42:
		return api.Instr{Op: api.Field, A: operand(), N: m.dice.Below(m.shape.Fields), Dst: define()}
	case k < 60:
		return api.Instr{Op: api.Load, A: operand(), Dst: define()}
	case k < 80:
		return api.Instr{Op: api.Store, A: operand(), B: operand()}
	}
	return m.call(k < 90, operand, define)
}

func (m *maker) call(direct bool, operand, define func() string) api.Instr {
	fn := m.funcs[m.dice.Below(len(m.funcs))]
	x := api.Instr{Op: api.Call, Fn: fn.Name}
	if !direct {
		x = api.Instr{Op: api.ICall, A: operand()}
	}
	for range fn.Params {
		x.Args = append(x.Args, operand())
	}
	if m.dice.Below(3) > 0 {
		x.Dst = define()
	}
	return x
}

// args puts the arguments of a block's phis: what is known at the end of each block ahead.
func (m *maker) args(fn *api.Func, succ [][]int, own [][]string, b int) {
	for i := range fn.Blocks[b].Code {
		x := &fn.Blocks[b].Code[i]
		if x.Op != api.Phi {
			return
		}
		for _, a := range preds(succ, b) {
			known := append([]string{}, fn.Params...)
			for d := range own {
				if dominates(succ, d, a) {
					known = append(known, own[d]...)
				}
			}
			x.Args = append(x.Args, m.operand(known))
		}
	}
}
