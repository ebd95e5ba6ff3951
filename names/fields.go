package names

import "gnomon/api"

// want is how a field may be.
type want uint8

const (
	none want = iota // it must be zero
	may
	must
)

// shape is which fields an operation has: an N from low to high, so many arguments and labels.
type shape struct {
	dst, a, b, fn want
	low, high     int
	args, labels  int
}

const anyCount = -1

// shapeOf tells an operation's fields; false, if there is no such operation.
func shapeOf(op api.Op) (shape, bool) {
	switch op {
	case api.Alloca, api.Malloc:
		return shape{dst: must, low: 1, high: api.MaxFields}, true
	case api.Null:
		return shape{dst: must}, true
	case api.Addr:
		return shape{dst: must, fn: must}, true
	case api.Copy, api.Load:
		return shape{dst: must, a: must}, true
	case api.Phi:
		return shape{dst: must, args: anyCount, labels: anyCount}, true
	case api.Field:
		return shape{dst: must, a: must, high: api.MaxFields - 1}, true
	case api.Store:
		return shape{a: must, b: must}, true
	case api.Call:
		return shape{dst: may, fn: must, args: anyCount}, true
	case api.ICall:
		return shape{dst: may, a: must, args: anyCount}, true
	case api.Br:
		return shape{labels: 2}, true
	case api.Goto:
		return shape{labels: 1}, true
	case api.Ret:
		return shape{a: may}, true
	}
	return shape{}, false
}

// misses tells whether a field is there that may not be, or the other way round.
func (w want) misses(s string) bool {
	return w == none && s != "" || w == must && s == ""
}

func miscounts(wanted, n int) bool { return wanted != anyCount && wanted != n }

// badFields tells whether an instruction breaks BadInstr.
func badFields(x *api.Instr) bool {
	s, is := shapeOf(x.Op)
	if !is {
		return true
	}
	if x.Op == api.Phi && (len(x.Args) == 0 || len(x.Args) != len(x.Labels)) {
		return true
	}
	return s.dst.misses(x.Dst) || s.a.misses(x.A) || s.b.misses(x.B) || s.fn.misses(x.Fn) ||
		x.N < s.low || x.N > s.high || miscounts(s.args, len(x.Args)) || miscounts(s.labels, len(x.Labels))
}

// badNames tells whether an instruction breaks BadName: by those alone of its fields that its operation has.
func badNames(x *api.Instr) bool {
	s, is := shapeOf(x.Op)
	if !is {
		return false
	}
	has := func(w want, text string) []string {
		if w == none {
			return nil
		}
		return given(text)
	}
	if !allNames(has(s.dst, x.Dst)...) || !allNames(has(s.fn, x.Fn)...) {
		return true
	}
	if !allOperands(has(s.a, x.A)...) || !allOperands(has(s.b, x.B)...) {
		return true
	}
	return s.labels != 0 && !allNames(x.Labels...) || s.args != 0 && !allOperands(x.Args...)
}
