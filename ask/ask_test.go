package ask_test

import (
	"math"
	"slices"
	"strconv"
	"strings"
	"testing"

	"gnomon/anytime"
	"gnomon/api"
	"gnomon/ask"
	"gnomon/sample"
	"gnomon/show"
)

const enough = 1 << 30

const example = "func main() {\ne:\np = alloca 2\nq = field p 1\nr = addr main\nx = icall r()\nret\n}"

func TestExample(t *testing.T) {
	o := anytime.Run(example, nil, enough)
	for k, want := range []string{"main:p+0", "main:p+1", "@main"} {
		if s, e := ask.Name(o, k); s != want || e != api.OK {
			t.Errorf("Name(%d) = %q, %v", k, s, e)
		}
		if n, e := ask.Find(o, want); n != k || e != api.OK {
			t.Errorf("Find(%s) = %d, %v", want, n, e)
		}
	}
	for _, k := range []int{3, -1, math.MaxInt, math.MinInt} {
		if s, e := ask.Name(o, k); s != "" || e != api.ErrNone {
			t.Errorf("Name(%d) = %q, %v", k, s, e)
		}
	}
	for _, s := range []string{"", "main:p+2", "main:p", "main:q+0", "@f", "main", "main:p+00", "main:p+-0", "f:p+0", "@main "} {
		if n, e := ask.Find(o, s); n != 0 || e != api.ErrNone {
			t.Errorf("Find(%q) = %d, %v", s, n, e)
		}
	}
	for _, x := range []struct {
		fn, v string
		want  []string
		e     api.Errno
	}{
		{"main", "q", []string{"main:p+1"}, api.OK}, {"main", "r", []string{"@main"}, api.OK}, {"main", "null", nil, api.OK}, {"main", "x", nil, api.OK},
		{"main", "z", nil, api.ErrNone}, {"main", "", nil, api.ErrNone}, {"f", "q", nil, api.ErrNone}, {"f", "null", nil, api.ErrNone}, {"", "p", nil, api.ErrNone},
	} {
		if l, e := ask.PointsTo(o, x.fn, x.v); !slices.Equal(l, x.want) || e != x.e {
			t.Errorf("PointsTo(%s, %s) = %v, %v", x.fn, x.v, l, e)
		}
	}
	for _, x := range []struct {
		fn, v, gn, w string
		want         bool
		e            api.Errno
	}{
		{"main", "p", "main", "q", false, api.OK}, {"main", "p", "main", "p", true, api.OK}, {"main", "r", "main", "r", false, api.OK},
		{"main", "null", "main", "p", false, api.OK}, {"main", "p", "main", "null", false, api.OK}, {"main", "null", "main", "null", false, api.OK},
		{"f", "p", "main", "p", false, api.ErrNone}, {"main", "p", "f", "p", false, api.ErrNone}, {"main", "z", "main", "p", false, api.ErrNone}, {"main", "p", "main", "z", false, api.ErrNone},
	} {
		if is, e := ask.Alias(o, x.fn, x.v, x.gn, x.w); is != x.want || e != x.e {
			t.Errorf("Alias(%s, %s, %s, %s) = %v, %v", x.fn, x.v, x.gn, x.w, is, e)
		}
	}
	if l, e := ask.Callees(o, "main", "e", 3); !slices.Equal(l, []string{"main"}) || e != api.OK {
		t.Errorf("Callees = %v, %v", l, e)
	}
	for _, x := range []struct {
		fn, label string
		at        int
	}{{"main", "e", 0}, {"main", "e", 9}, {"main", "e", -1}, {"main", "l", 3}, {"f", "e", 3}, {"main", "", 3}, {"main", "e", math.MaxInt}, {"main", "e", math.MinInt}} {
		if l, e := ask.Callees(o, x.fn, x.label, x.at); len(l) != 0 || e != api.ErrNone {
			t.Errorf("Callees(%s, %s, %d) = %v, %v", x.fn, x.label, x.at, l, e)
		}
	}
	if s, e := ask.All(o); s != "complete\nmain:p = main:p+0\nmain:q = main:p+1\nmain:r = @main\nmain:x =\nmain:e+3 -> main\n" || e != api.OK {
		t.Errorf("All: %q, %v", s, e)
	}
}

func TestTable(t *testing.T) {
	text := "func f(a) {\ne:\nret a\n}\nfunc main() {\ne:\np = alloca 1\ngoto l\nl:\na = alloca 1\nstore a, p\nx = load p\nx2 = call f(x)\nicall null()\nret\n}"
	o := anytime.Run(text, nil, 0)
	want := "cut\nf:a = main:a+0\nmain:p = main:p+0\nmain:a = main:a+0\nmain:x = main:a+0\nmain:x2 = main:a+0\nmain:l+3 -> f\nmain:l+4 ->\n"
	if s, e := ask.All(o); s != want || e != api.OK {
		t.Errorf("All: %q, %v", s, e)
	}
	if l, e := ask.Callees(o, "main", "l", 4); len(l) != 0 || e != api.OK {
		t.Errorf("a call of nothing: %v, %v", l, e)
	}
}

func TestNilAndRejected(t *testing.T) {
	for _, x := range []struct {
		o *anytime.Outcome
		e api.Errno
	}{{nil, api.ErrNil}, {anytime.Run("", nil, 9), api.ErrShape}, {anytime.Run("func", nil, 9), api.ErrShape}, {&anytime.Outcome{}, api.ErrShape}} {
		if s, e := ask.Name(x.o, 0); s != "" || e != x.e {
			t.Error("Name", e)
		}
		if n, e := ask.Find(x.o, "@main"); n != 0 || e != x.e {
			t.Error("Find", e)
		}
		if l, e := ask.PointsTo(x.o, "main", "z"); len(l) != 0 || e != x.e {
			t.Error("PointsTo", e)
		}
		if is, e := ask.Alias(x.o, "main", "z", "main", "z"); is || e != x.e {
			t.Error("Alias", e)
		}
		if l, e := ask.Callees(x.o, "main", "e", 9); len(l) != 0 || e != x.e {
			t.Error("Callees", e)
		}
		if s, e := ask.All(x.o); s != "" || e != x.e {
			t.Error("All", e)
		}
	}
}

func TestSamples(t *testing.T) {
	for seed := range 200 {
		p := sample.Program(seed, sample.Small())
		text, _ := show.Print(p)
		o := anytime.Run(text, nil, []int{enough, 0}[seed%2])
		m := o.Map()
		seen := map[string]bool{}
		var names []string
		for k := range m.Objs() {
			s, e := ask.Name(o, k)
			if n, e := ask.Find(o, s); n != k || e != api.OK {
				t.Fatal("Find of Name")
			}
			at, field, f, _ := m.Obj(k)
			want := ""
			if f >= 0 {
				want = "@" + p.Funcs[f].Name
			} else {
				x, _ := m.Instr(at)
				want = p.Funcs[at.Func].Name + ":" + x.Dst + "+" + strconv.Itoa(field)
			}
			if s != want || e != api.OK || seen[s] {
				t.Fatalf("Name(%d) = %s, want %s", k, s, want)
			}
			seen[s] = true
			names = append(names, s)
		}
		table := "complete\n"
		if seed%2 == 1 {
			table = "cut\n"
		}
		for v := range m.Vars() {
			f, name, _ := m.VarOf(v)
			l, e := ask.PointsTo(o, p.Funcs[f].Name, name)
			var want []string
			for _, k := range o.Points(v) {
				want = append(want, names[k])
			}
			if !slices.Equal(l, want) || e != api.OK {
				t.Fatal("PointsTo")
			}
			table += strings.Join(append([]string{p.Funcs[f].Name + ":" + name, "="}, l...), " ") + "\n"
			for w := range m.Vars() {
				g, other, _ := m.VarOf(w)
				if is, e := ask.Alias(o, p.Funcs[f].Name, name, p.Funcs[g].Name, other); is != o.Alias(v, w) || e != api.OK {
					t.Fatal("Alias")
				}
			}
		}
		for _, at := range m.Points() {
			x, _ := m.Instr(at)
			fn := p.Funcs[at.Func]
			l, e := ask.Callees(o, fn.Name, fn.Blocks[at.Block].Label, at.At)
			if x.Op != api.Call && x.Op != api.ICall {
				if e != api.ErrNone || len(l) != 0 {
					t.Fatal("Callees of no call")
				}
				continue
			}
			var want []string
			for _, f := range o.Callees(at) {
				want = append(want, p.Funcs[f].Name)
			}
			if !slices.Equal(l, want) || e != api.OK {
				t.Fatal("Callees")
			}
			table += strings.Join(append([]string{fn.Name + ":" + fn.Blocks[at.Block].Label + "+" + strconv.Itoa(at.At), "->"}, l...), " ") + "\n"
		}
		if s, e := ask.All(o); s != table || e != api.OK {
			t.Fatalf("All: %s, want %s", s, table)
		}
	}
}
