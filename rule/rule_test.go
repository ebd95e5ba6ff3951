package rule_test

import (
	"reflect"
	"slices"
	"testing"

	"gnomon/api"
	"gnomon/read"
	"gnomon/rule"
	"gnomon/sample"
	"gnomon/sites"
)

func mapOf(t *testing.T, text string) *sites.Map {
	t.Helper()
	p, s, e := read.Parse(text)
	if e != api.OK {
		t.Fatal(s, e)
	}
	m, e := sites.New(p)
	if e != api.OK {
		t.Fatal(e)
	}
	return m
}

func at(f, b, i int) api.Point { return api.Point{Func: f, Block: b, At: i} }

func sameDials(a, b []api.Dial) bool {
	return slices.EqualFunc(a, b, func(x, y api.Dial) bool { return x.At == y.At && x.Dst == y.Dst && slices.Equal(x.Args, y.Args) })
}

func TestExample(t *testing.T) {
	rels, dials := rule.Of(mapOf(t, "func f(a) {\ne:\nret a\n}\nfunc main() {\ne:\np = alloca 2\nq = field p 1\nstore q, p\nx = call f(p)\ny = icall x(q)\nret\n}"))
	// a 0, p 1, q 2, x 3, y 4
	want := []api.Rel{
		{Kind: api.CBase, A: 1, B: 0},
		{Kind: api.CField, A: 2, B: 1, K: 1},
		{Kind: api.CStore, A: 1, B: 2},
		{Kind: api.CCopy, A: 0, B: 1}, {Kind: api.CCopy, A: 3, B: 0},
		{Kind: api.CCall, A: 3, K: 0},
	}
	if !slices.Equal(rels, want) || !sameDials(dials, []api.Dial{{At: at(1, 0, 4), Args: []int{2}, Dst: 4}}) {
		t.Errorf("%v, %v", rels, dials)
	}
}

func TestAll(t *testing.T) {
	rels, dials := rule.Of(mapOf(t, `
func f(a, b) {
e:
br l m
l:
ret a
m:
br n o
n:
ret null
o:
ret b
}
func g() {
e:
ret
}
func main() {
e:
n = null
p = malloc 3
q = alloca 1
f = addr g
c = copy p
d = copy null
k = field p 0
j = field null 1
l = load p
i = load null
store null, p
store p, null
r = call f(p, null)
call f(null, q)
s = call g()
icall null(p, null)
u = icall f(p, null, q)
icall u()
goto x
x:
y = phi [e: p]
z = phi [e: null]
br x2 x3
x2:
goto x3
x3:
w = phi [x2: q, x: p]
v = phi [x: null, x2: q]
ret y
}`))
	// a 0, b 1, n 2, p 3, q 4, f 5, c 6, d 7, k 8, j 9, l 10, i 11, r 12, s 13, u 14, y 15, z 16, w 17, v 18; fields 0 to 3, functions 4 to 6
	want := []api.Rel{
		{Kind: api.CBase, A: 3, B: 0}, {Kind: api.CBase, A: 4, B: 3}, {Kind: api.CBase, A: 5, B: 5},
		{Kind: api.CCopy, A: 6, B: 3}, {Kind: api.CField, A: 8, B: 3}, {Kind: api.CLoad, A: 10, B: 3},
		{Kind: api.CCopy, A: 0, B: 3}, {Kind: api.CCopy, A: 12, B: 0}, {Kind: api.CCopy, A: 12, B: 1},
		{Kind: api.CCopy, A: 1, B: 4},
		{Kind: api.CCall, A: 5, K: 1}, {Kind: api.CCall, A: 14, K: 2},
		{Kind: api.CCopy, A: 15, B: 3}, {Kind: api.CCopy, A: 17, B: 4}, {Kind: api.CCopy, A: 17, B: 3}, {Kind: api.CCopy, A: 18, B: 4},
	}
	if !slices.Equal(rels, want) {
		t.Errorf("%v, want %v", rels, want)
	}
	if !sameDials(dials, []api.Dial{{At: at(2, 0, 15), Args: []int{3, -1}, Dst: -1}, {At: at(2, 0, 16), Args: []int{3, -1, 4}, Dst: 14}, {At: at(2, 0, 17), Dst: -1}}) {
		t.Errorf("%v", dials)
	}
}

func TestNil(t *testing.T) {
	if rels, dials := rule.Of(nil); len(rels)+len(dials) != 0 {
		t.Error("a nil map says something")
	}
}

// Each number is one that there is; each site and each Addr has just one CBase.
func TestSamples(t *testing.T) {
	for seed := range 300 {
		m, e := sites.New(sample.Program(seed, sample.Small()))
		if e != api.OK {
			t.Fatal(e)
		}
		rels, dials := rule.Of(m)
		again, dialsAgain := rule.Of(m)
		if !reflect.DeepEqual(rels, again) || !reflect.DeepEqual(dials, dialsAgain) {
			t.Fatal("asked twice")
		}
		isVar := func(l ...int) {
			for _, v := range l {
				if v < 0 || v >= m.Vars() {
					t.Fatalf("program %d: %d is no variable", seed, v)
				}
			}
		}
		base := map[api.Rel]int{}
		for _, r := range rels {
			isVar(r.A)
			switch r.Kind {
			case api.CBase:
				base[r]++
			case api.CCopy, api.CLoad, api.CStore, api.CField:
				isVar(r.B)
			case api.CCall:
				if r.B != 0 || r.K < 0 || r.K >= len(dials) {
					t.Fatal("CCall")
				}
			default:
				t.Fatal("a kind that is none")
			}
			if r.Kind != api.CField && r.Kind != api.CCall && r.K != 0 {
				t.Fatal("K of what has none")
			}
		}
		bases, calls := 0, 0
		for _, p := range m.Points() {
			x, _ := m.Instr(p)
			v, _ := m.Var(p.Func, x.Dst)
			switch x.Op {
			case api.Alloca, api.Malloc:
				first, _, _ := m.Site(p)
				if base[api.Rel{Kind: api.CBase, A: v, B: first}] != 1 {
					t.Fatal("a site without CBase")
				}
				bases++
			case api.Addr:
				f, _ := m.Func(x.Fn)
				if base[api.Rel{Kind: api.CBase, A: v, B: m.FuncObj(f)}] != 1 {
					t.Fatal("an Addr without CBase")
				}
				bases++
			case api.ICall:
				if d := dials[calls]; d.At != p || len(d.Args) != len(x.Args) || (d.Dst >= 0) != (x.Dst != "") {
					t.Fatal("an indirect call")
				}
				calls++
			}
		}
		if len(base) != bases || len(dials) != calls {
			t.Fatal("more than there are")
		}
	}
}
