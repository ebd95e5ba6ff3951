package dom_test

import (
	"math"
	"math/rand"
	"reflect"
	"slices"
	"testing"

	"gnomon/dom"
	"gnomon/graph"
)

func same(a, b [][]int) bool {
	return slices.EqualFunc(a, b, func(x, y []int) bool { return slices.Equal(x, y) })
}

func TestExample(t *testing.T) {
	g := [][]int{{1, 2}, {3}, {3}, {1}}
	tree := dom.Tree(g, 0)
	if !slices.Equal(tree, []int{-1, 0, 0, 0}) {
		t.Errorf("Tree: %v", tree)
	}
	if l := dom.Tree(g, 3); !slices.Equal(l, []int{-2, 3, -2, -1}) {
		t.Errorf("Tree from 3: %v", l)
	}
	for _, root := range []int{9, 4, -1, math.MinInt} {
		if l := dom.Tree(g, root); !slices.Equal(l, []int{-2, -2, -2, -2}) {
			t.Errorf("Tree from %d: %v", root, l)
		}
		if f := dom.Frontier(g, root); !same(f, make([][]int, 4)) {
			t.Errorf("Frontier from %d: %v", root, f)
		}
	}
	if !dom.Dom(tree, 0, 3) || dom.Dom(tree, 1, 3) || !dom.Dom(tree, 3, 3) {
		t.Error("Dom")
	}
	front := dom.Frontier(g, 0)
	if !same(front, [][]int{nil, {3}, {3}, {1}}) {
		t.Errorf("Frontier: %v", front)
	}
	if l := dom.Iterate(front, 2); !slices.Equal(l, []int{1, 3}) {
		t.Errorf("Iterate(2): %v", l)
	}
	if l := dom.Iterate(front, 0); len(l) != 0 {
		t.Errorf("Iterate(0): %v", l)
	}
}

func TestNothing(t *testing.T) {
	if len(dom.Tree(nil, 0))+len(dom.Frontier(nil, 0))+len(dom.Iterate(nil, 0, 1))+len(dom.Iterate([][]int{{0}})) != 0 || dom.Dom(nil, 0, 0) {
		t.Error("a graph without nodes")
	}
}

// A way back to the root puts it into the frontiers of those on the way, the root's own too.
func TestRootInFrontier(t *testing.T) {
	if f := dom.Frontier([][]int{{1}, {2}, {0}}, 0); !same(f, [][]int{{0}, {0}, {0}}) {
		t.Errorf("Frontier: %v", f)
	}
	if f := dom.Frontier([][]int{{0, 1}, nil}, 0); !same(f, [][]int{{0}, nil}) {
		t.Errorf("Frontier: %v", f)
	}
}

// Lists that Tree does not tell are gone through by their numbers.
func TestDomOfAnyList(t *testing.T) {
	for _, x := range []struct {
		tree []int
		a, b int
		want bool
	}{
		{[]int{1, 0}, 0, 1, true},
		{[]int{1, 0}, 1, 1, true},
		{[]int{1, 2, 1, 0}, 3, 0, false},
		{[]int{1, 2, 1, 0}, 2, 3, true},
		{[]int{7, 0}, 0, 1, true},
		{[]int{7, 0, 0}, 2, 1, false},
		{[]int{-9, 0}, 0, 1, true},
		{[]int{-9, 0}, 0, 0, true},
		{[]int{-9, 0}, 1, 0, false},
		{[]int{0}, 0, 0, true},
		{[]int{-1}, -1, 0, false},
		{[]int{-1}, 0, -1, false},
		{[]int{-1}, 1, 0, false},
		{[]int{-1}, 0, 1, false},
		{[]int{-1, -2}, 1, 1, false},
		{[]int{-1, -2}, 0, 1, false},
		{[]int{math.MaxInt, math.MinInt}, 1, 0, false},
	} {
		if got := dom.Dom(x.tree, x.a, x.b); got != x.want {
			t.Errorf("Dom(%v, %d, %d) = %v", x.tree, x.a, x.b, got)
		}
	}
}

func TestIterateAnyNumbers(t *testing.T) {
	front := [][]int{{9, -1, 1}, {math.MaxInt, 2, 2}, {2, 0}}
	if l := dom.Iterate(front, 7, -1, 0, 0); !slices.Equal(l, []int{0, 1, 2}) {
		t.Errorf("Iterate: %v", l)
	}
	if l := dom.Iterate(front, 3, -7, math.MinInt); len(l) != 0 {
		t.Errorf("Iterate of no nodes: %v", l)
	}
}

// without is the graph whose node a no edge leads to or from.
func without(g [][]int, a int) [][]int {
	out := make([][]int, len(g))
	for i, row := range g {
		for _, x := range row {
			if i != a && x != a {
				out[i] = append(out[i], x)
			}
		}
	}
	return out
}

func TestAgainstWays(t *testing.T) {
	r := rand.New(rand.NewSource(9))
	for range 3000 {
		n := 1 + r.Intn(8)
		g := make([][]int, n)
		for i := range g {
			for range r.Intn(4) {
				g[i] = append(g[i], r.Intn(n+2)-1)
			}
		}
		was := make([][]int, n)
		for i := range g {
			was[i] = slices.Clone(g[i])
		}
		root := r.Intn(n)
		dominates := func(a, b int) bool {
			return graph.Leads(g, root, b) && (a == b || a == root || !graph.Leads(without(g, a), root, b))
		}
		tree := dom.Tree(g, root)
		for b := range n {
			want := -2
			if b == root {
				want = -1
			} else if graph.Leads(g, root, b) {
				for a := range n {
					last := a != b && dominates(a, b)
					for c := range n {
						if c != b && dominates(c, b) && !dominates(c, a) {
							last = false
						}
					}
					if last {
						want = a
					}
				}
			}
			if tree[b] != want {
				t.Fatalf("%v from %d: Tree %v: of %d it is %d", g, root, tree, b, want)
			}
			for a := range n {
				if dom.Dom(tree, a, b) != dominates(a, b) {
					t.Fatalf("%v from %d: Dom(%d, %d)", g, root, a, b)
				}
			}
		}
		front := make([][]int, n)
		for a := range n {
			for y := range n {
				is := false
				for x := range n {
					if slices.Contains(g[x], y) && dominates(a, x) && (!dominates(a, y) || a == y) {
						is = true
					}
				}
				if is {
					front[a] = append(front[a], y)
				}
			}
		}
		if got := dom.Frontier(g, root); !same(got, front) {
			t.Fatalf("%v from %d: Frontier %v, want %v", g, root, got, front)
		}
		l := []int{r.Intn(n), r.Intn(n)}[:r.Intn(3)]
		if got := dom.Iterate(front, l...); !slices.Equal(got, iterate(front, l)) {
			t.Fatalf("%v: Iterate of %v: %v", front, l, got)
		}
		if !reflect.DeepEqual(g, was) {
			t.Fatal("the graph was changed")
		}
	}
}

func iterate(front [][]int, l []int) []int {
	in := make([]bool, len(front))
	for range len(front) + 1 {
		for i := range front {
			if in[i] || slices.Contains(l, i) {
				for _, y := range front[i] {
					in[y] = true
				}
			}
		}
	}
	var out []int
	for i := range in {
		if in[i] {
			out = append(out, i)
		}
	}
	return out
}

func TestGreat(t *testing.T) {
	n := 100000
	g := make([][]int, n)
	for i := range n - 1 {
		g[i] = []int{i + 1, 0}
	}
	tree := dom.Tree(g, 0)
	if tree[n-1] != n-2 || !dom.Dom(tree, 0, n-1) {
		t.Error("a long way")
	}
	if f := dom.Frontier([][]int{{1, 2}, {2}, {1}}, 0); len(f) != 3 {
		t.Error("Frontier")
	}
}

// Values that are put at some nodes and where Iterate says, and at the root, never come to any other node for the first time from two of them.
func TestMeets(t *testing.T) {
	r := rand.New(rand.NewSource(10))
	for range 500 {
		n := 2 + r.Intn(7)
		g := make([][]int, n)
		for i := range g {
			for range r.Intn(3) {
				g[i] = append(g[i], r.Intn(n))
			}
		}
		at := make([]bool, n)
		at[0] = true
		l := []int{0, r.Intn(n)}
		for _, i := range append(l, dom.Iterate(dom.Frontier(g, 0), l...)...) {
			at[i] = true
		}
		for y := range n {
			from := map[int]bool{}
			for a := range n {
				if at[a] && graph.Leads(g, 0, a) && comesTo(g, at, a, y) {
					from[a] = true
				}
			}
			if len(from) > 1 && !at[y] {
				t.Fatalf("%v with %v: to %d they come from %v", g, at, y, from)
			}
		}
	}
}

// comesTo tells whether a way of one edge or more leads from a to y past no node where a value is put.
func comesTo(g [][]int, at []bool, a, y int) bool {
	seen := make([]bool, len(g))
	next := slices.Clone(g[a])
	for len(next) > 0 {
		x := next[0]
		next = next[1:]
		if x == y {
			return true
		}
		if !at[x] && !seen[x] {
			seen[x] = true
			next = append(next, g[x]...)
		}
	}
	return false
}
