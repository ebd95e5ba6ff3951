package scc_test

import (
	"math/rand"
	"reflect"
	"slices"
	"testing"

	"gnomon/graph"
	"gnomon/scc"
)

func same(a, b [][]int) bool {
	return slices.EqualFunc(a, b, func(x, y []int) bool { return slices.Equal(x, y) })
}

func TestExample(t *testing.T) {
	g := [][]int{{1}, {2}, {1, 3}, {3}, {0}}
	if c := scc.Comps(g); !slices.Equal(c, []int{0, 1, 1, 2, 3}) {
		t.Errorf("Comps: %v", c)
	}
	if c := scc.Cyclic(g); !slices.Equal(c, []bool{false, true, true, true, false}) {
		t.Errorf("Cyclic: %v", c)
	}
	if f := scc.Fold(g); !same(f, [][]int{{1}, {2}, nil, {0}}) {
		t.Errorf("Fold: %v", f)
	}
	if o := scc.Order(g); !slices.Equal(o, []int{3, 0, 1, 2}) {
		t.Errorf("Order: %v", o)
	}
}

func TestNothing(t *testing.T) {
	if len(scc.Comps(nil))+len(scc.Cyclic(nil))+len(scc.Fold(nil))+len(scc.Order(nil)) != 0 {
		t.Error("a graph without nodes")
	}
	one := [][]int{{-1, 1, 5}}
	if !slices.Equal(scc.Comps(one), []int{0}) || scc.Cyclic(one)[0] || !same(scc.Fold(one), [][]int{nil}) || !slices.Equal(scc.Order(one), []int{0}) {
		t.Error("a node alone")
	}
	if two := [][]int{{2}, {2, 0}}; !slices.Equal(scc.Comps(two), []int{0, 1}) || scc.Cyclic(two)[0] {
		t.Error("edges to what is no node")
	}
}

func TestGreat(t *testing.T) {
	n := 200000
	g := make([][]int, n)
	for i := range n {
		g[i] = []int{(i + 1) % n}
	}
	if c := scc.Comps(g); slices.Max(c) != 0 {
		t.Error("a circle")
	}
	g[n-1] = nil
	if o := scc.Order(g); len(o) != n || !slices.IsSorted(o) {
		t.Error("a straight way")
	}
}

// order goes by the document's words: always the least of those that nothing leads to any more.
func order(fold [][]int) []int {
	var out []int
	for len(out) < len(fold) {
		for c := range fold {
			free := !slices.Contains(out, c)
			for a, row := range fold {
				if slices.Contains(row, c) && !slices.Contains(out, a) {
					free = false
				}
			}
			if free {
				out = append(out, c)
				break
			}
		}
	}
	return out
}

func TestAgainstWays(t *testing.T) {
	r := rand.New(rand.NewSource(8))
	for range 3000 {
		n := 1 + r.Intn(8)
		g := make([][]int, n)
		for i := range g {
			for range r.Intn(4) {
				g[i] = append(g[i], r.Intn(n+2)-1)
			}
		}
		was := make([][]int, n)
		for i := range g {
			was[i] = slices.Clone(g[i])
		}
		comp := make([]int, n)
		count := 0
		for i := range n {
			comp[i] = -1
			for j := range i {
				if graph.Leads(g, i, j) && graph.Leads(g, j, i) {
					comp[i] = comp[j]
					break
				}
			}
			if comp[i] < 0 {
				comp[i] = count
				count++
			}
		}
		if got := scc.Comps(g); !slices.Equal(got, comp) {
			t.Fatalf("%v: Comps %v, want %v", g, got, comp)
		}
		cyclic := make([]bool, n)
		fold := make([][]int, count)
		for i := range n {
			for _, x := range g[i] {
				if x < 0 || x >= n {
					continue
				}
				cyclic[i] = cyclic[i] || graph.Leads(g, x, i)
				if comp[i] != comp[x] {
					fold[comp[i]] = append(fold[comp[i]], comp[x])
				}
			}
		}
		if got := scc.Cyclic(g); !slices.Equal(got, cyclic) {
			t.Fatalf("%v: Cyclic %v, want %v", g, got, cyclic)
		}
		fold = graph.Norm(fold...)
		if got := scc.Fold(g); !same(got, fold) {
			t.Fatalf("%v: Fold %v, want %v", g, got, fold)
		}
		if got := scc.Order(g); !slices.Equal(got, order(fold)) {
			t.Fatalf("%v: Order %v, want %v", g, got, order(fold))
		}
		if !reflect.DeepEqual(g, was) {
			t.Fatal("the graph was changed")
		}
	}
}
