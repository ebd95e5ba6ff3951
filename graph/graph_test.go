package graph_test

import (
	"math"
	"math/rand"
	"reflect"
	"slices"
	"testing"

	"gnomon/graph"
)

func same(a, b [][]int) bool {
	return slices.EqualFunc(a, b, func(x, y []int) bool { return slices.Equal(x, y) })
}

func example() [][]int { return [][]int{{1, 2}, {3}, {3}, {1}} }

func TestExamples(t *testing.T) {
	if g := graph.Norm([]int{2, 1, 1, 7}, []int{-1, 0}, nil); !same(g, [][]int{{1, 2}, {0}, nil}) {
		t.Errorf("Norm: %v", g)
	}
	g := example()
	if b := graph.Back(g); !same(b, [][]int{nil, {0, 3}, {0}, {1, 2}}) {
		t.Errorf("Back: %v", b)
	}
	for _, x := range []struct {
		from int
		want []int
	}{{0, []int{0, 2, 1, 3}}, {3, []int{3, 1}}, {9, nil}, {4, nil}, {-1, nil}, {math.MinInt, nil}, {1, []int{1, 3}}, {2, []int{2, 3, 1}}} {
		if l := graph.Post(g, x.from); !slices.Equal(l, x.want) {
			t.Errorf("Post(%d): %v", x.from, l)
		}
	}
	if r := graph.Reach(g, 3); !slices.Equal(r, []bool{false, true, false, true}) {
		t.Errorf("Reach: %v", r)
	}
	if r := graph.Reach(g); !slices.Equal(r, make([]bool, 4)) {
		t.Errorf("Reach of nothing: %v", r)
	}
	if r := graph.Reach(g, -1, 4, 2, 2); !slices.Equal(r, []bool{false, true, true, true}) {
		t.Errorf("Reach of what is no node: %v", r)
	}
	if graph.Leads(g, 3, 0) || !graph.Leads(g, 2, 2) || !graph.Leads(g, 0, 3) || graph.Leads(g, 4, 4) || graph.Leads(g, -1, 0) || graph.Leads(g, 0, 4) || graph.Leads(g, 0, -1) {
		t.Error("Leads")
	}
}

func TestNothing(t *testing.T) {
	if len(graph.Norm()) != 0 || len(graph.Back(nil)) != 0 || len(graph.Reach(nil, 0)) != 0 || len(graph.Post(nil, 0)) != 0 || graph.Leads(nil, 0, 0) {
		t.Error("a graph without nodes")
	}
}

// A row's edges are taken rising, whatever their order.
func TestPostTakesRising(t *testing.T) {
	if l := graph.Post([][]int{{2, 1, 2, 9, -3}, {}, {1}}, 0); !slices.Equal(l, []int{0, 2, 1}) {
		t.Errorf("Post: %v", l)
	}
	if l := graph.Post([][]int{{3, 1}, {2}, {}, {2}}, 0); !slices.Equal(l, []int{0, 3, 1, 2}) {
		t.Errorf("Post: %v", l)
	}
}

func TestLongWay(t *testing.T) {
	n := 300000
	g := make([][]int, n)
	for i := range n - 1 {
		g[i] = []int{i + 1}
	}
	if l := graph.Post(g, 0); len(l) != n || l[n-1] != n-1 {
		t.Error("Post")
	}
	if !graph.Leads(g, 0, n-1) {
		t.Error("Leads")
	}
}

// slowPost is the walk of the document's words, by calls that nest.
func slowPost(g [][]int, from int, seen []bool) []int {
	seen[from] = true
	var left []int
	for x := range g {
		if slices.Contains(g[from], x) && !seen[x] {
			left = append(slowPost(g, x, seen), left...)
		}
	}
	return append([]int{from}, left...)
}

func TestAgainstSlow(t *testing.T) {
	r := rand.New(rand.NewSource(7))
	for range 2000 {
		n := r.Intn(8)
		rows := make([][]int, n)
		for i := range rows {
			for range r.Intn(5) {
				rows[i] = append(rows[i], r.Intn(n+4)-2)
			}
		}
		was := make([][]int, n)
		for i := range rows {
			was[i] = slices.Clone(rows[i])
		}
		lead := make([][]bool, n)
		edge := func(i, j int) bool { return slices.Contains(rows[i], j) }
		for i := range lead {
			lead[i] = make([]bool, n)
			lead[i][i] = true
			for range n {
				for a := range n {
					for b := range n {
						lead[i][b] = lead[i][b] || lead[i][a] && edge(a, b)
					}
				}
			}
		}
		form, back := graph.Norm(rows...), graph.Back(rows)
		for i := range n {
			var out, in []int
			for j := range n {
				if edge(i, j) {
					out = append(out, j)
				}
				if edge(j, i) {
					in = append(in, j)
				}
				if graph.Leads(rows, i, j) != lead[i][j] || graph.Leads(back, j, i) != lead[i][j] {
					t.Fatalf("%v: Leads(%d, %d)", rows, i, j)
				}
			}
			if !slices.Equal(form[i], out) || !slices.Equal(back[i], in) {
				t.Fatalf("%v: Norm %v, Back %v", rows, form, back)
			}
			if got := graph.Reach(rows, i); !slices.Equal(got, lead[i]) {
				t.Fatalf("%v: Reach(%d) = %v", rows, i, got)
			}
			if got := graph.Post(rows, i); !slices.Equal(got, slowPost(rows, i, make([]bool, n))) {
				t.Fatalf("%v: Post(%d) = %v", rows, i, got)
			}
		}
		if !same(graph.Back(back), form) {
			t.Fatalf("%v: Back of Back", rows)
		}
		if n > 1 {
			both := graph.Reach(rows, 0, n-1)
			for j := range both {
				if both[j] != (lead[0][j] || lead[n-1][j]) {
					t.Fatalf("%v: Reach of two", rows)
				}
			}
		}
		if !reflect.DeepEqual(rows, was) {
			t.Fatal("the rows were changed")
		}
	}
}

// What is handed out shares nothing with what was handed in, nor row with row.
func TestApart(t *testing.T) {
	g := example()
	for _, h := range [][][]int{graph.Norm(g...), graph.Back(g)} {
		for i := range h {
			for k := range h[i] {
				h[i][k] = 9
			}
			h[i] = append(h[i], 9, 9)[:len(h[i])]
		}
	}
	if !same(g, example()) {
		t.Error("the graph was changed")
	}
	h := graph.Norm(g...)
	_ = append(h[0], 7)
	if !same(h, example()) {
		t.Error("rows share room")
	}
}
