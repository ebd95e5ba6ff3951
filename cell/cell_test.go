package cell_test

import (
	"math"
	"math/rand"
	"testing"

	"gnomon/api"
	"gnomon/cell"
)

func addr(obj, n int) api.Value { return api.Value{Kind: api.ValCell, Obj: obj, N: n} }

var null = api.Value{}

func TestExample(t *testing.T) {
	h := cell.New(3)
	if v, s := h.Make(5, 2); v != addr(0, 0) || s != api.Goes {
		t.Error("Make")
	}
	if v, s := h.Make(9, 2); v != null || s != api.Full || h.Objs() != 1 || h.Cells() != 2 {
		t.Error("Make without room")
	}
	if v, s := h.Make(9, 1); v != addr(1, 0) || s != api.Goes || h.Objs() != 2 || h.Cells() != 3 {
		t.Error("Make of the rest")
	}
	if v, s := h.Load(addr(0, 1)); v != null || s != api.Goes {
		t.Error("a cell that is new")
	}
	f := api.Value{Kind: api.ValFunc, N: 4}
	if h.Store(addr(0, 1), f) != api.Goes {
		t.Error("Store")
	}
	if v, s := h.Load(addr(0, 1)); v != f || s != api.Goes {
		t.Error("Load")
	}
	if v, s := h.Load(addr(0, 0)); v != null || s != api.Goes {
		t.Error("another cell")
	}
	if v, s := h.Step(addr(0, 0), 1); v != addr(0, 1) || s != api.Goes {
		t.Error("Step")
	}
	if v, s := h.Step(addr(0, 1), -1); v != addr(0, 0) || s != api.Goes {
		t.Error("Step back")
	}
	if n, is := h.Thing(addr(0, 1)); n != 6 || !is {
		t.Error("Thing")
	}
	if n, is := h.Thing(addr(1, 0)); n != 9 || !is {
		t.Error("Thing of the other one")
	}
}

func TestStops(t *testing.T) {
	h := cell.New(10)
	h.Make(0, 2)
	h.Make(2, 1)
	for _, x := range []struct {
		p    api.Value
		want api.Stop
	}{
		{null, api.NullUse},
		{api.Value{Kind: api.ValFunc}, api.NullUse},
		{api.Value{Kind: 9, Obj: 7}, api.NullUse},
		{addr(7, 0), api.OutField},
		{addr(2, 0), api.OutField},
		{addr(-1, 0), api.OutField},
		{addr(0, 2), api.OutField},
		{addr(1, 1), api.OutField},
		{addr(0, -1), api.OutField},
		{addr(math.MaxInt, math.MinInt), api.OutField},
	} {
		if v, s := h.Load(x.p); v != null || s != x.want {
			t.Errorf("Load(%v) = %v, %d", x.p, v, s)
		}
		if s := h.Store(x.p, addr(0, 0)); s != x.want {
			t.Errorf("Store(%v) = %d", x.p, s)
		}
		if v, s := h.Step(x.p, 0); v != null || s != x.want {
			t.Errorf("Step(%v) = %v, %d", x.p, v, s)
		}
		if v, s := h.Step(x.p, -1); v != null || s != x.want {
			t.Errorf("Step(%v) back = %v, %d", x.p, v, s)
		}
		if n, is := h.Thing(x.p); n != 0 || is {
			t.Errorf("Thing(%v) = %d", x.p, n)
		}
	}
	for _, k := range []int{2, -1, 3, math.MaxInt, math.MinInt, math.MaxInt - 1} {
		if v, s := h.Step(addr(0, 0), k); v != null || s != api.OutField {
			t.Errorf("Step by %d = %v, %d", k, v, s)
		}
	}
	for _, k := range []int{1, -2, math.MaxInt, math.MinInt} {
		if v, s := h.Step(addr(0, 1), k); v != null || s != api.OutField {
			t.Errorf("Step by %d = %v, %d", k, v, s)
		}
	}
	for _, n := range []int{0, -1, api.MaxFields + 1, math.MaxInt, math.MinInt} {
		if v, s := h.Make(0, n); v != null || s != api.Full {
			t.Errorf("Make of %d = %v, %d", n, v, s)
		}
	}
	if h.Objs() != 2 || h.Cells() != 3 {
		t.Error("something was left behind")
	}
}

func TestRoom(t *testing.T) {
	great := cell.New(api.MaxCells)
	if v, s := great.Make(0, api.MaxFields+1); v != null || s != api.Full || great.Objs() != 0 {
		t.Error("more than MaxFields")
	}
	if v, s := great.Make(0, api.MaxFields); v != addr(0, 0) || s != api.Goes {
		t.Error("MaxFields")
	}
	for _, x := range [][2]int{{0, 0}, {-1, 0}, {math.MinInt, 0}, {70, 70}, {api.MaxCells, api.MaxCells}, {api.MaxCells + 1, api.MaxCells}, {math.MaxInt, api.MaxCells}} {
		h := cell.New(x[0])
		for {
			if _, s := h.Make(0, api.MaxFields); s != api.Goes {
				break
			}
		}
		for {
			if _, s := h.Make(0, 1); s != api.Goes {
				break
			}
		}
		if h.Cells() != x[1] {
			t.Errorf("New(%d) has room for %d", x[0], h.Cells())
		}
	}
}

func TestNil(t *testing.T) {
	var h *cell.Heap
	if v, s := h.Make(0, 1); v != null || s != api.Full {
		t.Error("Make")
	}
	for p, want := range map[api.Value]api.Stop{null: api.NullUse, addr(0, 0): api.OutField} {
		if v, s := h.Load(p); v != null || s != want {
			t.Error("Load")
		}
		if h.Store(p, null) != want {
			t.Error("Store")
		}
		if v, s := h.Step(p, 0); v != null || s != want {
			t.Error("Step")
		}
		if n, is := h.Thing(p); n != 0 || is {
			t.Error("Thing")
		}
	}
	if h.Objs() != 0 || h.Cells() != 0 {
		t.Error("a nil heap has something")
	}
}

// A cell has what was stored there last, whatever else was.
func TestAgainstTable(t *testing.T) {
	r := rand.New(rand.NewSource(13))
	for range 100 {
		h, o := cell.New(60), cell.New(60)
		var sizes []int
		was := map[api.Value]api.Value{}
		for range 200 {
			p := addr(r.Intn(12)-1, r.Intn(8)-1)
			there := p.Obj >= 0 && p.Obj < len(sizes) && p.N >= 0 && p.N < sizes[p.Obj]
			stop := api.OutField
			if there {
				stop = api.Goes
			}
			switch r.Intn(5) {
			case 0:
				n := 1 + r.Intn(6)
				if _, s := h.Make(r.Intn(9), n); s == api.Goes {
					sizes = append(sizes, n)
				}
			case 1:
				v := api.Value{Kind: uint8(r.Intn(5)), Obj: r.Intn(5), N: r.Intn(5)}
				if h.Store(p, v) != stop {
					t.Fatal("Store")
				}
				if there {
					was[p] = v
				}
			case 2, 3:
				if v, s := h.Load(p); s != stop || v != was[p] {
					t.Fatalf("Load(%v) = %v, %d; want %v", p, v, s, was[p])
				}
			case 4:
				k := r.Intn(9) - 4
				if v, s := h.Step(p, k); s == api.Goes {
					if w, s := h.Step(v, -k); w != p || s != api.Goes || v.Obj != p.Obj || v.N != p.N+k || v.N >= sizes[p.Obj] {
						t.Fatal("Step there and back")
					}
				} else if there && p.N+k >= 0 && p.N+k < sizes[p.Obj] {
					t.Fatal("Step")
				}
			}
		}
		if o.Objs() != 0 {
			t.Fatal("two heaps share objects")
		}
	}
}
