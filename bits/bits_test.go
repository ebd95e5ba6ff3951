package bits_test

import (
	"math"
	"math/rand"
	"runtime"
	"slices"
	"testing"

	"gnomon/bits"
)

// want holds a set against the numbers that it must have, by all calls that look.
func want(t *testing.T, what string, s *bits.Set, l ...int) {
	t.Helper()
	if got := s.List(); !slices.Equal(got, l) {
		t.Fatalf("%s: List = %v, want %v", what, got, l)
	}
	if s.Len() != len(l) {
		t.Fatalf("%s: Len = %d, want %d", what, s.Len(), len(l))
	}
	k, is := s.Least()
	if is != (len(l) > 0) || !is && k != 0 || is && k != l[0] {
		t.Fatalf("%s: Least = %d, %v of %v", what, k, is, l)
	}
	for _, i := range l {
		if !s.Has(i) {
			t.Fatalf("%s: Has(%d) = false", what, i)
		}
	}
	if !s.Same(bits.Of(l...)) || !bits.Of(l...).Same(s) {
		t.Fatalf("%s: not the same as %v", what, l)
	}
}

func TestOfAddDropHas(t *testing.T) {
	s := bits.Of(3, 1, 3, -1, math.MinInt, math.MaxInt)
	want(t, "Of", s, 1, 3, math.MaxInt)
	for _, i := range []int{-1, math.MinInt, 0, 2, 4, 65, 67} {
		if s.Has(i) || s.Drop(i) {
			t.Errorf("%d is in", i)
		}
	}
	if s.Add(3) || s.Add(-1) || !s.Add(0) || !s.Add(64) || s.Add(64) {
		t.Error("Add")
	}
	want(t, "Add", s, 0, 1, 3, 64, math.MaxInt)
	if !s.Drop(1) || s.Drop(1) || !s.Drop(64) || !s.Drop(math.MaxInt) {
		t.Error("Drop")
	}
	want(t, "Drop", s, 0, 3)
	want(t, "none", bits.Of())
}

func TestUnion(t *testing.T) {
	if bits.Of(1).Union(bits.Of(1)) || !bits.Of(1).Union(bits.Of(1<<40)) || bits.Of(1, 2).Union(bits.Of(2)) {
		t.Error("Union tells wrongly whether a number was not in")
	}
	s, o := bits.Of(1, 70), bits.Of(2, 70, 200)
	if !s.Union(o) || s.Union(o) || s.Union(s) || s.Union(nil) {
		t.Error("Union")
	}
	want(t, "the set", s, 1, 2, 70, 200)
	want(t, "the other one", o, 2, 70, 200)
	o.Add(5)
	want(t, "the set apart", s, 1, 2, 70, 200)
}

func TestMinusBoth(t *testing.T) {
	s := bits.Of(1, 2, 64, 130)
	o := bits.Of(2, 3, 130)
	want(t, "Minus", s.Minus(o), 1, 64)
	want(t, "Both", s.Both(o), 2, 130)
	want(t, "Minus itself", s.Minus(s))
	want(t, "Both itself", s.Both(s), 1, 2, 64, 130)
	want(t, "Minus nil", s.Minus(nil), 1, 2, 64, 130)
	want(t, "Both nil", s.Both(nil))
	s.Minus(nil).Drop(1)
	s.Both(s).Add(7)
	want(t, "the set", s, 1, 2, 64, 130)
	want(t, "the other one", o, 2, 3, 130)
}

func TestLooking(t *testing.T) {
	if !bits.Of(1).In(bits.Of(1, 2)) || bits.Of(1, 3).In(bits.Of(1, 2)) || bits.Of(1, 2).In(bits.Of(1)) || !bits.Of().In(bits.Of()) || bits.Of(65).In(bits.Of(1)) {
		t.Error("In")
	}
	if bits.Of(1).Same(bits.Of(2)) || bits.Of(1).Same(bits.Of(1, 2)) || bits.Of(1, 2).Same(bits.Of(1)) || !bits.Of(2, 1).Same(bits.Of(1, 2)) {
		t.Error("Same")
	}
	s := bits.Of(1, 300)
	c := s.Copy()
	c.Add(2)
	s.Drop(300)
	want(t, "copy", c, 1, 2, 300)
	want(t, "copied", s, 1)
	l := s.List()
	l[0] = 9
	want(t, "behind a change of what was told", s, 1)
}

func TestNil(t *testing.T) {
	var s *bits.Set
	if s.Add(1) || s.Drop(1) || s.Has(1) || s.Union(bits.Of(1)) || s.Copy() != nil {
		t.Error("a nil set takes something")
	}
	want(t, "nil", s)
	want(t, "nil Minus", s.Minus(bits.Of(1)))
	want(t, "nil Both", s.Both(bits.Of(1)))
	if !s.Same(nil) || !s.In(nil) || !s.In(bits.Of(1)) || bits.Of(1).In(nil) || bits.Of(1).Same(nil) || !bits.Of().Same(nil) {
		t.Error("a nil set is not one without numbers")
	}
}

// Whatever the order of calls, sets go as tables of bools go.
func TestAgainstTable(t *testing.T) {
	r := rand.New(rand.NewSource(1))
	for range 300 {
		top := 1 + r.Intn(400)
		a, b := bits.Of(), bits.Of()
		in := [2]map[int]bool{{}, {}}
		for range 1 + r.Intn(200) {
			w, i := r.Intn(2), r.Intn(top)
			s := []*bits.Set{a, b}[w]
			if r.Intn(3) > 0 {
				if s.Add(i) == in[w][i] {
					t.Fatal("Add")
				}
				in[w][i] = true
			} else {
				if s.Drop(i) != in[w][i] {
					t.Fatal("Drop")
				}
				delete(in[w], i)
			}
		}
		var la, lb, minus, both, union []int
		for i := range top {
			x, y := in[0][i], in[1][i]
			if x {
				la = append(la, i)
			}
			if y {
				lb = append(lb, i)
			}
			if x && !y {
				minus = append(minus, i)
			}
			if x && y {
				both = append(both, i)
			}
			if x || y {
				union = append(union, i)
			}
		}
		want(t, "a", a, la...)
		want(t, "b", b, lb...)
		want(t, "Minus", a.Minus(b), minus...)
		want(t, "Both", a.Both(b), both...)
		if a.In(b) != (len(minus) == 0) {
			t.Fatal("In")
		}
		if a.Same(b) != (len(minus) == 0 && len(la) == len(lb)) {
			t.Fatal("Same")
		}
		if c := a.Copy(); c.Union(b) != (len(union) > len(la)) {
			t.Fatal("Union")
		} else {
			want(t, "Union", c, union...)
		}
	}
}

func room() uint64 {
	runtime.GC()
	var m runtime.MemStats
	runtime.ReadMemStats(&m)
	return m.HeapAlloc
}

// How much a set takes hangs on how many numbers it has: great ones take no more, and what was dropped takes nothing.
func TestRoom(t *testing.T) {
	before := room()
	s := bits.Of()
	for i := range 1000 {
		s.Add(math.MaxInt - i*1000000007)
	}
	if got := room(); got > before+1<<20 {
		t.Errorf("1000 great numbers take %d bytes", got-before)
	}
	for i := range 300000 {
		s.Add(i * 64)
	}
	for i := range 300000 {
		s.Drop(i * 64)
	}
	if got := room(); got > before+1<<20 {
		t.Errorf("1000 numbers take %d bytes when many were dropped", got-before)
	}
	if s.Len() != 1000 {
		t.Errorf("Len = %d", s.Len())
	}
	runtime.KeepAlive(s)
}
