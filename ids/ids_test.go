package ids_test

import (
	"math"
	"math/rand"
	"slices"
	"testing"

	"gnomon/api"
	"gnomon/ids"
)

func TestTable(t *testing.T) {
	s := ids.New("a", "b", "a")
	if s.Len() != 2 || s.Id("b") != 1 || s.Id("c") != 2 || s.Len() != 3 || s.Id("a") != 0 || s.Id("c") != 2 {
		t.Error("Id")
	}
	if i, is := s.Find("d"); i != 0 || is {
		t.Error("Find of what there is not")
	}
	if s.Len() != 3 {
		t.Error("Find puts a key in")
	}
	if i, is := s.Find("c"); i != 2 || !is {
		t.Error("Find")
	}
	if i, is := s.Find("a"); i != 0 || !is {
		t.Error("Find of the first one")
	}
	if k, e := s.Key(2); k != "c" || e != api.OK {
		t.Error("Key")
	}
	for _, i := range []int{3, -1, math.MaxInt, math.MinInt} {
		if k, e := s.Key(i); k != "" || e != api.ErrRange {
			t.Errorf("Key(%d) = %q, %v", i, k, e)
		}
	}
	if !slices.Equal(s.Keys(), []string{"a", "b", "c"}) {
		t.Error("Keys")
	}
	if e := ids.New[int](); e.Len() != 0 || len(e.Keys()) != 0 {
		t.Error("a table without keys")
	}
}

func TestApart(t *testing.T) {
	l := []string{"a", "b"}
	s := ids.New(l...)
	l[0] = "x"
	k := s.Keys()
	k[1] = "y"
	_ = append(k[:1:1], "z")
	if !slices.Equal(s.Keys(), []string{"a", "b"}) {
		t.Error("a table shares memory")
	}
	o := ids.New("b")
	if o.Id("a") != 1 || s.Id("a") != 0 {
		t.Error("two tables share numbers")
	}
}

func TestNil(t *testing.T) {
	var s *ids.Table[string]
	if s.Id("a") != 0 || s.Len() != 0 || len(s.Keys()) != 0 {
		t.Error("a nil table has something")
	}
	if i, is := s.Find("a"); i != 0 || is {
		t.Error("a nil table finds something")
	}
	for _, i := range []int{0, -1} {
		if k, e := s.Key(i); k != "" || e != api.ErrNil {
			t.Error("Key of a nil table")
		}
	}
}

type place struct {
	f    int
	name string
}

func TestOtherKinds(t *testing.T) {
	s := ids.New(place{1, "a"}, place{1, "b"}, place{1, "a"}, place{0, "a"})
	if s.Len() != 3 || s.Id(place{0, "a"}) != 2 || s.Id(place{1, "b"}) != 1 {
		t.Error("structs")
	}
	a := ids.New([2]int{1, 2}, [2]int{2, 1})
	if a.Id([2]int{2, 1}) != 1 || a.Id([2]int{1, 1}) != 2 {
		t.Error("arrays")
	}
	p, q := new(int), new(int)
	if l := ids.New(p, q, p); l.Len() != 2 || l.Id(q) != 1 {
		t.Error("pointers")
	}
	if l := ids.New[any](1, "1", 1, int8(1)); l.Len() != 3 {
		t.Error("interfaces")
	}
}

// Keys that equal nothing, themselves neither, have each a number of their own.
func TestKeysThatEqualNone(t *testing.T) {
	f := ids.New(math.NaN(), 1, math.NaN())
	if f.Len() != 3 || f.Id(1) != 1 || f.Id(math.NaN()) != 3 {
		t.Error("floats")
	}
	if _, is := f.Find(math.NaN()); is {
		t.Error("found what equals none")
	}
	a := ids.New[any]("a", []int{1}, "b")
	if a.Len() != 3 || a.Id("b") != 2 || a.Id(map[int]int{}) != 3 || a.Id("c") != 4 {
		t.Error("what can't be compared")
	}
	if i, is := a.Find([]int{1}); i != 0 || is {
		t.Error("found what can't be compared")
	}
	if k, e := a.Key(1); e != api.OK || k.([]int)[0] != 1 {
		t.Error("Key of what can't be compared")
	}
}

func TestAgainstList(t *testing.T) {
	r := rand.New(rand.NewSource(2))
	for range 200 {
		s := ids.New[int]()
		var l []int
		for range r.Intn(100) {
			k := r.Intn(40) - 20
			at := slices.Index(l, k)
			if i, is := s.Find(k); is != (at >= 0) || i != max(at, 0) {
				t.Fatal("Find")
			}
			if at < 0 {
				at = len(l)
				l = append(l, k)
			}
			if s.Id(k) != at || s.Len() != len(l) {
				t.Fatal("Id")
			}
		}
		for i, k := range l {
			if got, e := s.Key(i); got != k || e != api.OK || s.Id(k) != i {
				t.Fatal("Key")
			}
		}
		if !slices.Equal(s.Keys(), l) || !slices.Equal(ids.New(l...).Keys(), l) {
			t.Fatal("Keys")
		}
	}
}
