package update_test

import (
	"math"
	"math/rand"
	"slices"
	"testing"

	"gnomon/bits"
	"gnomon/update"
)

func isSet(t *testing.T, what string, s *bits.Set, l ...int) {
	t.Helper()
	if s == nil || !slices.Equal(s.List(), l) {
		t.Errorf("%s: %v, want %v", what, s.List(), l)
	}
}

func TestStore(t *testing.T) {
	ahead, value := bits.Of(1), bits.Of(2)
	for _, x := range []struct {
		to     *bits.Set
		o      int
		single bool
		want   []int
	}{
		{bits.Of(), 5, true, nil},
		{bits.Of(), 5, false, nil},
		{nil, 5, true, nil},
		{bits.Of(6), 5, true, []int{1}},
		{bits.Of(6, 7), 5, false, []int{1}},
		{bits.Of(5), 5, true, []int{2}},
		{bits.Of(5), 5, false, []int{1, 2}},
		{bits.Of(5, 6), 5, true, []int{1, 2}},
		{bits.Of(5, 6), 5, false, []int{1, 2}},
		{bits.Of(5), -1, true, []int{1}},
		{bits.Of(0), math.MinInt, true, []int{1}},
		{bits.Of(math.MaxInt), math.MaxInt, true, []int{2}},
	} {
		isSet(t, "Store", update.Store(ahead, value, x.to, x.o, x.single), x.want...)
	}
	isSet(t, "nil ahead", update.Store(nil, value, bits.Of(5), 5, false), 2)
	isSet(t, "nil value", update.Store(ahead, nil, bits.Of(5), 5, false), 1)
	isSet(t, "nil value, strong", update.Store(ahead, nil, bits.Of(5), 5, true))
	isSet(t, "nil all", update.Store(nil, nil, nil, 5, true))
	isSet(t, "nil all but to", update.Store(nil, nil, bits.Of(6), 5, true))
}

func TestCall(t *testing.T) {
	ahead := bits.Of(1)
	isSet(t, "no function", update.Call(ahead))
	isSet(t, "one that changes", update.Call(ahead, update.Exit{Mod: true, Set: bits.Of(2)}), 2)
	isSet(t, "one that does not", update.Call(ahead, update.Exit{Set: bits.Of(3)}), 1)
	isSet(t, "both", update.Call(ahead, update.Exit{Mod: true, Set: bits.Of(2)}, update.Exit{Set: bits.Of(3)}), 1, 2)
	isSet(t, "two that change", update.Call(ahead, update.Exit{Mod: true, Set: bits.Of(2)}, update.Exit{Mod: true, Set: bits.Of(4)}), 2, 4)
	isSet(t, "nil sets", update.Call(nil, update.Exit{Mod: true}, update.Exit{}))
}

// What is told is a set of its own.
func TestApart(t *testing.T) {
	ahead, value, to := bits.Of(1), bits.Of(2), bits.Of(5)
	for _, s := range []*bits.Set{
		update.Store(ahead, value, to, 5, true), update.Store(ahead, value, to, 6, true), update.Store(ahead, value, to, 5, false),
		update.Call(ahead, update.Exit{Mod: true, Set: value}), update.Call(ahead, update.Exit{Set: value}),
	} {
		s.Add(9)
		s.Drop(1)
		s.Drop(2)
	}
	isSet(t, "ahead", ahead, 1)
	isSet(t, "value", value, 2)
	isSet(t, "to", to, 5)
}

func some(r *rand.Rand) *bits.Set {
	s := bits.Of()
	for range r.Intn(4) {
		s.Add(r.Intn(6))
	}
	return s
}

func more(r *rand.Rand, s *bits.Set) *bits.Set {
	m := some(r)
	m.Union(s)
	return m
}

// Both only grow, and have nothing of their own.
func TestGrowing(t *testing.T) {
	r := rand.New(rand.NewSource(25))
	for range 5000 {
		a, v, to := some(r), some(r), some(r)
		o, single := r.Intn(6), r.Intn(2) == 0
		s := update.Store(a, v, to, o, single)
		if !s.In(update.Store(more(r, a), more(r, v), more(r, to), o, single)) {
			t.Fatalf("Store of greater sets than %v %v %v %d %v", a.List(), v.List(), to.List(), o, single)
		}
		all := a.Copy()
		all.Union(v)
		var exits, greater []update.Exit
		for range r.Intn(3) {
			x := update.Exit{Mod: r.Intn(2) == 0, Set: some(r)}
			exits = append(exits, x)
			greater = append(greater, update.Exit{Mod: x.Mod, Set: more(r, x.Set)})
			all.Union(x.Set)
		}
		if r.Intn(2) == 0 {
			greater = append(greater, update.Exit{Mod: r.Intn(2) == 0, Set: some(r)})
		}
		c := update.Call(a, exits...)
		if !c.In(update.Call(more(r, a), greater...)) || !c.In(all) || !s.In(all) {
			t.Fatal("Call of greater sets")
		}
	}
}
