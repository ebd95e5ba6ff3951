// Package bits is layer 1, sets of numbers: see shared/doc/01-bits.md.
package bits

import (
	"iter"
	"maps"
	mbits "math/bits"
	"slices"
)

const (
	wordBits = 64
	// Below this many words a map that was once greater is not worth making anew.
	fewWords = 64
)

// Set has numbers from 0 on. Only words that have a bit set stand in the map, so that a set takes what its numbers take, however great they are.
type Set struct {
	words map[int]uint64
	count int
	most  int
}

// Of is a set of numbers.
func Of(l ...int) *Set {
	s := &Set{words: map[int]uint64{}}
	for _, i := range l {
		s.Add(i)
	}
	return s
}

// Add puts a number in.
func (s *Set) Add(i int) bool {
	if s == nil || i < 0 || s.Has(i) {
		return false
	}
	s.put(i/wordBits, 1<<(i%wordBits))
	return true
}

// Drop takes one out.
func (s *Set) Drop(i int) bool {
	if !s.Has(i) {
		return false
	}
	k := i / wordBits
	s.count--
	s.words[k] &^= 1 << (i % wordBits)
	if s.words[k] == 0 {
		delete(s.words, k)
		s.shrink()
	}
	return true
}

// Has tells whether a number is in.
func (s *Set) Has(i int) bool {
	return s != nil && i >= 0 && s.words[i/wordBits]>>(i%wordBits)&1 == 1
}

// Union puts another one's numbers in.
func (s *Set) Union(o *Set) bool {
	if s == nil || o == nil || s == o {
		return false
	}
	grown := false
	for k, w := range o.words {
		if w&^s.words[k] != 0 {
			s.put(k, w)
			grown = true
		}
	}
	return grown
}

// Minus are the numbers that are not another one's.
func (s *Set) Minus(o *Set) *Set {
	return s.pick(func(k int, w uint64) uint64 { return w &^ o.word(k) })
}

// Both are those that are another one's, too.
func (s *Set) Both(o *Set) *Set {
	return s.pick(func(k int, w uint64) uint64 { return w & o.word(k) })
}

// Len is how many there are.
func (s *Set) Len() int {
	if s == nil {
		return 0
	}
	return s.count
}

// List are the numbers.
func (s *Set) List() []int {
	out := make([]int, 0, s.Len())
	for k, w := range s.rising() {
		for ; w != 0; w &= w - 1 {
			out = append(out, k*wordBits+mbits.TrailingZeros64(w))
		}
	}
	return out
}

// Least is the least one.
func (s *Set) Least() (int, bool) {
	if s.Len() == 0 {
		return 0, false
	}
	least := -1
	for k := range s.words {
		if least < 0 || k < least {
			least = k
		}
	}
	return least*wordBits + mbits.TrailingZeros64(s.words[least]), true
}

// Same tells whether two have the same numbers.
func (s *Set) Same(o *Set) bool {
	return s.Len() == o.Len() && s.In(o)
}

// In tells whether another one has all of them.
func (s *Set) In(o *Set) bool {
	if s.Len() > o.Len() {
		return false
	}
	if s == nil {
		return true
	}
	for k, w := range s.words {
		if w&^o.word(k) != 0 {
			return false
		}
	}
	return true
}

// Copy is another one like it.
func (s *Set) Copy() *Set {
	if s == nil {
		return nil
	}
	c := Of()
	c.Union(s)
	return c
}

func (s *Set) word(k int) uint64 {
	if s == nil {
		return 0
	}
	return s.words[k]
}

func (s *Set) put(k int, w uint64) {
	if s.words == nil {
		s.words = map[int]uint64{}
	}
	old := s.words[k]
	s.words[k] = old | w
	s.count += mbits.OnesCount64(w &^ old)
	s.most = max(s.most, len(s.words))
}

// A map keeps its room when keys go, so what is left moves to a smaller one.
func (s *Set) shrink() {
	if s.most < fewWords || len(s.words) > s.most/4 {
		return
	}
	small := make(map[int]uint64, len(s.words))
	maps.Copy(small, s.words)
	s.words, s.most = small, len(small)
}

func (s *Set) pick(part func(k int, w uint64) uint64) *Set {
	out := Of()
	if s == nil {
		return out
	}
	for k, w := range s.words {
		if left := part(k, w); left != 0 {
			out.put(k, left)
		}
	}
	return out
}

// The words stand in a map in no order, but numbers are told rising.
func (s *Set) rising() iter.Seq2[int, uint64] {
	return func(yield func(int, uint64) bool) {
		if s == nil {
			return
		}
		for _, k := range slices.Sorted(maps.Keys(s.words)) {
			if !yield(k, s.words[k]) {
				return
			}
		}
	}
}
