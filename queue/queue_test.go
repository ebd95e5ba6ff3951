package queue_test

import (
	"math"
	"math/rand"
	"slices"
	"testing"

	"gnomon/api"
	"gnomon/queue"
)

// takes takes until nothing waits.
func takes(q *queue.Queue) []int {
	var l []int
	for {
		i, is := q.Take()
		if !is {
			return l
		}
		l = append(l, i)
	}
}

func TestExample(t *testing.T) {
	picks := []int{1, 5, -1}
	q := queue.New(9, picks)
	picks[0] = 0
	for _, x := range []struct {
		i  int
		is bool
	}{{3, true}, {1, true}, {7, true}, {3, false}, {9, false}, {-1, false}, {math.MaxInt, false}, {math.MinInt, false}} {
		if q.Add(x.i) != x.is {
			t.Errorf("Add(%d)", x.i)
		}
	}
	if q.Len() != 3 || q.Taken() != 0 {
		t.Error("Len")
	}
	for i := -1; i < 11; i++ {
		if q.Waits(i) != slices.Contains([]int{1, 3, 7}, i) {
			t.Errorf("Waits(%d)", i)
		}
	}
	for k, want := range []int{3, 1, 7} {
		if i, is := q.Take(); i != want || !is || q.Len() != 2-k || q.Waits(i) {
			t.Errorf("Take = %d, %v", i, is)
		}
	}
	if i, is := q.Take(); i != 0 || is || q.Taken() != 3 {
		t.Error("Take of nothing")
	}
	if !q.Add(7) || q.Len() != 1 {
		t.Error("a node that was taken waits once more")
	}
}

// Nothing is used up where nothing waits.
func TestPicksStay(t *testing.T) {
	q := queue.New(4, []int{1})
	q.Take()
	q.Take()
	q.Add(0)
	q.Add(2)
	if i, _ := q.Take(); i != 2 {
		t.Error("a pick was used up")
	}
}

func TestAnySize(t *testing.T) {
	for _, n := range []int{0, -1, math.MinInt} {
		q := queue.New(n, nil)
		if q.Add(0) || q.Waits(0) || q.Len() != 0 {
			t.Errorf("New(%d)", n)
		}
		if i, is := q.Take(); i != 0 || is {
			t.Errorf("New(%d): Take", n)
		}
	}
	for _, n := range []int{1, 63, 64, 65, 4096, 4097, 1 << 18, 1<<18 + 1, 1 << 40, math.MaxInt} {
		q := queue.New(n, []int{1})
		if q.Add(n) || !q.Add(n-1) || q.Add(n-1) || n > 1 && !q.Add(0) || n > 2 && !q.Add(n/2) || !q.Waits(n-1) {
			t.Errorf("New(%d): Add", n)
		}
		want := []int{n / 2, 0, n - 1}
		if n == 1 {
			want = []int{0}
		}
		if l := takes(q); !slices.Equal(l, want) {
			t.Errorf("New(%d): %v", n, l)
		}
	}
}

func TestManyPicks(t *testing.T) {
	picks := make([]int, api.MaxPicks+1)
	for i := range picks {
		picks[i] = 1
	}
	q := queue.New(3, picks)
	for k := range api.MaxPicks + 2 {
		q.Add(0)
		q.Add(1)
		q.Add(2)
		want := 1
		if k >= api.MaxPicks {
			want = 0
		}
		if i, _ := q.Take(); i != want {
			t.Fatalf("take %d is of %d", k, i)
		}
	}
	if q.Taken() != api.MaxPicks+2 {
		t.Error("Taken")
	}
}

func TestNil(t *testing.T) {
	var q *queue.Queue
	if i, is := q.Take(); i != 0 || is || q.Add(0) || q.Waits(0) || q.Len() != 0 || q.Taken() != 0 {
		t.Error("a nil queue has something")
	}
}

func TestAgainstList(t *testing.T) {
	r := rand.New(rand.NewSource(24))
	for range 300 {
		n := 1 + r.Intn(200)
		var picks []int
		for range r.Intn(60) {
			picks = append(picks, r.Intn(30)-3)
		}
		was := slices.Clone(picks)
		q := queue.New(n, picks)
		var waits []int
		taken := 0
		for range 300 {
			if r.Intn(5) < 3 {
				i := r.Intn(n+4) - 2
				at, in := slices.BinarySearch(waits, i)
				good := i >= 0 && i < n && !in
				if q.Add(i) != good {
					t.Fatalf("Add(%d) of %d with %v", i, n, waits)
				}
				if good {
					waits = slices.Insert(waits, at, i)
				}
			} else {
				i, is := q.Take()
				if is != (len(waits) > 0) {
					t.Fatal("Take")
				}
				if is {
					k := 0
					if len(was) > 0 {
						if was[0] > 0 && was[0] < len(waits) {
							k = was[0]
						}
						was = was[1:]
					}
					if waits[k] != i {
						t.Fatalf("Take = %d of %v", i, waits)
					}
					waits = slices.Delete(waits, k, k+1)
					taken++
				}
			}
			if q.Len() != len(waits) || q.Taken() != taken {
				t.Fatal("Len, Taken")
			}
		}
		for i := range n {
			if _, in := slices.BinarySearch(waits, i); q.Waits(i) != in {
				t.Fatal("Waits")
			}
		}
		for i := range picks {
			picks[i] = 0
		}
		if l := takes(q); len(l) != len(waits) {
			t.Fatal("not all were taken")
		}
	}
}

// Without picks the least is taken, whatever was added between.
func TestLeast(t *testing.T) {
	n := 50000
	q := queue.New(n, nil)
	for i := range n {
		q.Add(n - 1 - i)
	}
	if l := takes(q); !slices.IsSorted(l) || len(l) != n {
		t.Error("not the least")
	}
	// What is handed in is not used up: a cut of a longer list has no more picks than it shows.
	picks := []int{1, 1, 1}
	q = queue.New(3, picks[:1])
	q.Add(0)
	q.Add(1)
	q.Add(2)
	if l := takes(q); !slices.Equal(l, []int{1, 0, 2}) || picks[0] != 1 {
		t.Errorf("%v", l)
	}
}
