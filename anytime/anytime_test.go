package anytime_test

import (
	"math"
	"slices"
	"strings"
	"testing"

	"gnomon/anytime"
	"gnomon/api"
	"gnomon/read"
	"gnomon/run"
	"gnomon/sample"
	"gnomon/show"
	"gnomon/sites"
	"gnomon/solve"
	"gnomon/sound"
	"gnomon/sparse"
)

const enough = 1 << 30

const good = "func main() {\ne:\np = alloca 1\nret\n}"

// isRejected holds all answers of what is rejected, or nil, against none.
func isRejected(t *testing.T, o *anytime.Outcome) {
	t.Helper()
	if o.Status() != api.Rejected || o.Steps() != 0 || o.Map() != nil || o.Before() != nil || o.Has(0, 0) || o.Alias(0, 0) ||
		len(o.Points(0))+len(o.Callees(api.Point{}))+len(o.Mem(api.Point{}, 0)) != 0 {
		t.Error("what is rejected has answers")
	}
}

func TestRejected(t *testing.T) {
	for _, x := range []struct {
		text  string
		spot  api.Spot
		e     api.Errno
		wrong api.Wrong
	}{
		{"", api.Spot{}, api.ErrShape, api.Wrong{Rule: api.ManyFuncs}},
		{"func main() {\n\x01", api.Spot{Line: 2, Col: 1}, api.ErrByte, api.Wrong{}},
		{"func main() {\ne: 01", api.Spot{Line: 2, Col: 4}, api.ErrNumber, api.Wrong{}},
		{"func main() {\ne: ret", api.Spot{Line: 2, Col: 4}, api.ErrSyntax, api.Wrong{}},
		{"func main() {", api.Spot{Line: 1, Col: 14}, api.ErrEnd, api.Wrong{}},
		{strings.Repeat("\n", api.MaxText+1), api.Spot{}, api.ErrLong, api.Wrong{}},
		{"func f() {\ne:\nret\n}", api.Spot{}, api.ErrShape, api.Wrong{Rule: api.NoMain}},
		{"func main() {\ne:\nx = copy x\nret\n}", api.Spot{}, api.ErrShape, api.Wrong{Rule: api.NotDom}},
		{"func main() {\ne:\nret\nl:\nret\n}", api.Spot{}, api.ErrShape, api.Wrong{Rule: api.Unreached, At: api.Point{Block: 1}}},
	} {
		o := anytime.Run(x.text, nil, enough)
		if spot, e, wrong := o.Err(); spot != x.spot || e != x.e || wrong != x.wrong {
			t.Errorf("%.30q: %v, %v, %v", x.text, spot, e, wrong)
		}
		isRejected(t, o)
	}
	var o *anytime.Outcome
	if spot, e, wrong := o.Err(); spot != (api.Spot{}) || e != api.ErrNil || wrong != (api.Wrong{}) {
		t.Error("Err of nil")
	}
	isRejected(t, o)
}

func TestAnswers(t *testing.T) {
	o := anytime.Run(good, nil, 100)
	if o.Status() != api.Complete || !slices.Equal(o.Points(0), []int{0}) || o.Steps() < 1 || o.Steps() > 100 {
		t.Error("complete")
	}
	if spot, e, wrong := o.Err(); spot != (api.Spot{}) || e != api.OK || wrong != (api.Wrong{}) {
		t.Error("Err of what is not rejected")
	}
	if o.Map().Vars() != 1 || !slices.Equal(o.Before().Var(0), []int{0}) {
		t.Error("Map, Before")
	}
	o = anytime.Run(good, nil, 0)
	if o.Status() != api.Cut || !slices.Equal(o.Points(0), []int{0}) || o.Steps() != 0 {
		t.Error("cut")
	}
	if _, e, _ := o.Err(); e != api.OK {
		t.Error("Err of what is cut")
	}
}

func TestAlias(t *testing.T) {
	o := anytime.Run("func main() {\ne:\np = alloca 2\nq = field p 1\nf = addr main\ng = copy f\nr = copy q\nn = null\nbr l m\nl:\ngoto m\nm:\nb = phi [e: p, l: q]\nret\n}", nil, enough)
	// p 0, q 1, f 2, g 3, r 4, n 5, b 6
	yes := [][2]int{{0, 0}, {1, 1}, {4, 4}, {6, 6}, {1, 4}, {0, 6}, {1, 6}, {4, 6}}
	for v := -2; v < 10; v++ {
		for w := -2; w < 10; w++ {
			if want := slices.Contains(yes, [2]int{v, w}) || slices.Contains(yes, [2]int{w, v}); o.Alias(v, w) != want {
				t.Errorf("Alias(%d, %d) = %v", v, w, !want)
			}
		}
	}
	if o.Alias(math.MaxInt, 0) || o.Alias(0, math.MinInt) {
		t.Error("Alias of what there is not")
	}
}

// An outcome is what the stages by themselves tell.
func TestStages(t *testing.T) {
	d := sample.Throw(27)
	status := map[api.Status]int{}
	for seed := range 300 {
		p := sample.Program(seed, sample.Small())
		text, _ := show.Print(p)
		var picks []int
		for range d.Below(30) {
			picks = append(picks, d.Below(20)-2)
		}
		budget := d.Below(80)
		o := anytime.Run(text, picks, budget)
		m, _ := sites.New(p)
		a := solve.Solve(m)
		r := sparse.Solve(m, a, picks, budget)
		status[o.Status()]++
		if o.Status() != r.Status() || o.Steps() != r.Steps() {
			t.Fatalf("program %d: %d, %d", seed, o.Status(), o.Steps())
		}
		for v := -1; v <= m.Vars(); v++ {
			if !slices.Equal(o.Points(v), r.Var(v)) || !slices.Equal(o.Before().Var(v), a.Var(v)) {
				t.Fatalf("program %d: variable %d", seed, v)
			}
			for x := range m.Objs() {
				if o.Has(v, x) != r.Has(v, x) {
					t.Fatalf("program %d: Has(%d, %d)", seed, v, x)
				}
			}
			for w := range m.Vars() {
				common := false
				for x := range m.Fields() {
					common = common || r.Has(v, x) && r.Has(w, x)
				}
				if o.Alias(v, w) != common {
					t.Fatalf("program %d: Alias(%d, %d)", seed, v, w)
				}
			}
		}
		for _, at := range m.Points() {
			if !slices.Equal(o.Callees(at), r.Callees(at)) {
				t.Fatalf("program %d: Callees", seed)
			}
			for x := range m.Objs() {
				if !slices.Equal(o.Mem(at, x), r.Mem(at, x)) {
					t.Fatalf("program %d: Mem", seed)
				}
			}
		}
		if full := anytime.Run(text, picks, sparse.Bound(m.Size())); full.Status() != api.Complete {
			t.Fatalf("program %d: a budget of Bound", seed)
		}
	}
	if status[api.Complete] < 30 || status[api.Cut] < 30 {
		t.Error("outcomes", status)
	}
}

// Whatever text there is an error and its place, or a rule that is broken, or answers; and runs see nothing but what is told.
func TestAnyText(t *testing.T) {
	d := sample.Throw(28)
	seen := [3]int{}
	for seed := range 2000 {
		text, _ := show.Print(sample.Program(seed, sample.Small()))
		b := []byte(text)
		for range d.Below(3) {
			i := d.Below(len(b))
			switch d.Below(4) {
			case 0:
				b[i] = byte(d.Below(256))
			case 1:
				b = slices.Delete(b, i, min(len(b), i+1+d.Below(9)))
			case 2:
				b = slices.Insert(b, i, b[d.Below(len(b)):][:1]...)
			case 3:
				b[i] = b[d.Below(len(b))]
			}
			if len(b) == 0 {
				b = []byte{'f'}
			}
		}
		o := anytime.Run(string(b), nil, d.Below(200))
		spot, e, wrong := o.Err()
		p, at, err := read.Parse(string(b))
		switch {
		case err != api.OK:
			seen[0]++
			if e != err || spot != at || wrong != (api.Wrong{}) || o.Status() != api.Rejected {
				t.Fatalf("%s: %v, %v", b, e, spot)
			}
		case sound.Check(p) != (api.Wrong{}):
			seen[1]++
			if e != api.ErrShape || spot != (api.Spot{}) || wrong != sound.Check(p) || o.Status() != api.Rejected {
				t.Fatalf("%s: %v, %v", b, e, wrong)
			}
		default:
			seen[2]++
			if e != api.OK || spot != (api.Spot{}) || wrong != (api.Wrong{}) || o.Status() == api.Rejected {
				t.Fatalf("%s: %v, %v", b, e, wrong)
			}
			saw, _ := run.Run(p, d.Choices(30))
			for _, f := range saw.Facts {
				if !o.Has(f.Var, f.Obj) || !slices.Contains(o.Points(f.Var), f.Obj) {
					t.Fatalf("%s: %v is not told", b, f)
				}
			}
			for _, c := range saw.Calls {
				if !slices.Contains(o.Callees(c.At), c.Func) {
					t.Fatalf("%s: %v is not told", b, c)
				}
			}
		}
	}
	if min(seen[0], seen[1], seen[2]) < 100 {
		t.Error("texts", seen)
	}
}

// Picks, whatever they are, change no answer of what is complete.
func TestPicks(t *testing.T) {
	text, _ := show.Print(sample.Program(3, sample.Small()))
	plain := anytime.Run(text, nil, enough)
	for _, picks := range [][]int{{5, 5, 5, -1, 7}, {math.MaxInt, math.MinInt}, make([]int, api.MaxPicks+9)} {
		o := anytime.Run(text, picks, enough)
		for v := range o.Map().Vars() {
			if o.Status() != api.Complete || !slices.Equal(o.Points(v), plain.Points(v)) {
				t.Error("picks change what is told")
			}
		}
	}
}
