package play_test

import (
	"math"
	"math/rand"
	"slices"
	"strconv"
	"strings"
	"testing"

	"gnomon/anytime"
	"gnomon/api"
	"gnomon/ask"
	"gnomon/play"
	"gnomon/sample"
	"gnomon/show"
)

func lines(l ...string) string { return strings.Join(l, "\n") }

func same(a, b []play.Cmd) bool {
	return slices.EqualFunc(a, b, func(x, y play.Cmd) bool {
		return x.Op == y.Op && x.Text == y.Text && slices.Equal(x.Words, y.Words) && slices.Equal(x.Nums, y.Nums)
	})
}

func TestParse(t *testing.T) {
	for _, x := range []struct {
		text string
		want []play.Cmd
	}{
		{"", nil},
		{"\n \t\r\n# |x\n#\n  #status", nil},
		{"program", []play.Cmd{{Op: 'p'}}},
		{"program\n|a\n||b \n|\n#\n\n|\xff\r\nrun\n", []play.Cmd{{Op: 'p', Text: "a\n|b \n\n\xff\r\n"}, {Op: 'r'}}},
		{"program\n|a\nprogram\nprogram\n|b", []play.Cmd{{Op: 'p', Text: "a\n"}, {Op: 'p'}, {Op: 'p', Text: "b\n"}}},
		{"picks\npicks 1 -2 0 4611686018427387904 -4611686018427387904", []play.Cmd{{Op: 'k'}, {Op: 'k', Nums: []int{1, -2, 0, 1 << 62, -1 << 62}}}},
		{"\tbudget  7\r", []play.Cmd{{Op: 'b', Nums: []int{7}}}},
		{"budget -9", []play.Cmd{{Op: 'b', Nums: []int{-9}}}},
		{"run\nstatus\nall", []play.Cmd{{Op: 'r'}, {Op: 's'}, {Op: 'a'}}},
		{"points 1 |", []play.Cmd{{Op: 'o', Words: []string{"1", "|"}}}},
		{"alias a b #c é\xff", []play.Cmd{{Op: 'l', Words: []string{"a", "b", "#c", "é\xff"}}}},
		{"callees f 01 3", []play.Cmd{{Op: 'c', Words: []string{"f", "01"}, Nums: []int{3}}}},
		{"run" + strings.Repeat("\n#\n", 3000), []play.Cmd{{Op: 'r'}}},
	} {
		if l, line, e := play.Parse(x.text); !same(l, x.want) || line != 0 || e != api.OK {
			t.Errorf("%.60q: %v, %d, %v", x.text, l, line, e)
		}
	}
}

func TestParseErrors(t *testing.T) {
	for _, x := range []struct {
		text string
		line int
		e    api.Errno
	}{
		{"|x", 1, api.ErrLine},
		{"points main", 1, api.ErrLine},
		{"points main p q", 1, api.ErrLine},
		{"budget -0", 1, api.ErrLine},
		{"budget", 1, api.ErrLine},
		{"budget 1 2", 1, api.ErrLine},
		{"budget 01", 1, api.ErrLine},
		{"budget +1", 1, api.ErrLine},
		{"budget -", 1, api.ErrLine},
		{"budget --1", 1, api.ErrLine},
		{"budget 1x", 1, api.ErrLine},
		{"budget -01", 1, api.ErrLine},
		{"budget 00", 1, api.ErrLine},
		{"budget 1_0", 1, api.ErrLine},
		{"budget 4611686018427387905", 1, api.ErrLine},
		{"budget -4611686018427387905", 1, api.ErrLine},
		{"budget 99999999999999999999999", 1, api.ErrLine},
		{"picks 1 a", 1, api.ErrLine},
		{"callees f l", 1, api.ErrLine},
		{"callees f 1", 1, api.ErrLine},
		{"callees f l x", 1, api.ErrLine},
		{"callees f l 1 2", 1, api.ErrLine},
		{"alias a b c", 1, api.ErrLine},
		{"alias a b c d e", 1, api.ErrLine},
		{"run 1", 1, api.ErrLine},
		{"program x", 1, api.ErrLine},
		{"Run", 1, api.ErrLine},
		{"x", 1, api.ErrLine},
		{"run\n\n#\nx\ny", 4, api.ErrLine},
		{"program\n|a\nrun\n|b", 4, api.ErrLine},
		{"program\n |a", 2, api.ErrLine},
		{"\vrun", 1, api.ErrLine},
		{"status\x00", 1, api.ErrLine},
		{"x" + strings.Repeat("\n", api.MaxScript), 0, api.ErrLong},
		{strings.Repeat("run\n", api.MaxSteps) + "\n#\nx", api.MaxSteps + 3, api.ErrLong},
		{strings.Repeat("run\n", api.MaxSteps) + "|x", api.MaxSteps + 1, api.ErrLine},
	} {
		l, line, e := play.Parse(x.text)
		if len(l) != 0 || line != x.line || e != x.e {
			t.Errorf("%.60q: %d commands, %d, %v", x.text, len(l), line, e)
		}
		if s, line, e := play.Run(x.text); s != "" || line != x.line || e != x.e {
			t.Errorf("Run of %.60q: %q, %d, %v", x.text, s, line, e)
		}
	}
	if l, _, e := play.Parse(strings.Repeat("run\n", api.MaxSteps) + strings.Repeat("#\n", 10)); len(l) != api.MaxSteps || e != api.OK {
		t.Error("MaxSteps lines")
	}
	most := "program\n" + strings.Repeat("|\n", (api.MaxScript-8)/2)
	if l, _, e := play.Parse(most); len(most) != api.MaxScript || e != api.OK || len(l[0].Text) != (api.MaxScript-8)/2 {
		t.Error("MaxScript bytes")
	}
}

func TestPrint(t *testing.T) {
	for _, x := range []struct {
		l    []play.Cmd
		want string
	}{
		{nil, ""},
		{[]play.Cmd{{Op: 'p', Text: "a\n\n|b\n"}, {Op: 'p'}}, "program\n|a\n|\n||b\nprogram\n"},
		{[]play.Cmd{{Op: 'k'}, {Op: 'k', Nums: []int{0, -5, 1 << 62, -1 << 62}}}, "picks\npicks 0 -5 4611686018427387904 -4611686018427387904\n"},
		{[]play.Cmd{{Op: 'b', Nums: []int{3}}, {Op: 'r'}, {Op: 's'}, {Op: 'a'}}, "budget 3\nrun\nstatus\nall\n"},
		{[]play.Cmd{{Op: 'o', Words: []string{"f", "#"}}, {Op: 'l', Words: []string{"a", "b", "c", "|"}}, {Op: 'c', Words: []string{"f", "l"}, Nums: []int{0}}}, "points f #\nalias a b c |\ncallees f l 0\n"},
	} {
		if s, e := play.Print(x.l); s != x.want || e != api.OK {
			t.Errorf("%v: %q, %v", x.l, s, e)
		}
	}
	many := slices.Repeat([]play.Cmd{{Op: 'r'}}, api.MaxSteps+1)
	if s, e := play.Print(many[1:]); len(s) != 4*api.MaxSteps || e != api.OK {
		t.Error("MaxSteps commands")
	}
	for k, x := range []struct {
		l []play.Cmd
		e api.Errno
	}{
		{[]play.Cmd{{}}, api.ErrArg},
		{[]play.Cmd{{Op: 'r'}, {Op: 'x'}}, api.ErrArg},
		{[]play.Cmd{{Op: 'r', Text: "a\n"}}, api.ErrArg},
		{[]play.Cmd{{Op: 'r', Words: []string{"a"}}}, api.ErrArg},
		{[]play.Cmd{{Op: 'r', Nums: []int{1}}}, api.ErrArg},
		{[]play.Cmd{{Op: 'p', Text: "a"}}, api.ErrArg},
		{[]play.Cmd{{Op: 'p', Nums: []int{1}}}, api.ErrArg},
		{[]play.Cmd{{Op: 'k', Words: []string{"a"}}}, api.ErrArg},
		{[]play.Cmd{{Op: 'k', Nums: []int{1<<62 + 1}}}, api.ErrArg},
		{[]play.Cmd{{Op: 'k', Nums: []int{-1<<62 - 1}}}, api.ErrArg},
		{[]play.Cmd{{Op: 'k', Nums: []int{math.MinInt}}}, api.ErrArg},
		{[]play.Cmd{{Op: 'b'}}, api.ErrArg},
		{[]play.Cmd{{Op: 'b', Nums: []int{1, 2}}}, api.ErrArg},
		{[]play.Cmd{{Op: 'o', Words: []string{"a"}}}, api.ErrArg},
		{[]play.Cmd{{Op: 'o', Words: []string{"a", ""}}}, api.ErrArg},
		{[]play.Cmd{{Op: 'o', Words: []string{"a", "b c"}}}, api.ErrArg},
		{[]play.Cmd{{Op: 'o', Words: []string{"a", "b\t"}}}, api.ErrArg},
		{[]play.Cmd{{Op: 'o', Words: []string{"a", "\r"}}}, api.ErrArg},
		{[]play.Cmd{{Op: 'o', Words: []string{"a\n", "b"}}}, api.ErrArg},
		{[]play.Cmd{{Op: 'c', Words: []string{"a", "b"}}}, api.ErrArg},
		{[]play.Cmd{{Op: 'c', Words: []string{"a"}, Nums: []int{1}}}, api.ErrArg},
		{[]play.Cmd{{Op: 'l', Words: []string{"a", "b", "c"}}}, api.ErrArg},
		{many, api.ErrLong},
		{append(slices.Clone(many), play.Cmd{}), api.ErrArg},
		{[]play.Cmd{{Op: 'p', Text: strings.Repeat("\n", api.MaxScript/2)}}, api.ErrLong},
		{[]play.Cmd{{Op: 'p', Text: strings.Repeat("\n", api.MaxScript)}, {Op: 'b'}}, api.ErrArg},
	} {
		if s, e := play.Print(x.l); s != "" || e != x.e {
			t.Errorf("row %d: %q, %v", k, s, e)
		}
	}
	if s, e := play.Print([]play.Cmd{{Op: 'p', Text: strings.Repeat("\n", (api.MaxScript-8)/2)}}); len(s) != api.MaxScript || e != api.OK {
		t.Error("MaxScript bytes")
	}
}

func TestPrintParse(t *testing.T) {
	r := rand.New(rand.NewSource(29))
	words := []string{"a", "main", "#", "|", "1", "-0", "é", "\xff", "program"}
	some := func(n int) (l []string) {
		for range n {
			l = append(l, words[r.Intn(len(words))])
		}
		return l
	}
	nums := func(n int) (l []int) {
		for range n {
			l = append(l, []int{0, 1, -1, 10, 1 << 62, -1 << 62, 777}[r.Intn(7)])
		}
		return l
	}
	for range 1000 {
		var l []play.Cmd
		for range r.Intn(8) {
			switch r.Intn(6) {
			case 0:
				text := ""
				for range r.Intn(4) {
					text += []string{"", "a", "|", " #", "\r", "run"}[r.Intn(6)] + "\n"
				}
				l = append(l, play.Cmd{Op: 'p', Text: text})
			case 1:
				l = append(l, play.Cmd{Op: 'k', Nums: nums(r.Intn(4))})
			case 2:
				l = append(l, play.Cmd{Op: 'b', Nums: nums(1)})
			case 3:
				l = append(l, play.Cmd{Op: "rsa"[r.Intn(3)]})
			case 4:
				l = append(l, play.Cmd{Op: 'o', Words: some(2)}, play.Cmd{Op: 'l', Words: some(4)})
			case 5:
				l = append(l, play.Cmd{Op: 'c', Words: some(2), Nums: nums(1)})
			}
		}
		s, e := play.Print(l)
		if e != api.OK {
			t.Fatal(l, e)
		}
		if got, _, e := play.Parse(s); !same(got, l) || e != api.OK {
			t.Fatalf("%q: %v, want %v", s, got, l)
		}
		if again, _ := play.Print(l); again != s {
			t.Fatal("told twice")
		}
	}
}

func TestRun(t *testing.T) {
	o := anytime.Run("func main() {\ne:\np = alloca 1\nret\n}\n", nil, 100)
	for _, x := range []struct{ text, want string }{
		{"", ""},
		{"status\npoints main p\nrun", "1 0\n  rejected\n2 8\n3 5\n  rejected 0 0 1 0 0 0\n"},
		{lines("program", "|func main() {", "|e:", "|p = alloca 1", "|ret", "|}", "budget 100", "run", "points main p", "alias main p main p", "status"),
			"1 0\n2 0\n3 0\n  complete " + strconv.Itoa(o.Steps()) + "\n4 0\n  main:p+0\n5 0\n  yes\n6 0\n  complete\n"},
		{lines("program", "|func main() {", "|e:", "|p = alloca 1", "|x = call main()", "|ret p", "|}", "budget 100", "budget 0", "run", "status", "callees main e 1", "callees main e 0", "callees main e -1", "alias main p main x", "alias main p main null", "alias main z main p", "points main x", "points main null", "points f x", "all"),
			"1 0\n2 0\n3 0\n4 0\n  cut 0\n5 0\n  cut\n6 0\n  main\n7 4\n8 4\n9 0\n  yes\n10 0\n  no\n11 4\n12 0\n  main:p+0\n13 0\n14 4\n15 0\n  cut\n  main:p = main:p+0\n  main:x = main:p+0\n  main:e+1 -> main\n"},
		{"program\n|func main() {\n| -\nrun\nall\nalias a b c d\ncallees a b 0\nstatus", "1 0\n2 30\n  rejected 2 2 0 0 0 0\n3 5\n4 5\n5 5\n6 0\n  rejected\n"},
		{"program\n|func main() {\n|e:\n|ret\n|l:\n|ret\n|}\nrun", "1 0\n2 5\n  rejected 0 0 18 0 1 0\n"},
		{"all\nalias a b c d\ncallees a b 0\npicks 1\nbudget 3", "1 8\n2 8\n3 8\n4 0\n5 0\n"},
		// What is told behind a run is of that run, whatever was set since.
		{lines("program", "|func main() {", "|e:", "|p = alloca 1", "|ret", "|}", "budget 9", "run", "program", "budget 0", "points main p", "run", "points main p"),
			"1 0\n2 0\n3 0\n  complete " + strconv.Itoa(o.Steps()) + "\n4 0\n5 0\n6 0\n  main:p+0\n7 5\n  rejected 0 0 1 0 0 0\n8 5\n"},
	} {
		if s, line, e := play.Run(x.text); s != x.want || line != 0 || e != api.OK {
			t.Errorf("%q:\n%s%d, %v; want\n%s", x.text, s, line, e, x.want)
		}
	}
}

// player tells scripts by the calls of the layers below.
func player(l []play.Cmd) string {
	var o *anytime.Outcome
	var text string
	var picks []int
	budget := 0
	out := ""
	for k, c := range l {
		var e api.Errno
		var told []string
		switch c.Op {
		case 'p':
			text = c.Text
		case 'k':
			picks = c.Nums
		case 'b':
			budget = c.Nums[0]
		case 'r':
			o = anytime.Run(text, picks, budget)
			var spot api.Spot
			var w api.Wrong
			spot, e, w = o.Err()
			n := []int{o.Steps()}
			if o.Status() == api.Rejected {
				n = []int{spot.Line, spot.Col, int(w.Rule), w.At.Func, w.At.Block, w.At.At}
			}
			line := []string{"rejected", "complete", "cut"}[o.Status()]
			for _, x := range n {
				line += " " + strconv.Itoa(x)
			}
			told = []string{line}
		case 's':
			told = []string{[]string{"rejected", "complete", "cut"}[o.Status()]}
		case 'a':
			var s string
			if s, e = ask.All(o); e == api.OK {
				told = strings.Split(strings.TrimSuffix(s, "\n"), "\n")
			}
		case 'o':
			told, e = ask.PointsTo(o, c.Words[0], c.Words[1])
		case 'l':
			var is bool
			if is, e = ask.Alias(o, c.Words[0], c.Words[1], c.Words[2], c.Words[3]); e == api.OK {
				told = []string{map[bool]string{true: "yes", false: "no"}[is]}
			}
		case 'c':
			told, e = ask.Callees(o, c.Words[0], c.Words[1], c.Nums[0])
		}
		out += strconv.Itoa(k+1) + " " + strconv.Itoa(int(e)) + "\n"
		for _, x := range told {
			out += "  " + x + "\n"
		}
	}
	return out
}

func TestSamples(t *testing.T) {
	d := sample.Throw(29)
	for seed := range 300 {
		p := sample.Program(seed, sample.Small())
		text, _ := show.Print(p)
		if d.Below(5) == 0 {
			text = strings.Replace(text, "ret", "rett", 1)
		}
		fn := func() string { return []string{"main", "f0", "f1", "f2"}[d.Below(4)] }
		v := func() string { return []string{"v1", "v2", "v3", "p0", "null", "v9"}[d.Below(6)] }
		var l []play.Cmd
		for range 3 + d.Below(12) {
			switch d.Below(10) {
			case 0:
				l = append(l, play.Cmd{Op: 'p', Text: text})
			case 1:
				var picks []int
				for range d.Below(30) {
					picks = append(picks, d.Below(20)-2)
				}
				l = append(l, play.Cmd{Op: 'k', Nums: picks})
			case 2:
				l = append(l, play.Cmd{Op: 'b', Nums: []int{[]int{0, 60, 1 << 40}[d.Below(3)]}})
			case 3, 4:
				l = append(l, play.Cmd{Op: 'r'})
			case 5:
				l = append(l, play.Cmd{Op: 's'})
			case 6:
				l = append(l, play.Cmd{Op: 'a'})
			case 7:
				l = append(l, play.Cmd{Op: 'o', Words: []string{fn(), v()}})
			case 8:
				l = append(l, play.Cmd{Op: 'l', Words: []string{fn(), v(), fn(), v()}})
			case 9:
				l = append(l, play.Cmd{Op: 'c', Words: []string{fn(), "b" + strconv.Itoa(d.Below(3))}, Nums: []int{d.Below(5)}})
			}
		}
		script, e := play.Print(l)
		if e != api.OK {
			t.Fatal(e)
		}
		want := player(l)
		if s, line, e := play.Run(script); s != want || line != 0 || e != api.OK {
			t.Fatalf("%s:\n%s, want\n%s", script, s, want)
		}
		if s, _, _ := play.Run(script + "\nstatus\nrun\nall\n"); !strings.HasPrefix(s, want) {
			t.Fatal("what stands behind changes what was told")
		}
	}
}
