package play

import (
	"strings"

	"gnomon/anytime"
	"gnomon/api"
	"gnomon/ask"
)

// player does commands one behind the other, and gathers what is told of each.
type player struct {
	text    string
	picks   []int
	budget  int
	outcome *anytime.Outcome
	count   int
	told    strings.Builder
}

// Run does a script's commands.
func Run(text string) (string, int, api.Errno) {
	l, line, e := Parse(text)
	if e != api.OK {
		return "", line, e
	}
	p := &player{}
	does := map[byte]func(*player, Cmd){}
	for _, k := range kinds() {
		does[k.op] = k.do
	}
	for _, c := range l {
		p.count++
		does[c.Op](p, c)
	}
	return p.told.String(), 0, api.OK
}

// tell tells how a command ended, and lines behind it.
func (p *player) tell(e api.Errno, lines ...string) {
	p.told.WriteString(digits(p.count, int(e)) + "\n")
	for _, l := range lines {
		p.told.WriteString("  " + l + "\n")
	}
}

func (p *player) keep(set func()) {
	set()
	p.tell(api.OK)
}

// statusWord tells a status.
func statusWord(s api.Status) string {
	switch s {
	case api.Complete:
		return "complete"
	case api.Cut:
		return "cut"
	}
	return "rejected"
}

func (p *player) run(Cmd) {
	p.outcome = anytime.Run(p.text, p.picks, p.budget)
	spot, e, wrong := p.outcome.Err()
	rest := digits(p.outcome.Steps())
	if p.outcome.Status() == api.Rejected {
		rest = digits(spot.Line, spot.Col, int(wrong.Rule), wrong.At.Func, wrong.At.Block, wrong.At.At)
	}
	p.tell(e, statusWord(p.outcome.Status())+" "+rest)
}

func (p *player) status(Cmd) { p.tell(api.OK, statusWord(p.outcome.Status())) }

func (p *player) all(Cmd) {
	s, e := ask.All(p.outcome)
	var lines []string
	for l := range strings.Lines(s) {
		lines = append(lines, strings.TrimSuffix(l, "\n"))
	}
	p.tell(e, lines...)
}

func (p *player) points(c Cmd) {
	l, e := ask.PointsTo(p.outcome, c.Words[0], c.Words[1])
	p.tell(e, l...)
}

func (p *player) alias(c Cmd) {
	is, e := ask.Alias(p.outcome, c.Words[0], c.Words[1], c.Words[2], c.Words[3])
	switch {
	case e != api.OK:
		p.tell(e)
	case is:
		p.tell(e, "yes")
	default:
		p.tell(e, "no")
	}
}

func (p *player) callees(c Cmd) {
	l, e := ask.Callees(p.outcome, c.Words[0], c.Words[1], c.Nums[0])
	p.tell(e, l...)
}
