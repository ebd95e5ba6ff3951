package play

import (
	"strconv"
	"strings"

	"gnomon/api"
)

// kind is a kind of command: its word, how many words and numbers stand behind it, whether it has a text, and what it does.
type kind struct {
	word        string
	op          byte
	words, nums int
	text        bool
	do          func(p *player, c Cmd)
}

const (
	anyCount = -1
	maxNum   = 1 << 62
)

// kinds are all kinds of commands.
func kinds() []kind {
	return []kind{
		{word: "program", op: 'p', text: true, do: func(p *player, c Cmd) { p.keep(func() { p.text = c.Text }) }},
		{word: "picks", op: 'k', nums: anyCount, do: func(p *player, c Cmd) { p.keep(func() { p.picks = c.Nums }) }},
		{word: "budget", op: 'b', nums: 1, do: func(p *player, c Cmd) { p.keep(func() { p.budget = c.Nums[0] }) }},
		{word: "run", op: 'r', do: (*player).run},
		{word: "status", op: 's', do: (*player).status},
		{word: "all", op: 'a', do: (*player).all},
		{word: "points", op: 'o', words: 2, do: (*player).points},
		{word: "alias", op: 'l', words: 4, do: (*player).alias},
		{word: "callees", op: 'c', words: 2, nums: 1, do: (*player).callees},
	}
}

// read reads what stands behind a command's word.
func (k kind) read(line int, words []string) Cmd {
	if len(words) < k.words || k.nums != anyCount && len(words) != k.words+k.nums {
		panic(fault{line, api.ErrLine})
	}
	c := Cmd{Op: k.op}
	for i, w := range words {
		if i < k.words {
			c.Words = append(c.Words, strings.Clone(w))
			continue
		}
		n, is := number(w)
		if !is {
			panic(fault{line, api.ErrLine})
		}
		c.Nums = append(c.Nums, n)
	}
	return c
}

// number reads one, which has one form alone.
func number(s string) (int, bool) {
	n, err := strconv.ParseInt(s, 10, 64)
	if err != nil || n > maxNum || n < -maxNum || digits(int(n)) != s {
		return 0, false
	}
	return int(n), true
}

// digits tells numbers, a blank between two.
func digits(l ...int) string {
	var b strings.Builder
	for i, n := range l {
		if i > 0 {
			b.WriteByte(' ')
		}
		b.WriteString(strconv.Itoa(n))
	}
	return b.String()
}

// fits tells whether a command may be told as a line of its kind.
func (k kind) fits(c Cmd) bool {
	if len(c.Words) != k.words || k.nums != anyCount && len(c.Nums) != k.nums {
		return false
	}
	for _, w := range c.Words {
		if w == "" || strings.ContainsAny(w, " \t\r\n") {
			return false
		}
	}
	for _, n := range c.Nums {
		if n > maxNum || n < -maxNum {
			return false
		}
	}
	return c.Text == "" || k.text && strings.HasSuffix(c.Text, "\n")
}

func (k kind) print(b *strings.Builder, c Cmd) {
	words := append([]string{k.word}, c.Words...)
	if len(c.Nums) > 0 {
		words = append(words, digits(c.Nums...))
	}
	b.WriteString(strings.Join(words, " ") + "\n")
	for line := range strings.Lines(c.Text) {
		b.WriteString("|" + line)
	}
}
