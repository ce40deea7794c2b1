package desk

import (
	"strings"

	"nuncio/api"
)

const (
	blank       = " "
	mostWords   = 7 // of the longest order, send
	mostFigures = 9
)

// The kinds of the words behind an order's first one.
const (
	aChain  = 'I'
	aNumber = 'N'
	aName   = 'n'
)

// anew is the one order that asks for no world.
const anew = "new"

// job is what a first word stands for.
type job struct {
	word  string
	kinds string // of the words behind it, in their order
	do    func(d *Desk, o order) (string, api.Errno)
}

// order is what a line asks for.
type order struct {
	job
	at      int // the chain's number
	numbers []int
	names   []string
}

func jobs() []job {
	return []job{
		{anew, "NN", (*Desk).begin},
		{"pay", "InnnN", (*Desk).pay},
		{"send", "InnnNN", (*Desk).send},
		{"block", "IN", (*Desk).block},
		{"relay", "I", (*Desk).relay},
		{"height", "I", (*Desk).height},
		{"clock", "", (*Desk).clock},
		{"balance", "Inn", (*Desk).balance},
		{"supply", "In", (*Desk).supply},
		{"show", "I", (*Desk).show},
		{"watch", "INNNN", (*Desk).look},
		{"follow", "N", (*Desk).follow},
		{"trusted", "", (*Desk).trusted},
		{"header", "N", (*Desk).header},
	}
}

// wrong is thrown at a word that may not be, and is the line's error.
type wrong api.Errno

// insist gives a line up, if one of its words is not right.
func insist(right bool) {
	if !right {
		panic(wrong(api.ErrArg))
	}
}

// read is what a line asks for. What is thrown at a wrong word ends here, ahead of anything being done.
func read(line string) (o order, e api.Errno) {
	defer func() {
		if thrown := recover(); thrown != nil {
			o, e = order{}, api.Errno(thrown.(wrong))
		}
	}()
	// However long a line is, one word more than the longest order has tells that it is none.
	words := strings.SplitN(line, blank, mostWords+1)
	o.job = jobOf(words[0])
	words = words[1:]
	insist(len(words) == len(o.kinds))
	for i, word := range words {
		o.take(o.kinds[i], word)
	}
	return o, api.OK
}

// jobOf is the one that a first word stands for.
func jobOf(word string) job {
	for _, j := range jobs() {
		if j.word == word {
			return j
		}
	}
	panic(wrong(api.ErrArg))
}

// take takes a word in, as one of its kind.
func (o *order) take(kind byte, word string) {
	switch kind {
	case aChain:
		o.at = number(word)
	case aNumber:
		o.numbers = append(o.numbers, number(word))
	case aName:
		insist(word != "") // there is nothing between two blanks
		o.names = append(o.names, word)
	}
}

func number(word string) int {
	insist(len(word) >= 1 && len(word) <= mostFigures)
	n := 0
	for i := range len(word) {
		figure := word[i]
		insist(figure >= '0' && figure <= '9')
		n = 10*n + int(figure-'0')
	}
	return n
}
