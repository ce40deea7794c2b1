package desk_test

import (
	"math/rand/v2"
	"regexp"
	"strconv"
	"strings"
	"testing"

	"nuncio/api"
	"nuncio/bisect"
	"nuncio/blake"
	"nuncio/desk"
	"nuncio/forms"
	"nuncio/relay"
)

// table is the document's.
const table = `new A B
pay I from to denom N
send I from to denom N T
block I W
relay I
height I
clock
balance I account denom
supply I denom
show I
watch I A B P D
follow H
trusted
header H`

// shapes are what lines look like, by their first words.
func shapes() map[string]*regexp.Regexp {
	all := map[string]*regexp.Regexp{}
	for _, row := range strings.Split(table, "\n") {
		words := strings.Split(row, " ")
		shape := `(?s)^` + words[0]
		for _, w := range words[1:] {
			if w == strings.ToUpper(w) {
				shape += ` ([0-9]{1,9})`
			} else {
				shape += ` ([^ ]+)`
			}
		}
		all[words[0]] = regexp.MustCompile(shape + `$`)
	}
	return all
}

// plain is a desk told plainly, upon layers 16 and 23.
type plain struct {
	shapes map[string]*regexp.Regexp
	w      *relay.World
	c      *bisect.Client
	of     int // the chain that is watched
}

// words are those of a line behind the first one, if it is a line at all.
func (p *plain) words(line string) (first string, w []string) {
	for first, shape := range p.shapes {
		if m := shape.FindStringSubmatch(line); m != nil {
			return first, m[1:]
		}
	}
	return "", nil
}

func figures(w string) int {
	n, _ := strconv.Atoi(w)
	return n
}

func (p *plain) do(line string) (string, api.Errno) {
	first, w := p.words(line)
	switch {
	case first == "":
		return "", api.ErrArg
	case first == "new":
		world, e := relay.New(figures(w[0]), figures(w[1]))
		if e == api.OK {
			p.w, p.c = world, nil
		}
		return "ok", e
	case p.w == nil:
		return "", api.ErrRelay
	case first == "clock":
		return strconv.Itoa(p.w.Clock()), api.OK
	case first == "follow", first == "trusted", first == "header":
		if p.c == nil {
			return "", api.ErrFetch
		}
		return p.watched(first, w)
	case p.w.Chain(figures(w[0])) == nil:
		return "", api.ErrRelay
	}
	return p.at(figures(w[0]), first, w[1:])
}

// watched is what is asked of the watch.
func (p *plain) watched(first string, w []string) (string, api.Errno) {
	switch first {
	case "follow":
		e := p.c.Goal(figures(w[0]))
		for e == api.OK && p.c.Want() > 0 {
			var l api.Light
			l, e = p.w.Chain(p.of).Light(p.c.Want())
			if e == api.OK {
				e = p.c.Give(l, float64(p.w.Clock()))
			}
		}
		return strconv.Itoa(p.c.Fetches()), e
	case "trusted":
		text := ""
		for _, l := range p.c.Store() {
			text += " " + strconv.Itoa(l.Header.Height)
		}
		return text[1:], api.OK
	}
	for _, l := range p.c.Store() {
		if l.Header.Height == figures(w[0]) {
			h, e := forms.HeaderHash(l.Header)
			return blake.Text(h), e
		}
	}
	return "", api.ErrFetch
}

// at is what is asked of a chain, by the words behind it.
func (p *plain) at(i int, first string, w []string) (string, api.Errno) {
	c := p.w.Chain(i)
	switch first {
	case "pay":
		return "ok", p.w.Submit(i, api.Tx{Kind: api.Pay, From: w[0], To: w[1], Denom: w[2], Amount: uint64(figures(w[3]))})
	case "send":
		return "ok", p.w.Submit(i, api.Tx{Kind: api.Send, From: w[0], To: w[1], Denom: w[2], Amount: uint64(figures(w[3])), Timeout: figures(w[4])})
	case "block":
		e := p.w.Block(i, figures(w[0]))
		text := ""
		for _, r := range c.Results(c.Height()) {
			text += " " + strconv.Itoa(int(r))
		}
		return strings.TrimPrefix(text, " "), e
	case "relay":
		n, e := p.w.Relay(i)
		return strconv.Itoa(n), e
	case "height":
		return strconv.Itoa(c.Height()), api.OK
	case "watch":
		root, _ := c.Light(1)
		client, e := bisect.New(root, float64(p.w.Clock()), api.Options{Level: float64(figures(w[0])) / float64(figures(w[1])), Period: float64(figures(w[2])), Drift: float64(figures(w[3]))})
		if e == api.OK {
			p.c, p.of = client, i
		}
		return "ok", e
	}
	return stateOf(c.App().Entries(), first, w), api.OK
}

// stateOf is what entries say of what is asked.
func stateOf(l []api.Entry, first string, w []string) string {
	sum, text := 0, ""
	for _, e := range l {
		text += e.Key + "=" + e.Value + "\n"
		switch {
		case first == "balance" && e.Key == "bank/"+w[1]+"/"+w[0] && !strings.Contains(w[0], "/"):
			return e.Value
		case first == "supply" && strings.HasPrefix(e.Key, "bank/"+w[0]+"/") && strings.Count(e.Key, "/") == strings.Count(w[0], "/")+2:
			sum += figures(e.Value)
		}
	}
	if first == "show" {
		return text
	}
	return strconv.Itoa(sum)
}

// anyLine is a right one, most often, by what a desk's chains are.
func anyLine(r *rand.Rand) string {
	number := func(l ...int) string { return " " + strconv.Itoa(pick(r, l...)) }
	name := func() string {
		return " " + pick(r, "ann", "bob", "cid", "ann", "bob", "escrow", "?", "Ann", "seventeenletterss")
	}
	denom := func() string {
		return " " + pick(r, "coin", "gold", "a/coin", "b/gold", "coin", "gold", "a/coin", "b/gold", "/", "a/b/gold")
	}
	i := number(0, 1, 0, 1, 0, 1, 0, 1, 0, 1, 0, 1, 0, 1, 0, 1, 2, 999999999)
	amount := number(1, 2, 5, 30, 100, 400, 0, 999999999)
	switch r.IntN(40) {
	case 0:
		return "new" + number(1, 2, 3, 8, 1, 2, 3, 8, 0, 9) + number(1, 2, 3, 8)
	case 1, 2, 3:
		return "pay" + i + name() + name() + denom() + amount
	case 4, 5, 6, 7, 8, 9:
		return "send" + i + name() + name() + denom() + amount + number(2, 5, 9, 20, 90, 0)
	case 10, 11, 12, 13, 14, 15, 16, 17, 18, 19:
		return "block" + i + number(1, 2, 5, 20, 1000, 1, 2, 5, 20, 1, 0, 1001)
	case 20, 21, 22, 23, 24, 25, 26:
		return "relay" + i
	case 27:
		return "height" + i
	case 28:
		return "clock"
	case 29, 30:
		return "balance" + i + name() + denom()
	case 31:
		return "supply" + i + denom()
	case 32, 33:
		return "show" + i
	case 34, 35:
		return "watch" + i + number(1, 1, 1, 2, 3, 0) + number(1, 2, 3, 3, 2, 0) + number(100, 100000, 100000, 5, 0) + number(0, 1, 100)
	case 36, 37:
		return "follow" + number(2, 3, 4, 6, 8, 10, 12, 15, 20, 30, 40, 1, 999999999)
	case 38:
		return "trusted"
	}
	return "header" + number(0, 1, 2, 3, 4, 5, 6, 8, 10, 12, 15, 20)
}

// bent is a line that is changed at one place.
func bent(r *rand.Rand, line string) string {
	at := r.IntN(len(line) + 1)
	rest := min(at+1, len(line))
	switch r.IntN(5) {
	case 0:
		return line[:at]
	case 1:
		return line[:at] + line[rest:]
	case 2:
		return line[:at] + pick(r, " ", " ", "  ", "0", "9", "x", "\n", "\t", "-", "+", "\x00", "\xff", " 1", " x", "1 ", "000", "111111111") + line[at:]
	case 3:
		return line[:at] + pick(r, " ", "7", "a", "\t", ".") + line[rest:]
	}
	return pick(r, "new", "pay", "send", "block", "relay", "height", "clock", "balance", "supply", "show", "watch", "follow", "trusted", "header", "") + line[strings.IndexByte(line+" ", ' '):]
}

// trio are a desk, another one that is asked the same, and the plain one.
type trio struct {
	d, twin *desk.Desk
	p       *plain
	seen    map[string]int
}

func (x trio) play(t *testing.T, line string) {
	t.Helper()
	want, e := x.p.do(line)
	if e != api.OK {
		want = refused(e)
	}
	if got, other := told(t, x.d, line), told(t, x.twin, line); got != want || other != want {
		t.Fatalf("%q: %q and %q, not %q", line, got, other, want)
	}
	first, _ := x.p.words(line)
	x.seen[first+" "+strconv.Itoa(int(e))]++
}

// TestPlainly: any lines against O1 told plainly, at two desks that are asked the same.
func TestPlainly(t *testing.T) { // P24.1 (O1), P1, P2
	r := random()
	seen := map[string]int{}
	all := shapes()
	for range 120 {
		x := trio{d: desk.New(), twin: desk.New(), p: &plain{shapes: all}, seen: seen}
		for k := range 400 {
			line := anyLine(r)
			if k == 0 && r.IntN(20) > 0 {
				line = "new 3 2"
			} else if strings.HasPrefix(line, "new") && r.IntN(8) > 0 {
				continue
			} else if r.IntN(5) == 0 {
				line = bent(r, line)
			}
			times := 1
			if r.IntN(100) == 0 {
				times = 33 // which no pool takes
			}
			for range times {
				x.play(t, line)
			}
		}
	}
	for what, n := range map[string]int{
		"new 0": 100, "new 1": 20, " 1": 3000, "pay 0": 1000, "pay 231": 100, "send 0": 2000, "send 221": 20, "send 231": 100, "block 0": 5000, "block 1": 500, "block 231": 500, "relay 0": 4000, "relay 231": 500,
		"height 0": 300, "height 231": 50, "clock 0": 500, "clock 231": 10, "balance 0": 500, "balance 231": 50, "supply 0": 300, "supply 231": 50, "show 0": 1000, "show 231": 50,
		"watch 0": 200, "watch 151": 300, "watch 155": 100, "watch 231": 100, "follow 0": 100, "follow 153": 100, "follow 155": 5, "follow 161": 300, "follow 221": 200, "follow 231": 10, "trusted 0": 100, "trusted 161": 100, "header 0": 50, "header 161": 300, "header 231": 10,
	} {
		if seen[what] < n {
			t.Errorf("%q: %d times, not %d", what, seen[what], n)
		}
	}
}

// TestByLines: what is sent arrives, or comes back, by lines alone, and nothing comes from nothing.
func TestByLines(t *testing.T) { // P24.1, T5, T7
	r := random()
	for range 40 {
		d := world(t, "new "+strconv.Itoa(1+r.IntN(8))+" "+strconv.Itoa(1+r.IntN(8)))
		for range 60 {
			line := anyLine(r)
			if !strings.HasPrefix(line, "new") {
				told(t, d, line)
			}
		}
		for range 40 {
			all(t, d, "block 0 1", "relay 1", "block 1 1", "relay 0")
		}
		for i, own := range []string{"coin", "gold"} {
			here, there := strconv.Itoa(i), strconv.Itoa(1-i)
			if strings.Contains(told(t, d, "show "+here), "commit/") {
				// A timeout of 90 is ahead still: all others are closed.
				for range 60 {
					all(t, d, "block "+there+" 1")
				}
				all(t, d, "relay "+here, "block "+here+" 1")
			}
			if state := told(t, d, "show "+here); strings.Contains(state, "commit/") {
				t.Errorf("open at %s: %s", here, state)
			}
			play(t, d, "supply "+here+" "+own, "1000", "balance "+here+" escrow "+own, told(t, d, "supply "+there+" "+[]string{"a/", "b/"}[i]+own))
		}
	}
}
