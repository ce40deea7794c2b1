package desk_test

import (
	"slices"
	"strconv"
	"strings"
	"testing"

	"nuncio/api"
	"nuncio/desk"
)

// wrongEverywhere: to each of these lines the answer is ErrArg, with a world and without one, and nothing happens.
func wrongEverywhere(t *testing.T, l ...string) {
	t.Helper()
	seed(func() *desk.Desk { return busy(t) }).unchanged(t, func(d *desk.Desk) {
		none := desk.New()
		for _, line := range l {
			play(t, d, line, refused(api.ErrArg))
			play(t, none, line, refused(api.ErrArg))
		}
		play(t, none, "clock", refused(api.ErrRelay))
	})
}

// TestFirstWords: what is none of the first words is ErrArg.
func TestFirstWords(t *testing.T) { // P24.1 (O1), rules 2 and 3
	wrongEverywhere(t, "", " ", "  ", "nothing", "News 3 4", "NEW 3 4", "ne 3 4", "neww 3 4", "clocks", "cloc", "Clock", "clock\n", "\tclock", "clock\x00", "\xff", "3", "0 1", "ok", "quit", "help",
		"mint 0 ann coin 5", "grant 0 ann coin 5", "burn 0 ann coin 5", "powers 0 1 2", "update 0", "receive 0 1", "expire 0 1", "acknowledge 0 1", "N", "I", "i")
}

// TestHowManyWords: with a word more, or less, a line is ErrArg.
func TestHowManyWords(t *testing.T) { // P24.1 (O1)
	var l []string
	for _, line := range lines() {
		w := strings.Split(line, " ")
		for n := 1; n < len(w); n++ {
			l = append(l, strings.Join(w[:n], " "))
		}
		for _, more := range []string{"0", "x", "0 0", "a b c d e f g h", strings.Repeat("1 ", 1000)} {
			l = append(l, line+" "+more)
		}
	}
	wrongEverywhere(t, l...)
}

// TestBlanks: between each two words there is one blank, and none elsewhere.
func TestBlanks(t *testing.T) { // P24.1 (O1)
	var l []string
	for _, line := range lines() {
		l = append(l, " "+line, line+" ", line+"  ", "\t"+line, "\n"+line)
		if w := strings.Fields(line); len(w) == 1 || isNumber(w[0], len(w)-1) {
			l = append(l, line+"\n", line+"\t", line+"\r\n")
		}
		for i := range len(line) {
			if line[i] == ' ' {
				l = append(l, line[:i]+" "+line[i:], line[:i]+"  "+line[i:], line[:i]+"\t"+line[i+1:], line[:i]+"\u00a0"+line[i+1:], line[:i]+line[i+1:])
			}
		}
	}
	// A word without bytes is none, even where there are just as many then.
	l = append(l, "pay 0  bob coin 5", "pay 0 ann  coin 5", "pay 0 ann bob  5", "send 0  bob coin 5 20", "send 0 ann  coin 5 20", "send 0 ann bob  5 20",
		"balance 0  coin", "balance 0 ann ", "balance 0  ", "supply 0 ", "height ", "new  4", "new 3 ", "new  ", "block 0 ", "follow ", "header ", "watch 0 1  2 3", "watch 0 1 2 3 ")
	wrongEverywhere(t, l...)
}

// TestNumbers: 1 to 9 figures, wherever there is a number.
func TestNumbers(t *testing.T) { // P24.1 (O1)
	var l []string
	for _, line := range lines() {
		w := strings.Split(line, " ")
		for i := range w {
			if !isNumber(w[0], i) {
				continue
			}
			for _, wrong := range []string{"1234567890", "0000000001", "9999999999", strings.Repeat("1", 1000), "-1", "+1", "-0", "1.0", "1e3", "0x1", "1_0", "a", "1a", "a1", "/", ":", "\u0661", "\uff11", "1\n", "\x001", "I", "N", "''", "NaN"} {
				l = append(l, strings.Join(slices.Concat(w[:i], []string{wrong}, w[i+1:]), " "))
			}
		}
	}
	wrongEverywhere(t, l...)
}

// TestFigures: any 9 figures are a number, noughts ahead too.
func TestFigures(t *testing.T) { // P24.1 (O1)
	d := world(t, "new 000000003 4")
	play(t, d,
		"height 000000001", "1", "block 0 01", "", "height 00", "2",
		"pay 0 ann bob coin 000000010", "ok", "block 0 001", "0", "balance 0 bob coin", "10",
		"pay 0 ann bob coin 000000000", "ok", "pay 0 ann bob coin 999999999", "ok", "block 0 1", "1 181",
		"pay 0 ann bob coin 123456789", "ok", "send 0 ann bob coin 1 999999999", "ok", "send 0 ann bob coin 990 2", "ok", "block 0 1", "181 0 181")
}

// TestAnyWords: names and denoms are any words; what they are is said later on.
func TestAnyWords(t *testing.T) { // P24.1 (O1)
	for _, word := range []string{"?", "0", "1234567890", "-", "\x00", "\xff\xfe", "\n", "\t", "Ann", "bank/coin/ann=", "=", "\u00a0", "new", "a//b", "/", strings.Repeat("a", 5000)} {
		d := world(t, "new 1 1")
		play(t, d,
			"balance 0 "+word+" coin", "0", "balance 0 ann "+word, "0", "supply 0 "+word, "0",
			"pay 0 "+word+" bob coin 5", "ok", "pay 0 ann "+word+" coin 5", "ok", "pay 0 ann bob "+word+" 5", "ok",
			"send 0 "+word+" bob coin 5 9", "ok", "send 0 ann bob "+word+" 5 9", "ok")
		name := "183 183 183 183 183"
		if word == "new" {
			name = "181 0 181 0 181" // that is an account, and a denom
		} else if word == "a//b" {
			name = "183 183 181 183 181"
		}
		play(t, d, "block 0 1", name)
	}
	d := world(t, "new 1 1", "send 0 ann ? coin 5 9", "send 0 ann \xff\x00 coin 5 9", "send 0 ann "+strings.Repeat("a", 300)+" coin 5 9", "send 0 ann "+strings.Repeat("a", 5000)+" coin 5 9")
	play(t, d, "block 0 1", "0 0 61 61", "relay 1", "3", "block 1 1", "0 0 0", "relay 0", "3", "block 0 1", "0 0 0", "balance 0 ann coin", "1000")
}

// TestLong: a line is looked at no further than to tell that it has too many words.
func TestLong(t *testing.T) { // P1
	d := world(t, "new 1 1")
	for _, part := range []string{" ", "  ", "a ", "0 ", "clock ", "x"} {
		long := strings.Repeat(part, 1<<22)
		play(t, d, long, refused(api.ErrArg), "clock "+long, refused(api.ErrArg), "new 1 1 "+long, refused(api.ErrArg), "new 1 "+long, refused(api.ErrArg))
	}
	play(t, d, "balance 0 ann "+strings.Repeat("x", 1<<22), "0", "clock", "10")
}

// TestNoWorld: without a world all but new is ErrRelay.
func TestNoWorld(t *testing.T) { // P24.1 (O1), rules 1 to 3
	d := desk.New()
	for range 2 {
		for _, line := range lines()[1:] {
			play(t, d, line, refused(api.ErrRelay))
		}
		play(t, d, "height 2", refused(api.ErrRelay), "block 0 0", refused(api.ErrRelay), "watch 0 0 0 0 0", refused(api.ErrRelay), "follow 0", refused(api.ErrRelay), "header 0", refused(api.ErrRelay),
			"new 0 1", refused(api.ErrArg), "new 9 1", refused(api.ErrArg))
	}
	play(t, d, "new 1 1", "ok", "clock", "10")
}

// TestNoChain: where there is no such chain it is ErrRelay, ahead of all but wrong words.
func TestNoChain(t *testing.T) { // P24.1 (O1), rules 1 to 3
	var l []string
	for _, line := range lines() {
		w := strings.Split(line, " ")
		if len(w) < 2 || !isChain(w[0], 1) {
			continue
		}
		for _, at := range []string{"2", "3", "10", "256", "4294967296"[:9], "999999999", "002"} {
			w[1] = at
			l = append(l, strings.Join(w, " "))
		}
	}
	l = append(l, "block 2 0", "block 2 1001", "watch 2 0 0 0 0", "pay 2 escrow ? ? 0", "send 2 escrow ? ? 0 0")
	if len(l) != 9*7+5 {
		t.Errorf("%d lines", len(l))
	}
	seed(func() *desk.Desk { return busy(t) }).unchanged(t, func(d *desk.Desk) {
		for _, line := range l {
			play(t, d, line, refused(api.ErrRelay), line+"x x", refused(api.ErrArg), line+" x", refused(api.ErrArg))
		}
	})
}

// TestNil: a nil desk answers ErrArg, to whatever line.
func TestNil(t *testing.T) { // P24.1 (O1), rule 8
	var d *desk.Desk
	for _, line := range append(lines(), "", "nothing", "height 2", "new 0 0") {
		play(t, d, line, refused(api.ErrArg))
	}
	var none desk.Desk // one that New did not give is one without a world
	play(t, &none, "clock", refused(api.ErrRelay), "nothing", refused(api.ErrArg), "new 1 1", "ok", "clock", "10")
}

// TestSevenWords: no first word of a line is another's, by any count of words.
func TestSevenWords(t *testing.T) { // P24.1 (O1)
	for _, line := range lines() {
		first, _, _ := strings.Cut(line, " ")
		for n := range 9 {
			d := busy(t)
			got := told(t, d, first+strings.Repeat(" 1", n))
			if right := n == len(strings.Fields(line))-1; (got == refused(api.ErrArg)) == right {
				t.Errorf("%s with %s words: %q", first, strconv.Itoa(n), got)
			}
		}
	}
}
