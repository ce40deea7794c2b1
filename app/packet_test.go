package app_test

import (
	"maps"
	"math"
	"slices"
	"strings"
	"testing"

	"nuncio/api"
	"nuncio/app"
)

// arrival is a packet's data, and what the app of rich has behind it: other entries of the bank, and the answer.
type arrival struct {
	data   string
	has    []string
	answer string
}

// rich is an app of chain a: escrow has 10 coin and 5 a/coin, eve has gold of chain b, and cid all crowns of it that may be.
func rich(t *testing.T, l []api.Entry) *app.App {
	t.Helper()
	first := []api.Packet{
		{Seq: 901, From: "b", Data: dataOf("gold", 60, "bob", "eve"), Timeout: 50},
		{Seq: 902, From: "b", Data: dataOf("crown", math.MaxUint64-3, "bob", "cid"), Timeout: 50},
	}
	ahead := commitsOf(first...)
	a := home(t, states{3: ahead, 4: l})
	expect(t, "Grant", a.Grant("ann", "a/coin", 5), api.OK)
	run(t, a, send("ann", "bob", "coin", 10, 9), api.OK)
	run(t, a, send("ann", "bob", "a/coin", 5, 9), api.OK)
	for _, p := range first {
		run(t, a, receive(p, 3, ahead), api.OK)
	}
	return a
}

// arrivals are all ways in which a packet may be answered.
func arrivals() []arrival {
	long := strings.Repeat("z", 38)
	yes := func(data string, has ...string) arrival { return arrival{data, has, "ok"} }
	no := func(data string) arrival { return arrival{data, nil, "no"} }
	l := []arrival{
		yes(dataOf("gold", 6, "bob", "ann"), "bank/b/gold/ann", "6"),
		yes(dataOf("gold", 6, "bob", "eve"), "bank/b/gold/eve", "66"),
		yes(dataOf("x/y", 1, "bob", "escrows"), "bank/b/x/y/escrows", "1"),
		yes(dataOf("b/gold", 6, "", "ann"), "bank/b/b/gold/ann", "6"),
		yes(dataOf("aa/coin", 6, "escrow", "ann"), "bank/b/aa/coin/ann", "6"),
		yes(dataOf("a", 6, "no name", "ann"), "bank/b/a/ann", "6"),
		yes(dataOf("b", 6, strings.Repeat("f", 200), "ann"), "bank/b/b/ann", "6"),
		yes(dataOf("coin", 6, "bob", "ann"), "bank/b/coin/ann", "6"),
		yes(dataOf("c/a/coin", 6, "bob", "ann"), "bank/b/c/a/coin/ann", "6"),
		yes(dataOf(long, math.MaxUint64, "bob", "ann"), "bank/b/"+long+"/ann", "18446744073709551615"),
		yes(dataOf("crown", 3, "bob", "ann"), "bank/b/crown/ann", "3"),
		yes(dataOf("a/coin", 1, "bob", "bob"), "bank/coin/bob", "1", "bank/coin/escrow", "9"),
		yes(dataOf("a/coin", 10, "bob", "ann"), "bank/coin/ann", "100", "bank/coin/escrow", ""),
		yes(dataOf("a/a/coin", 4, "bob", "ann"), "bank/a/coin/ann", "4", "bank/a/coin/escrow", "1"),
		no(dataOf("gold", 6, "bob", "escrow")), no(dataOf("a/coin", 6, "bob", "escrow")), no(dataOf("/", 0, "bob", "escrow")),
		no(dataOf("gold", 0, "bob", "ann")), no(dataOf("a/coin", 0, "bob", "ann")),
		no(dataOf("crown", 4, "bob", "ann")), no(dataOf("crown", math.MaxUint64, "bob", "ann")),
		no(dataOf("a/coin", 11, "bob", "ann")), no(dataOf("a/coin", math.MaxUint64, "bob", "ann")),
		no(dataOf("a/a/coin", 6, "bob", "ann")), no(dataOf("a/a/a/coin", 1, "bob", "ann")), no(dataOf("a/none", 1, "bob", "ann")),
		no(dataOf("a/b/gold", 1, "bob", "ann")), no(dataOf("a/", 1, "bob", "ann")), no(dataOf("a//coin", 1, "bob", "ann")), no(dataOf(long+"z", 1, "bob", "ann")),
		no(""), no("?"), no(strings.Repeat("\x00", 13)), no(strings.Repeat("\x00", 15)), no(strings.Repeat("\xff", api.MaxData)),
	}
	for _, account := range wrongAccounts {
		if len(account) < 100 {
			l = append(l, no(dataOf("gold", 6, "bob", account)), no(dataOf("a/coin", 6, "bob", account)))
		}
	}
	for _, denom := range wrongDenoms {
		if len(denom) > 100 {
			continue
		}
		l = append(l, no(dataOf("a/"+denom, 6, "bob", "ann")))
		if denom == "/coin" { // behind the other chain's name and a slash it may be
			l = append(l, yes(dataOf(denom, 6, "bob", "ann"), "bank/b//coin/ann", "6"))
			continue
		}
		l = append(l, no(dataOf(denom, 6, "bob", "ann")))
	}
	for _, whole := range []string{dataOf("gold", 6, "bob", "ann"), dataOf("a/coin", 6, "bob", "ann")} {
		for n := range len(whole) {
			l = append(l, no(whole[:n]), no(whole[n+1:]))
		}
		l = append(l, no(whole+"\x00"), no(whole+whole), no("\x00"+whole))
	}
	return l
}

// TestReceive: what the data says is done, or nothing of it; the packet is received and answered in both cases, once.
func TestReceive(t *testing.T) { // P21.1 (Z2), P21.3
	var all []api.Packet
	for i, x := range arrivals() {
		all = append(all, api.Packet{Seq: i + 1, From: "b", Data: x.data, Timeout: 20})
	}
	l := commitsOf(all...)
	first := rich(t, l)
	for i, x := range arrivals() {
		a, p := first.Copy(), all[i]
		runAt(t, a, receive(p, 4, l), 20, late, api.ErrTimeout)
		runAt(t, a, receive(p, 4, l), 19, late, api.OK)
		has := append(slices.Clone(x.has), numbered("receipt", p.Seq), "1", numbered("answer", p.Seq), x.answer)
		if want := changed(first.Entries(), has...); !slices.Equal(a.Entries(), want) {
			t.Errorf("%q: %v, not %v", x.data, a.Entries(), want)
		}
		runAt(t, a, receive(p, 4, l), 19, late, api.ErrDone)
		if len(a.Sent()) != 2 {
			t.Errorf("%q: %v", x.data, a.Sent())
		}
	}
}

// changed are entries some of which have other values; one without a value is not there.
func changed(l []api.Entry, has ...string) []api.Entry {
	var all []string
	for _, e := range l {
		if !slices.Contains(has, e.Key) {
			all = append(all, e.Key, e.Value)
		}
	}
	for i := 0; i+1 < len(has); i += 2 {
		if has[i+1] != "" {
			all = append(all, has[i], has[i+1])
		}
	}
	return entries(all...)
}

// TestReceiveSelf: the block's own height counts, not that of the proof.
func TestReceiveSelf(t *testing.T) { // P21.1 (Z2)
	p := api.Packet{Seq: 5, From: "b", Data: dataOf("gold", 6, "bob", "ann"), Timeout: 2}
	l := commitsOf(p)
	for height, want := range map[int]api.Errno{math.MinInt: api.OK, 0: api.OK, 1: api.OK, 2: api.ErrTimeout, 3: api.ErrTimeout, 7: api.ErrTimeout, math.MaxInt: api.ErrTimeout} {
		a := home(t, states{7: l})
		runAt(t, a, receive(p, 7, l), height, math.NaN(), want)
	}
}

// closing is what closes a packet, and gives back what was sent or does not.
type closing struct {
	name string
	back bool
	run  func(p api.Packet) api.Tx
}

// shore are the states of chain b in which the packets 1 to 20 are not received, or answered in some way. Between their heights are others, so that no block names the one ahead.
func shore() states {
	all := states{10: entries("other", "1")}
	for i, answer := range []string{"ok", "no", "x"} {
		var l []string
		for seq := 1; seq <= 20; seq++ {
			l = append(l, numbered("answer", seq), answer, numbered("receipt", seq), "1")
		}
		all[12+2*i] = entries(l...)
	}
	return all
}

func closings() []closing {
	all := shore()
	return []closing{
		{"expired", true, func(p api.Packet) api.Tx { return expire(p, 10, all[10]) }},
		{"ok", false, func(p api.Packet) api.Tx { return acknowledge(p, "ok", 12, all[12]) }},
		{"no", true, func(p api.Packet) api.Tx { return acknowledge(p, "no", 14, all[14]) }},
		{"x", false, func(p api.Packet) api.Tx { return acknowledge(p, "x", 16, all[16]) }},
	}
}

// sender is an app of chain a that knows chain b's height 8 alone: ann has 100 coin, 100 bb/gold and 100 b/gold.
func sender(t *testing.T) *app.App {
	t.Helper()
	gold := api.Packet{Seq: 7, From: "b", Data: dataOf("gold", 100, "bob", "ann"), Timeout: 50}
	l := commitsOf(gold)
	a := home(t, states{8: l})
	expect(t, "Grant", a.Grant("ann", "bb/gold", 100), api.OK)
	run(t, a, receive(gold, 8, l), api.OK)
	return a
}

// learn takes in chain b's blocks of shore.
func learn(t *testing.T, a *app.App) {
	t.Helper()
	all := shore()
	for _, h := range slices.Sorted(maps.Keys(all)) {
		run(t, a, api.Tx{Kind: api.Update, Light: block("b", h, api.Hash{}, all[h])}, api.OK)
	}
}

// TestClose: a packet is closed once; a no and its time give back what was sent, other answers do not.
func TestClose(t *testing.T) { // P21.1 (Z2), P21.3
	for _, denom := range []string{"coin", "bb/gold", "b/gold"} {
		for _, c := range closings() {
			a := sender(t)
			start := a.Entries()
			run(t, a, send("ann", "bob", denom, 30, 9), api.OK)
			run(t, a, send("ann", "cid", denom, 4, 9), api.OK)
			p := a.Sent()
			learn(t, a)
			run(t, a, c.run(p[0]), api.OK)
			has := []string{numbered("commit", 2), textOf(p[1])}
			if c.back {
				has = append(has, stands(denom, "96", "4")...)
			} else {
				has = append(has, stands(denom, "66", "34")...)
			}
			if want := changed(start, has...); !slices.Equal(a.Entries(), want) {
				t.Errorf("%s, %s: %v, not %v", denom, c.name, a.Entries(), want)
			}
			for _, again := range closings() {
				run(t, a, again.run(p[0]), api.ErrDone)
			}
			if !slices.Equal(a.Sent(), p) {
				t.Errorf("%v, not %v", a.Sent(), p)
			}
		}
	}
}

// stands is what ann has of a denom, and escrow if it is not of the other chain.
func stands(denom, ann, escrow string) []string {
	l := []string{"bank/" + denom + "/ann", ann}
	if denom != "b/gold" {
		l = append(l, "bank/"+denom+"/escrow", escrow)
	}
	return l
}

// TestBackOverflow: what can't come back, since there is too much of it by now, stays sent till it can.
func TestBackOverflow(t *testing.T) { // P21.1 (Z2), P21.2
	more := api.Packet{Seq: 8, From: "b", Data: dataOf("gold", math.MaxUint64-95, "bob", "cid"), Timeout: 50}
	l := commitsOf(more)
	for _, c := range closings() {
		a := sender(t)
		run(t, a, send("ann", "bob", "b/gold", 5, 9), api.OK)
		p := a.Sent()[0]
		learn(t, a)
		run(t, a, api.Tx{Kind: api.Update, Light: block("b", 30, api.Hash{}, l)}, api.OK)
		run(t, a, receive(more, 30, l), api.OK)
		supplies(t, a.Bank(), "b/gold", math.MaxUint64)
		if !c.back {
			run(t, a, c.run(p), api.OK)
			continue
		}
		run(t, a, c.run(p), api.ErrOverflow)
		run(t, a, send("cid", "bob", "b/gold", 4, 40), api.OK)
		run(t, a, c.run(p), api.ErrOverflow)
		run(t, a, send("cid", "bob", "b/gold", 1, 40), api.OK)
		run(t, a, c.run(p), api.OK)
		supplies(t, a.Bank(), "b/gold", math.MaxUint64)
		run(t, a, c.run(p), api.ErrDone)
	}
}

// TestBackBalance: so does what escrow has no more, as another chain may say of more than was ever sent to it.
func TestBackBalance(t *testing.T) { // P21.1 (Z2), P21.2
	taken := api.Packet{Seq: 8, From: "b", Data: dataOf("a/coin", 28, "bob", "cid"), Timeout: 50}
	l := commitsOf(taken)
	for _, c := range closings() {
		a := sender(t)
		run(t, a, send("ann", "bob", "coin", 30, 9), api.OK)
		p := a.Sent()[0]
		learn(t, a)
		run(t, a, api.Tx{Kind: api.Update, Light: block("b", 30, api.Hash{}, l)}, api.OK)
		run(t, a, receive(taken, 30, l), api.OK)
		if !c.back {
			run(t, a, c.run(p), api.OK)
			continue
		}
		run(t, a, c.run(p), api.ErrBalance)
		run(t, a, send("cid", "bob", "coin", 27, 40), api.OK)
		run(t, a, c.run(p), api.ErrBalance)
		run(t, a, send("cid", "bob", "coin", 1, 40), api.OK)
		run(t, a, c.run(p), api.OK)
		if b := a.Bank(); b.Balance("ann", "coin") != 100 || b.Balance("escrow", "coin") != 0 {
			t.Errorf("%v", b.Entries())
		}
		run(t, a, c.run(p), api.ErrDone)
	}
}
