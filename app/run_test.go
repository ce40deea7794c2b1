package app_test

import (
	"math"
	"slices"
	"strings"
	"testing"

	"nuncio/api"
	"nuncio/app"
)

// TestKinds: no other kinds; all but two ask for a client.
func TestKinds(t *testing.T) { // P21.1 (Z2), P21.2, rule 1
	bare := begun(t, "a", "b")
	expect(t, "Grant", bare.Grant("ann", "coin", 9), api.OK)
	for _, a := range []*app.App{bare, home(t, states{3: nil})} {
		for _, kind := range []api.TxKind{math.MinInt, -1, 0, 8, 9, 256, 257, math.MaxInt} {
			for _, x := range anyKind() {
				x.Kind = kind
				run(t, a, x, api.ErrTx)
			}
		}
	}
	for _, kind := range []api.TxKind{api.Send, api.Update, api.Receive, api.Acknowledge, api.Expire} {
		for _, x := range append(anyKind(), api.Tx{From: "escrow"}) {
			x.Kind = kind
			run(t, bare, x, api.ErrRoot)
		}
	}
	run(t, bare, pay("ann", "bob", "coin", 4), api.OK)
	run(t, bare, api.Tx{Kind: api.Powers, Changes: []api.Validator{{Key: 3}}}, api.OK)
	shows(t, bare, "bank/coin/ann", "5", "bank/coin/bob", "4")
}

// TestUnused: a field that the kind does not use counts for nothing.
func TestUnused(t *testing.T) { // P21.1 (Z2)
	gold := api.Packet{Seq: 1, From: "b", Data: dataOf("gold", 6, "bob", "ann"), Timeout: 50}
	l := commitsOf(gold)
	full := api.Tx{
		From: "escrow", To: strings.Repeat("t", api.MaxText+1), Denom: "/", Amount: math.MaxUint64, Timeout: -1, Packet: api.Packet{Seq: -1}, Ack: "no", Height: -1,
		Proof: api.Proof{Size: -1}, Light: block("a", 4, api.Hash{}, nil), Changes: []api.Validator{{Power: -1}},
	}
	for _, x := range []api.Tx{
		pay("ann", "bob", "coin", 4), send("ann", "bob", "coin", 4, 9), receive(gold, 3, l),
		{Kind: api.Update, Light: block("b", 7, api.Hash{}, nil)}, {Kind: api.Powers, Changes: []api.Validator{{Key: 3}}},
	} {
		y := full
		y.Kind = x.Kind
		switch x.Kind {
		case api.Send:
			y.Timeout = x.Timeout
			fallthrough
		case api.Pay:
			y.From, y.To, y.Denom, y.Amount = x.From, x.To, x.Denom, x.Amount
		case api.Receive:
			y.Packet, y.Height, y.Proof = x.Packet, x.Height, x.Proof
		case api.Update:
			y.Light = x.Light
		case api.Powers:
			y.Changes = x.Changes
		}
		a := home(t, states{3: l})
		d := a.Copy()
		run(t, a, x, api.OK)
		run(t, d, y, api.OK)
		if !isSame(look(a), look(d)) {
			t.Errorf("kind %d: %+v, not %+v", x.Kind, look(d), look(a))
		}
	}
}

func TestPay(t *testing.T) { // P21.1 (Z2), P21.2
	a := home(t, states{3: nil})
	for _, denom := range []string{"coin/x", "a/coin"} {
		expect(t, "Grant", a.Grant("cid", denom, 5), api.OK)
	}
	run(t, a, pay("ann", "bob", "coin", 60), api.OK)
	run(t, a, pay("bob", "bob", "coin", 60), api.OK)
	run(t, a, pay("bob", "escrows", "coin", 1), api.OK)
	run(t, a, pay("ann", "bob", "coin", 40), api.OK)
	run(t, a, pay("cid", "ann", "a/coin", 2), api.OK)
	run(t, a, pay("cid", "b", "coin/x", 5), api.OK)
	shows(t, a, "bank/coin/bob", "99", "bank/coin/escrows", "1", "bank/a/coin/cid", "3", "bank/a/coin/ann", "2", "bank/coin/x/b", "5")
	run(t, a, send("bob", "ann", "coin", 9, 9), api.OK)
	for _, n := range []uint64{0, 1, 9, 10, math.MaxUint64} {
		for _, denom := range append(wrongDenoms, "coin", "none", "b/gold") {
			run(t, a, pay("escrow", "ann", denom, n), api.ErrName)
			run(t, a, pay("bob", "escrow", denom, n), api.ErrName)
			run(t, a, pay("escrow", "escrow", denom, n), api.ErrName)
			run(t, a, pay("", "escrow", denom, n), api.ErrName)
		}
		for _, wrong := range wrongAccounts {
			run(t, a, pay(wrong, "ann", "coin", n), api.ErrName)
			run(t, a, pay("bob", wrong, "coin", n), api.ErrName)
		}
		for _, wrong := range wrongDenoms {
			run(t, a, pay("bob", "ann", wrong, n), api.ErrName)
		}
	}
	run(t, a, pay("bob", "ann", "coin", 0), api.ErrArg)
	run(t, a, pay("zed", "ann", "none", 0), api.ErrArg)
	run(t, a, pay("bob", "ann", "coin", 91), api.ErrBalance)
	run(t, a, pay("bob", "bob", "coin", math.MaxUint64), api.ErrBalance)
	run(t, a, pay("zed", "bob", "coin", 1), api.ErrBalance)
	run(t, a, pay("bob", "ann", "b/coin", 1), api.ErrBalance)
}

// holdings is an app of chain a, whose other one is b; ann and bob have gold of the other one.
func holdings(t *testing.T) *app.App {
	t.Helper()
	gold := api.Packet{Seq: 1, From: "b", Data: dataOf("gold", 60, "bob", "ann"), Timeout: 50}
	silver := api.Packet{Seq: 2, From: "b", Data: dataOf("x/silver", 7, "bob", "bob"), Timeout: 50}
	l := commitsOf(gold, silver)
	a := home(t, states{3: l})
	for _, denom := range []string{"bb/coin", "a/coin", "b", "c/b/coin"} {
		expect(t, "Grant", a.Grant("ann", denom, 50), api.OK)
	}
	run(t, a, receive(gold, 3, l), api.OK)
	run(t, a, receive(silver, 3, l), api.OK)
	return a
}

// TestSend: what is of the other chain is burned, all else is escrow's; the packet's data tells it.
func TestSend(t *testing.T) { // P21.1 (Z2), P21.3
	a := holdings(t)
	var sent []api.Packet
	for _, denom := range []string{"coin", "bb/coin", "a/coin", "b", "c/b/coin"} {
		has, was := a.Bank().Balance("ann", denom), a.Bank().Supply(denom)
		for i, n := range []uint64{1, 30, has - 31} {
			to := []string{"bob", "escrow", ""}[i]
			run(t, a, send("ann", to, denom, n, 9+i), api.OK)
			sent = append(sent, api.Packet{Seq: len(sent) + 1, From: "a", Data: dataOf(denom, n, "ann", to), Timeout: 9 + i})
		}
		if b := a.Bank(); b.Supply(denom) != was || b.Balance("escrow", denom) != has || b.Balance("ann", denom) != 0 {
			t.Errorf("%s: %v", denom, b.Entries())
		}
	}
	for i, n := range []uint64{1, 30, 29} {
		run(t, a, send("ann", "no name", "b/gold", n, api.MaxHeight), api.OK)
		sent = append(sent, api.Packet{Seq: len(sent) + 1, From: "a", Data: dataOf("b/gold", n, "ann", "no name"), Timeout: api.MaxHeight})
		supplies(t, a.Bank(), "b/gold", []uint64{59, 29, 0}[i])
	}
	run(t, a, send("bob", "bob", "b/x/silver", 3, 9), api.OK)
	sent = append(sent, api.Packet{Seq: len(sent) + 1, From: "a", Data: dataOf("b/x/silver", 3, "bob", "bob"), Timeout: 9})
	if !slices.Equal(a.Sent(), sent) {
		t.Errorf("%v, not %v", a.Sent(), sent)
	}
	want := entries("answer/1", "ok", "answer/2", "ok", "receipt/1", "1", "receipt/2", "1", "bank/b/x/silver/bob", "4",
		"bank/coin/escrow", "100", "bank/bb/coin/escrow", "50", "bank/a/coin/escrow", "50", "bank/b/escrow", "50", "bank/c/b/coin/escrow", "50")
	all := slices.Concat(want, commitsOf(sent...))
	slices.SortFunc(all, func(x, y api.Entry) int { return strings.Compare(x.Key, y.Key) })
	if !slices.Equal(a.Entries(), all) {
		t.Errorf("%v, not %v", a.Entries(), all)
	}
}

// TestSendTimes: a time is above the height that is known, however far; behind an update more must be.
func TestSendTimes(t *testing.T) { // P21.1 (Z2), P21.2
	a := home(t, states{3: nil})
	tried := func(known int) {
		t.Helper()
		for _, timeout := range []int{math.MinInt, -1, 0, 1, known - 1, known} {
			run(t, a, send("ann", "bob", "coin", 1, timeout), api.ErrTimeout)
			run(t, a, send("ann", strings.Repeat("t", api.MaxText+1), "/", 0, timeout), api.ErrTimeout)
		}
		for _, timeout := range []int{known + 1, known + 2, api.MaxHeight} {
			run(t, a, send("ann", "bob", "coin", 1, timeout), api.OK)
		}
		for _, timeout := range []int{api.MaxHeight + 1, math.MaxInt} {
			run(t, a, send("ann", "bob", "coin", 1, timeout), api.ErrForm)
			run(t, a, send("ann", "bob", "coin", 1000, timeout), api.ErrBalance)
		}
	}
	tried(3)
	run(t, a, api.Tx{Kind: api.Update, Light: block("b", 20, api.Hash{}, nil)}, api.OK)
	tried(20)
	if len(a.Sent()) != 6 {
		t.Errorf("%v", a.Sent())
	}
}

// TestSendLengths: a packet's data has no more than it may; what is to be sent is asked for ahead of that.
func TestSendLengths(t *testing.T) { // P21.1 (Z2), P21.2
	a := holdings(t)
	for _, denom := range []string{"coin", "b/gold"} {
		most := api.MaxData - len(dataOf(denom, 1, "ann", ""))
		for _, n := range []int{0, 1, most - 1, most} {
			run(t, a, send("ann", strings.Repeat("\xff", n), denom, 1, 9), api.OK)
			if p := a.Sent()[len(a.Sent())-1]; p.Data != dataOf(denom, 1, "ann", strings.Repeat("\xff", n)) {
				t.Errorf("%q", p.Data)
			}
		}
		for _, n := range []int{most + 1, api.MaxData, api.MaxText - 1, api.MaxText, api.MaxText + 1, 1<<16 - 1, 1 << 16, 1<<16 + 1, 1 << 17} {
			to := strings.Repeat("t", n)
			run(t, a, send("ann", to, denom, 1, 9), api.ErrForm)
			run(t, a, send("ann", to, denom, 1000, 9), api.ErrBalance)
			run(t, a, send("ann", to, denom, 0, 9), api.ErrArg)
			run(t, a, send("", to, denom, 1, 9), api.ErrName)
			run(t, a, send("ann", to, denom+"/", 1, 9), api.ErrName)
			run(t, a, send("ann", to, denom, 1, 3), api.ErrTimeout)
			run(t, a, send("escrow", to, denom, 1, 3), api.ErrName)
		}
	}
}

func TestSendFaults(t *testing.T) { // P21.1 (Z2), P21.2, rule 1
	a := holdings(t)
	run(t, a, send("ann", "bob", "coin", 10, 9), api.OK)
	for _, n := range []uint64{0, 1, 10, math.MaxUint64} {
		for _, denom := range append(wrongDenoms, "coin", "b/gold", "none") {
			for _, timeout := range []int{-1, 3, 9, math.MaxInt} {
				run(t, a, send("escrow", "bob", denom, n, timeout), api.ErrName)
			}
		}
		for _, denom := range append(wrongDenoms, "b/", "b//gold/") {
			run(t, a, send("ann", "bob", denom, n, 9), api.ErrName)
		}
		for _, account := range wrongAccounts {
			run(t, a, send(account, "bob", "coin", n, 9), api.ErrName)
			run(t, a, send(account, "bob", "b/gold", n, 9), api.ErrName)
			run(t, a, send(account, "bob", "coin", n, 3), api.ErrTimeout)
		}
	}
	for _, denom := range []string{"coin", "b/gold", "none", "b/none"} {
		run(t, a, send("ann", "bob", denom, 0, 9), api.ErrArg)
		run(t, a, send("ann", "bob", denom, 91, 9), api.ErrBalance)
		run(t, a, send("ann", "bob", denom, math.MaxUint64, 9), api.ErrBalance)
		run(t, a, send("zed", "bob", denom, 1, 9), api.ErrBalance)
	}
	run(t, a, send("bob", "ann", "b/gold", 1, 9), api.ErrBalance)
	run(t, a, send("ann", "bob", "gold", 1, 9), api.ErrBalance)
}

// TestUpdate: the client's own errors, in a block at that time.
func TestUpdate(t *testing.T) { // P21.1 (Z2), P21.2
	a := begun(t, "a", "b")
	l := blocks("b", states{10: nil, 11: entries("commit/1", "x"), 12: nil})
	expect(t, "Trust", a.Trust(l[0], 10, api.Options{Level: 0.5, Period: 20, Drift: 0}), api.OK)
	up := func(l api.Light) api.Tx { return api.Tx{Kind: api.Update, Light: l} }
	for _, now := range []float64{math.NaN(), math.Inf(1), math.Inf(-1)} {
		runAt(t, a, up(l[1]), 5, now, api.ErrClock)
	}
	runAt(t, a, up(l[1]), 5, 30, api.ErrExpired)
	runAt(t, a, up(l[1]), 5, 10, api.ErrFuture)
	runAt(t, a, up(l[0]), 5, 20, api.ErrOrder)
	runAt(t, a, up(block("b", 9, api.Hash{}, nil)), 5, 20, api.ErrOrder)
	runAt(t, a, up(block("b", 11, api.Hash{}, nil)), 5, 20, api.ErrOrder)
	runAt(t, a, up(block("a", 11, l[0].Commit.Block, nil)), 5, 20, api.ErrChain)
	runAt(t, a, up(api.Light{}), 5, 20, api.ErrOrder)
	bare := l[1]
	bare.Commit.Seals = nil
	runAt(t, a, up(bare), 5, 20, api.ErrCommit)
	for i, known := range []int{11, 12} {
		runAt(t, a, up(l[1+i]), math.MinInt, 29, api.OK)
		if a.Known() != known {
			t.Errorf("%d is known, not %d", a.Known(), known)
		}
	}
	runAt(t, a, up(block("b", 40, api.Hash{}, nil)), 5, 31.5, api.ErrFuture)
	shows(t, a)
}

func TestPowers(t *testing.T) { // P21.1 (Z2), P21.2
	a := begun(t, "a", "b")
	tried := func(want api.Errno, changes ...api.Validator) {
		t.Helper()
		run(t, a, api.Tx{Kind: api.Powers, Changes: changes}, want)
	}
	is := func(want ...api.Validator) {
		t.Helper()
		if !slices.Equal(a.Set(), want) {
			t.Errorf("%v, not %v", a.Set(), want)
		}
	}
	tried(api.OK)
	is(crew()...)
	tried(api.OK, api.Validator{Key: 5, Power: 1}, api.Validator{Key: 3}, api.Validator{Key: 8, Power: 9})
	is(api.Validator{Key: 5, Power: 1}, api.Validator{Key: 8, Power: 9})
	tried(api.ErrUnknown, api.Validator{Key: 6, Power: 1}, api.Validator{Key: 3})
	tried(api.ErrPower, api.Validator{Key: 6, Power: 1}, api.Validator{Key: 5, Power: -1}, api.Validator{Key: 3})
	tried(api.ErrPower, api.Validator{Key: 5, Power: api.MaxPower})
	tried(api.ErrSet, api.Validator{Key: 5}, api.Validator{Key: 8})
	var many []api.Validator
	for i := range api.MaxValidators {
		many = append(many, api.Validator{Key: uint64(100 + i), Power: 1})
	}
	tried(api.ErrSet, many...)
	is(api.Validator{Key: 5, Power: 1}, api.Validator{Key: 8, Power: 9})
	tried(api.OK, many[2:]...)
	if len(a.Set()) != api.MaxValidators {
		t.Errorf("%v", a.Set())
	}
	shows(t, a)
}
