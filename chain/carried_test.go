package chain_test

import (
	"slices"
	"testing"

	"nuncio/api"
	"nuncio/chain"
)

// told: transactions in the next block of a chain have just these errors.
func told(t *testing.T, c *chain.Chain, time int, want []api.Errno, l ...api.Tx) {
	t.Helper()
	submit(t, c, l...)
	made(t, c, time)
	if got := c.Results(c.Height()); !slices.Equal(got, want) {
		t.Fatalf("%v, not %v", got, want)
	}
}

// balances: an account has just so much.
func balances(t *testing.T, c *chain.Chain, account, denom string, n uint64) {
	t.Helper()
	if got := c.App().Bank().Balance(account, denom); got != n {
		t.Errorf("%s has %d %s, not %d", account, got, denom, n)
	}
}

// pair are two chains that trust each other's first blocks.
func pair(t *testing.T) (*chain.Chain, *chain.Chain) {
	t.Helper()
	a, b := begun(t, "a", "b"), begun(t, "b", "a")
	made(t, a, 10)
	made(t, b, 10)
	expect(t, "Trust", a.Trust(light(t, b, 1), 10, patient), api.OK)
	expect(t, "Trust", b.Trust(light(t, a, 1), 10, patient), api.OK)
	return a, b
}

// update shows the last block of a chain, proof what a key had there.
func update(t *testing.T, from *chain.Chain) api.Tx {
	t.Helper()
	return api.Tx{Kind: api.Update, Light: light(t, from, from.Height())}
}

func carry(t *testing.T, kind api.TxKind, p api.Packet, ack string, from *chain.Chain, key string) api.Tx {
	t.Helper()
	proof, e := from.Proof(from.Height(), numbered(key, p.Seq))
	expect(t, "Proof", e, api.OK)
	return api.Tx{Kind: kind, Packet: p, Ack: ack, Height: from.Height(), Proof: proof}
}

// TestCarried: a packet is sent, received and answered, each at most once, all by what the chains show.
func TestCarried(t *testing.T) { // P22.1 to P22.3, T5
	a, b := pair(t)
	told(t, a, 11, []api.Errno{api.OK}, send("ann", "bob", "coin", 5, 20))
	p := a.App().Sent()[0]
	got := carry(t, api.Receive, p, "", a, "commit")
	told(t, b, 12, []api.Errno{api.ErrRoot, api.OK, api.OK, api.ErrDone}, got, update(t, a), got, got)
	balances(t, b, "bob", "a/coin", 5)
	balances(t, a, "escrow", "coin", 5)
	told(t, b, 13, []api.Errno{api.ErrDone}, got)

	no, ok := carry(t, api.Acknowledge, p, "no", b, "answer"), carry(t, api.Acknowledge, p, "ok", b, "answer")
	late := carry(t, api.Expire, p, "", b, "receipt")
	told(t, a, 14, []api.Errno{api.OK, api.ErrTimeout, api.ErrProof, api.OK, api.ErrDone, api.ErrDone}, update(t, b), late, no, ok, ok, late)
	balances(t, a, "ann", "coin", 95)
	proved(t, a, 2, entries("bank/a/coin/bob", "50", "bank/coin/ann", "95", "bank/coin/escrow", "5", "commit/1", textOf(p)))
	proved(t, a, 3, entries("bank/a/coin/bob", "50", "bank/coin/ann", "95", "bank/coin/escrow", "5"))
	proved(t, b, 2, entries("answer/1", "ok", "bank/a/coin/bob", "5", "bank/b/coin/bob", "50", "bank/coin/ann", "100", "receipt/1", "1"))
	sound(t, a, "a")
	sound(t, b, "b")
}

// TestExpired: a packet whose time is over is not received, and comes back.
func TestExpired(t *testing.T) { // P22.1 to P22.3, T5
	a, b := pair(t)
	told(t, a, 11, []api.Errno{api.OK}, send("ann", "bob", "coin", 5, 3))
	p := a.App().Sent()[0]
	made(t, b, 11)
	early := carry(t, api.Expire, p, "", b, "receipt")
	told(t, a, 12, []api.Errno{api.OK, api.ErrTimeout}, update(t, b), early)
	told(t, b, 13, []api.Errno{api.OK, api.ErrTimeout}, update(t, a), carry(t, api.Receive, p, "", a, "commit"))
	late := carry(t, api.Expire, p, "", b, "receipt")
	told(t, a, 14, []api.Errno{api.ErrRoot, api.OK, api.OK, api.ErrDone}, late, update(t, b), late, late)
	balances(t, a, "ann", "coin", 100)
	balances(t, a, "escrow", "coin", 0)
	if n := b.App().Bank().Supply("a/coin"); n != 0 {
		t.Errorf("%d a/coin", n)
	}
}

// TestLeaps: blocks far apart are taken in as long as those who sign are known.
func TestLeaps(t *testing.T) { // P22.2, T2
	a, b := pair(t)
	secrets := crew()
	strangers := []api.Validator{{Key: keyOf(secrets[0])}, {Key: keyOf(secrets[1])}}
	told(t, a, 11, []api.Errno{api.OK}, pay("ann", "bob", "coin", 1))
	made(t, a, 12)
	told(t, a, 13, []api.Errno{api.OK}, powers(strangers...))
	made(t, a, 14)
	sound(t, a, "a")
	// All of what is trusted signed blocks 1 to 4; of block 5 just the last one may, who has half of the power of the set ahead.
	up := api.Tx{Kind: api.Update, Light: light(t, a, 5)}
	told(t, b, 20, []api.Errno{api.ErrTrust, api.OK, api.OK}, up, api.Tx{Kind: api.Update, Light: light(t, a, 4)}, up)
	expectKnown(t, b, 5)
}
