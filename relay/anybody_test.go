package relay_test

import (
	"math/rand/v2"
	"slices"
	"strconv"
	"strings"
	"testing"

	"nuncio/api"
	"nuncio/forms"
	"nuncio/relay"
	"nuncio/tally"
)

// carrier is anybody who submits whatever there is, and notes what of that was done.
type carrier struct {
	w      *relay.World
	pools  [2][]api.Tx
	crew   [2]int
	closed map[string]int // how often a packet was received, acknowledged, expired
	done   map[string]int // what was done, and refused, by kinds
}

func newCarrier(t *testing.T, r *rand.Rand, done map[string]int) *carrier {
	t.Helper()
	crew := [2]int{1 + r.IntN(8), 1 + r.IntN(8)}
	return &carrier{w: world(t, crew[0], crew[1]), crew: crew, closed: map[string]int{}, done: done}
}

func (c *carrier) submit(i int, x api.Tx) {
	if c.w.Submit(i, x) == api.OK {
		c.pools[i] = append(c.pools[i], x)
	}
}

// block makes one, and notes what came of its transactions.
func (c *carrier) block(t *testing.T, i, wait int) {
	t.Helper()
	made(t, c.w, i, wait)
	l := c.w.Chain(i).Results(c.w.Chain(i).Height())
	if len(l) != len(c.pools[i]) {
		t.Fatalf("%d results of %d transactions", len(l), len(c.pools[i]))
	}
	for k, x := range c.pools[i] {
		kind := strconv.Itoa(int(x.Kind))
		if l[k] != api.OK {
			c.done["refused "+kind]++
			continue
		}
		c.done["done "+kind]++
		from := i
		if x.Kind == api.Receive {
			from = 1 - i
		}
		if x.Kind >= api.Receive && x.Kind <= api.Expire {
			c.closed[strconv.Itoa(from)+"/"+strconv.Itoa(x.Packet.Seq)+" "+kind]++
		}
	}
	c.pools[i] = nil
}

// once: each packet is received at most once, closed at most once, and not received and over.
func (c *carrier) once(t *testing.T) {
	t.Helper()
	for i := range 2 {
		for _, p := range c.w.Chain(i).App().Sent() {
			key := strconv.Itoa(i) + "/" + strconv.Itoa(p.Seq) + " "
			received, acknowledged, expired := c.closed[key+"4"], c.closed[key+"5"], c.closed[key+"6"]
			if received > 1 || acknowledged+expired > 1 || received+expired > 1 || acknowledged > received {
				t.Fatalf("%s: received %d times, acknowledged %d, over %d", key, received, acknowledged, expired)
			}
		}
	}
}

// carry submits something, right or not, to the i-th chain.
func (c *carrier) carry(r *rand.Rand, i int) {
	from, to := c.w.Chain(1-i), c.w.Chain(i)
	switch r.IntN(8) {
	case 0:
		c.submit(i, c.pay(r, i))
	case 1, 2:
		x := c.pay(r, i)
		x.Kind, x.Timeout = api.Send, to.App().Known()+r.IntN(9)
		c.submit(i, x)
	case 3:
		n, _ := c.relay(i)
		c.done["carried"] += n
	default:
		l := relay.Plan(from, to)
		if len(l) > 0 {
			c.submit(i, c.bent(r, i, pick(r, l...)))
		}
	}
}

// relay notes what the plan is ahead of carrying it.
func (c *carrier) relay(i int) (int, api.Errno) {
	l := relay.Plan(c.w.Chain(1-i), c.w.Chain(i))
	n, e := c.w.Relay(i)
	c.pools[i] = append(c.pools[i], l[:n]...)
	return n, e
}

func (c *carrier) pay(r *rand.Rand, i int) api.Tx {
	own, abroad := []string{"coin", "gold"}[i], []string{"b/gold", "a/coin"}[i]
	denom := pick(r, own, own, own, abroad, abroad, abroad, "coin", "gold", "a/coin", "b/gold", "a/b/gold", "b/a/coin")
	from, to := pick(r, "ann", "bob", "cid", "ann", "bob", "escrow"), pick(r, "ann", "bob", "cid", "ann", "bob", "cid", "escrow", "?")
	return pay(from, to, denom, pick(r, 1, 5, 20, 1+r.Uint64N(60), 1+r.Uint64N(200), 0, 1<<64-1))
}

// bent is a transaction that somebody changed, most often by what makes it wrong.
func (c *carrier) bent(r *rand.Rand, i int, x api.Tx) api.Tx {
	switch r.IntN(14) {
	case 0:
		x.Packet.Seq += pick(r, 1, -1, 3)
	case 1:
		x.Packet.Data = dataOf(pick(r, "coin", "gold", "a/coin", "b/gold"), 1+r.Uint64N(60), "ann", pick(r, "bob", "cid"))
	case 2:
		x.Packet.Timeout += pick(r, 1, -1, 100, -3)
	case 3:
		x.Packet.From = pick(r, "a", "b")
	case 4:
		x.Ack = pick(r, "ok", "no", "", "1")
	case 5:
		x.Height -= r.IntN(3) - 1
	case 6:
		x.Kind = api.TxKind(r.IntN(8))
	case 7:
		x.Proof = bentProof(r, x.Proof)
	case 8, 9:
		x.Light = c.lie(r, i, x.Light)
		x.Kind = api.Update
	case 10:
		x.Light, _ = c.w.Chain(1 - i).Light(1 + r.IntN(c.w.Chain(1-i).Height()))
		x.Kind = api.Update
	case 11:
		x = c.old(r, i)
	}
	return x
}

// old is of any packet that was sent, with a proof of any height.
func (c *carrier) old(r *rand.Rand, i int) api.Tx {
	from, sender, what, kind := c.w.Chain(1-i), c.w.Chain(1-i), "commit", api.Receive
	if r.IntN(2) == 0 {
		sender, what, kind = c.w.Chain(i), "answer", api.Acknowledge
		if r.IntN(2) == 0 {
			what, kind = "receipt", api.Expire
		}
	}
	l := sender.App().Sent()
	if len(l) == 0 {
		return api.Tx{}
	}
	p, h := pick(r, l...), 1+r.IntN(from.Height())
	proof, _ := from.Proof(h, numbered(what, p.Seq))
	return api.Tx{Kind: kind, Packet: p, Ack: pick(r, "ok", "no"), Height: h, Proof: proof}
}

func bentProof(r *rand.Rand, p api.Proof) api.Proof {
	if len(p.Parts) == 0 {
		return p
	}
	at := &p.Parts[r.IntN(len(p.Parts))]
	switch r.IntN(5) {
	case 0:
		p.Size += pick(r, 1, -1)
	case 1:
		at.Index += pick(r, 1, -1)
	case 2:
		at.Entry.Value += "0"
	case 3:
		at.Entry.Key = strings.Replace(at.Entry.Key, "1", "2", 1)
	case 4:
		p.Parts = p.Parts[:len(p.Parts)-1]
	}
	return p
}

// lie is a light block of a chain with another state, signed by strangers, by too few, or by nobody.
func (c *carrier) lie(r *rand.Rand, i int, l api.Light) api.Light {
	from := c.w.Chain(1 - i)
	l, _ = from.Light(from.Height())
	l.Header.App[r.IntN(32)]++
	l.Header.Height += r.IntN(2)
	if r.IntN(4) == 0 {
		return l
	}
	l.Commit.Height = l.Header.Height
	l.Commit.Block, _ = forms.HeaderHash(l.Header)
	n := c.crew[1-i] * 2 / 3 // that is not more than two thirds
	secrets := secretsOf(1-i, n)
	if r.IntN(3) == 0 {
		secrets = []uint64{901, 902, 903}
		l.Set = nil
		for _, s := range secrets {
			l.Set = append(l.Set, api.Validator{Key: keyOf(s), Power: 1})
		}
		slices.SortFunc(l.Set, func(a, b api.Validator) int {
			if a.Key < b.Key {
				return -1
			}
			return 1
		})
		l.Next = slices.Clone(l.Set)
		l.Header.Set, _ = forms.SetHash(l.Set)
		l.Header.Next = l.Header.Set
		l.Header.Height++
		l.Commit.Height = l.Header.Height
		l.Commit.Block, _ = forms.HeaderHash(l.Header)
	}
	l.Commit.Seals = nil
	for _, s := range secrets {
		v, _ := tally.Sign(s, api.Vote{Chain: l.Header.Chain, Height: l.Header.Height, Type: api.Precommit, Block: l.Commit.Block})
		l.Commit.Seals = append(l.Commit.Seals, api.Seal{Key: v.Key, Sig: v.Sig})
	}
	slices.SortFunc(l.Commit.Seals, func(a, b api.Seal) int {
		if a.Key < b.Key {
			return -1
		}
		return 1
	})
	return l
}

// TestAnybody: whatever anybody submits, nothing comes from nothing, no packet is received or closed twice, and what was sent is closed at last.
func TestAnybody(t *testing.T) { // P23.3, P23.2, T5
	r := random()
	done := map[string]int{}
	for range 60 {
		c := newCarrier(t, r, done)
		for range 300 {
			i := r.IntN(2)
			c.carry(r, i)
			if r.IntN(4) == 0 {
				c.block(t, i, pick(r, 1, 2, 50))
				nothingFromNothing(t, c.w)
			}
		}
		for k := range 60 {
			if k > 2 && len(open(c.w, 0))+len(open(c.w, 1)) == 0 {
				break
			}
			for i := range 2 {
				c.block(t, i, 1)
				c.relay(1 - i)
				nothingFromNothing(t, c.w)
			}
		}
		c.once(t)
		for i := range 2 {
			if l := open(c.w, i); len(l) != 0 {
				t.Errorf("chain %d has %d open", i, len(l))
			}
		}
	}
	for what, n := range map[string]int{"carried": 1000, "done 1": 20, "done 2": 300, "done 3": 300, "done 4": 100, "done 5": 100, "done 6": 20, "refused 1": 50, "refused 2": 50, "refused 3": 300, "refused 4": 200, "refused 5": 100, "refused 6": 100} {
		if done[what] < n {
			t.Errorf("%s: %d times, not %d", what, done[what], n)
		}
	}
}

// TestLies: a state that the other chain never had is shown with all that goes with it but enough signatures; nobody hears of it.
func TestLies(t *testing.T) { // P23.3, T2
	r := random()
	for range 200 {
		c := newCarrier(t, r, map[string]int{})
		for i := range 2 {
			c.submit(i, sends(i, 5, 50))
			c.block(t, i, 1)
		}
		for i := range 2 {
			for range 5 {
				c.submit(i, api.Tx{Kind: api.Update, Light: c.lie(r, i, api.Light{})})
			}
			c.block(t, i, 1)
			if n := c.w.Chain(i).App().Known(); n != 1 || c.done["done 3"] > 0 {
				t.Fatalf("chain %d knows the other one's height %d", i, n)
			}
		}
	}
}
