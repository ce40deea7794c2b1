package app_test

import (
	"math"
	"slices"
	"strings"
	"testing"

	"nuncio/api"
	"nuncio/app"
)

// call is one of Run.
type call struct {
	a      *app.App
	x      api.Tx
	height int
	now    float64
}

func (c call) run() api.Errno { return c.a.Run(c.x, c.height, c.now) }

// fault makes one thing of a call wrong; rank is its error's place in the order.
type fault struct {
	name string
	rank int
	want api.Errno
	make func(*call)
}

// seed is the same call whenever it is asked for, of an app apart.
type seed func() call

// judge: without a fault the call is done; each fault alone, and of two the one that is named first, refuses it, and nothing changes.
func (s seed) judge(t *testing.T, faults ...fault) {
	t.Helper()
	tried := func(name string, want api.Errno, make ...func(*call)) {
		t.Helper()
		c := s()
		for _, f := range make {
			f(&c)
		}
		unchanged(t, c.a, func() { expect(t, name, c.run(), want) })
	}
	if c := s(); c.run() != api.OK || isSame(look(c.a), look(s().a)) {
		t.Fatal("without a fault it is refused, or does nothing")
	}
	for _, f := range faults {
		tried(f.name, f.want, f.make)
		for _, g := range faults {
			if f.rank < g.rank {
				tried(f.name+", and "+g.name, f.want, g.make, f.make)
			}
		}
	}
}

func kindFault() fault {
	return fault{"kind", 0, api.ErrTx, func(c *call) { c.x.Kind = 8 }}
}

// bareFault: the same app, of no client.
func bareFault() fault {
	return fault{"no client", 1, api.ErrRoot, func(c *call) {
		c.a, _ = app.New("a", "b", crew())
		c.a.Grant("ann", "coin", 100)
	}}
}

func tx(name string, rank int, want api.Errno, make func(*api.Tx)) fault {
	return fault{name, rank, want, func(c *call) { make(&c.x) }}
}

// bankFaults are those of amounts of ann, who has 100.
func bankFaults(rank int) []fault {
	return []fault{
		tx("no account", rank, api.ErrName, func(x *api.Tx) { x.From = "Ann" }),
		tx("a long account", rank, api.ErrName, func(x *api.Tx) { x.From = strings.Repeat("a", 17) }),
		tx("no denom", rank, api.ErrName, func(x *api.Tx) { x.Denom = "coin/" }),
		tx("a long denom", rank, api.ErrName, func(x *api.Tx) { x.Denom += strings.Repeat("a", 40) }),
		tx("nothing", rank+1, api.ErrArg, func(x *api.Tx) { x.Amount = 0 }),
		tx("too much", rank+2, api.ErrBalance, func(x *api.Tx) { x.Amount = 101 }),
		tx("far too much", rank+2, api.ErrBalance, func(x *api.Tx) { x.Amount = math.MaxUint64 }),
		tx("another denom", rank+2, api.ErrBalance, func(x *api.Tx) { x.Denom += "x" }),
		tx("another account", rank+2, api.ErrBalance, func(x *api.Tx) { x.From = "zed" }),
	}
}

func TestPayOrder(t *testing.T) { // P21.1 (Z2), P21.2, rule 1
	seed(func() call { return call{a: sender(t), x: pay("ann", "bob", "coin", 100)} }).judge(t, append(bankFaults(3),
		kindFault(),
		tx("of escrow", 1, api.ErrName, func(x *api.Tx) { x.From = "escrow" }),
		tx("to escrow", 1, api.ErrName, func(x *api.Tx) { x.To = "escrow" }),
		tx("to nobody", 3, api.ErrName, func(x *api.Tx) { x.To = "" }),
	)...)
}

func TestSendOrder(t *testing.T) { // P21.1 (Z2), P21.2, rule 1
	for _, denom := range []string{"coin", "b/gold", "bb/gold"} {
		seed(func() call { return call{a: sender(t), x: send("ann", "bob", denom, 100, 9)} }).judge(t, append(bankFaults(4),
			kindFault(), bareFault(),
			tx("of escrow", 2, api.ErrName, func(x *api.Tx) { x.From = "escrow" }),
			tx("late", 3, api.ErrTimeout, func(x *api.Tx) { x.Timeout = 8 }),
			tx("no time", 3, api.ErrTimeout, func(x *api.Tx) { x.Timeout = math.MinInt }),
			tx("a great time", 7, api.ErrForm, func(x *api.Tx) { x.Timeout = api.MaxHeight + 1 }),
			tx("long data", 7, api.ErrForm, func(x *api.Tx) { x.To = strings.Repeat("t", api.MaxData) }),
			tx("a long text", 7, api.ErrForm, func(x *api.Tx) { x.To = strings.Repeat("t", api.MaxText) }),
			tx("too long a text", 7, api.ErrForm, func(x *api.Tx) { x.To = strings.Repeat("t", api.MaxText+1) }),
		)...)
	}
}

// packetFaults: what is not right, or from another chain than it should be.
func packetFaults(from ...string) []fault {
	var l []fault
	put := func(make func(*api.Packet)) {
		l = append(l, tx("packet", 2, api.ErrPacket, func(x *api.Tx) { make(&x.Packet) }))
	}
	put(func(p *api.Packet) { *p = api.Packet{} })
	for _, n := range []int{math.MinInt, 0, api.MaxHeight + 1} {
		put(func(p *api.Packet) { p.Seq = n })
		put(func(p *api.Packet) { p.Timeout = n })
	}
	for _, name := range append(from, "", "A") {
		put(func(p *api.Packet) { p.From = name })
	}
	put(func(p *api.Packet) { p.Data = strings.Repeat("d", api.MaxData+1) })
	return l
}

// proofFaults: a height that was not taken in, and what is no proof at the height that is told.
func proofFaults(rank int, wrong ...api.Proof) []fault {
	var l []fault
	for _, h := range []int{9, 11, 17, api.MaxHeight, math.MaxInt} {
		l = append(l, tx("height", rank, api.ErrRoot, func(x *api.Tx) { x.Height = h }))
	}
	for _, p := range append(wrong, api.Proof{}, api.Proof{Size: -1}, api.Proof{Size: 1, Parts: make([]api.Part, 3)}) {
		l = append(l, tx("proof", rank+1, api.ErrProof, func(x *api.Tx) { x.Proof = p }))
	}
	return l
}

func TestReceiveOrder(t *testing.T) { // P21.1 (Z2), P21.2, rule 1
	// Whether what the data says can be done is no error.
	for _, data := range []string{dataOf("gold", 6, "bob", "ann"), dataOf("a/coin", 6, "bob", "ann"), "?"} {
		p := api.Packet{Seq: 2, From: "b", Data: data, Timeout: 50}
		beside := api.Packet{Seq: 12, From: "b", Data: data, Timeout: 50}
		l := commitsOf(p, beside)
		all := states{13: l, 14: commitsOf(beside), 15: entries("answer/2", textOf(p), "receipt/2", textOf(p))}
		seed(func() call {
			a := sender(t)
			for h := 13; h <= 15; h++ {
				run(t, a, api.Tx{Kind: api.Update, Light: block("b", h, parent(h, all), all[h])}, api.OK)
			}
			return call{a: a, x: receive(p, 13, l), height: 40}
		}).judge(t, slices.Concat(packetFaults("a", "c", "bb"), proofFaults(5, proofOf(l, "commit/12"), proofOf(all[14], "commit/2"), proofOf(all[15], "receipt/2")), []fault{
			kindFault(), bareFault(),
			{"late", 3, api.ErrTimeout, func(c *call) { c.height = 50 }},
			{"very late", 3, api.ErrTimeout, func(c *call) { c.height = math.MaxInt }},
			{"a time that is over", 3, api.ErrTimeout, func(c *call) { c.x.Packet.Timeout = 40 }},
			{"received", 4, api.ErrDone, func(c *call) {
				run(t, c.a, receive(p, 13, l), api.OK)
				run(t, c.a, receive(beside, 13, l), api.OK)
			}},
			tx("another state", 6, api.ErrProof, func(x *api.Tx) { x.Height = 14 }),
			tx("another number", 6, api.ErrProof, func(x *api.Tx) { x.Packet.Seq = 12 }),
			tx("other data", 6, api.ErrProof, func(x *api.Tx) { x.Packet.Data = dataOf("gold", 7, "bob", "ann") }),
			tx("another time", 6, api.ErrProof, func(x *api.Tx) { x.Packet.Timeout = 49 }),
		})...)
	}
}

// parent is the hash of the block of the height ahead, where one of these states is of it.
func parent(height int, all states) api.Hash {
	l, is := all[height-1]
	if !is {
		return api.Hash{}
	}
	return block("b", height-1, parent(height-1, all), l).Commit.Block
}

// drain: escrow has no more of what ann sent, and of gold there is all that may be.
func drain(t *testing.T, a *app.App, denom string) {
	t.Helper()
	p := api.Packet{Seq: 40, From: "b", Data: dataOf("a/"+denom, 30, "bob", "cid"), Timeout: 50}
	if denom == "b/gold" {
		p.Data = dataOf("gold", math.MaxUint64-a.Bank().Supply("b/gold"), "bob", "cid")
	}
	l := commitsOf(p)
	run(t, a, api.Tx{Kind: api.Update, Light: block("b", 30, api.Hash{}, l)}, api.OK)
	run(t, a, receive(p, 30, l), api.OK)
	if a.Entries()[0].Key == "answer/40" && a.Entries()[0].Value != "ok" {
		t.Fatalf("%v", a.Entries())
	}
}

// closingFaults are those of Acknowledge and Expire alike: what is closed is ann's second packet.
func closingFaults(t *testing.T, denom string) []fault {
	bent := func(name string, f func(*api.Packet)) fault {
		return tx(name, 3, api.ErrDone, func(x *api.Tx) { f(&x.Packet) })
	}
	back := api.ErrBalance
	if denom == "b/gold" {
		back = api.ErrOverflow
	}
	l := append(packetFaults("b", "c", "aa"), kindFault(), bareFault(),
		bent("another number", func(p *api.Packet) { p.Seq = 1 }),
		bent("a number that was not sent", func(p *api.Packet) { p.Seq = 3 }),
		bent("other data", func(p *api.Packet) { p.Data = dataOf(denom, 31, "ann", "bob") }),
		bent("no data", func(p *api.Packet) { p.Data = "" }),
		bent("another time", func(p *api.Packet) { p.Timeout = 11 }),
		fault{"what can't come back", 9, back, func(c *call) { drain(t, c.a, denom) }},
	)
	for _, c := range closings() {
		if c.back { // it may be asked for where nothing can come back
			continue
		}
		l = append(l, fault{"closed by " + c.name, 3, api.ErrDone, func(x *call) { run(t, x.a, c.run(x.a.Sent()[1]), api.OK) }})
	}
	return l
}

// sent is an app whose ann sent 20 and 30 of a denom, and that was shown what became of it.
func sent(t *testing.T, denom string) *app.App {
	t.Helper()
	a := sender(t)
	run(t, a, send("ann", "bob", denom, 20, 10), api.OK)
	run(t, a, send("ann", "bob", denom, 30, 10), api.OK)
	learn(t, a)
	return a
}

func TestAcknowledgeOrder(t *testing.T) { // P21.1 (Z2), P21.2, rule 1
	all := shore()
	for _, denom := range []string{"coin", "b/gold", "bb/gold"} {
		seed(func() call {
			a := sent(t, denom)
			return call{a: a, x: acknowledge(a.Sent()[1], "no", 14, all[14])}
		}).judge(t, slices.Concat(closingFaults(t, denom), proofFaults(5, proofOf(all[12], "answer/2"), proofOf(all[14], "answer/1"), proofOf(all[14], "receipt/2"), proofOf(all[14], "answer/99")), []fault{
			tx("another answer", 6, api.ErrProof, func(x *api.Tx) { x.Ack = "ok" }),
			tx("no answer", 6, api.ErrProof, func(x *api.Tx) { x.Ack = "" }),
			tx("another state", 6, api.ErrProof, func(x *api.Tx) { x.Height = 12 }),
			tx("no such answer", 6, api.ErrProof, func(x *api.Tx) { x.Height = 10 }),
		})...)
	}
}

func TestExpireOrder(t *testing.T) { // P21.1 (Z2), P21.2, rule 1
	all := shore()
	for _, denom := range []string{"coin", "b/gold", "bb/gold"} {
		seed(func() call {
			a := sent(t, denom)
			return call{a: a, x: expire(a.Sent()[1], 10, all[10])}
		}).judge(t, append(closingFaults(t, denom), expireFaults(all)...)...)
	}
}

// expireFaults: a height below the packet's time is one that was not taken in, too.
func expireFaults(all states) []fault {
	l := []fault{
		tx("too early", 4, api.ErrTimeout, func(x *api.Tx) { x.Height = 9 }),
		tx("no height", 4, api.ErrTimeout, func(x *api.Tx) { x.Height = math.MinInt }),
		tx("known ahead", 4, api.ErrTimeout, func(x *api.Tx) { x.Height = 8 }),
		tx("a state with receipts", 6, api.ErrProof, func(x *api.Tx) { x.Height = 12 }),
	}
	for _, f := range proofFaults(5, proofOf(all[12], "receipt/2"), proofOf(all[14], "answer/2"), proofOf(all[12], "receipt/99")) {
		c := call{}
		f.make(&c)
		if c.x.Height != 9 {
			l = append(l, f)
		}
	}
	return l
}

// TestExpireReceived: what was received is not timed out, however late.
func TestExpireReceived(t *testing.T) { // P21.1 (Z2), P21.2, P21.3
	all := shore()
	a := sent(t, "coin")
	for _, h := range []int{12, 14, 16} {
		for _, p := range a.Sent() {
			run(t, a, expire(p, h, all[h]), api.ErrProof)
			run(t, a, api.Tx{Kind: api.Expire, Packet: p, Height: h, Proof: proofOf(all[h], "receipt/99")}, api.ErrProof)
			run(t, a, api.Tx{Kind: api.Expire, Packet: p, Height: h}, api.ErrProof)
		}
	}
	supplies(t, a.Bank(), "coin", 100)
}
