package channel_test

import (
	"math"
	"reflect"
	"slices"
	"testing"

	"nuncio/api"
	"nuncio/channel"
	"nuncio/client"
)

// call is one of Receive, Acknowledge or Expire: of a channel of chain a, with a client of chain b.
type call struct {
	c      *channel.Channel
	p      api.Packet
	answer string
	self   int
	k      *client.Client
	height int
	proof  api.Proof
}

func (x call) receive() api.Errno { return x.c.Receive(x.p, x.self, x.k, x.height, x.proof) }

func (x call) acknowledge() api.Errno {
	return x.c.Acknowledge(x.p, x.answer, x.k, x.height, x.proof)
}

func (x call) expire() api.Errno { return x.c.Expire(x.p, x.k, x.height, x.proof) }

// fault makes one thing of a call wrong; rank is its error's place in the order.
type fault struct {
	name string
	rank int
	want api.Errno
	make func(*call)
}

// seed is the same call whenever it is asked for, of a channel apart.
type seed struct {
	begin func() call
	do    func(call) api.Errno
}

// judge: without a fault the call is done; each fault alone, and of two the one that is named first, refuses it, and nothing changes.
func (s seed) judge(t *testing.T, faults []fault) {
	t.Helper()
	tried := func(name string, want api.Errno, make ...func(*call)) {
		t.Helper()
		x := s.begin()
		for _, f := range make {
			f(&x)
		}
		unchanged(t, x.c, name, func() { expect(t, name, s.do(x), want) })
	}
	if x := s.begin(); s.do(x) != api.OK || slices.Equal(x.c.Entries(), s.begin().c.Entries()) {
		t.Fatal("without a fault it is refused, or does nothing")
	}
	for _, f := range faults {
		tried(f.name, f.want, f.make)
		for _, g := range faults {
			if f.rank < g.rank {
				tried(f.name+", and "+g.name, f.want, g.make, f.make)
			}
		}
	}
}

// packetFaults: what is not right, or from another chain than it should be.
func packetFaults(right api.Packet, from ...string) []fault {
	var l []fault
	put := func(p api.Packet) {
		l = append(l, fault{"packet", 0, api.ErrPacket, func(x *call) { x.p = p }})
	}
	for _, p := range wrongPackets(right) {
		put(p)
	}
	for _, name := range from {
		p := right
		p.From = name
		put(p)
	}
	return l
}

// clientFaults: one that is of another chain, or none, though it was shown the same.
func clientFaults(t *testing.T, rank int, all states) []fault {
	var l []fault
	for _, k := range []*client.Client{nil, shown(t, "a", all), shown(t, "bb", all), frozen(t, "a", all)} {
		l = append(l, fault{"client", rank, api.ErrChain, func(x *call) { x.k = k }})
	}
	return l
}

// rootFaults: the client has no root of that height, or none at all; one that is frozen tells its chain still.
func rootFaults(t *testing.T, rank int, all states, heights ...int) []fault {
	cold := frozen(t, "b", all)
	l := []fault{{"frozen", rank, api.ErrRoot, func(x *call) { x.k = cold }}}
	for _, h := range heights {
		l = append(l, fault{"height", rank, api.ErrRoot, func(x *call) { x.height = h }})
	}
	return l
}

// proofFaults: what is no proof, or one of another state or key.
func proofFaults(rank int, l ...api.Proof) []fault {
	all := []fault{{"no proof", rank, api.ErrProof, func(x *call) { x.proof = api.Proof{} }}}
	for _, p := range append(l, api.Proof{Size: -1}, api.Proof{Size: 1, Parts: make([]api.Part, 3)}) {
		all = append(all, fault{"proof", rank, api.ErrProof, func(x *call) { x.proof = p }})
	}
	return all
}

func changed(name string, rank int, want api.Errno, make func(*call)) []fault {
	return []fault{{name, rank, want, make}}
}

func TestReceiveFaults(t *testing.T) { // P20.1 (K2), P20.3, rule 1
	p := api.Packet{Seq: 2, From: "b", Data: "hi", Timeout: 9}
	beside := api.Packet{Seq: 12, From: "b", Data: "hi", Timeout: 9}
	all := states{3: commitsOf(p, beside), 5: commitsOf(beside), 6: entries("answer/2", textOf(p), "receipt/2", textOf(p))}
	k := shown(t, "b", all)
	proof := proofOf(all[3], "commit/2")
	seed{func() call {
		c := begun(t, "a", "b")
		send(t, c, "hi", 9)
		send(t, c, "hi", 9)
		return call{c: c, p: p, self: 7, k: k, height: 3, proof: proof}
	}, call.receive}.judge(t, slices.Concat(
		packetFaults(p, "a", "c", "bb"),
		changed("late", 1, api.ErrTimeout, func(x *call) { x.self = 9 }),
		changed("very late", 1, api.ErrTimeout, func(x *call) { x.self = math.MaxInt }),
		changed("a time that is over", 1, api.ErrTimeout, func(x *call) { x.p.Timeout = 7 }),
		changed("received", 2, api.ErrDone, func(x *call) {
			receive(t, x.c, p, k, 3, all[3], api.OK)
			receive(t, x.c, beside, k, 3, all[3], api.OK)
		}),
		clientFaults(t, 3, all),
		rootFaults(t, 4, all, math.MinInt, -1, 0, 1, 2, 4, 7, api.MaxHeight, math.MaxInt),
		proofFaults(5, proofOf(all[3], "commit/12"), proofOf(all[5], "commit/2"), proofOf(all[6], "answer/2"), proofOf(all[6], "receipt/2"), proofOf(all[3], "commit/1")),
		changed("another state", 5, api.ErrProof, func(x *call) { x.height = 5 }),
		changed("another state", 5, api.ErrProof, func(x *call) { x.height = 6 }),
		changed("another number", 5, api.ErrProof, func(x *call) { x.p.Seq = 12 }),
		changed("other data", 5, api.ErrProof, func(x *call) { x.p.Data = "ho" }),
		changed("no data", 5, api.ErrProof, func(x *call) { x.p.Data = "" }),
		changed("another time", 5, api.ErrProof, func(x *call) { x.p.Timeout = 8 }),
	))
}

func TestAcknowledgeFaults(t *testing.T) { // P20.1 (K3), P20.3, rule 1
	answered := entries("answer/1", "no", "answer/2", "ok", "receipt/1", "1", "receipt/2", "1")
	all := states{3: answered, 5: entries("receipt/2", "1"), 6: entries("answer/2", "no", "commit/2", "ok", "receipt/2", "ok")}
	k := shown(t, "b", all)
	proof := proofOf(answered, "answer/2")
	p := api.Packet{Seq: 2, From: "a", Data: "hi", Timeout: 9}
	seed{func() call {
		c := begun(t, "a", "b")
		send(t, c, "one", 2)
		send(t, c, "hi", 9)
		return call{c: c, p: p, answer: "ok", k: k, height: 3, proof: proof}
	}, call.acknowledge}.judge(t, slices.Concat(
		packetFaults(p, "b", "c", "aa"),
		doneFaults(1, func(x call) api.Errno { return call{x.c, p, "ok", 0, k, 3, proof}.acknowledge() }),
		clientFaults(t, 2, all),
		rootFaults(t, 3, all, math.MinInt, -1, 0, 1, 2, 4, 7, api.MaxHeight, math.MaxInt),
		proofFaults(4, proofOf(answered, "answer/1"), proofOf(answered, "receipt/2"), proofOf(all[6], "commit/2"), proofOf(all[6], "answer/2")),
		changed("another state", 4, api.ErrProof, func(x *call) { x.height = 5 }),
		changed("another state", 4, api.ErrProof, func(x *call) { x.height = 6 }),
		changed("another answer", 4, api.ErrProof, func(x *call) { x.answer = "no" }),
		changed("no answer", 4, api.ErrProof, func(x *call) { x.answer = "" }),
		changed("a receipt's value", 4, api.ErrProof, func(x *call) { x.answer = "1" }),
	))
}

// doneFaults: a packet that was never sent, was closed, or was sent otherwise.
func doneFaults(rank int, close func(call) api.Errno) []fault {
	return slices.Concat(
		changed("closed", rank, api.ErrDone, func(x *call) { close(*x) }),
		changed("never sent", rank, api.ErrDone, func(x *call) { x.p.Seq = 3 }),
		changed("never sent", rank, api.ErrDone, func(x *call) { x.p.Seq = 20 }),
		changed("another one", rank, api.ErrDone, func(x *call) { x.p.Seq = 1 }),
		changed("other data", rank, api.ErrDone, func(x *call) { x.p.Data = "ho" }),
		changed("another time", rank, api.ErrDone, func(x *call) { x.p.Timeout = 8 }),
	)
}

func TestExpireFaults(t *testing.T) { // P20.1 (K3), P20.3, rule 1
	had := entries("receipt/1", "1", "receipt/3", "1")
	all := states{3: nil, 8: had, 9: had, 11: entries("receipt/1", "1", "receipt/2", "1"), 12: entries("receipt/2", "0")}
	k := shown(t, "b", all)
	proof := proofOf(had, "receipt/2")
	p := api.Packet{Seq: 2, From: "a", Data: "hi", Timeout: 9}
	seed{func() call {
		c := begun(t, "a", "b")
		send(t, c, "one", 2)
		send(t, c, "hi", 9)
		return call{c: c, p: p, k: k, height: 9, proof: proof}
	}, call.expire}.judge(t, slices.Concat(
		packetFaults(p, "b", "c", "aa"),
		doneFaults(1, func(x call) api.Errno { return call{x.c, p, "", 0, k, 9, proof}.expire() }),
		clientFaults(t, 2, all),
		changed("early", 3, api.ErrTimeout, func(x *call) { x.height = 8 }),
		changed("early", 3, api.ErrTimeout, func(x *call) { x.height, x.proof = 3, api.Proof{} }),
		changed("early, and no root", 3, api.ErrTimeout, func(x *call) { x.height = 7 }),
		changed("very early", 3, api.ErrTimeout, func(x *call) { x.height = math.MinInt }),
		rootFaults(t, 4, all, 10, 13, api.MaxHeight, math.MaxInt),
		proofFaults(5, proofOf(had, "receipt/1"), proofOf(had, "answer/2"), proofOf(all[11], "receipt/2"), proofOf(had, "receipt/4")),
		changed("received", 5, api.ErrProof, func(x *call) { x.height, x.proof = 11, proofOf(all[11], "receipt/2") }),
		changed("an odd receipt", 5, api.ErrProof, func(x *call) { x.height, x.proof = 12, proofOf(all[12], "receipt/2") }),
	))
}

// TestHandedIn: proofs are neither written into nor kept.
func TestHandedIn(t *testing.T) { // rule 4
	p := api.Packet{Seq: 2, From: "b", Data: "hi", Timeout: 9}
	in, out := commitsOf(p, api.Packet{Seq: 3, From: "b", Timeout: 1}), entries("answer/1", "ok", "receipt/1", "1")
	k := shown(t, "b", states{3: in, 9: nil, 10: out})
	handed := func(name string, l []api.Entry, key string, do func(api.Proof) api.Errno) {
		t.Helper()
		proof, was := roomy(proofOf(l, key)), roomy(proofOf(l, key))
		expect(t, name, do(proof), api.OK)
		if !reflect.DeepEqual(whole(proof), whole(was)) {
			t.Errorf("%s: the proof was written into", name)
		}
		for _, part := range proof.Parts {
			clear(part.Path)
		}
		clear(proof.Parts)
	}
	c := begun(t, "a", "b")
	mine := send(t, c, "x", 9)
	d := c.Copy()
	handed("Receive", in, "commit/2", func(x api.Proof) api.Errno { return c.Receive(p, 1, k, 3, x) })
	handed("Acknowledge", out, "answer/1", func(x api.Proof) api.Errno { return c.Acknowledge(mine, "ok", k, 10, x) })
	handed("Expire", nil, "receipt/1", func(x api.Proof) api.Errno { return d.Expire(mine, k, 9, x) })
	shows(t, c, 2, entries("receipt/2", "1"))
	shows(t, d, 2, nil)
	if k.Height() != 10 || k.Frozen() {
		t.Error("the client was changed")
	}
}

// roomy is a proof with parts and paths of its own, ahead of others in their memory.
func roomy(p api.Proof) api.Proof {
	n := len(p.Parts)
	p.Parts = append(slices.Clone(p.Parts), api.Part{Index: 99})[:n]
	for i, part := range p.Parts {
		p.Parts[i].Path = append(slices.Clone(part.Path), api.Hash{9})[:len(part.Path)]
	}
	return p
}

// whole has what lies behind the lengths too.
func whole(p api.Proof) api.Proof {
	p.Parts = slices.Clone(p.Parts[:len(p.Parts)+1])
	for i, part := range p.Parts {
		p.Parts[i].Path = part.Path[:cap(part.Path)]
	}
	return p
}
