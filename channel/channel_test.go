package channel_test

import (
	"math"
	"strings"
	"testing"

	"nuncio/api"
	"nuncio/channel"
	"nuncio/client"
)

func TestNew(t *testing.T) { // P20.1 (K1)
	for _, own := range rightNames {
		for _, other := range rightNames {
			if own == other {
				refusedNames(t, own, other)
				continue
			}
			c := begun(t, own, other)
			shows(t, c, 1, nil)
			if p := send(t, c, "", 1); p.From != own {
				t.Errorf("a packet from %q, not %q", p.From, own)
			}
		}
	}
	for _, wrong := range wrongNames {
		refusedNames(t, wrong, "a")
		refusedNames(t, "a", wrong)
		refusedNames(t, wrong, wrong)
	}
}

func refusedNames(t *testing.T, own, other string) {
	t.Helper()
	if c, e := channel.New(own, other); c != nil || e != api.ErrName {
		t.Errorf("New(%q, %q): %v, %d", own, other, c, e)
	}
}

func TestHash(t *testing.T) { // P20.1 (K1)
	one := api.Packet{Seq: 3, From: "sender", Data: "coin", Timeout: 20}
	all := []api.Packet{one, {Seq: 1, From: "a", Timeout: 1}, {Seq: api.MaxHeight, From: "abcdefghijklmnop", Data: strings.Repeat("\xff", api.MaxData), Timeout: api.MaxHeight}}
	for _, bend := range []func(*api.Packet){func(p *api.Packet) { p.Seq = 4 }, func(p *api.Packet) { p.From = "s" }, func(p *api.Packet) { p.Data = "" }, func(p *api.Packet) { p.Timeout = 21 }} {
		x := one
		bend(&x)
		all = append(all, x)
	}
	for i, p := range all {
		h, e := channel.Hash(p)
		if h != plainHash(p) || e != api.OK {
			t.Errorf("%v: %x, %d", p, h, e)
		}
		for _, x := range all[:i] {
			if other, _ := channel.Hash(x); other == h {
				t.Errorf("%v and %v have one hash", p, x)
			}
		}
	}
	for _, p := range wrongPackets(one) {
		if h, e := channel.Hash(p); h != (api.Hash{}) || e != api.ErrForm {
			t.Errorf("%v: %x, %d", p, h, e)
		}
	}
}

func TestSend(t *testing.T) { // P20.1 (K1), P20.3, rules 2 and 3
	c := begun(t, "a", "b")
	var sent []api.Packet
	for n, data := range []string{"", "hi", "hi", "\x00\xff", strings.Repeat("d", api.MaxData-1), strings.Repeat("d", api.MaxData)} {
		for _, timeout := range []int{1, 2, 300, api.MaxHeight - 1, api.MaxHeight} {
			p := send(t, c, data, timeout)
			if want := (api.Packet{Seq: len(sent) + 1, From: "a", Data: data, Timeout: timeout}); p != want {
				t.Errorf("packet %d: %v, not %v", n, p, want)
			}
			sent = append(sent, p)
			shows(t, c, len(sent)+1, commitsOf(sent...))
		}
		refuseSends(t, c)
	}
}

// refuseSends: no packet that is not right takes a number.
func refuseSends(t *testing.T, c *channel.Channel) {
	t.Helper()
	refused := func(data string, timeout int) {
		t.Helper()
		unchanged(t, c, "a refused Send", func() {
			if p, e := c.Send(data, timeout); p != (api.Packet{}) || e != api.ErrForm {
				t.Errorf("Send of %d bytes till %d: %v, %d", len(data), timeout, p, e)
			}
		})
	}
	for _, timeout := range []int{math.MinInt, -1, 0, api.MaxHeight + 1, math.MaxInt} {
		refused("hi", timeout)
		refused(strings.Repeat("d", api.MaxData+1), timeout)
	}
	for _, n := range []int{api.MaxData + 1, api.MaxText, api.MaxText + 1, 1 << 17} {
		refused(strings.Repeat("d", n), 9)
	}
}

// TestEntries: keys rise as texts, not as numbers; and each answer has memory of its own.
func TestEntries(t *testing.T) { // P20.1 (K1), rules 4, 5 and 9
	c := begun(t, "a", "b")
	var others []api.Packet
	for n := 1; n <= 12; n++ {
		send(t, c, "x", 9)
		others = append(others, api.Packet{Seq: n, From: "b", Data: "y", Timeout: 99})
	}
	l := commitsOf(others...)
	k := shown(t, "b", states{4: l})
	for _, seq := range []int{2, 10, 1, 11} {
		receive(t, c, others[seq-1], k, 4, l, api.OK)
	}
	for _, seq := range []int{2, 11, 10} {
		expect(t, "Answer", c.Answer(seq, "ok"), api.OK)
	}
	all := c.Entries()
	var keys []string
	for _, e := range all {
		keys = append(keys, e.Key)
	}
	want := "answer/10 answer/11 answer/2 commit/1 commit/10 commit/11 commit/12 commit/2 commit/3 commit/4 commit/5 commit/6 commit/7 commit/8 commit/9 receipt/1 receipt/10 receipt/11 receipt/2"
	if got := strings.Join(keys, " "); got != want {
		t.Errorf("%s", got)
	}
	again := c.Entries()
	clear(again[:cap(again)])
	shows(t, c, 13, all)
}

// receive: Receive, at a height of the own chain that is low enough, of the commit entry that these entries have, answers just that.
func receive(t *testing.T, c *channel.Channel, p api.Packet, k *client.Client, height int, l []api.Entry, want api.Errno) {
	t.Helper()
	expect(t, "Receive", c.Receive(p, p.Timeout-1, k, height, proofOf(l, numbered("commit", p.Seq))), want)
}

func TestReceive(t *testing.T) { // P20.1 (K2)
	var all []api.Packet
	for i, timeout := range []int{1, 2, 30, api.MaxHeight - 1, api.MaxHeight} {
		for _, seq := range []int{1, 7, 10, api.MaxHeight} {
			p := api.Packet{Seq: seq, From: "b", Data: strings.Repeat("d", i), Timeout: timeout}
			all = append(all, p)
			for _, height := range []int{1, 5, api.MaxHeight} {
				receiveOne(t, p, height)
			}
		}
	}
	if len(all) != 20 {
		t.Fatal("not all were tried")
	}
}

// receiveOne: below its time, however far, a packet is received; from its time on it is not.
func receiveOne(t *testing.T, p api.Packet, height int) {
	t.Helper()
	l := commitsOf(p)
	k := shown(t, "b", states{height: l})
	proof := proofOf(l, numbered("commit", p.Seq))
	for _, self := range []int{math.MinInt, -1, 0, p.Timeout - 1} {
		c := begun(t, "a", "b")
		for _, late := range []int{p.Timeout, p.Timeout + 1, api.MaxHeight + 1, math.MaxInt} {
			unchanged(t, c, "late", func() { expect(t, "late", c.Receive(p, late, k, height, proof), api.ErrTimeout) })
		}
		expect(t, "Receive", c.Receive(p, self, k, height, proof), api.OK)
		shows(t, c, 1, entries(numbered("receipt", p.Seq), "1"))
		unchanged(t, c, "again", func() { expect(t, "again", c.Receive(p, self, k, height, proof), api.ErrDone) })
	}
}

// TestOutOfOrder: packets are received in any order, and some never.
func TestOutOfOrder(t *testing.T) { // P20.1 (K2)
	c := begun(t, "a", "b")
	var all []api.Packet
	for n := 1; n <= 12; n++ {
		all = append(all, api.Packet{Seq: n, From: "b", Data: "d", Timeout: 50})
	}
	l := commitsOf(all...)
	k := shown(t, "b", states{4: l})
	var want []string
	for _, seq := range []int{9, 2, 12, 1, 10, 5} {
		receive(t, c, all[seq-1], k, 4, l, api.OK)
		want = append(want, numbered("receipt", seq), "1")
		shows(t, c, 1, entries(want...))
	}
}

func TestAnswer(t *testing.T) { // P20.1 (K2), P20.3, rule 1
	c := begun(t, "a", "b")
	var all []api.Packet
	for _, n := range []int{1, 2, 12} {
		all = append(all, api.Packet{Seq: n, From: "b", Timeout: 50})
	}
	l := commitsOf(all...)
	k := shown(t, "b", states{4: l})
	sent := send(t, c, "x", 9) // a packet of the own chain has no receipt here
	strange := []string{"", "o", "OK", "ok ", " ok", "okno", "yes", "1", "no\x00", strings.Repeat("ok", 1<<16)}
	refused := func(seq int, want api.Errno, answers ...string) {
		t.Helper()
		for _, answer := range answers {
			unchanged(t, c, "Answer", func() { expect(t, "Answer", c.Answer(seq, answer), want) })
		}
	}
	for _, n := range []int{math.MinInt, -1, 0, 1, 2, 3, 12, api.MaxHeight, math.MaxInt} {
		refused(n, api.ErrSeq, append(strange, "ok", "no")...)
	}
	receive(t, c, all[0], k, 4, l, api.OK)
	receive(t, c, all[2], k, 4, l, api.OK)
	refused(1, api.ErrArg, strange...)
	refused(12, api.ErrArg, strange...)
	expect(t, "ok", c.Answer(1, "ok"), api.OK)
	expect(t, "no", c.Answer(12, "no"), api.OK)
	for _, n := range []int{1, 2, 12} {
		refused(n, api.ErrSeq, append(strange, "ok", "no")...)
	}
	shows(t, c, 2, entries("answer/1", "ok", "answer/12", "no", "commit/1", textOf(sent), "receipt/1", "1", "receipt/12", "1"))
}

// TestNil: ErrArg, and nothing.
func TestNil(t *testing.T) { // P20.1 (K3), P1, rule 8
	var c *channel.Channel
	right := api.Packet{Seq: 1, From: "b", Timeout: 9}
	l := commitsOf(right)
	k := shown(t, "b", states{9: l})
	for _, p := range append(wrongPackets(right), right) {
		if sent, e := c.Send(p.Data, p.Timeout); sent != (api.Packet{}) || e != api.ErrArg {
			t.Errorf("Send: %v, %d", sent, e)
		}
		for _, k := range []*client.Client{k, nil} {
			receive(t, c, p, k, 9, l, api.ErrArg)
			expect(t, "Acknowledge", c.Acknowledge(p, "ok", k, 9, proofOf(l, "answer/1")), api.ErrArg)
			expect(t, "Expire", c.Expire(p, k, 9, proofOf(l, "receipt/1")), api.ErrArg)
		}
	}
	for _, seq := range []int{-1, 0, 1} {
		expect(t, "Answer", c.Answer(seq, "ok"), api.ErrArg)
		expect(t, "Answer", c.Answer(seq, "x"), api.ErrArg)
	}
	if c.Next() != 0 || len(c.Entries()) != 0 || c.Copy() != nil {
		t.Error("a nil channel has something")
	}
}

// TestNotGiven: a channel that New did not give is between no chains.
func TestNotGiven(t *testing.T) { // P1
	var c channel.Channel
	for _, from := range []string{"", "a", "b"} {
		p := api.Packet{Seq: 1, From: from, Timeout: 9}
		l := commitsOf(p)
		k := shown(t, "b", states{9: l})
		expect(t, "Receive", c.Receive(p, 1, k, 9, proofOf(l, "commit/1")), api.ErrPacket)
		expect(t, "Acknowledge", c.Acknowledge(p, "ok", k, 9, proofOf(l, "answer/1")), api.ErrPacket)
		expect(t, "Expire", c.Expire(p, k, 9, proofOf(l, "receipt/1")), api.ErrPacket)
	}
	if p, e := c.Send("", 1); p != (api.Packet{}) || e == api.OK {
		t.Errorf("Send: %v, %d", p, e)
	}
	expect(t, "Answer", c.Answer(1, "ok"), api.ErrSeq)
	shows(t, &c, 0, nil)
	shows(t, c.Copy(), 0, nil)
}

// TestCopy: both are the same, and apart.
func TestCopy(t *testing.T) { // P20.1 (K1)
	c := begun(t, "a", "b")
	first := send(t, c, "1", 9)
	other := api.Packet{Seq: 4, From: "b", Timeout: 50}
	l := commitsOf(other)
	k := shown(t, "b", states{9: l, 10: entries("answer/1", "no", "receipt/1", "1")})
	d := c.Copy()
	if d == nil || d == c {
		t.Fatal("no other channel")
	}
	shows(t, d, 2, commitsOf(first))
	receive(t, d, other, k, 9, l, api.OK)
	shows(t, c, 2, commitsOf(first))
	expect(t, "Expire", c.Expire(first, k, 9, proofOf(l, "receipt/1")), api.OK)
	shows(t, c, 2, nil)
	shows(t, d, 2, append(commitsOf(first), entries("receipt/4", "1")...))
	x := d.Copy()
	expect(t, "Acknowledge", d.Acknowledge(first, "no", k, 10, proofOf(entries("answer/1", "no", "receipt/1", "1"), "answer/1")), api.OK)
	expect(t, "Answer", d.Answer(4, "ok"), api.OK)
	second := send(t, d, "2", 9)
	shows(t, d, 3, append(entries("answer/4", "ok"), append(commitsOf(second), entries("receipt/4", "1")...)...))
	shows(t, x, 2, append(commitsOf(first), entries("receipt/4", "1")...))
	shows(t, c, 2, nil)
	if p := send(t, x, "", 1); p.Seq != 2 || p.From != "a" {
		t.Errorf("a copy sent %v", p)
	}
	receive(t, c.Copy(), other, k, 9, l, api.OK)
	shows(t, c, 2, nil)
}

// TestMany: very many packets are sent, received and answered in little time.
func TestMany(t *testing.T) { // P1, P20.1
	const many = 4000
	c, d := begun(t, "a", "b"), begun(t, "b", "a")
	for range many {
		send(t, c, "x", api.MaxHeight)
	}
	l := c.Entries()
	k := shown(t, "a", states{1: l})
	for seq := 1; seq <= many; seq += 40 {
		p := api.Packet{Seq: seq, From: "a", Data: "x", Timeout: api.MaxHeight}
		receive(t, d, p, k, 1, l, api.OK)
		expect(t, "Answer", d.Answer(seq, "ok"), api.OK)
	}
	if len(l) != many || len(d.Entries()) != many/20 {
		t.Errorf("%d commits, %d receipts and answers", len(l), len(d.Entries()))
	}
}
