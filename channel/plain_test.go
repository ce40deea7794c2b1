package channel_test

import (
	"math/rand/v2"
	"slices"
	"strconv"
	"strings"
	"testing"

	"nuncio/api"
	"nuncio/channel"
	"nuncio/client"
)

// plain is a channel told plainly: what was sent stands in a list, with what became of it, and what was received in another one.
type plain struct {
	own, other string
	sent       []api.Packet
	closed     []bool // of each that was sent
	received   []receipt
}

type receipt struct {
	seq    int
	answer string // none yet, if it has no letters
}

func (p plain) copy() plain {
	p.sent, p.closed, p.received = slices.Clone(p.sent), slices.Clone(p.closed), slices.Clone(p.received)
	return p
}

func isRight(p api.Packet) bool {
	within := func(n int) bool { return n >= 1 && n <= api.MaxHeight }
	return within(p.Seq) && within(p.Timeout) && len(p.Data) <= api.MaxData && len(p.From) >= 1 && len(p.From) <= 16 && strings.Trim(p.From, "abcdefghijklmnopqrstuvwxyz") == ""
}

func (p *plain) send(data string, timeout int) (api.Packet, api.Errno) {
	x := api.Packet{Seq: len(p.sent) + 1, From: p.own, Data: data, Timeout: timeout}
	if !isRight(x) {
		return api.Packet{}, api.ErrForm
	}
	p.sent, p.closed = append(p.sent, x), append(p.closed, false)
	return x, api.OK
}

func (p *plain) receiptOf(seq int) *receipt {
	for i := range p.received {
		if p.received[i].seq == seq {
			return &p.received[i]
		}
	}
	return nil
}

func (p *plain) receive(x api.Packet, self int, k *client.Client, height int, proof api.Proof) api.Errno {
	switch {
	case !isRight(x) || x.From != p.other:
		return api.ErrPacket
	case self >= x.Timeout:
		return api.ErrTimeout
	case p.receiptOf(x.Seq) != nil:
		return api.ErrDone
	case k == nil || k.Chain() != p.other:
		return api.ErrChain
	}
	e := k.Member(height, numbered("commit", x.Seq), textOf(x), proof)
	if e == api.OK {
		p.received = append(p.received, receipt{seq: x.Seq})
	}
	return e
}

func (p *plain) answer(seq int, answer string) api.Errno {
	r := p.receiptOf(seq)
	if r == nil || r.answer != "" {
		return api.ErrSeq
	}
	if answer != "ok" && answer != "no" {
		return api.ErrArg
	}
	r.answer = answer
	return api.OK
}

func (p *plain) isOpen(x api.Packet, k *client.Client) api.Errno {
	switch {
	case !isRight(x) || x.From != p.own:
		return api.ErrPacket
	case x.Seq > len(p.sent) || p.closed[x.Seq-1] || p.sent[x.Seq-1] != x:
		return api.ErrDone
	case k == nil || k.Chain() != p.other:
		return api.ErrChain
	}
	return api.OK
}

func (p *plain) acknowledge(x api.Packet, answer string, k *client.Client, height int, proof api.Proof) api.Errno {
	e := p.isOpen(x, k)
	if e == api.OK {
		e = k.Member(height, numbered("answer", x.Seq), answer, proof)
	}
	if e == api.OK {
		p.closed[x.Seq-1] = true
	}
	return e
}

func (p *plain) expire(x api.Packet, k *client.Client, height int, proof api.Proof) api.Errno {
	e := p.isOpen(x, k)
	if e == api.OK && height < x.Timeout {
		e = api.ErrTimeout
	}
	if e == api.OK {
		e = k.Absent(height, numbered("receipt", x.Seq), proof)
	}
	if e == api.OK {
		p.closed[x.Seq-1] = true
	}
	return e
}

func (p plain) entries() []api.Entry {
	var l []string
	for i, x := range p.sent {
		if !p.closed[i] {
			l = append(l, numbered("commit", x.Seq), textOf(x))
		}
	}
	for _, r := range p.received {
		l = append(l, numbered("receipt", r.seq), "1")
		if r.answer != "" {
			l = append(l, numbered("answer", r.seq), r.answer)
		}
	}
	return entries(l...)
}

// abroad is what chain b had, and clients that were shown it, or something else.
type abroad struct {
	all     states
	packets []api.Packet
	right   *client.Client
	others  []*client.Client
}

const heights = 9

// anyAbroad has at each height some of all packets committed (of some numbers more than one is told of), and receipts and answers of some numbers.
func anyAbroad(t *testing.T, r *rand.Rand) abroad {
	t.Helper()
	x := abroad{all: states{}}
	for seq := 1; seq <= 6; seq++ {
		for n := range 1 + r.IntN(3) {
			x.packets = append(x.packets, api.Packet{Seq: seq, From: "b", Data: strconv.Itoa(n), Timeout: 1 + r.IntN(heights+2)})
		}
	}
	for h := 1; h <= heights; h++ {
		if r.IntN(8) == 0 {
			continue
		}
		var l []string
		for seq := 1; seq <= 6; seq++ {
			if p := pick(r, x.packets...); !slices.Contains(l, numbered("commit", p.Seq)) {
				l = append(l, numbered("commit", p.Seq), textOf(p))
			}
			if r.IntN(2) == 0 {
				l = append(l, numbered("receipt", seq), "1")
			}
			if r.IntN(2) == 0 {
				l = append(l, numbered("answer", seq), pick(r, "ok", "no", "ok", "no", "x"))
			}
		}
		x.all[h] = entries(l...)
	}
	x.all[heights+1] = nil
	x.right = shown(t, "b", x.all)
	x.others = []*client.Client{nil, shown(t, "a", x.all), shown(t, "c", x.all), frozen(t, "b", x.all)}
	return x
}

func (x abroad) anyClient(r *rand.Rand) *client.Client {
	if r.IntN(12) == 0 {
		return pick(r, x.others...)
	}
	return x.right
}

// anyProof is mostly one of a key at that height.
func (x abroad) anyProof(r *rand.Rand, height int, key string) api.Proof {
	switch r.IntN(15) {
	case 0:
		return api.Proof{}
	case 1:
		return proofOf(x.all[1+r.IntN(heights)], key)
	case 2:
		return proofOf(x.all[height], numbered(pick(r, "commit", "receipt", "answer"), 1+r.IntN(7)))
	}
	return proofOf(x.all[height], key)
}

// duel is a channel, another one that is asked the same, and the plain one.
type duel struct {
	x       abroad
	c, twin *channel.Channel
	p       plain
	answers map[string]int
}

// TestAnyCalls: any calls against the plain channel.
func TestAnyCalls(t *testing.T) { // P20.1, P20.2, P20.3, P2
	r := random()
	answers := map[string]int{}
	for range 100 {
		x := anyAbroad(t, r)
		for range 6 {
			d := duel{x: x, c: begun(t, "a", "b"), twin: begun(t, "a", "b"), p: plain{own: "a", other: "b"}, answers: answers}
			for range 80 {
				d.play(t, r)
			}
		}
	}
	for what, n := range map[string]int{
		"Send 0": 2000, "Send 61": 200, "Receive 0": 300, "Receive 204": 100, "Receive 202": 300, "Receive 203": 200, "Receive 152": 100, "Receive 191": 100, "Receive 192": 500,
		"Answer 0": 200, "Answer 201": 500, "Answer 1": 100, "Acknowledge 0": 200, "Acknowledge 204": 100, "Acknowledge 203": 200, "Acknowledge 152": 50, "Acknowledge 191": 50, "Acknowledge 192": 300,
		"Expire 0": 200, "Expire 204": 100, "Expire 203": 200, "Expire 152": 50, "Expire 202": 200, "Expire 191": 50, "Expire 192": 200,
	} {
		if answers[what] < n {
			t.Errorf("%s was answered %d times, not %d", what, answers[what], n)
		}
	}
}

// play is one call, and what is told behind it.
func (d *duel) play(t *testing.T, r *rand.Rand) {
	t.Helper()
	was, before := d.p.copy(), d.c.Copy()
	call, e, twin, want := d.call(r)
	if e != want || twin != want {
		t.Fatalf("%s of %v: %d, not %d", call, was, e, want)
	}
	d.answers[call+" "+strconv.Itoa(int(e))]++
	for _, c := range []*channel.Channel{d.c, d.twin} {
		shows(t, c, len(d.p.sent)+1, d.p.entries())
	}
	shows(t, before, len(was.sent)+1, was.entries())
	if e != api.OK && !slices.Equal(was.entries(), d.p.entries()) {
		t.Fatalf("%s changed what is refused: %v", call, was)
	}
	if r.IntN(6) == 0 {
		d.c, d.p, d.twin = before, was, before.Copy()
	}
}

// call asks all three the same.
func (d *duel) call(r *rand.Rand) (call string, e, twin, want api.Errno) {
	k, h := d.x.anyClient(r), r.IntN(heights+3)
	answer := pick(r, "ok", "ok", "no", "no", "x", "")
	switch r.IntN(10) {
	case 0, 1:
		data, timeout := pick(r, "0", "1", strings.Repeat("d", api.MaxData+r.IntN(2))), r.IntN(heights+2)
		p, e := d.c.Send(data, timeout)
		q, twin := d.twin.Send(data, timeout)
		x, want := d.p.send(data, timeout)
		if p != x || q != x {
			return "Send: another packet", api.ErrArg, twin, want
		}
		return "Send", e, twin, want
	case 2, 3:
		p, self := d.anyPacket(r, d.x.packets), r.IntN(heights+2)
		proof := d.x.anyProof(r, h, numbered("commit", p.Seq))
		return "Receive", d.c.Receive(p, self, k, h, proof), d.twin.Receive(p, self, k, h, proof), d.p.receive(p, self, k, h, proof)
	case 4, 5, 6:
		seq := r.IntN(8)
		return "Answer", d.c.Answer(seq, answer), d.twin.Answer(seq, answer), d.p.answer(seq, answer)
	case 7, 8:
		p := d.anyPacket(r, d.p.sent)
		proof := d.x.anyProof(r, h, numbered("answer", p.Seq))
		return "Acknowledge", d.c.Acknowledge(p, answer, k, h, proof), d.twin.Acknowledge(p, answer, k, h, proof), d.p.acknowledge(p, answer, k, h, proof)
	}
	p := d.anyPacket(r, d.p.sent)
	proof := d.x.anyProof(r, h, numbered("receipt", p.Seq))
	return "Expire", d.c.Expire(p, k, h, proof), d.twin.Expire(p, k, h, proof), d.p.expire(p, k, h, proof)
}

// anyPacket is mostly one of these, as it is.
func (d *duel) anyPacket(r *rand.Rand, l []api.Packet) api.Packet {
	p := pick(r, append(l[:len(l):len(l)], d.x.packets[0])...)
	switch r.IntN(25) {
	case 0:
		p.From = pick(r, "a", "b", "c", "")
	case 1:
		p.Data = pick(r, "0", "1", "2")
	case 2:
		p.Seq = r.IntN(8)
	case 3:
		p.Timeout = r.IntN(heights + 2)
	case 4:
		p = pick(r, wrongPackets(p)...)
	}
	return p
}
