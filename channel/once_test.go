package channel_test

import (
	"math"
	"math/rand/v2"
	"slices"
	"testing"

	"nuncio/api"
	"nuncio/channel"
	"nuncio/client"
)

// TestNumberOnce: of a number one packet is received, whatever else is shown of that number later.
func TestNumberOnce(t *testing.T) { // P20.2
	c := begun(t, "a", "b")
	one, two := api.Packet{Seq: 5, From: "b", Data: "1", Timeout: 50}, api.Packet{Seq: 5, From: "b", Data: "2", Timeout: 60}
	k := shown(t, "b", states{3: commitsOf(one), 4: commitsOf(two)})
	receive(t, c, one, k, 3, commitsOf(one), api.OK)
	again := func() {
		t.Helper()
		unchanged(t, c, "again", func() {
			receive(t, c, one, k, 3, commitsOf(one), api.ErrDone)
			receive(t, c, two, k, 4, commitsOf(two), api.ErrDone)
			receive(t, c, two, nil, 9, nil, api.ErrDone)
		})
	}
	again()
	expect(t, "Answer", c.Answer(5, "no"), api.OK)
	again()
}

// TestClosedOnce: whatever closed a packet, nothing closes it again, and its number is not used again.
func TestClosedOnce(t *testing.T) { // P20.2
	yes, no := entries("answer/1", "ok", "receipt/1", "1"), entries("answer/1", "no", "receipt/1", "1")
	k := shown(t, "b", states{9: nil, 10: yes, 11: no})
	closing := []func(*channel.Channel, api.Packet) api.Errno{
		func(c *channel.Channel, p api.Packet) api.Errno {
			return c.Expire(p, k, 9, proofOf(nil, "receipt/1"))
		},
		func(c *channel.Channel, p api.Packet) api.Errno {
			return c.Acknowledge(p, "ok", k, 10, proofOf(yes, "answer/1"))
		},
		func(c *channel.Channel, p api.Packet) api.Errno {
			return c.Acknowledge(p, "no", k, 11, proofOf(no, "answer/1"))
		},
	}
	for _, first := range closing {
		c := begun(t, "a", "b")
		p := send(t, c, "x", 9)
		expect(t, "close", first(c, p), api.OK)
		shows(t, c, 2, nil)
		for _, again := range closing {
			unchanged(t, c, "again", func() { expect(t, "again", again(c, p), api.ErrDone) })
		}
		second := send(t, c, "x", 9)
		if second.Seq != 2 {
			t.Errorf("the number %d again", second.Seq)
		}
		for _, again := range closing {
			unchanged(t, c, "again", func() { expect(t, "again", again(c, p), api.ErrDone) })
		}
		shows(t, c, 3, commitsOf(second))
	}
}

// shore is a chain with its channel, what the other one knows of it, and what was done with packets.
type shore struct {
	c        *channel.Channel
	name     string
	all      states
	last     api.Hash
	height   int
	known    *client.Client // by the other one
	sent     []api.Packet
	received map[int]int    // how often, by the other one's numbers
	given    map[int]string // answers
	answered map[int]string // what closed a packet of its own: an answer,
	expired  map[int]int    // or its time, how often
}

func newShore(t *testing.T, name, other string) *shore {
	t.Helper()
	s := &shore{c: begun(t, name, other), name: name, all: states{}, received: map[int]int{}, given: map[int]string{}, answered: map[int]string{}, expired: map[int]int{}}
	s.build(t)
	return s
}

// build makes a block of what the channel has, and the other chain takes it in.
func (s *shore) build(t *testing.T) {
	t.Helper()
	s.height++
	s.all[s.height] = s.c.Entries()
	l, e := block(s.name, s.height, s.last, s.all[s.height]), api.OK
	if s.known == nil {
		s.known, e = client.New(l, api.MaxHeight, api.Options{Level: 0.5, Period: math.Inf(1)})
	} else {
		e = s.known.Update(l, api.MaxHeight)
	}
	if e != api.OK {
		t.Fatalf("height %d: %d", s.height, e)
	}
	s.last = l.Commit.Block
}

// carry tries any step of this chain with any packet and any proof of the other one's heights, old ones too.
func (s *shore) carry(t *testing.T, r *rand.Rand, o *shore) {
	t.Helper()
	h := pick(r, o.height, o.height, 1+r.IntN(o.height))
	switch n := r.IntN(8); {
	case n == 0:
		s.sent = append(s.sent, send(t, s.c, pick(r, "x", "y"), s.height+1+r.IntN(6)))
	case n == 1:
		s.answer(t, pick(r, 1+r.IntN(len(o.sent)+1), len(o.sent)), pick(r, "ok", "no"))
	case n <= 3 && len(o.sent) > 0:
		p := pick(r, o.sent...)
		if s.c.Receive(p, s.height+1, o.known, h, proofOf(o.all[h], numbered("commit", p.Seq))) == api.OK {
			s.received[p.Seq]++
		}
	case n <= 5 && len(s.sent) > 0:
		s.acknowledge(t, pick(r, s.sent...), pick(r, "ok", "no"), o, h)
	case n <= 7 && len(s.sent) > 0:
		p := pick(r, s.sent...)
		if s.c.Expire(p, o.known, h, proofOf(o.all[h], numbered("receipt", p.Seq))) == api.OK {
			s.expired[p.Seq]++
		}
	}
	s.judge(t, o)
}

func (s *shore) answer(t *testing.T, seq int, answer string) {
	t.Helper()
	if s.c.Answer(seq, answer) != api.OK {
		return
	}
	if s.given[seq] != "" || s.received[seq] == 0 {
		t.Fatalf("%d is answered, but was answered %q and received %d times", seq, s.given[seq], s.received[seq])
	}
	s.given[seq] = answer
}

func (s *shore) acknowledge(t *testing.T, p api.Packet, answer string, o *shore, h int) {
	t.Helper()
	if s.c.Acknowledge(p, answer, o.known, h, proofOf(o.all[h], numbered("answer", p.Seq))) != api.OK {
		return
	}
	if s.answered[p.Seq] != "" || o.given[p.Seq] != answer {
		t.Fatalf("%d is closed by %q, was by %q, and the other one gave %q", p.Seq, answer, s.answered[p.Seq], o.given[p.Seq])
	}
	s.answered[p.Seq] = answer
}

// judge: each packet is received once and closed once, and none is received and timed out.
func (s *shore) judge(t *testing.T, o *shore) {
	t.Helper()
	l := s.c.Entries()
	for _, p := range s.sent {
		got, over := o.received[p.Seq], s.expired[p.Seq]
		if got > 1 || over > 1 || got+over > 1 || over == 1 && s.answered[p.Seq] != "" {
			t.Fatalf("%v: received %d times, timed out %d times, answered %q", p, got, over, s.answered[p.Seq])
		}
		open := slices.Contains(l, commitsOf(p)[0])
		if open != (over == 0 && s.answered[p.Seq] == "") {
			t.Fatalf("%v is open: %t, timed out %d times, answered %q", p, open, over, s.answered[p.Seq])
		}
	}
}

// TestShores: two chains whose blocks tell what their channels have, and whoever carries between them tries anything.
func TestShores(t *testing.T) { // P20.2, T5
	r := random()
	var received, answered, expired int
	for range 40 {
		a, b := newShore(t, "a", "b"), newShore(t, "b", "a")
		for range 250 {
			s, o := a, b
			if r.IntN(2) == 0 {
				s, o = b, a
			}
			if r.IntN(6) == 0 {
				s.build(t)
			}
			s.carry(t, r, o)
		}
		for _, s := range []*shore{a, b} {
			received, answered, expired = received+len(s.received), answered+len(s.answered), expired+len(s.expired)
		}
	}
	if received < 200 || answered < 30 || expired < 200 {
		t.Errorf("%d received, %d answered, %d timed out: too few", received, answered, expired)
	}
}
