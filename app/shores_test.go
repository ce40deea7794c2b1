package app_test

import (
	"math/rand/v2"
	"strings"
	"testing"

	"nuncio/api"
	"nuncio/app"
)

// side is one of two chains whose blocks tell what their apps have.
type side struct {
	a      *app.App
	name   string
	all    states
	blocks []api.Light
	native map[string]uint64 // what was granted, by denoms
}

func newSide(t *testing.T, name, other string) *side {
	t.Helper()
	s := &side{a: begun(t, name, other), name: name, all: states{}, native: map[string]uint64{}}
	for _, denom := range []string{"coin", name + "/coin", other} {
		for _, account := range []string{"ann", "bob"} {
			expect(t, "Grant", s.a.Grant(account, denom, 50), api.OK)
			s.native[denom] += 50
		}
	}
	s.build()
	return s
}

func (s *side) height() int { return len(s.blocks) }

// build makes a block of what the app has.
func (s *side) build() {
	h, last := s.height()+1, api.Hash{}
	if h > 1 {
		last = s.blocks[h-2].Commit.Block
	}
	s.all[h] = s.a.Entries()
	s.blocks = append(s.blocks, block(s.name, h, last, s.all[h]))
}

// run is a transaction in the next block; it tells whether it was done.
func (s *side) run(x api.Tx) bool { return s.a.Run(x, s.height()+1, late) == api.OK }

// valueOf is what an entry of the app has, or nothing.
func (s *side) valueOf(key string) string {
	for _, e := range s.a.Entries() {
		if e.Key == key {
			return e.Value
		}
	}
	return ""
}

// carry tries any transaction with any packet and any proof of the other one's heights, old ones too.
func (s *side) carry(r *rand.Rand, o *side, done map[string]int) {
	h := pick(r, o.height(), s.a.Known(), 1+r.IntN(o.height()))
	denom := pick(r, "coin", "coin", s.name+"/coin", o.name, o.name+"/coin", o.name+"/coin", o.name+"/"+o.name+"/coin", o.name+"/"+s.name)
	from, to := pick(r, "ann", "bob", "escrow"), pick(r, "ann", "bob", "escrow", "?")
	n := 1 + r.Uint64N(20)
	switch r.IntN(12) {
	case 0:
		note(done, "pay", s.run(pay(from, to, denom, n)))
	case 1, 2:
		note(done, "send", s.run(send(from, to, denom, n, s.a.Known()+r.IntN(16))))
	case 3, 4:
		note(done, "update", s.run(api.Tx{Kind: api.Update, Light: o.blocks[h-1]}))
	default:
		s.close(r, o, h, done)
	}
}

func note(done map[string]int, what string, so bool) {
	if so {
		done[what]++
	}
}

// close tries what has to do with packets that were sent, there or here; most often with such as are open.
func (s *side) close(r *rand.Rand, o *side, h int, done map[string]int) {
	theirs, own := o.a.Sent(), s.a.Sent()
	if len(theirs) > 0 {
		p := theirs[max(r.IntN(len(theirs)), r.IntN(len(theirs)))]
		if s.run(receive(p, h, o.all[h])) {
			done["receive "+s.valueOf(numbered("answer", p.Seq))]++
		}
	}
	if len(own) == 0 {
		return
	}
	p := own[max(r.IntN(len(own)), r.IntN(len(own)))]
	for _, answer := range []string{"ok", "no"} {
		note(done, "acknowledge "+answer, s.run(acknowledge(p, answer, h, o.all[h])))
	}
	note(done, "expire", s.run(expire(p, h, o.all[h])))
}

// underway is what left a chain of a denom, is not closed there, and did not arrive.
func (s *side) underway(o *side, denom string) uint64 {
	all := uint64(0)
	for _, p := range s.a.Sent() {
		d, n, _, _, _ := told(p.Data)
		if d == denom && s.valueOf(numbered("commit", p.Seq)) != "" && o.valueOf(numbered("answer", p.Seq)) != "ok" {
			all += n
		}
	}
	return all
}

// judge: of what was granted here there is neither more nor less, and of what escrow has so much is there, or on the way.
func (s *side) judge(t *testing.T, o *side) {
	t.Helper()
	here, there := s.a.Bank(), o.a.Bank()
	for denom, n := range s.native {
		supplies(t, here, denom, n)
		abroad := s.name + "/" + denom
		if got, want := here.Balance("escrow", denom), there.Supply(abroad)+s.underway(o, denom)+o.underway(s, abroad); got != want {
			t.Fatalf("escrow of %s has %d %s, not %d", s.name, got, denom, want)
		}
	}
	for _, e := range there.Entries() {
		denom := e.Key[len("bank/"):strings.LastIndexByte(e.Key, '/')]
		own, is := strings.CutPrefix(denom, s.name+"/")
		if o.native[denom] == 0 && !(is && s.native[own] > 0) {
			t.Fatalf("%s has %v, which comes from nothing", o.name, e)
		}
	}
}

// settle builds and carries till nothing is open.
func (s *side) settle(o *side) {
	s.run(api.Tx{Kind: api.Update, Light: o.blocks[o.height()-1]})
	h := o.height()
	for _, p := range o.a.Sent() {
		s.run(receive(p, h, o.all[h]))
	}
	for _, p := range s.a.Sent() {
		for _, answer := range []string{"ok", "no"} {
			s.run(acknowledge(p, answer, h, o.all[h]))
		}
		s.run(expire(p, h, o.all[h]))
	}
	s.build()
}

// TestShores: two chains, and whoever carries between them tries anything.
func TestShores(t *testing.T) { // P21.3, T5
	r := random()
	done := map[string]int{}
	for range 40 {
		a, b := newSide(t, "a", "b"), newSide(t, "b", "a")
		expect(t, "Trust", a.a.Trust(b.blocks[0], late, patient), api.OK)
		expect(t, "Trust", b.a.Trust(a.blocks[0], late, patient), api.OK)
		for range 250 {
			s, o := a, b
			if r.IntN(2) == 0 {
				s, o = b, a
			}
			if r.IntN(6) == 0 {
				s.build()
			}
			s.carry(r, o, done)
			a.judge(t, b)
			b.judge(t, a)
		}
		for range 40 {
			a.settle(b)
			b.settle(a)
			a.judge(t, b)
			b.judge(t, a)
		}
		for _, e := range append(a.a.Entries(), b.a.Entries()...) {
			if strings.HasPrefix(e.Key, "commit/") {
				t.Errorf("%v is open", e)
			}
		}
	}
	for what, n := range map[string]int{"pay": 20, "send": 200, "update": 100, "receive ok": 50, "receive no": 30, "acknowledge ok": 10, "acknowledge no": 5, "expire": 50} {
		if done[what] < n {
			t.Errorf("%s: %d times, not %d", what, done[what], n)
		}
	}
}
