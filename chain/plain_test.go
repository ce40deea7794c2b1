package chain_test

import (
	"bytes"
	"math/big"
	"math/rand/v2"
	"slices"
	"strconv"
	"strings"
	"testing"

	"nuncio/api"
	"nuncio/app"
	"nuncio/chain"
	"nuncio/merkle"
)

// plain is a chain told plainly, whose app is layer 21's.
type plain struct {
	own     string
	secrets []uint64
	a       *app.App
	pool    []api.Tx
	lights  []api.Light
	states  [][]api.Entry
	results [][]api.Errno
}

func (p *plain) grant(account, denom string, n uint64) api.Errno {
	if len(p.lights) > 0 {
		return api.ErrBlock
	}
	return p.a.Grant(account, denom, n)
}

func (p *plain) submit(x api.Tx) api.Errno {
	if len(p.pool) == 32 {
		return api.ErrBlock
	}
	p.pool = append(p.pool, x)
	return api.OK
}

// sign are the secrets of those of the set who sign, by rising keys, and whether they have more than two thirds.
func (p *plain) sign(set []api.Validator, who []bool) ([]uint64, bool) {
	var l []uint64
	part, all := new(big.Int), new(big.Int)
	for i, v := range set {
		all.Add(all, big.NewInt(int64(v.Power)))
		at := slices.IndexFunc(p.secrets, func(s uint64) bool { return keyOf(s) == v.Key })
		if at >= 0 && (i >= len(who) || who[i]) {
			l = append(l, p.secrets[at])
			part.Add(part, big.NewInt(int64(v.Power)))
		}
	}
	part.Mul(part, big.NewInt(3))
	return l, part.Cmp(all.Mul(all, big.NewInt(2))) > 0
}

func (p *plain) block(time, round int, who []bool) api.Errno {
	h := api.Header{Chain: p.own, Height: len(p.lights) + 1, Time: time}
	ahead := 0
	if h.Height > 1 {
		last := p.lights[h.Height-2].Header
		ahead, h.Last = last.Time, headerHash(last)
	}
	if time <= ahead || time > 1<<40 {
		return api.ErrOrder
	}
	if round < 0 || round > 1<<20 {
		return api.ErrForm
	}
	set := p.a.Set()
	secrets, enough := p.sign(set, who)
	if !enough {
		return api.ErrCommit
	}
	var results []api.Errno
	for _, x := range p.pool {
		results = append(results, p.a.Run(x, h.Height, float64(time)))
	}
	p.pool = nil
	l := api.Light{Set: set, Next: p.a.Set()}
	h.Set, h.Next, h.Data = setHash(set), setHash(l.Next), dataHash(results)
	state := p.a.Entries()
	h.App, _ = merkle.Root(state)
	l.Header = h
	l.Commit = api.Commit{Height: h.Height, Round: round, Block: headerHash(h)}
	for _, s := range secrets {
		l.Commit.Seals = append(l.Commit.Seals, sealOf(s, p.own, h.Height, round, l.Commit.Block))
	}
	p.lights, p.states, p.results = append(p.lights, l), append(p.states, state), append(p.results, results)
	return api.OK
}

func (p *plain) view(t *testing.T) view {
	t.Helper()
	v := view{height: len(p.lights), set: p.a.Set(), entries: p.a.Entries(), sent: p.a.Sent(), known: p.a.Known(), results: p.results}
	for _, l := range p.lights {
		v.lights = append(v.lights, bytesOf(t, l))
	}
	return v
}

// shore is a chain, another one that is asked the same, and the plain one; toward the other shore.
type shore struct {
	c, twin *chain.Chain
	p       *plain
	time    int
	answers map[string]int
}

func newShore(t *testing.T, r *rand.Rand, own, other string, answers map[string]int) *shore {
	t.Helper()
	var secrets []uint64
	var weights []int
	for i := range 1 + r.IntN(5) {
		secrets, weights = append(secrets, uint64(100+i)), append(weights, pick(r, 1, 1, 1, 2, 3, 1<<40))
	}
	r.Shuffle(len(secrets), func(i, j int) { secrets[i], secrets[j] = secrets[j], secrets[i] })
	c, e := chain.New(own, other, secrets, weights)
	twin, twinE := chain.New(own, other, secrets, weights)
	a, want := app.New(own, other, setOf(secrets, weights))
	if e != want || twinE != want || want != api.OK {
		t.Fatalf("New: %d, %d, %d", e, twinE, want)
	}
	return &shore{c: c, twin: twin, p: &plain{own: own, secrets: secrets, a: a}, answers: answers}
}

func (s *shore) agree(t *testing.T, call string, e, twin, want api.Errno) {
	t.Helper()
	if e != want || twin != want {
		t.Fatalf("%s: %d and %d, not %d", call, e, twin, want)
	}
	s.answers[call+" "+strconv.Itoa(int(want))]++
}

func (s *shore) grant(t *testing.T, account, denom string, n uint64) {
	t.Helper()
	s.agree(t, "grant", s.c.Grant(account, denom, n), s.twin.Grant(account, denom, n), s.p.grant(account, denom, n))
}

func (s *shore) submit(t *testing.T, x api.Tx) {
	t.Helper()
	s.agree(t, "submit", s.c.Submit(x), s.twin.Submit(x), s.p.submit(x))
}

func (s *shore) block(t *testing.T, time, round int, who []bool) {
	t.Helper()
	want := s.p.block(time, round, who)
	s.agree(t, "block", s.c.Block(time, round, who), s.twin.Block(time, round, who), want)
	if want != api.OK {
		return
	}
	s.time = time
	for _, e := range s.p.results[len(s.p.results)-1] {
		s.answers["run "+strconv.Itoa(int(e))]++
	}
}

func (s *shore) trust(t *testing.T, l api.Light, now float64) {
	t.Helper()
	s.agree(t, "trust", s.c.Trust(l, now, patient), s.twin.Trust(l, now, patient), s.p.a.Trust(l, now, patient))
}

// play is one call, of any kind.
func (s *shore) play(t *testing.T, r *rand.Rand, o *shore) {
	t.Helper()
	switch r.IntN(12) {
	case 0:
		s.grant(t, pick(r, "ann", "bob", "escrow"), pick(r, "coin", "gold", o.p.own+"/coin"), r.Uint64N(30))
	case 1:
		if n := len(o.p.lights); n > 0 {
			s.trust(t, pick(r, o.p.lights...), pick(r, 5, float64(s.time)))
		}
	case 2, 3, 4, 5:
		var who []bool
		for range r.IntN(6) {
			who = append(who, r.IntN(10) > 0)
		}
		s.block(t, pick(r, s.time+1, s.time+1, s.time+2, s.time+2, s.time, s.time-1, 0), pick(r, 0, 0, 0, 1, 1<<20, -1), who)
	default:
		for range 1 + r.IntN(4)*r.IntN(3) {
			s.submit(t, s.anyTx(r, o))
		}
	}
}

func (s *shore) anyTx(r *rand.Rand, o *shore) api.Tx {
	from, to := pick(r, "ann", "bob", "bob", "escrow"), pick(r, "ann", "bob", "escrow")
	denom := pick(r, "coin", "gold", o.p.own+"/coin", o.p.own+"/gold")
	height := len(o.p.lights)
	if height == 0 {
		return pay(from, to, denom, r.Uint64N(10))
	}
	h := 1 + max(r.IntN(height), r.IntN(height))
	if known := s.p.a.Known(); known > 0 && r.IntN(2) == 0 {
		h = known
	}
	switch r.IntN(10) {
	case 0:
		return pay(from, to, denom, r.Uint64N(10))
	case 1, 2:
		return send(from, to, denom, r.Uint64N(10), s.p.a.Known()+r.IntN(9))
	case 3, 4:
		return api.Tx{Kind: api.Update, Light: o.p.lights[h-1]}
	case 5:
		return s.anyPowers(r)
	}
	return s.anyCarried(r, o, h)
}

// anyPowers change what a set has, also by strangers.
func (s *shore) anyPowers(r *rand.Rand) api.Tx {
	var l []api.Validator
	for range r.IntN(3) {
		key := keyOf(uint64(100 + r.IntN(5)))
		if r.IntN(12) == 0 {
			key = r.Uint64N(4)
		}
		l = append(l, api.Validator{Key: key, Power: pick(r, 0, 1, 1, 2, 3, 3, -1)})
	}
	return powers(l...)
}

// anyCarried has to do with packets that were sent, with a proof of the other one's height h.
func (s *shore) anyCarried(r *rand.Rand, o *shore, h int) api.Tx {
	kind := pick(r, api.Receive, api.Receive, api.Acknowledge, api.Expire)
	key, all := "commit", o.p.a.Sent()
	if kind != api.Receive {
		all = s.p.a.Sent()
	}
	switch kind {
	case api.Acknowledge:
		key = "answer"
	case api.Expire:
		key = "receipt"
	}
	if len(all) == 0 {
		return api.Tx{Kind: api.TxKind(r.IntN(9))}
	}
	p := all[max(r.IntN(len(all)), r.IntN(len(all)))]
	proof, _ := o.c.Proof(h, numbered(key, p.Seq))
	ack, _ := valueOf(o.p.states[h-1], numbered("answer", p.Seq))
	return api.Tx{Kind: kind, Packet: p, Ack: ack, Height: h, Proof: proof}
}

// judge: the chain and its twin tell what the plain one tells.
func (s *shore) judge(t *testing.T) {
	t.Helper()
	want := s.p.view(t)
	if got, twin := look(t, s.c), look(t, s.twin); !isSame(got, want) || !isSame(twin, want) {
		t.Fatalf("%+v and %+v, not %+v", got, twin, want)
	}
}

// settle: what all heights showed is what they had.
func (s *shore) settle(t *testing.T, r *rand.Rand) {
	t.Helper()
	sound(t, s.c, s.p.own)
	for h, state := range s.p.states {
		if r.IntN(6) == 0 {
			proved(t, s.c, h+1, state)
		}
		for _, key := range []string{"bank/coin/ann", numbered("commit", 1+r.IntN(9)), numbered("receipt", 1+r.IntN(9)), strings.Repeat("b", r.IntN(9))} {
			proves(t, s.c, h+1, state, key)
			p, e := s.c.Proof(h+1, key)
			q, want := merkle.Prove(state, key)
			if e != want || !isSameProof(p, q) {
				t.Fatalf("at %d %q: %v, not %v", h+1, key, p, q)
			}
		}
	}
	for _, h := range []int{-1, 0, len(s.p.lights) + 1} {
		missing(t, s.c, h, api.ErrBlock)
	}
}

func isSameProof(a, b api.Proof) bool {
	return a.Size == b.Size && slices.EqualFunc(a.Parts, b.Parts, func(x, y api.Part) bool {
		return x.Index == y.Index && x.Entry == y.Entry && slices.Equal(x.Path, y.Path)
	})
}

// supplied: of what was granted at one shore there is as much as ever, and at the other one no more than what escrow has.
func supplied(t *testing.T, s, o *shore, granted map[string]uint64) {
	t.Helper()
	here, there := s.c.App().Bank(), o.c.App().Bank()
	for denom, n := range granted {
		if got := here.Supply(denom); got != n {
			t.Fatalf("%d %s, not %d", got, denom, n)
		}
		if escrow, abroad := here.Balance("escrow", denom), there.Supply(s.p.own+"/"+denom); escrow < abroad {
			t.Fatalf("escrow has %d %s, and abroad there are %d", escrow, denom, abroad)
		}
	}
}

func (s *shore) granted() map[string]uint64 {
	b := s.c.App().Bank()
	all := map[string]uint64{}
	for _, denom := range []string{"coin", "gold"} {
		all[denom] = b.Supply(denom)
	}
	return all
}

// TestAnyCalls: any calls on two chains, that show each other what they have, against plain ones.
func TestAnyCalls(t *testing.T) { // P22.1, P22.2, P22.3, P2, T4, T5
	r := random()
	answers := map[string]int{}
	for range 100 {
		a, b := newShore(t, r, "a", "b", answers), newShore(t, r, "b", "a", answers)
		for _, s := range []*shore{a, b} {
			s.grant(t, "ann", "coin", 100)
			s.grant(t, "bob", "gold", 100)
		}
		a.block(t, 3, 0, nil)
		b.block(t, 3, 0, nil)
		hereAll, thereAll := a.granted(), b.granted()
		for range 200 {
			s, o := a, b
			if r.IntN(2) == 0 {
				s, o = b, a
			}
			s.play(t, r, o)
			if r.IntN(16) == 0 {
				s.judge(t)
			}
			supplied(t, a, b, hereAll)
			supplied(t, b, a, thereAll)
		}
		for _, s := range []*shore{a, b} {
			s.judge(t)
			s.settle(t, r)
		}
	}
	for what, n := range map[string]int{
		"grant 0": 200, "grant 221": 500, "submit 0": 5000, "submit 221": 1000, "trust 0": 100, "trust 203": 500, "block 0": 1000, "block 61": 300, "block 153": 1000, "block 158": 500,
		"run 0": 1000, "run 1": 100, "run 71": 1, "run 72": 100, "run 73": 30, "run 153": 500, "run 159": 5, "run 181": 500, "run 183": 500, "run 191": 500, "run 192": 200, "run 202": 500, "run 203": 100, "run 204": 300, "run 211": 300,
	} {
		if answers[what] < n {
			t.Errorf("%s was answered %d times, not %d", what, answers[what], n)
		}
	}
}

// TestOften: the same calls give the same blocks, whatever else was made.
func TestOften(t *testing.T) { // P2
	tell := func() []byte {
		c := begun(t, "a", "b")
		submit(t, c, pay("ann", "bob", "coin", 3), powers(api.Validator{Key: 77, Power: 1}))
		made(t, c, 10)
		made(t, c, 20)
		p, _ := c.Proof(2, "bank/coin/bob")
		b := slices.Concat(bytesOf(t, light(t, c, 1)), bytesOf(t, light(t, c, 2)))
		return append(b, p.Parts[0].Path[0][:]...)
	}
	first := tell()
	for range 20 {
		if !bytes.Equal(tell(), first) {
			t.Fatal("the same calls give another answer")
		}
	}
}
