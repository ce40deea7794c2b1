package node_test

import (
	"bytes"
	"math/rand/v2"
	"slices"
	"testing"

	"nuncio/api"
	"nuncio/forms"
	"nuncio/node"
	"nuncio/round"
	"nuncio/tally"
	"nuncio/tape"
)

func voteIn(b []byte) (api.Vote, bool) {
	v, e := forms.DecodeVote(b)
	return v, e == api.OK
}

// said is a message as the tests know it: valid is of a proposal, which has no type.
type said struct {
	vote  api.Vote
	valid int
	bytes []byte
}

// plain is a node told plainly: it has all messages of its height in a list, and goes through them whenever it asks something.
type plain struct {
	t       *testing.T
	secret  uint64
	key     uint64
	set     []api.Validator
	secrets []uint64
	votes   []api.Vote // that it signed
	commits []api.Commit
	state   round.State
	heard   []said
	kept    []said
	waits   []node.Wait
	out     [][]byte
	counts  map[int]int // inputs that did something, by kind
}

func newPlain(t *testing.T, secret uint64, set []api.Validator, secrets []uint64) *plain {
	p := &plain{t: t, secret: secret, key: keyOf(t, secret), set: set, secrets: secrets, counts: map[int]int{}}
	p.reopen()
	return p
}

func (p *plain) height() int { return len(p.commits) + 1 }

// reopen is what N1 says.
func (p *plain) reopen() {
	p.state, p.heard, p.kept, p.waits, p.out = round.New(), nil, nil, nil, nil
	for _, v := range p.votes {
		if v.Height != p.height() {
			continue
		}
		p.state.Round, p.state.Step = v.Round, 2
		if v.Type == api.Precommit {
			p.state.Step = 3
			if v.Block != (api.Hash{}) {
				p.state.Locked, p.state.LockedRound, p.state.Valid, p.state.ValidRound = v.Block, v.Round, v.Block, v.Round
			}
		}
	}
}

func (p *plain) start() {
	if p.state.Round == -1 {
		p.begin(0)
	}
	p.run()
}

func (p *plain) hear(m said) {
	far := max(p.state.Round, 0) + 64
	switch {
	case m.vote.Height < p.height() || m.vote.Round > far:
	case m.vote.Height == p.height():
		p.heard = append(p.heard, m)
	case len(p.kept) < 256:
		p.kept = append(p.kept, m)
	}
	p.run()
}

func (p *plain) fire(i int) {
	w := p.waits[i]
	p.waits = append(slices.Clone(p.waits[:i]), p.waits[i+1:]...)
	p.put(round.Input{Kind: w.Kind + 6, Round: w.Round})
	p.run()
}

func (p *plain) catch(c api.Commit) {
	p.enter(c)
	p.run()
}

func (p *plain) enter(c api.Commit) {
	p.commits = append(p.commits, c)
	p.state, p.heard, p.waits = round.New(), nil, nil
	var kept []said
	for _, m := range p.kept {
		if m.vote.Height > p.height() {
			kept = append(kept, m)
		} else if m.vote.Round <= 64 {
			p.heard = append(p.heard, m)
		}
	}
	p.kept = kept
}

// firsts are the votes of a round and type that count: each key's first one.
func (p *plain) firsts(r int, kind api.VoteType) map[uint64]api.Vote {
	l := map[uint64]api.Vote{}
	for _, m := range p.heard {
		if _, is := l[m.vote.Key]; !is && m.vote.Round == r && m.vote.Type == kind {
			l[m.vote.Key] = m.vote
		}
	}
	return l
}

func (p *plain) power(l map[uint64]api.Vote, counts func(api.Vote) bool) int {
	part := 0
	for _, who := range p.set {
		if v, is := l[who.Key]; is && counts(v) {
			part += who.Power
		}
	}
	return part
}

func (p *plain) total() int {
	total := 0
	for _, who := range p.set {
		total += who.Power
	}
	return total
}

func (p *plain) winner(r int, kind api.VoteType) (api.Hash, bool) {
	l := p.firsts(r, kind)
	for _, v := range l {
		if 3*p.power(l, func(w api.Vote) bool { return w.Block == v.Block }) > 2*p.total() {
			return v.Block, true
		}
	}
	return api.Hash{}, false
}

func (p *plain) any(r int, kind api.VoteType) bool {
	return 3*p.power(p.firsts(r, kind), func(api.Vote) bool { return true }) > 2*p.total()
}

func (p *plain) proposals(r int) []said {
	var l []said
	for _, m := range p.heard {
		if m.vote.Type == 0 && m.vote.Round == r {
			l = append(l, m)
		}
	}
	return l
}

func (p *plain) proposes(r int, block api.Hash) bool {
	return slices.ContainsFunc(p.proposals(r), func(m said) bool { return m.vote.Block == block })
}

// rounds of which something was heard, in order.
func (p *plain) rounds() []int {
	var l []int
	for _, m := range p.heard {
		l = append(l, m.vote.Round)
	}
	slices.Sort(l)
	return slices.Compact(l)
}

// inputs are those of N3, in order.
func (p *plain) inputs() []round.Input {
	var l []round.Input
	own := p.state.Round
	for _, r := range p.rounds() {
		if block, won := p.winner(r, api.Precommit); won && p.proposes(r, block) {
			l = append(l, round.Input{Kind: round.Decide, Round: r, Block: block})
			break
		}
	}
	rounds := p.rounds()
	slices.Reverse(rounds)
	for _, r := range rounds {
		speakers := map[uint64]api.Vote{}
		for _, m := range p.heard {
			if m.vote.Round == r {
				speakers[m.vote.Key] = m.vote
			}
		}
		if r > own && 3*p.power(speakers, func(api.Vote) bool { return true }) > p.total() {
			l = append(l, round.Input{Kind: round.Later, Round: r})
			break
		}
	}
	if proposals := p.proposals(own); len(proposals) > 0 {
		m := proposals[0]
		if m.valid == -1 {
			l = append(l, round.Input{Kind: round.Propose, Round: own, Block: m.vote.Block})
		} else if block, won := p.winner(m.valid, api.Prevote); won && block == m.vote.Block {
			l = append(l, round.Input{Kind: round.Again, Round: own, Block: block, Valid: m.valid})
		}
	}
	block, won := p.winner(own, api.Prevote)
	if won && p.proposes(own, block) {
		l = append(l, round.Input{Kind: round.Agreed, Round: own, Block: block})
	}
	if won && block == (api.Hash{}) {
		l = append(l, round.Input{Kind: round.Nothing, Round: own})
	}
	if p.any(own, api.Prevote) {
		l = append(l, round.Input{Kind: round.Prevotes, Round: own})
	}
	if p.any(own, api.Precommit) {
		l = append(l, round.Input{Kind: round.Precommits, Round: own})
	}
	return l
}

func (p *plain) run() {
	for more := true; more; {
		more = false
		for _, in := range p.inputs() {
			in.Good = true
			if p.put(in) {
				p.counts[in.Kind]++
				more = true
				break
			}
		}
	}
}

func (p *plain) put(in round.Input) bool {
	state, outputs := round.Step(p.state, in)
	if state == p.state && len(outputs) == 0 {
		return false
	}
	p.state = state
	for _, out := range outputs {
		p.act(out)
	}
	return true
}

func (p *plain) begin(r int) {
	in := round.Input{Kind: round.Begin, Round: r}
	if proposerOf(p.t, p.set, p.secrets, p.height(), r) == p.secret {
		in.Own = ownOf(p.t, p.secret, p.height())
	}
	p.put(in)
}

func (p *plain) act(out round.Output) {
	switch out.Kind {
	case round.Proposal:
		v := api.Vote{Chain: chain, Height: p.height(), Round: out.Round, Block: out.Block, Key: p.key}
		p.say(said{vote: v, valid: out.Valid, bytes: proposal(p.t, p.secret, p.height(), out.Round, out.Valid, out.Block)})
	case round.SayPrevote, round.SayPrecommit:
		v := voteOf(p.t, p.secret, p.height(), out.Round, api.VoteType(out.Kind-1), out.Block)
		if n := len(p.votes); n > 0 && !(before(p.votes[n-1], v) || p.votes[n-1] == v) {
			return
		} else if n == 0 || p.votes[n-1] != v {
			p.votes = append(p.votes, v)
		}
		p.say(said{vote: v, bytes: bytesOf(p.t, v)})
	case round.WaitPropose, round.WaitPrevote, round.WaitPrecommit:
		p.waits = append(p.waits, node.Wait{Kind: out.Kind, Height: p.height(), Round: out.Round})
	case round.Next:
		p.begin(out.Round)
	case round.Decided:
		c := api.Commit{Height: p.height(), Round: out.Round, Block: out.Block}
		l := p.firsts(out.Round, api.Precommit)
		for _, who := range p.set {
			if v, is := l[who.Key]; is && v.Block == out.Block {
				c.Seals = append(c.Seals, api.Seal{Key: v.Key, Sig: v.Sig})
			}
		}
		p.enter(c)
	}
}

func (p *plain) say(m said) {
	p.out = append(p.out, m.bytes)
	if slices.ContainsFunc(p.set, func(v api.Validator) bool { return v.Key == p.key }) {
		p.heard = append(p.heard, m)
	}
}

// before tells whether a vote's place is ahead of another one's.
func before(a, b api.Vote) bool {
	if a.Height != b.Height {
		return a.Height < b.Height
	}
	if a.Round != b.Round {
		return a.Round < b.Round
	}
	return a.Type < b.Type
}

// anyMessage is a right one, mostly of places near by and of few blocks, so that many are for the same.
func anyMessage(t *testing.T, x *rand.Rand, p *plain) said {
	height := p.height()
	switch x.IntN(12) {
	case 0:
		height = max(1, height-1)
	case 1, 2, 3:
		height++
	case 4:
		height += 2
	}
	r := max(p.state.Round, 0)
	switch x.IntN(20) {
	case 0, 1, 2:
		r = max(0, r-1)
	case 3:
		r = x.IntN(r + 1)
	case 4, 5:
		r++
	case 6:
		r += x.IntN(66)
	}
	if height != p.height() {
		r = x.IntN(3)
	}
	proposer := proposerOf(t, p.set, p.secrets, height, r)
	block := ownOf(t, proposerOf(t, p.set, p.secrets, height, 0), height)
	switch x.IntN(10) {
	case 0:
		block = hash(byte(1 + x.IntN(2)))
	case 1:
		block = ownOf(t, proposer, height)
	case 2, 3, 4:
		block = api.Hash{}
	}
	if x.IntN(4) == 0 {
		if block == (api.Hash{}) {
			block = hash(1)
		}
		valid := -1
		if r > 0 && x.IntN(2) == 0 {
			valid = x.IntN(r)
		}
		v := api.Vote{Chain: chain, Height: height, Round: r, Block: block, Key: keyOf(t, proposer)}
		return said{vote: v, valid: valid, bytes: proposal(t, proposer, height, r, valid, block)}
	}
	v := voteOf(t, p.secrets[x.IntN(len(p.secrets))], height, r, api.VoteType(1+x.IntN(2)), block)
	return said{vote: v, bytes: bytesOf(t, v)}
}

// TestPlain: any calls, against a node told plainly, with losses of power.
func TestPlain(t *testing.T) { // P14.1, P14.3, P13.2, P1, P2
	x := random()
	counts, heights := map[int]int{}, 0
	for _, powers := range [][]int{{1, 1, 1, 1}, {1, 2, 3, 4, 5}, {1, 1, 1}, {3, 1, 1}, {1, 1, 1, 1, 1, 1, 1}, {1, 1}} {
		set, secrets := setOf(t, powers...)
		for range 100 {
			secret := append(slices.Clone(secrets), 99)[x.IntN(len(secrets)+1)]
			p := newPlain(t, secret, set, secrets)
			p.counts = counts
			votes, blocks := tape.New(), tape.New()
			n := open(t, votes, blocks, secret, set)
			for range 150 {
				switch x.IntN(30) {
				case 0, 1:
					start(t, n)
					p.start()
				case 2, 3:
					if len(p.waits) > 0 {
						i := x.IntN(len(p.waits))
						fire(t, n, i)
						p.fire(i)
					}
				case 4:
					l := commitOf(t, set, secrets, p.height(), x.IntN(3), hash(1))
					if x.IntN(3) == 0 {
						if e := n.Catch(l); e != api.OK {
							t.Fatalf("Catch: %d", e)
						}
						p.catch(l)
					}
				case 5:
					if x.IntN(2) == 0 {
						votes, blocks = votes.Cut(votes.Calls(), x.IntN(200)), blocks.Cut(blocks.Calls(), x.IntN(200))
						n = open(t, votes, blocks, secret, set)
						p.reopen()
					}
				case 6:
					if got := n.Out(); !slices.EqualFunc(got, p.out, bytes.Equal) {
						t.Fatalf("Out: %d messages; want %d", len(got), len(p.out))
					}
					p.out = nil
				default:
					m := anyMessage(t, x, p)
					hear(t, n, m.bytes)
					p.hear(m)
				}
				if want := (told{p.height(), p.state.Round, p.waits, p.commits}); !tell(n).same(want) {
					t.Fatalf("%+v; want %+v", tell(n), want)
				}
			}
			if got := n.Out(); !slices.EqualFunc(got, p.out, bytes.Equal) {
				t.Fatalf("Out: %x; want %x", got, p.out)
			}
			heights += p.height() - 1
			for i, c := range n.Commits() {
				if c.Height != i+1 || tally.Check(set, chain, c) != api.OK {
					t.Fatalf("commit %d: %+v", i, c)
				}
			}
		}
	}
	for kind := round.Propose; kind <= round.Later; kind++ {
		if counts[kind] < 20 {
			t.Errorf("input %d did something %d times only", kind, counts[kind])
		}
	}
	t.Logf("inputs %v, %d heights", counts, heights)
}
