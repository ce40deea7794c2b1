package node_test

import (
	"math/rand/v2"
	"slices"
	"testing"

	"nuncio/api"
	"nuncio/node"
	"nuncio/tally"
	"nuncio/tape"
	"nuncio/wire"
)

// place is where a key may sign one vote.
type place struct {
	key           uint64
	height, round int
	kind          api.VoteType
}

// peer is a node that keeps to all, with its tapes, and the messages that are under way to it.
type peer struct {
	secret        uint64
	votes, blocks *tape.Tape
	n             *node.Node
	inbox         [][]byte
	next          int // of the inbox
}

// net is some of these, and who lies.
type net struct {
	t       testing.TB
	x       *rand.Rand
	set     []api.Validator
	secrets []uint64
	peers   []*peer
	liars   []uint64
	voted   map[place]api.Hash // by those who keep to all
	chosen  map[int]api.Hash   // at each height
	seen    []api.Hash         // blocks that were voted for
	sent    map[int][][]byte   // at each height
	lost    int                // of a hundred messages
}

func newNet(t testing.TB, x *rand.Rand, powers []int, liars int) *net {
	t.Helper()
	w := &net{t: t, x: x, voted: map[place]api.Hash{}, chosen: map[int]api.Hash{}, sent: map[int][][]byte{}}
	w.set, w.secrets = setOf(t, powers...)
	for i, s := range w.secrets {
		if i < liars {
			w.liars = append(w.liars, s)
			continue
		}
		p := &peer{secret: s, votes: tape.New(), blocks: tape.New()}
		p.n = open(t, p.votes, p.blocks, s, w.set)
		w.peers = append(w.peers, p)
	}
	return w
}

// send has a message under way to all, or lost.
func (w *net) send(m []byte) {
	r := wire.NewReader(m)
	r.Number()
	r.Text()
	height := r.Number()
	w.sent[height] = append(w.sent[height], m)
	for _, p := range w.peers {
		if w.x.IntN(100) >= w.lost {
			p.inbox = append(p.inbox, m)
		}
	}
}

// collect sends what a peer says, and notes what it voted for.
func (w *net) collect(p *peer) {
	w.t.Helper()
	for _, m := range p.n.Out() {
		w.note(m)
		w.send(m)
	}
	w.check(p)
}

func (w *net) note(m []byte) {
	w.t.Helper()
	v, is := voteIn(m)
	if !is {
		return
	}
	at := place{v.Key, v.Height, v.Round, v.Type}
	if block, voted := w.voted[at]; voted && block != v.Block {
		w.t.Fatalf("two votes at %+v", at)
	}
	w.voted[at] = v.Block
	if v.Block != (api.Hash{}) && !slices.Contains(w.seen, v.Block) {
		w.seen = append(w.seen, v.Block)
	}
}

// check: what a peer has is right, and what the others have.
func (w *net) check(p *peer) {
	w.t.Helper()
	commits := p.n.Commits()
	if len(commits)+1 != p.n.Height() {
		w.t.Fatalf("height %d, %d commits", p.n.Height(), len(commits))
	}
	for i, c := range commits {
		if c.Height != i+1 || tally.Check(w.set, chain, c) != api.OK {
			w.t.Fatalf("no commit of height %d: %+v", i+1, c)
		}
		if block, is := w.chosen[c.Height]; is && block != c.Block {
			w.t.Fatalf("two blocks at height %d", c.Height)
		}
		w.chosen[c.Height] = c.Block
	}
}

// deliver hands a peer one of the next of its messages, or an old one once more.
func (w *net) deliver(p *peer) {
	w.t.Helper()
	rest := p.inbox[p.next:]
	if old := w.sent[p.n.Height()]; len(rest) == 0 || w.x.IntN(3) == 0 {
		if len(old) > 0 {
			hear(w.t, p.n, old[len(old)-1-w.x.IntN(min(20, len(old)))])
		}
		return
	}
	i := w.x.IntN(min(6, len(rest)))
	rest[0], rest[i] = rest[i], rest[0]
	p.next++
	hear(w.t, p.n, rest[0])
}

// shuffled hands a peer one of its messages, whichever; it may come once more.
func (w *net) shuffled(p *peer) {
	w.t.Helper()
	if len(p.inbox) == 0 {
		return
	}
	i := w.x.IntN(len(p.inbox))
	m := p.inbox[i]
	if w.x.IntN(8) > 0 {
		p.inbox = slices.Delete(p.inbox, i, i+1)
	}
	hear(w.t, p.n, m)
}

// power goes somewhere in the calls of the tapes since, and what was said since is not.
func (w *net) power(p *peer, votes, blocks int) {
	w.t.Helper()
	cut := func(x *tape.Tape, since int) *tape.Tape {
		return x.Cut(since+w.x.IntN(x.Calls()-since+1), w.x.IntN(200))
	}
	p.votes, p.blocks = cut(p.votes, votes), cut(p.blocks, blocks)
	p.n = open(w.t, p.votes, p.blocks, p.secret, w.set)
	p.next = max(0, p.next-30)
	for _, v := range signedOn(w.t, p.votes) { // what it signed may have come to others, or not
		if v.Height == p.n.Height() && w.x.IntN(4) > 0 {
			w.note(bytesOf(w.t, v))
			w.send(bytesOf(w.t, v))
		}
	}
}

// act does something with a peer.
func (w *net) act(p *peer) {
	w.t.Helper()
	votes, blocks := p.votes.Calls(), p.blocks.Calls()
	switch w.x.IntN(40) {
	case 0, 1, 2:
		p.n.Start()
	case 3:
		if l := p.n.Waits(); len(l) > 0 {
			p.n.Fire(len(l) - 1 - w.x.IntN(min(2, len(l))))
		}
	case 4:
		if l := w.peers[w.x.IntN(len(w.peers))].n.Commits(); len(l) >= p.n.Height() {
			if e := p.n.Catch(l[p.n.Height()-1]); e != api.OK {
				w.t.Fatalf("Catch: %d", e)
			}
		}
	default:
		w.deliver(p)
	}
	if w.x.IntN(150) == 0 {
		w.power(p, votes, blocks)
	}
	w.collect(p)
}

// lie has one of those who lie say something to some.
func (w *net) lie() {
	w.t.Helper()
	if len(w.liars) == 0 || len(w.seen) == 0 && w.x.IntN(4) > 0 {
		return
	}
	near := w.peers[w.x.IntN(len(w.peers))].n
	height, r := near.Height(), max(0, near.Round()+w.x.IntN(3)-1)
	block := hash(byte(1 + w.x.IntN(3)))
	if n := len(w.seen); n > 0 && w.x.IntN(4) > 0 {
		block = w.seen[max(0, n-1-w.x.IntN(4))]
	}
	liar := w.liars[w.x.IntN(len(w.liars))]
	var m []byte
	if proposerOf(w.t, w.set, w.secrets, height, r) == liar && w.x.IntN(2) == 0 {
		m = proposal(w.t, liar, height, r, w.x.IntN(r+1)-1, block)
	} else {
		if w.x.IntN(4) == 0 {
			block = api.Hash{}
		}
		m = bytesOf(w.t, voteOf(w.t, liar, height, r, api.VoteType(1+w.x.IntN(2)), block))
	}
	for _, p := range w.peers {
		if w.x.IntN(2) == 0 {
			p.inbox = append(p.inbox, m)
		}
	}
}

// TestOneChain: those who lie have less than a third; messages come as they like, or not; power goes.
func TestOneChain(t *testing.T) { // P14.2, P14.3, P13.2, T1
	x := random()
	heights, rounds := 0, 0
	for _, c := range []struct {
		powers []int
		liars  func([]api.Validator, []uint64) int
	}{
		{powers: []int{1, 1, 1, 1}}, {powers: []int{1, 1, 1, 1, 1, 1, 1}}, {powers: []int{1, 1, 1}}, {powers: []int{5, 4, 3, 2, 1}}, {powers: []int{2, 2, 2, 2, 2, 1}},
	} {
		for range 8 {
			liars := mostLiars(t, c.powers)
			w := newNet(t, x, c.powers, liars)
			w.lost = []int{0, 2, 10}[x.IntN(3)]
			for range 4000 {
				w.act(w.peers[x.IntN(len(w.peers))])
				if x.IntN(8) == 0 {
					w.lie()
				}
			}
			heights += len(w.chosen)
			for _, p := range w.peers {
				for _, c := range p.n.Commits() {
					rounds = max(rounds, c.Round)
				}
			}
		}
	}
	if heights < 100 || rounds < 2 {
		t.Errorf("%d heights, at most %d rounds", heights, rounds)
	}
	t.Logf("%d heights, at most %d rounds", heights, rounds)
}

// mostLiars is how many of the first validators have less than a third together.
func mostLiars(t testing.TB, powers []int) int {
	t.Helper()
	set, _ := setOf(t, powers...)
	total, part := 0, 0
	for _, v := range set {
		total += v.Power
	}
	for i, v := range set {
		part += v.Power
		if 3*part >= total {
			return i
		}
	}
	return len(set)
}

// TestGoesOn: where all keep to it, and all messages come, in whatever order, and some more than once, the first round decides.
func TestGoesOn(t *testing.T) { // P14.4, P14.3, T7
	x := random()
	for _, powers := range [][]int{{1}, {1, 1}, {1, 1, 1}, {1, 1, 1, 1}, {9, 1, 1, 1}, {1, 2, 3, 4, 5}, {5, 5, 1, 1, 1, 1, 1}, slices.Repeat([]int{1}, 10), {api.MaxPower / 2, api.MaxPower / 4, api.MaxPower / 4}} {
		for range 10 {
			w := newNet(t, x, powers, 0)
			const heights = 4
			for more := true; more; {
				more = false
				for range len(w.peers) {
					p := w.peers[x.IntN(len(w.peers))]
					if x.IntN(3) == 0 && p.n.Height() <= heights {
						start(t, p.n)
					}
					w.shuffled(p)
					w.collect(p)
				}
				for _, p := range w.peers {
					more = more || len(p.inbox) > 0 || p.n.Height() <= heights && p.n.Round() == -1
				}
			}
			for _, p := range w.peers {
				if p.n.Height() != heights+1 {
					t.Fatalf("powers %v: height %d, round %d", powers, p.n.Height(), p.n.Round())
				}
				for _, c := range p.n.Commits() {
					if c.Round != 0 {
						t.Errorf("powers %v: round %d", powers, c.Round)
					}
				}
			}
		}
	}
}

// TestGoesOnMany: as many as may be.
func TestGoesOnMany(t *testing.T) { // P14.4
	x := random()
	w := newNet(t, x, slices.Repeat([]int{7}, api.MaxValidators), 0)
	for h := 1; h <= 2; h++ {
		for _, p := range w.peers {
			start(t, p.n)
			w.collect(p)
		}
		for more := true; more; {
			more = false
			for _, p := range w.peers {
				w.shuffled(p)
				w.collect(p)
				more = more || len(p.inbox) > 0
			}
		}
		for _, p := range w.peers {
			if p.n.Height() != h+1 || p.n.Commits()[h-1].Round != 0 {
				t.Fatalf("height %d, round %d", p.n.Height(), p.n.Round())
			}
		}
	}
}

// TestGoesOnLate: behind rounds whose proposals are lost the first one in which all messages come decides.
func TestGoesOnLate(t *testing.T) { // P14.4, T7
	for _, powers := range [][]int{{1, 1, 1, 1}, {1, 2, 3, 4, 5}, {3, 3, 3}, {1, 1}} {
		for silent := range 5 {
			w := newNet(t, random(), powers, 0)
			dropped := func(m []byte) bool {
				r := wire.NewReader(m)
				if _, is := voteIn(m); is {
					return false
				}
				r.Number()
				r.Text()
				r.Number()
				return r.Number() < silent
			}
			for _, p := range w.peers {
				start(t, p.n)
			}
			for range 20 * (silent + 1) {
				exchange(w, dropped)
				for _, p := range w.peers {
					if waits := p.n.Waits(); len(waits) > 0 && waits[0].Round < silent {
						fire(t, p.n, 0)
						break
					}
				}
			}
			for _, p := range w.peers {
				if p.n.Height() != 2 || p.n.Commits()[0].Round != silent {
					t.Fatalf("powers %v: height %d behind %d rounds", powers, p.n.Height(), silent)
				}
			}
		}
	}
}

// exchange has all messages come that are not dropped.
func exchange(w *net, dropped func([]byte) bool) {
	w.t.Helper()
	for more := true; more; {
		more = false
		for _, p := range w.peers {
			for _, m := range p.n.Out() {
				w.note(m)
				if !dropped(m) {
					w.send(m)
				}
			}
			w.check(p)
		}
		for _, p := range w.peers {
			for _, m := range p.inbox {
				more = true
				hear(w.t, p.n, m)
			}
			p.inbox = nil
		}
	}
}

// TestEveryMoment: power goes behind any call of either tape, as often as there are, and the same is heard again: no two votes are unlike, and what was decided stays.
func TestEveryMoment(t *testing.T) { // P13.2, P14.2
	f := newFour(t)
	script := func(n *node.Node, block api.Hash) {
		start(t, n)
		hear(t, n, proposal(t, f.p0, 1, 0, -1, block))
		for _, s := range others(f.secrets, f.me) {
			hear(t, n, prevote(t, s, 1, 0, block))
		}
		for _, s := range others(f.secrets, f.me)[:2] {
			hear(t, n, precommit(t, s, 1, 0, block))
		}
		start(t, n)
		for len(n.Waits()) > 0 {
			fire(t, n, 0)
		}
	}
	voted := map[place]api.Hash{}
	note := func(n *node.Node) {
		t.Helper()
		for _, m := range n.Out() {
			v := decodeVote(t, m)
			at := place{v.Key, v.Height, v.Round, v.Type}
			if block, is := voted[at]; is && block != v.Block {
				t.Fatalf("two votes at %+v", at)
			}
			voted[at] = v.Block
		}
	}
	script(f.n, hash(1))
	all := f.votes
	for calls := 0; calls <= all.Calls(); calls++ {
		for _, torn := range []int{0, 1, 5, 50, 96} {
			clear(voted)
			left := all.Cut(calls, torn)
			blocks := tape.New()
			n := open(t, left, blocks, f.me, f.set) // what it said ahead of it
			for _, v := range signedOn(t, left) {
				voted[place{v.Key, v.Height, v.Round, v.Type}] = v.Block
			}
			script(n, hash(2)) // another block, and then the first one again
			note(n)
			n = open(t, left.Cut(left.Calls(), 0), blocks, f.me, f.set)
			script(n, hash(1))
			note(n)
		}
	}
}

// signedOn are the votes on a tape.
func signedOn(t testing.TB, x *tape.Tape) []api.Vote {
	t.Helper()
	var l []api.Vote
	for b := x.Read(); len(b) >= 6; {
		size := int(b[0])<<8 | int(b[1])
		if len(b) < 6+size {
			break
		}
		v, _ := voteIn(b[6 : 6+size])
		l = append(l, v)
		b = b[6+size:]
	}
	return l
}
