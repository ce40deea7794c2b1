package bisect_test

import (
	"maps"
	"math"
	"math/rand/v2"
	"slices"
	"testing"

	"nuncio/api"
	"nuncio/bisect"
	"nuncio/verify"
)

// plain is a client told plainly: what pends lies at its heights, the least of which is on top.
type plain struct {
	o             api.Options
	chain         string
	store, trace  []api.Light
	pending       map[int]api.Light
	want, fetches int
	bound         int // of P16.3
}

func newPlain(root api.Light, now float64, o api.Options) (*plain, api.Errno) {
	e := verify.Sound(root.Header.Chain, root)
	switch {
	case !verify.Right(o):
		return nil, api.ErrOptions
	case now-now != 0:
		return nil, api.ErrClock
	case e != api.OK:
		return nil, e
	case verify.Expired(root.Header.Time, now, o):
		return nil, api.ErrExpired
	}
	return &plain{o: o, chain: root.Header.Chain, store: []api.Light{root}}, api.OK
}

func (p *plain) last() api.Light { return p.store[len(p.store)-1] }

func (p *plain) goal(height int) api.Errno {
	switch at := p.last().Header.Height; {
	case height <= at:
		return api.ErrOrder
	case height > 1<<40:
		return api.ErrArg
	default:
		p.bound = 2*(height-at) - 1
	}
	p.trace, p.pending, p.want, p.fetches = []api.Light{p.last()}, map[int]api.Light{}, height, 0
	return api.OK
}

func (p *plain) give(l api.Light, now float64) api.Errno {
	if p.want == 0 || p.want != l.Header.Height || p.chain != l.Header.Chain {
		return api.ErrFetch
	}
	if p.fetches == 200 {
		p.want = 0
		return api.ErrSteps
	}
	p.fetches++
	p.pending[l.Header.Height] = l
	for len(p.pending) > 0 {
		base, top := p.last(), slices.Min(slices.Collect(maps.Keys(p.pending)))
		e := verify.Step(base, p.pending[top], now, p.o)
		if e == api.ErrTrust {
			p.want = base.Header.Height + (top-base.Header.Height)/2
			return api.OK
		}
		if e != api.OK {
			p.want = 0
			return e
		}
		p.store, p.trace = append(p.store, p.pending[top]), append(p.trace, p.pending[top])
		delete(p.pending, top)
	}
	p.want = 0
	return api.OK
}

func (p *plain) prune(n int) api.Errno {
	if n <= 0 {
		return api.ErrArg
	}
	for len(p.store) > n {
		p.store = p.store[1:]
	}
	p.trace, p.want = nil, 0
	return api.OK
}

func pick[T any](r *rand.Rand, l ...T) T { return l[r.IntN(len(l))] }

// country is a chain with its crew.
type country struct {
	who    crew
	blocks []api.Light
}

func countries() []country {
	var l []country
	for _, who := range []crew{always, apart, sliding, slow, turned} {
		l = append(l, country{who, chainOf(40, who)})
	}
	return l
}

// anyOptions are mostly right.
func anyOptions(r *rand.Rand) api.Options {
	o := api.Options{Level: pick(r, 1.0/3, 0.5, 0.6, 0.75, 1), Period: pick(r, 60, 200, 400, 1e6, 1e6, infinity), Drift: pick(r, 0, 5, 400, 1e6)}
	if r.IntN(30) == 0 {
		o = pick(r, wrongOptions()...)
	}
	return o
}

// anyClock is near a time that a chain has, or strange.
func anyClock(r *rand.Rand, at int) float64 {
	if r.IntN(60) == 0 {
		return pick(r, strange()...)
	}
	if r.IntN(12) == 0 {
		return float64(r.IntN(500))
	}
	return float64(10*at + r.IntN(30))
}

// anyBlock is mostly the one that is wanted, as it should be.
func anyBlock(r *rand.Rand, x country, want int) api.Light {
	h := want
	if want == 0 || r.IntN(8) == 0 {
		h = r.IntN(len(x.blocks))
	}
	l := deep(x.blocks[h])
	if h == 0 {
		return l
	}
	switch r.IntN(150) {
	case 0:
		l = bent(l, x.who, func(h *api.Header) { h.Chain = "b" })
	case 1, 2:
		l = bent(l, x.who, func(h *api.Header) { h.App[0]++ })
	case 3:
		l = bent(l, x.who, func(h *api.Header) { h.Time = r.IntN(400) })
	case 4:
		l = block(h, l.Header.Last, apart(100+r.IntN(5)), apart(200))
	case 5:
		pick(r, lies()...).make(&l)
	case 6:
		c := call{root: l}
		pick(r, rootFaults()...).make(&c)
		l = c.root
	}
	return l
}

// duel are a client and the plain one, and what was seen.
type duel struct {
	c    *bisect.Client
	p    *plain
	x    country
	seen map[api.Errno]int
	ends map[string]int
}

// TestAnyCalls holds any calls against D1 to D4 told plainly.
func TestAnyCalls(t *testing.T) { // P16.1, P16.2, P16.3, P16.4, P2, rule 3
	r := random()
	all := countries()
	d := duel{seen: map[api.Errno]int{}, ends: map[string]int{}}
	for range 1500 {
		d.x = pick(r, all...)
		height := 1 + r.IntN(20)
		root := d.x.blocks[height]
		if r.IntN(40) == 0 {
			root = anyBlock(r, d.x, height)
		}
		now, o := anyClock(r, height), anyOptions(r)
		var e, want api.Errno
		d.c, e = bisect.New(root, now, o)
		if d.p, want = newPlain(root, now, o); e != want || (d.c == nil) != (d.p == nil) {
			t.Fatalf("New of height %d, at %v, %v: %d, not %d", height, now, o, e, want)
		}
		d.seen[e]++
		for range r.IntN(80) {
			if d.p != nil {
				d.play(t, r)
			}
		}
	}
	for _, e := range []api.Errno{api.OK, api.ErrArg, api.ErrOptions, api.ErrClock, api.ErrForm, api.ErrSetHash, api.ErrCommit, api.ErrExpired, api.ErrFuture, api.ErrOrder, api.ErrFetch} {
		if d.seen[e] < 10 {
			t.Errorf("the answer %d was seen %d times", e, d.seen[e])
		}
	}
	for _, name := range []string{"reached", "reached by more than five fetches", "given up", "given up behind trusted ones"} {
		if d.ends[name] < 50 {
			t.Errorf("%s: %d times", name, d.ends[name])
		}
	}
}

// play is one call of both.
func (d *duel) play(t *testing.T, r *rand.Rand) {
	t.Helper()
	was := d.c.Store()
	var e, want api.Errno
	at := d.p.last().Header.Height
	switch n := r.IntN(60); {
	case n == 0:
		n := pick(r, -1, 0, 1, 2, 3, 5, 50, math.MaxInt)
		e, want = d.c.Prune(n), d.p.prune(n)
	case n == 1, n < 40 && d.p.want == 0:
		n := pick(r, at-1, at, at+1, at+2, at+3, at+5, 40, 40, api.MaxHeight+1, math.MaxInt)
		if n > 40 && n <= api.MaxHeight {
			n = 40
		}
		e, want = d.c.Goal(n), d.p.goal(n)
	default:
		l, now := anyBlock(r, d.x, d.p.want), anyClock(r, max(at, d.p.want))
		e, want = d.c.Give(l, now), d.p.give(l, now)
		d.judge(t, e, was, now)
	}
	if e != want {
		t.Fatalf("answered %d, not %d", e, want)
	}
	if got := look(d.c); !isSame(got, view{d.p.want, d.p.fetches, d.p.store, d.p.trace}) {
		t.Fatalf("behind %d: wants %d, %d fetches, %v, %v; not %d, %d, %v, %v", e, got.want, got.fetches, heights(got.store), heights(got.trace), d.p.want, d.p.fetches, heights(d.p.store), heights(d.p.trace))
	}
	d.seen[e]++
}

// judge is what the promises say of a Give, whatever D3 says.
func (d *duel) judge(t *testing.T, e api.Errno, was []api.Light, now float64) {
	t.Helper()
	store := d.c.Store()
	if len(store) < len(was) || !areSame(store[:len(was)], was) {
		t.Fatalf("behind %d: %v in the store, which had %v", e, heights(store), heights(was))
	}
	for i := len(was); i < len(store); i++ {
		if e := verify.Step(store[i-1], store[i], now, d.p.o); e != api.OK {
			t.Fatalf("%d is trusted from %d: %d", store[i].Header.Height, store[i-1].Header.Height, e)
		}
	}
	n := d.c.Fetches()
	if n > d.p.bound || n == d.p.bound && d.c.Want() != 0 {
		t.Fatalf("%d fetches, wants %d: at most %d may be", n, d.c.Want(), d.p.bound)
	}
	d.note(e, len(store)-len(was), n)
}

func (d *duel) note(e api.Errno, more, n int) {
	switch {
	case e == api.ErrFetch || d.c.Want() != 0:
	case e == api.OK && n > 5:
		d.ends["reached by more than five fetches"]++
		fallthrough
	case e == api.OK:
		d.ends["reached"]++
	case more > 0:
		d.ends["given up behind trusted ones"]++
		fallthrough
	default:
		d.ends["given up"]++
	}
}

// TestTwins: what one client is told is nothing to another one.
func TestTwins(t *testing.T) { // P2
	chain := chainOf(20, sliding)
	a, b := going(t, chain[1], half(), 9), client(t, chain[1], late, half())
	give(t, a, chain[9], late, api.OK)
	shows(t, b, chain, 0, 0, []int{1}, nil)
	aim(t, b, 6)
	give(t, b, chain[6], late, api.OK)
	shows(t, a, chain, 5, 1, []int{1}, []int{1})
	shows(t, b, chain, 3, 1, []int{1}, []int{1})
	give(t, a, chain[5], late, api.OK)
	give(t, a, chain[3], late, api.OK)
	shows(t, a, chain, 7, 3, []int{1, 3, 5}, []int{1, 3, 5})
	shows(t, b, chain, 3, 1, []int{1}, []int{1})
}
