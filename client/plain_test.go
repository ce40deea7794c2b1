package client_test

import (
	"math/rand/v2"
	"testing"

	"nuncio/api"
	"nuncio/client"
	"nuncio/merkle"
	"nuncio/verify"
)

// plain is a client told plainly: what it took in stands one block behind the other, and whatever is asked is looked for there.
type plain struct {
	o      api.Options
	taken  []api.Light
	frozen bool
}

func newPlain(root api.Light, now float64, o api.Options) (plain, api.Errno) {
	e := verify.Sound(root.Header.Chain, root)
	switch {
	case !verify.Right(o):
		return plain{}, api.ErrOptions
	case now-now != 0:
		return plain{}, api.ErrClock
	case e != api.OK:
		return plain{}, e
	case verify.Expired(root.Header.Time, now, o):
		return plain{}, api.ErrExpired
	}
	return plain{o: o, taken: []api.Light{root}}, api.OK
}

func (p *plain) front() api.Light { return p.taken[len(p.taken)-1] }

func (p *plain) update(l api.Light, now float64) api.Errno {
	if p.frozen {
		return api.ErrExpired
	}
	e := verify.Step(p.front(), l, now, p.o)
	if e == api.OK {
		p.taken = append(p.taken[:len(p.taken):len(p.taken)], l)
	}
	return e
}

func (p *plain) blame(l api.Light) api.Errno {
	f := p.front().Header
	if f.Height != l.Header.Height || f == l.Header || verify.Sound(f.Chain, l) != api.OK {
		return api.ErrMatch
	}
	p.frozen = true
	return api.OK
}

func (p *plain) root(height int) (api.Hash, api.Errno) {
	for _, l := range p.taken {
		if l.Header.Height == height && !p.frozen {
			return l.Header.App, api.OK
		}
	}
	return api.Hash{}, api.ErrRoot
}

func (p *plain) proved(height int, key, value string, x api.Proof) (member, absent api.Errno) {
	root, e := p.root(height)
	if e != api.OK {
		return e, e
	}
	told, is, ok := merkle.Check(root, key, x)
	member, absent = api.ErrProof, api.ErrProof
	if ok && is && told == value {
		member = api.OK
	}
	if ok && !is {
		absent = api.OK
	}
	return member, absent
}

func (p *plain) look() view {
	f := p.front().Header
	v := view{f.Height, f.Chain, p.frozen, map[int]api.Hash{}}
	for _, l := range p.taken {
		if !p.frozen {
			v.roots[l.Header.Height] = l.Header.App
		}
	}
	return v
}

// country is a chain with its crew.
type country struct {
	who    crew
	blocks []api.Light
}

func countries() []country {
	// Of four one goes at each third height.
	slow := func(height int) []uint64 { return sliding(1 + height/3) }
	var l []country
	for _, who := range []crew{always, sliding, slow} {
		l = append(l, country{who, chainOf(40, who)})
	}
	return l
}

// anyOptions are mostly right.
func anyOptions(r *rand.Rand) api.Options {
	if r.IntN(30) == 0 {
		return pick(r, wrongOptions()...)
	}
	return api.Options{Level: pick(r, 1.0/3, 0.5, 0.6, 0.75, 1), Period: pick(r, 60, 200, 1e6, infinity), Drift: pick(r, 0.0, 5, 400)}
}

// anyClock is near a time that a chain has, or strange.
func anyClock(r *rand.Rand, height int) float64 {
	switch r.IntN(40) {
	case 0:
		return pick(r, strange()...)
	case 1, 2:
		return float64(r.IntN(500))
	}
	return float64(10*height + r.IntN(30))
}

// anyBlock is mostly one a little above a height, or of it, as it should be.
func anyBlock(r *rand.Rand, x country, height int) api.Light {
	h := height + pick(r, 0, 1, 1, 1, 2, 2, 3, 4, 6)
	if h < 1 || h > 40 || r.IntN(8) == 0 {
		h = 1 + r.IntN(40)
	}
	l := roomy(x.blocks[h])
	switch r.IntN(40) {
	case 0:
		l = bent(l, x.who, func(h *api.Header) { h.Chain = "b" })
	case 1, 2:
		l = bent(l, x.who, func(h *api.Header) { h.App[0]++ })
	case 3:
		l = bent(l, x.who, func(h *api.Header) { h.Time = r.IntN(400) })
	case 4:
		l = block(h, l.Header.Last, []uint64{100, 101}, []uint64{102})
	case 5, 6:
		pick(r, flaws()...).make(&l)
	}
	return l
}

// duel is a client, another one that is asked the same, and the plain one.
type duel struct {
	x       country
	c, twin *client.Client
	p       plain
	answers map[string]int
}

// TestAnyCalls: any calls against the plain client.
func TestAnyCalls(t *testing.T) { // P19.1, P19.2, P2, rule 3
	r := random()
	answers := map[string]int{}
	all := countries()
	for range 1000 {
		d := duel{x: pick(r, all...), answers: answers}
		root, o := anyBlock(r, d.x, r.IntN(12)), anyOptions(r)
		now := anyClock(r, root.Header.Height)
		var e, twin, want api.Errno
		d.c, e = client.New(root, now, o)
		d.twin, twin = client.New(root, now, o)
		d.p, want = newPlain(root, now, o)
		if e != want || twin != want || (d.c == nil) != (e != api.OK) {
			t.Fatalf("New of height %d, at %v, %v: %v, %d, not %d", root.Header.Height, now, o, d.c, e, want)
		}
		d.note("New", e)
		for range 30 {
			if e == api.OK {
				d.play(t, r)
			}
		}
	}
	for what, n := range map[string]int{
		"New 0": 200, "New 151": 5, "New 155": 2, "Update 0": 500, "Update 153": 200, "Update 154": 20, "Update 155": 200, "Update 156": 100, "Update 152": 5, "Update 158": 5, "Update 159": 200, "Blame 0": 50, "Blame 171": 500, "Member 0": 100, "Member 191": 100, "Member 192": 100, "Absent 0": 100, "Absent 191": 100, "Absent 192": 100,
	} {
		if answers[what] < n {
			t.Errorf("%s was answered %d times, not %d", what, answers[what], n)
		}
	}
}

func (d *duel) note(call string, e api.Errno) {
	digits := string([]byte{byte('0' + e/100), byte('0' + e/10%10), byte('0' + e%10)})
	if e == api.OK {
		digits = "0"
	}
	d.answers[call+" "+digits]++
}

// play is one call, and what is told behind it.
func (d *duel) play(t *testing.T, r *rand.Rand) {
	t.Helper()
	was, before := d.p, d.c.Copy()
	front := d.p.front()
	l := anyBlock(r, d.x, front.Header.Height)
	now := anyClock(r, l.Header.Height)
	changed := false
	switch r.IntN(10) {
	case 0:
		d.proofs(t, r)
	case 1, 2:
		if r.IntN(3) > 0 {
			l = bent(roomy(d.x.blocks[max(1, min(40, front.Header.Height))]), d.x.who, func(h *api.Header) { h.Data[0] += byte(r.IntN(2)) })
		}
		e, twin, want := d.c.Blame(l), d.twin.Blame(l), d.p.blame(l)
		if e != want || twin != want {
			t.Fatalf("Blame of %+v, front %+v: %d, not %d", l.Header, front.Header, e, want)
		}
		d.note("Blame", e)
		changed = e == api.OK
	default:
		e, twin, want := d.c.Update(l, now), d.twin.Update(l, now), d.p.update(l, now)
		if e != want || twin != want {
			t.Fatalf("Update of %+v at %v, front %+v: %d, not %d", l.Header, now, front.Header, e, want)
		}
		d.note("Update", e)
		changed = e == api.OK
	}
	d.judge(t, was, before, changed)
	if r.IntN(6) == 0 {
		d.c, d.p, d.twin = before, was, before.Copy()
	}
}

func (d *duel) proofs(t *testing.T, r *rand.Rand) {
	t.Helper()
	taken := pick(r, d.p.taken...).Header.Height
	h := pick(r, taken, taken, taken, r.IntN(41))
	of := pick(r, taken, taken, h, r.IntN(41))
	key := pick(r, "k0", "k1", "k2", "k3", "k", "z")
	value, _ := has(state(of), key)
	x := anyProof(r, state(of), key)
	member, absent := d.p.proved(h, key, value, x)
	says(t, "any", d.c, h, key, value, x, member, absent)
	d.note("Member", member)
	d.note("Absent", absent)
}

// judge: what is told is what the plain one has, nothing changed without an OK, and the copy of the time ahead is as it was.
func (d *duel) judge(t *testing.T, was plain, before *client.Client, changed bool) {
	t.Helper()
	want := d.p.look()
	for _, c := range []*client.Client{d.c, d.twin} {
		if got := look(t, c); !isSame(got, want) {
			t.Fatalf("%+v, not %+v", got, want)
		}
	}
	if got := look(t, before); !isSame(got, was.look()) {
		t.Fatalf("the copy: %+v, not %+v", got, was.look())
	}
	if !changed && !isSame(want, was.look()) {
		t.Fatalf("changed: %+v, not %+v", want, was.look())
	}
}
