package relay_test

import (
	"slices"
	"testing"

	"nuncio/api"
	"nuncio/chain"
	"nuncio/relay"
)

// begun is a chain without a block.
func begun(t *testing.T, own, other string) *chain.Chain {
	t.Helper()
	c, e := chain.New(own, other, []uint64{7}, []int{1})
	expect(t, "chain.New", e, api.OK)
	return c
}

// TestPlanNothing: there is nothing of no chain, and of one without a block.
func TestPlanNothing(t *testing.T) { // P23.1 (Y1), P1
	w := busy(t)
	none, zero := begun(t, "a", "b"), &chain.Chain{}
	for _, c := range []*chain.Chain{nil, none, zero, w.Chain(0), w.Chain(1)} {
		for _, from := range []*chain.Chain{nil, none, zero} {
			if l := relay.Plan(from, c); len(l) != 0 {
				t.Errorf("a plan of nothing: %v", kinds(l))
			}
		}
		if l := relay.Plan(c, nil); len(l) != 0 {
			t.Errorf("a plan for nobody: %v", kinds(l))
		}
	}
	l := w.Chain(0).App().Sent()
	planned(t, w.Chain(0), none, update(t, w.Chain(0), 2), shown(t, api.Receive, l[0], "", w.Chain(0)), shown(t, api.Receive, l[1], "", w.Chain(0)))
}

// TestPlanUpdate: the last light block, if it is not known.
func TestPlanUpdate(t *testing.T) { // P23.1 (Y1)
	for i := range 2 {
		w := world(t, 3, 2)
		from, to := w.Chain(i), w.Chain(1-i)
		planned(t, from, to)
		for h := 2; h <= 5; h++ {
			made(t, w, i, 1)
			planned(t, from, to, update(t, from, h))
		}
		submit(t, w, 1-i, update(t, from, 3))
		planned(t, from, to, update(t, from, 5))
		made(t, w, 1-i, 1)
		planned(t, from, to, update(t, from, 5))
		done(t, w, 1-i, update(t, from, 4))
		planned(t, from, to, update(t, from, 5))
		done(t, w, 1-i, update(t, from, 5))
		planned(t, from, to)
	}
}

// TestPlanNoClient: who trusts no block yet hears of the last one all the same.
func TestPlanNoClient(t *testing.T) { // P23.1 (Y1)
	from, to := begun(t, "a", "b"), begun(t, "b", "a")
	expect(t, "Block", from.Block(10, 0, nil), api.OK)
	planned(t, from, to, update(t, from, 1))
	expect(t, "Block", to.Block(10, 0, nil), api.OK)
	planned(t, from, to, update(t, from, 1))
	l, _ := from.Light(1)
	expect(t, "Trust", to.Trust(l, 10, trusting), api.OK)
	planned(t, from, to)
}

// known: the i-th chain takes the other one's last block in.
func known(t *testing.T, w *relay.World, i int) {
	t.Helper()
	from := w.Chain(1 - i)
	done(t, w, i, update(t, from, from.Height()))
}

// sends are one at the i-th chain, of what it has at first.
func sends(i int, n uint64, timeout int) api.Tx {
	return []api.Tx{send("ann", "bob", "coin", n, timeout), send("bob", "ann", "gold", n, timeout)}[i]
}

// TestPlanTimeout: at each height of the other chain a packet may be received in the next block, or is over, or neither.
func TestPlanTimeout(t *testing.T) { // P23.1 (Y1), P23.2
	for i := range 2 {
		for timeout := 2; timeout <= 7; timeout++ {
			w := world(t, 3, 2)
			done(t, w, i, sends(i, 5, timeout))
			from, to := w.Chain(i), w.Chain(1-i)
			p := from.App().Sent()[0]
			for h := 1; h <= 8; h++ {
				forth := []api.Tx{update(t, from, 2)}
				if h+1 < timeout {
					forth = append(forth, shown(t, api.Receive, p, "", from))
				}
				planned(t, from, to, forth...)
				var back []api.Tx
				if h > 1 {
					back = append(back, update(t, to, h))
				}
				if h >= timeout {
					back = append(back, shown(t, api.Expire, p, "", to))
				}
				planned(t, to, from, back...)
				made(t, w, 1-i, 1)
			}
		}
	}
}

// TestPlanLast: what may be received in the next block at last is received there; what may not would be refused.
func TestPlanLast(t *testing.T) { // P23.1 (Y1), P23.2
	for i := range 2 {
		w := world(t, 2, 2)
		done(t, w, i, sends(i, 5, 3), sends(i, 6, 2))
		carried(t, w, 1-i, 2) // of the first one alone
		made(t, w, 1-i, 1)    // at height 2
		results(t, w, 1-i, api.OK, api.OK)
		if answered(w, i, 1) != "ok" || answered(w, i, 2) != "" {
			t.Error("not just the first one was received")
		}
		carried(t, w, i, 3)
		made(t, w, i, 1)
		results(t, w, i, api.OK, api.OK, api.OK)
		own, denom := []string{"ann", "bob"}[i], []string{"coin", "gold"}[i]
		balances(t, w, i, own, denom, 995)
		balances(t, w, i, "escrow", denom, 5)
	}
}

// TestPlanReceived: what was received, or is closed, is not to be received any more.
func TestPlanReceived(t *testing.T) { // P23.1 (Y1)
	for i := range 2 {
		w := world(t, 2, 2)
		from, to := w.Chain(i), w.Chain(1-i)
		done(t, w, i, sends(i, 5, 50), sends(i, 6, 50), sends(i, 7, 50))
		p := from.App().Sent()
		known(t, w, 1-i)
		planned(t, from, to, shown(t, api.Receive, p[0], "", from), shown(t, api.Receive, p[1], "", from), shown(t, api.Receive, p[2], "", from))
		done(t, w, 1-i, shown(t, api.Receive, p[1], "", from))
		planned(t, from, to, shown(t, api.Receive, p[0], "", from), shown(t, api.Receive, p[2], "", from))
		planned(t, to, from, update(t, to, 3), shown(t, api.Acknowledge, p[1], "ok", to))
		known(t, w, i)
		planned(t, to, from, shown(t, api.Acknowledge, p[1], "ok", to))
		done(t, w, i, shown(t, api.Acknowledge, p[1], "ok", to))
		planned(t, to, from)
		planned(t, from, to, update(t, from, 4), shown(t, api.Receive, p[0], "", from), shown(t, api.Receive, p[2], "", from))
	}
}

// TestPlanOver: what expired is closed there, so the other chain hears of it no more.
func TestPlanOver(t *testing.T) { // P23.1 (Y1)
	w := world(t, 2, 2)
	a, b := w.Chain(0), w.Chain(1)
	done(t, w, 0, sends(0, 5, 3), sends(0, 6, 9))
	p := a.App().Sent()
	made(t, w, 1, 1)
	made(t, w, 1, 1)
	planned(t, b, a, update(t, b, 3), shown(t, api.Expire, p[0], "", b))
	planned(t, a, b, update(t, a, 2), shown(t, api.Receive, p[1], "", a))
	carried(t, w, 0, 2)
	made(t, w, 0, 1)
	results(t, w, 0, api.OK, api.OK)
	planned(t, b, a)
	planned(t, a, b, update(t, a, 3), shown(t, api.Receive, p[1], "", a))
	// It is over, but received ahead of that: the answer closes it.
	carried(t, w, 1, 2)
	for range 9 {
		made(t, w, 1, 1)
	}
	planned(t, b, a, update(t, b, 12), shown(t, api.Acknowledge, p[1], "ok", b))
}

// TestPlanNo: an answer is carried as it is.
func TestPlanNo(t *testing.T) { // P23.1 (Y1), P23.2
	for i := range 2 {
		w := world(t, 2, 2)
		own, denom := []string{"ann", "bob"}[i], []string{"coin", "gold"}[i]
		done(t, w, i, send(own, "?", denom, 5, 50), send(own, "escrow", denom, 6, 50), send(own, "cid", denom, 7, 50))
		from, to := w.Chain(i), w.Chain(1-i)
		p := from.App().Sent()
		carried(t, w, 1-i, 4)
		made(t, w, 1-i, 1)
		planned(t, to, from, update(t, to, 2), shown(t, api.Acknowledge, p[0], "no", to), shown(t, api.Acknowledge, p[1], "no", to), shown(t, api.Acknowledge, p[2], "ok", to))
		carried(t, w, i, 4)
		made(t, w, i, 1)
		balances(t, w, i, own, denom, 993)
		balances(t, w, i, "escrow", denom, 7)
		nothingFromNothing(t, w)
	}
}

// TestPlanOrder: the update, then what is to be received, then what is closed, each by rising numbers.
func TestPlanOrder(t *testing.T) { // P23.1 (Y1)
	w := world(t, 2, 2)
	a, b := w.Chain(0), w.Chain(1)
	var from, back []api.Tx
	for n := range uint64(12) {
		from = append(from, sends(0, 1+n, []int{3, 40}[n%2]))
		back = append(back, sends(1, 1+n, 40))
	}
	done(t, w, 0, from...)
	done(t, w, 1, back...)
	p, q := a.App().Sent(), b.App().Sent()
	l := []api.Tx{update(t, a, 2)}
	for k := 11; k >= 0; k -= 4 { // numbers 12, 8 and 4
		l = append(l, shown(t, api.Receive, p[k], "", a))
	}
	done(t, w, 1, l...)
	want := []api.Tx{update(t, b, 3)}
	for _, p := range q {
		want = append(want, shown(t, api.Receive, p, "", b))
	}
	for _, p := range p {
		switch {
		case p.Seq%4 == 0:
			want = append(want, shown(t, api.Acknowledge, p, "ok", b))
		case p.Seq%2 == 1:
			want = append(want, shown(t, api.Expire, p, "", b))
		}
	}
	planned(t, b, a, want...)
	carried(t, w, 0, 22)
	made(t, w, 0, 1)
	results(t, w, 0, make([]api.Errno, 22)...)
	want = []api.Tx{update(t, a, 3)}
	for _, p := range p {
		if p.Seq%4 == 2 {
			want = append(want, shown(t, api.Receive, p, "", a))
		}
	}
	for _, p := range q {
		want = append(want, shown(t, api.Acknowledge, p, "ok", a))
	}
	planned(t, a, b, want...)
}

// TestPlanFirst: no more than 32, the first ones.
func TestPlanFirst(t *testing.T) { // P23.1 (Y1), P23.2
	for i := range 2 {
		for many := 29; many <= 35; many++ {
			w := world(t, 1, 1)
			from, to := w.Chain(i), w.Chain(1-i)
			done(t, w, i, slices.Repeat([]api.Tx{sends(i, 1, 50)}, min(many, 32))...)
			done(t, w, i, slices.Repeat([]api.Tx{sends(i, 1, 50)}, many-min(many, 32))...)
			var l []api.Tx
			for _, p := range from.App().Sent() {
				l = append(l, shown(t, api.Receive, p, "", from))
			}
			planned(t, from, to, slices.Concat([]api.Tx{update(t, from, 3)}, l)[:min(many+1, 32)]...)
			known(t, w, 1-i)
			planned(t, from, to, l[:min(many, 32)]...)
			carried(t, w, 1-i, min(many, 32))
			made(t, w, 1-i, 1)
			results(t, w, 1-i, make([]api.Errno, min(many, 32))...)
			planned(t, from, to, l[min(many, 32):]...)
		}
	}
}

// TestPlanFirstOfBoth: what is closed stands behind what is received, and gives way to it.
func TestPlanFirstOfBoth(t *testing.T) { // P23.1 (Y1)
	w := world(t, 1, 1)
	a, b := w.Chain(0), w.Chain(1)
	done(t, w, 1, slices.Repeat([]api.Tx{sends(1, 1, 3)}, 20)...)
	done(t, w, 0, slices.Repeat([]api.Tx{sends(0, 1, 50)}, 18)...)
	made(t, w, 0, 1)
	want := []api.Tx{update(t, a, 3)}
	for _, p := range a.App().Sent() {
		want = append(want, shown(t, api.Receive, p, "", a))
	}
	for _, p := range b.App().Sent()[:13] {
		want = append(want, shown(t, api.Expire, p, "", a))
	}
	planned(t, a, b, want...)
	known(t, w, 1)
	planned(t, a, b, append(want[1:], shown(t, api.Expire, b.App().Sent()[13], "", a))...)
}

// TestPlanOfOthers: chains that are not each other's have a plan by the same words.
func TestPlanOfOthers(t *testing.T) { // P23.1 (Y1), P1
	w, far := busy(t), world(t, 2, 2)
	done(t, far, 0, sends(0, 3, 9), sends(0, 4, 9), sends(0, 5, 2))
	all := []*chain.Chain{w.Chain(0), w.Chain(1), far.Chain(0), far.Chain(1)}
	for range 3 {
		for _, from := range all {
			for _, to := range all {
				planned(t, from, to, planOf(from, to)...)
			}
		}
		turn(t, w)
	}
}

// TestPlanTooMany: of more entries than a tree has there is no proof; what is planned stays, and is refused.
func TestPlanTooMany(t *testing.T) { // P23.1 (Y1), P1
	from, to := begun(t, "a", "b"), begun(t, "b", "a")
	for n := range api.MaxEntries {
		account := string([]byte{'a' + byte(n/26/26), 'a' + byte(n/26%26), 'a' + byte(n%26)})
		expect(t, "Grant", from.Grant(account, "coin", 2), api.OK)
	}
	for _, c := range []*chain.Chain{from, to} {
		expect(t, "Block", c.Block(10, 0, nil), api.OK)
	}
	here, _ := to.Light(1)
	there, _ := from.Light(1)
	expect(t, "Trust", from.Trust(here, 10, trusting), api.OK)
	expect(t, "Trust", to.Trust(there, 10, trusting), api.OK)
	expect(t, "Submit", from.Submit(send("aab", "bob", "coin", 1, 9)), api.OK)
	expect(t, "Block", from.Block(11, 0, nil), api.OK)
	l := relay.Plan(from, to)
	want := []api.Tx{update(t, from, 2), {Kind: api.Receive, Packet: from.App().Sent()[0], Height: 2}}
	if !slices.EqualFunc(l, want, isSameTx) {
		t.Fatalf("%v", kinds(l))
	}
	for _, x := range l {
		expect(t, "Submit", to.Submit(x), api.OK)
	}
	expect(t, "Block", to.Block(11, 0, nil), api.OK)
	if !slices.Equal(to.Results(2), []api.Errno{api.OK, api.ErrProof}) {
		t.Errorf("%v", to.Results(2))
	}
}

// TestPlanApart: a plan is new memory, no two lists of which are one, and asking for it changes nothing.
func TestPlanApart(t *testing.T) { // rules 3 and 4
	s := seed(func() *relay.World { return busy(t) })
	s.unchanged(t, func(w *relay.World) {
		for i := range 2 {
			spoil(relay.Plan(w.Chain(i), w.Chain(1-i)))
			planned(t, w.Chain(i), w.Chain(1-i), planOf(w.Chain(i), w.Chain(1-i))...)
		}
	})
	w := s()
	for i := range 2 {
		from, to := w.Chain(i), w.Chain(1-i)
		for k := range relay.Plan(from, to) {
			l, want := relay.Plan(from, to), relay.Plan(from, to)
			spoil(l[k : k+1 : k+1])
			for n := range l {
				if n != k && !isSameTx(l[n], want[n]) {
					t.Errorf("%d changes with %d", n, k)
				}
			}
		}
		l := relay.Plan(from, to)
		clear(l[0].Light.Set[:cap(l[0].Light.Set)])
		if l[0].Light.Next[0].Key == 0 {
			t.Error("the lists of a light block are one")
		}
	}
	l := relay.Plan(w.Chain(0), w.Chain(1))
	was := kinds(l)
	goOn(w)
	if !slices.Equal(kinds(l), was) {
		t.Error("a plan changes with the chains")
	}
}

// spoil writes into all lists of transactions.
func spoil(l []api.Tx) {
	for _, x := range l {
		for _, p := range x.Proof.Parts {
			clear(p.Path[:cap(p.Path)])
		}
		clear(x.Proof.Parts[:cap(x.Proof.Parts)])
		clear(x.Light.Commit.Seals[:cap(x.Light.Commit.Seals)])
		clear(x.Light.Set[:cap(x.Light.Set)])
		clear(x.Light.Next[:cap(x.Light.Next)])
	}
	clear(l[:cap(l)])
}

// TestPlanLong: very many packets, most of them closed, are gone through in little time.
func TestPlanLong(t *testing.T) { // P1, P23.2
	w := world(t, 1, 1)
	for n := range 900 {
		submit(t, w, 0, sends(0, 1, 3+n))
		if n%3 == 0 {
			submit(t, w, 1, sends(1, 1, 2000))
		}
		turn(t, w)
	}
	for range 9 {
		turn(t, w)
	}
	for i := range 2 {
		if l := open(w, i); len(l) != 0 {
			t.Errorf("chain %d has %d open", i, len(l))
		}
		planned(t, w.Chain(i), w.Chain(1-i), planOf(w.Chain(i), w.Chain(1-i))...)
	}
	if n := len(w.Chain(0).App().Sent()); n != 900 {
		t.Errorf("%d packets", n)
	}
}
