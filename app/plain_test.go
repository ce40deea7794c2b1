package app_test

import (
	"maps"
	"math"
	"math/big"
	"math/rand/v2"
	"slices"
	"strconv"
	"strings"
	"testing"

	"nuncio/api"
	"nuncio/app"
	"nuncio/channel"
	"nuncio/client"
	"nuncio/merkle"
	"nuncio/valset"
)

// plain is an app told plainly: who has what stands in one map, all else is what the layers below have.
type plain struct {
	has     map[holding]uint64
	channel *channel.Channel
	client  *client.Client
	set     []api.Validator
	sent    []api.Packet
}

type holding struct{ account, denom string }

func plainly() plain {
	c, _ := channel.New("a", "b")
	return plain{has: map[holding]uint64{}, channel: c, set: crew()}
}

func (p plain) copy() plain {
	p.has, p.channel, p.client, p.sent = maps.Clone(p.has), p.channel.Copy(), p.client.Copy(), slices.Clone(p.sent)
	return p
}

func isAccount(s string) bool {
	return len(s) >= 1 && len(s) <= 16 && strings.Trim(s, "abcdefghijklmnopqrstuvwxyz") == ""
}

func isDenom(s string) bool {
	return len(s) >= 1 && len(s) <= 40 && strings.Trim(s, "abcdefghijklmnopqrstuvwxyz/") == "" && strings.Trim(s, "/") == s
}

func (p plain) supply(denom string) *big.Int {
	all := new(big.Int)
	for h, n := range p.has {
		if h.denom == denom {
			all.Add(all, new(big.Int).SetUint64(n))
		}
	}
	return all
}

// shift takes from one and gives to another; an account that is nil is none.
func (p plain) shift(from, to *string, denom string, n uint64) api.Errno {
	switch {
	case from != nil && !isAccount(*from), to != nil && !isAccount(*to), !isDenom(denom):
		return api.ErrName
	case n == 0:
		return api.ErrArg
	case from == nil && !new(big.Int).Add(p.supply(denom), new(big.Int).SetUint64(n)).IsUint64():
		return api.ErrOverflow
	case from != nil && p.has[holding{*from, denom}] < n:
		return api.ErrBalance
	}
	if from != nil {
		p.has[holding{*from, denom}] -= n
	}
	if to != nil {
		p.has[holding{*to, denom}] += n
	}
	return api.OK
}

func (p plain) grant(account, denom string, n uint64) api.Errno {
	if account == "escrow" || strings.HasPrefix(denom, "b/") {
		return api.ErrName
	}
	return p.shift(nil, &account, denom, n)
}

// run is the app behind a transaction, or as it was, with an error.
func (p plain) run(x api.Tx, height int, now float64) (plain, api.Errno) {
	q := p.copy()
	e := q.do(x, height, now)
	if e != api.OK {
		return p, e
	}
	return q, api.OK
}

func (p *plain) do(x api.Tx, height int, now float64) api.Errno {
	if x.Kind < 1 || x.Kind > 7 {
		return api.ErrTx
	}
	if p.client == nil && x.Kind != 1 && x.Kind != 7 {
		return api.ErrRoot
	}
	switch x.Kind {
	case 1:
		if x.From == "escrow" || x.To == "escrow" {
			return api.ErrName
		}
		return p.shift(&x.From, &x.To, x.Denom, x.Amount)
	case 2:
		return p.send(x)
	case 3:
		return p.client.Update(x.Light, now)
	case 4:
		e := p.channel.Receive(x.Packet, height, p.client, x.Height, x.Proof)
		if e == api.OK {
			e = p.channel.Answer(x.Packet.Seq, p.arrive(x.Packet.Data))
		}
		return e
	case 5:
		e := p.channel.Acknowledge(x.Packet, x.Ack, p.client, x.Height, x.Proof)
		if e == api.OK && x.Ack == "no" {
			e = p.back(x.Packet)
		}
		return e
	case 6:
		e := p.channel.Expire(x.Packet, p.client, x.Height, x.Proof)
		if e == api.OK {
			e = p.back(x.Packet)
		}
		return e
	}
	set, e := valset.Update(p.set, x.Changes)
	if e == api.OK {
		p.set = set
	}
	return e
}

func (p *plain) send(x api.Tx) api.Errno {
	if x.From == "escrow" {
		return api.ErrName
	}
	if p.client.Height() >= x.Timeout {
		return api.ErrTimeout
	}
	escrow := "escrow"
	to := &escrow
	if strings.HasPrefix(x.Denom, "b/") {
		to = nil
	}
	if e := p.shift(&x.From, to, x.Denom, x.Amount); e != api.OK {
		return e
	}
	if len(x.To) > api.MaxText {
		return api.ErrForm
	}
	sent, e := p.channel.Send(dataOf(x.Denom, x.Amount, x.From, x.To), x.Timeout)
	if e == api.OK {
		p.sent = append(p.sent, sent)
	}
	return e
}

// told are the denom, the amount and both accounts of a transfer's data, if it is such a one's.
func told(data string) (denom string, n uint64, from, to string, is bool) {
	rest := data
	take := func(n int) string {
		if n > len(rest) {
			n, rest, is = 0, "", false
		}
		s := rest[:n]
		rest = rest[n:]
		return s
	}
	number := func(size int) uint64 {
		n := uint64(0)
		for _, c := range []byte(take(size)) {
			n = n<<8 + uint64(c)
		}
		return n
	}
	is = true
	denom = take(int(number(2)))
	n = number(8)
	from = take(int(number(2)))
	to = take(int(number(2)))
	return denom, n, from, to, is && rest == ""
}

func (p *plain) arrive(data string) string {
	denom, n, _, to, is := told(data)
	if !is || to == "escrow" {
		return "no"
	}
	e := api.OK
	if own, is := strings.CutPrefix(denom, "a/"); is {
		escrow := "escrow"
		e = p.shift(&escrow, &to, own, n)
	} else {
		e = p.shift(nil, &to, "b/"+denom, n)
	}
	if e != api.OK {
		return "no"
	}
	return "ok"
}

func (p *plain) back(x api.Packet) api.Errno {
	denom, n, from, _, _ := told(x.Data)
	if strings.HasPrefix(denom, "b/") {
		return p.shift(nil, &from, denom, n)
	}
	escrow := "escrow"
	return p.shift(&escrow, &from, denom, n)
}

func (p plain) view() view {
	v := view{set: p.set, sent: p.sent, known: p.client.Height()}
	var l []string
	for h, n := range p.has {
		if n > 0 {
			l = append(l, "bank/"+h.denom+"/"+h.account, strconv.FormatUint(n, 10))
		}
	}
	v.bank = entries(l...)
	for _, e := range p.channel.Entries() {
		l = append(l, e.Key, e.Value)
	}
	v.entries = entries(l...)
	v.root, _ = merkle.Root(v.entries)
	return v
}

// abroad is what chain b had, and its blocks.
type abroad struct {
	all     states
	blocks  []api.Light
	packets []api.Packet
}

const heights = 9

// anyAbroad has at each height some of all packets committed, and receipts and answers of some numbers. Nothing of it need be right.
func anyAbroad(r *rand.Rand) abroad {
	x := abroad{all: states{}}
	for seq := 1; seq <= 12; seq++ {
		x.packets = append(x.packets, api.Packet{Seq: seq, From: "b", Data: anyData(r), Timeout: 1 + r.IntN(heights+2)})
	}
	// With these there is too much of something, or too little, ahead of its coming back.
	for i, data := range []string{dataOf("gold", math.MaxUint64-5, "", "bob"), dataOf("gold", 5, "", "cid"), dataOf("gold", 3, "", "cid"), dataOf("a/coin", 3, "", "cid")} {
		x.packets[i].Data, x.packets[i].Timeout = data, heights+1
	}
	var commits, answers []string
	for h := 1; h <= heights; h++ {
		for _, p := range x.packets {
			if r.IntN(4) == 0 && !slices.Contains(commits, numbered("commit", p.Seq)) {
				commits = append(commits, numbered("commit", p.Seq), textOf(p))
			}
		}
		for seq := 1; seq <= 12; seq++ {
			if r.IntN(12) == 0 && !slices.Contains(answers, numbered("answer", seq)) {
				answers = append(answers, numbered("receipt", seq), "1", numbered("answer", seq), pick(r, "ok", "no", "no", "x"))
			}
		}
		x.all[h] = entries(append(slices.Clone(commits), answers...)...)
	}
	x.blocks = blocks("b", x.all)
	return x
}

func anyData(r *rand.Rand) string {
	s := dataOf(pick(r, "gold", "gold", "x/gold", "a/coin", "a/coin", "a/a/coin", "a/b/gold", "b/gold", "", "/"), anyAmount(r), pick(r, "bob", "", "escrow"), pick(r, "ann", "ann", "bob", "bob", "cid", "escrow", "A", ""))
	switch r.IntN(12) {
	case 0:
		return s[:r.IntN(len(s))]
	case 1:
		return s + "x"
	}
	return s
}

func anyAmount(r *rand.Rand) uint64 {
	return pick[uint64](r, 0, 1, 1, 1, 2, 2, 2, 3, 3, 3, 5, 5, 8, 20, math.MaxUint64-5, math.MaxUint64)
}

// duel is an app, another one that is asked the same, and the plain one.
type duel struct {
	x       abroad
	a, twin *app.App
	p       plain
	answers map[string]int
}

// TestAnyCalls: any calls against the plain app.
func TestAnyCalls(t *testing.T) { // P21.1, P21.2, P21.3, P2
	r := random()
	answers := map[string]int{}
	for range 150 {
		x := anyAbroad(r)
		for range 4 {
			d := duel{x: x, a: begun(t, "a", "b"), twin: begun(t, "a", "b"), p: plainly(), answers: answers}
			for range 3 {
				d.grant(t, pick(r, "ann", "bob"), pick(r, "coin", "a/coin"), 20)
			}
			for range 120 {
				d.play(t, r)
			}
		}
	}
	for what, n := range map[string]int{
		"grant 0": 800, "grant 1": 100, "grant 182": 100, "grant 183": 300, "trust 0": 300, "trust 152": 50, "trust 203": 300,
		"0 211": 100, "1 0": 500, "1 1": 100, "1 181": 500, "1 183": 500, "2 0": 1000, "2 1": 100, "2 61": 20, "2 181": 500, "2 183": 300, "2 191": 50, "2 202": 500,
		"3 0": 500, "3 153": 300, "3 154": 50, "3 191": 50, "4 0": 1000, "4 191": 300, "4 192": 500, "4 202": 300, "4 203": 300, "4 204": 30,
		"5 0": 100, "5 181": 3, "5 191": 50, "5 192": 100, "5 203": 100, "5 204": 20, "6 0": 50, "6 181": 3, "6 182": 1, "6 191": 50, "6 192": 50, "6 202": 100, "6 203": 100, "6 204": 20,
		"7 0": 100, "7 71": 50, "7 72": 30, "7 73": 50, "answer ok": 300, "answer no": 300,
	} {
		if answers[what] < n {
			t.Errorf("%s was answered %d times, not %d", what, answers[what], n)
		}
	}
}

// play is one call, and what is told behind it.
func (d *duel) play(t *testing.T, r *rand.Rand) {
	t.Helper()
	was, before := d.p.copy(), d.a.Copy()
	switch r.IntN(12) {
	case 0:
		account, denom, n := pick(r, "ann", "bob", "bob", "escrow", "A"), pick(r, "coin", "coin", "a/coin", "b/gold", "/"), anyAmount(r)
		d.grant(t, account, denom, n)
	case 1:
		d.trust(t, r)
	default:
		d.run(t, d.anyTx(r), 1+r.IntN(heights+1), pick(r, late, late, late, late, late, late, math.NaN()))
	}
	want := d.p.view()
	if got, twin := look(d.a), look(d.twin); !isSame(got, want) || !isSame(twin, want) {
		t.Fatalf("%+v and %+v, not %+v", got, twin, want)
	}
	if got := look(before); !isSame(got, was.view()) {
		t.Fatalf("the copy: %+v, not %+v", got, was.view())
	}
	if r.IntN(8) == 0 {
		d.a, d.p, d.twin = before, was, before.Copy()
	}
}

func (d *duel) agree(t *testing.T, call string, e, twin, want api.Errno) {
	t.Helper()
	if e != want || twin != want {
		t.Fatalf("%s: %d and %d, not %d", call, e, twin, want)
	}
	d.answers[call+" "+strconv.Itoa(int(want))]++
}

func (d *duel) grant(t *testing.T, account, denom string, n uint64) {
	t.Helper()
	d.agree(t, "grant", d.a.Grant(account, denom, n), d.twin.Grant(account, denom, n), d.p.grant(account, denom, n))
}

func (d *duel) trust(t *testing.T, r *rand.Rand) {
	t.Helper()
	l := pick(r, d.x.blocks[0], d.x.blocks[1], block(pick(r, "a", "c"), 1, api.Hash{}, nil))
	want := api.OK
	switch {
	case l.Header.Chain != "b":
		want = api.ErrChain
	case d.p.client != nil:
		want = api.ErrDone
	default:
		d.p.client, _ = client.New(l, late, patient)
	}
	d.agree(t, "trust", d.a.Trust(l, late, patient), d.twin.Trust(l, late, patient), want)
}

func (d *duel) run(t *testing.T, x api.Tx, height int, now float64) {
	t.Helper()
	was := d.p
	p, want := d.p.run(x, height, now)
	kind := strconv.Itoa(max(0, int(x.Kind)))
	d.agree(t, kind, d.a.Run(x, height, now), d.twin.Run(x, height, now), want)
	d.p = p
	if want == api.OK && x.Kind == api.Receive {
		seq := numbered("answer", x.Packet.Seq)
		for _, e := range d.a.Entries() {
			if e.Key == seq {
				d.answers["answer "+e.Value]++
			}
		}
	}
	d.judge(t, x, was)
}

// judge: no supply is more than it was, but as the packet says that was received, or that came back.
func (d *duel) judge(t *testing.T, x api.Tx, was plain) {
	t.Helper()
	b := d.a.Bank()
	for h := range d.p.has {
		now, then := new(big.Int).SetUint64(b.Supply(h.denom)), was.supply(h.denom)
		if now.Cmp(then) <= 0 {
			continue
		}
		denom, n, _, _, is := told(x.Packet.Data)
		more := new(big.Int).Sub(now, then)
		switch {
		case !is || !strings.HasPrefix(h.denom, "b/") || more.Cmp(new(big.Int).SetUint64(n)) != 0:
		case x.Kind == api.Receive && h.denom == "b/"+denom:
			continue
		case (x.Kind == api.Acknowledge || x.Kind == api.Expire) && h.denom == denom && slices.Contains(was.sent, x.Packet):
			continue
		}
		t.Fatalf("kind %d: %s more %s, by %v", x.Kind, more, h.denom, x.Packet)
	}
}

func (d *duel) anyTx(r *rand.Rand) api.Tx {
	h := 1 + r.IntN(heights)
	if known := d.p.client.Height(); known > 0 && r.IntN(3) > 0 {
		h = known
	}
	switch r.IntN(16) {
	case 0:
		return api.Tx{Kind: pick(r, api.TxKind(-1), 0)}
	case 1, 2:
		return pay(d.anyAccount(r), d.anyAccount(r), d.anyDenom(r), anyAmount(r))
	case 3, 4, 5, 6:
		return send(d.anyAccount(r), pick(r, "bob", "bob", "ann", "ann", "?", "escrow", strings.Repeat("t", 300), strings.Repeat("t", 5000)), d.anyDenom(r), anyAmount(r), pick(r, h, h+1, h+1, h+2))
	case 7:
		if d.p.client.Height() > 3 && r.IntN(4) > 0 { // to let packets be sent ahead of being answered
			return d.anyTx(r)
		}
		return api.Tx{Kind: api.Update, Light: pick(r, d.x.blocks...)}
	case 8, 9, 10:
		p := d.bent(r, pick(r, d.x.packets...))
		return api.Tx{Kind: api.Receive, Packet: p, Height: h, Proof: d.anyProof(r, h, numbered("commit", p.Seq))}
	case 11, 12:
		p := d.bent(r, d.anySent(r))
		return api.Tx{Kind: api.Acknowledge, Packet: p, Ack: pick(r, "ok", "no", "no", "x"), Height: h, Proof: d.anyProof(r, h, numbered("answer", p.Seq))}
	case 13, 14:
		p := d.bent(r, d.anySent(r))
		return api.Tx{Kind: api.Expire, Packet: p, Height: h, Proof: d.anyProof(r, h, numbered("receipt", p.Seq))}
	}
	var l []api.Validator
	for range r.IntN(3) {
		l = append(l, api.Validator{Key: pick[uint64](r, 3, 3, 8, 8, 9), Power: pick(r, 0, 0, 0, 1, 4, -1, api.MaxPower)})
	}
	return api.Tx{Kind: api.Powers, Changes: l}
}

// anySent is a packet that was sent, mostly, or one of chain b.
func (d *duel) anySent(r *rand.Rand) api.Packet {
	return pick(r, append(slices.Clone(d.p.sent), d.x.packets[0])...)
}

func (d *duel) anyAccount(r *rand.Rand) string {
	return pick(r, "ann", "ann", "ann", "bob", "bob", "bob", "bob", "bob", "escrow", "A")
}

func (d *duel) anyDenom(r *rand.Rand) string {
	return pick(r, "coin", "coin", "coin", "a/coin", "b/gold", "b/gold", "b/gold", "b/x/gold", "b/b/gold", "/")
}

// bent is mostly the packet as it is.
func (d *duel) bent(r *rand.Rand, p api.Packet) api.Packet {
	switch r.IntN(30) {
	case 0:
		p.From = pick(r, "a", "b", "c", "")
	case 1:
		p.Data = anyData(r)
	case 2:
		p.Seq = r.IntN(8)
	case 3:
		p.Timeout = r.IntN(heights + 2)
	}
	return p
}

// anyProof is mostly one of a key at that height.
func (d *duel) anyProof(r *rand.Rand, height int, key string) api.Proof {
	switch r.IntN(15) {
	case 0:
		return api.Proof{}
	case 1:
		return proofOf(d.x.all[1+r.IntN(heights)], key)
	case 2:
		return proofOf(d.x.all[height], numbered(pick(r, "commit", "receipt", "answer"), 1+r.IntN(7)))
	}
	return proofOf(d.x.all[height], key)
}
