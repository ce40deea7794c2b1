package relay_test

import (
	"bytes"
	"encoding/binary"
	"math/rand/v2"
	"reflect"
	"slices"
	"strconv"
	"strings"
	"testing"

	"nuncio/api"
	"nuncio/chain"
	"nuncio/forms"
	"nuncio/merkle"
	"nuncio/relay"
	"nuncio/schnorr"
)

func random() *rand.Rand { return rand.New(rand.NewPCG(23, 24)) }

func pick[T any](r *rand.Rand, l ...T) T { return l[r.IntN(len(l))] }

// trusting are the options by which each chain of a world trusts the other one.
var trusting = api.Options{Level: 0.5, Period: 100000, Drift: 1000}

// expect: the answer is just that.
func expect(t *testing.T, name string, got, want api.Errno) {
	t.Helper()
	if got != want {
		t.Errorf("%s: %d, not %d", name, got, want)
	}
}

func world(t *testing.T, a, b int) *relay.World {
	t.Helper()
	w, e := relay.New(a, b)
	if w == nil || e != api.OK {
		t.Fatalf("New(%d, %d): %v, %d", a, b, w, e)
	}
	return w
}

// made: the i-th chain makes a block, the clock going on by wait.
func made(t *testing.T, w *relay.World, i, wait int) {
	t.Helper()
	expect(t, "Block of "+strconv.Itoa(i), w.Block(i, wait), api.OK)
}

func submit(t *testing.T, w *relay.World, i int, l ...api.Tx) {
	t.Helper()
	for _, x := range l {
		expect(t, "Submit at "+strconv.Itoa(i), w.Submit(i, x), api.OK)
	}
}

// done: these are done, all of them, in the next block of the i-th chain.
func done(t *testing.T, w *relay.World, i int, l ...api.Tx) {
	t.Helper()
	submit(t, w, i, l...)
	made(t, w, i, 1)
	results(t, w, i, make([]api.Errno, len(l))...)
}

// results are those of the i-th chain's last block, just these.
func results(t *testing.T, w *relay.World, i int, want ...api.Errno) {
	t.Helper()
	c := w.Chain(i)
	if got := c.Results(c.Height()); !slices.Equal(got, want) {
		t.Errorf("the results of chain %d at %d are %v, not %v", i, c.Height(), got, want)
	}
}

// carried: what the i-th chain is to hear is just so many transactions.
func carried(t *testing.T, w *relay.World, i, want int) {
	t.Helper()
	if n, e := w.Relay(i); n != want || e != api.OK {
		t.Errorf("Relay to %d: %d, %d, not %d", i, n, e, want)
	}
}

// turn is a block at each chain, each of which the other one hears of ahead of its own next one.
func turn(t *testing.T, w *relay.World) {
	t.Helper()
	for i := range 2 {
		made(t, w, i, 1)
		w.Relay(1 - i)
	}
}

func pay(from, to, denom string, n uint64) api.Tx {
	return api.Tx{Kind: api.Pay, From: from, To: to, Denom: denom, Amount: n}
}

func send(from, to, denom string, n uint64, timeout int) api.Tx {
	return api.Tx{Kind: api.Send, From: from, To: to, Denom: denom, Amount: n, Timeout: timeout}
}

func powers(l ...api.Validator) api.Tx { return api.Tx{Kind: api.Powers, Changes: l} }

// update is one by a chain's light block of a height.
func update(t *testing.T, from *chain.Chain, height int) api.Tx {
	t.Helper()
	l, e := from.Light(height)
	expect(t, "Light of "+strconv.Itoa(height), e, api.OK)
	return api.Tx{Kind: api.Update, Light: l}
}

// shown is a transaction of a packet, with a proof of what a chain's last block had of it.
func shown(t *testing.T, kind api.TxKind, p api.Packet, ack string, from *chain.Chain) api.Tx {
	t.Helper()
	what := map[api.TxKind]string{api.Receive: "commit", api.Acknowledge: "answer", api.Expire: "receipt"}[kind]
	proof, e := from.Proof(from.Height(), numbered(what, p.Seq))
	expect(t, "Proof", e, api.OK)
	return api.Tx{Kind: kind, Packet: p, Ack: ack, Height: from.Height(), Proof: proof}
}

func numbered(what string, n int) string { return what + "/" + strconv.Itoa(n) }

// keyOf is a secret's.
func keyOf(secret uint64) uint64 {
	key, _ := schnorr.Key(secret)
	return key
}

// secretsOf are those of the i-th chain's validators.
func secretsOf(i, n int) []uint64 {
	var l []uint64
	for k := range n {
		l = append(l, uint64(1+100*i+k))
	}
	return l
}

// crewOf are n validators of the i-th chain, by rising keys.
func crewOf(i, n int) []api.Validator {
	var l []api.Validator
	for _, s := range secretsOf(i, n) {
		l = append(l, api.Validator{Key: keyOf(s), Power: 1})
	}
	slices.SortFunc(l, func(a, b api.Validator) int {
		if a.Key < b.Key {
			return -1
		}
		return 1
	})
	return l
}

// valueOf is what entries have of a key, one after the other.
func valueOf(l []api.Entry, key string) (string, bool) {
	for _, e := range l {
		if e.Key == key {
			return e.Value, true
		}
	}
	return "", false
}

func has(l []api.Entry, key string) bool {
	_, is := valueOf(l, key)
	return is
}

// planOf is the plan, told plainly.
func planOf(from, to *chain.Chain) []api.Tx {
	h := from.Height()
	if from == nil || to == nil || h == 0 {
		return nil
	}
	var l []api.Tx
	of := func(kind api.TxKind, p api.Packet, ack, key string) {
		if len(l) >= 32 {
			return
		}
		proof, _ := from.Proof(h, key)
		l = append(l, api.Tx{Kind: kind, Packet: p, Ack: ack, Height: h, Proof: proof})
	}
	there, here := from.App().Entries(), to.App().Entries()
	if light, _ := from.Light(h); to.App().Known() < h {
		l = append(l, api.Tx{Kind: api.Update, Light: light})
	}
	for _, p := range from.App().Sent() {
		if has(there, numbered("commit", p.Seq)) && !has(here, numbered("receipt", p.Seq)) && p.Timeout >= to.Height()+2 {
			of(api.Receive, p, "", numbered("commit", p.Seq))
		}
	}
	for _, p := range to.App().Sent() {
		answer, is := valueOf(there, numbered("answer", p.Seq))
		switch {
		case !has(here, numbered("commit", p.Seq)):
		case is:
			of(api.Acknowledge, p, answer, numbered("answer", p.Seq))
		case h >= p.Timeout && !has(there, numbered("receipt", p.Seq)):
			of(api.Expire, p, "", numbered("receipt", p.Seq))
		}
	}
	return l
}

// planned: the plan is just these.
func planned(t *testing.T, from, to *chain.Chain, want ...api.Tx) {
	t.Helper()
	got := relay.Plan(from, to)
	if !slices.EqualFunc(got, want, isSameTx) {
		t.Errorf("the plan is %v, not %v", kinds(got), kinds(want))
	}
	for _, x := range got {
		proves(t, from, x)
	}
	if plain := planOf(from, to); !slices.EqualFunc(got, plain, isSameTx) {
		t.Errorf("the plan is %v, told plainly %v", kinds(got), kinds(plain))
	}
}

func isSameTx(a, b api.Tx) bool { return reflect.DeepEqual(a, b) }

// kinds are what transactions do, and which packet and height they are of.
func kinds(l []api.Tx) []string {
	var all []string
	for _, x := range l {
		all = append(all, strconv.Itoa(int(x.Kind))+":"+strconv.Itoa(x.Packet.Seq)+x.Ack+"@"+strconv.Itoa(x.Height))
	}
	return all
}

// proves: a planned transaction's proof tells of the last header of the chain what it says.
func proves(t *testing.T, from *chain.Chain, x api.Tx) {
	t.Helper()
	l, _ := from.Light(from.Height())
	tells := func(what string) (string, bool) {
		value, is, ok := merkle.Check(l.Header.App, numbered(what, x.Packet.Seq), x.Proof)
		if !ok || x.Height != from.Height() {
			t.Errorf("%v: no proof", kinds([]api.Tx{x}))
		}
		return value, is
	}
	switch x.Kind {
	case api.Receive:
		if _, is := tells("commit"); !is {
			t.Errorf("%v: it was not sent", kinds([]api.Tx{x}))
		}
	case api.Acknowledge:
		if answer, is := tells("answer"); !is || answer != x.Ack {
			t.Errorf("%v: it was not answered so", kinds([]api.Tx{x}))
		}
	case api.Expire:
		if _, is := tells("receipt"); is || x.Height < x.Packet.Timeout {
			t.Errorf("%v: it was received, or may still be", kinds([]api.Tx{x}))
		}
	}
}

// view is all that a world tells of itself.
type view struct {
	clock  int
	chains [2]chainView
}

type chainView struct {
	lights  [][]byte
	results [][]api.Errno
	set     []api.Validator
	entries []api.Entry
	sent    []api.Packet
	known   int
}

func look(t *testing.T, w *relay.World) view {
	t.Helper()
	return view{clock: w.Clock(), chains: [2]chainView{lookAt(t, w.Chain(0)), lookAt(t, w.Chain(1))}}
}

func lookAt(t *testing.T, c *chain.Chain) chainView {
	t.Helper()
	a := c.App()
	v := chainView{set: a.Set(), entries: a.Entries(), sent: a.Sent(), known: a.Known()}
	for h := 1; h <= c.Height(); h++ {
		l, e := c.Light(h)
		expect(t, "Light of "+strconv.Itoa(h), e, api.OK)
		b, e := forms.EncodeLight(l)
		expect(t, "EncodeLight", e, api.OK)
		v.lights = append(v.lights, b)
		v.results = append(v.results, c.Results(h))
	}
	return v
}

func isSame(v, w view) bool {
	return v.clock == w.clock && isSameChain(v.chains[0], w.chains[0]) && isSameChain(v.chains[1], w.chains[1])
}

func isSameChain(v, w chainView) bool {
	return slices.EqualFunc(v.lights, w.lights, bytes.Equal) && slices.EqualFunc(v.results, w.results, slices.Equal) &&
		slices.Equal(v.set, w.set) && slices.Equal(v.entries, w.entries) && slices.Equal(v.sent, w.sent) && v.known == w.known
}

// seed is the same world whenever it is asked for, apart.
type seed func() *relay.World

// unchanged: a world tells, and does, behind f what it does without f.
func (s seed) unchanged(t *testing.T, f func(w *relay.World)) {
	t.Helper()
	w, other := s(), s()
	f(w)
	for range 2 {
		if got, want := look(t, w), look(t, other); !isSame(got, want) {
			t.Fatalf("%+v, not %+v", got, want)
		}
		goOn(w)
		goOn(other)
	}
}

// goOn fills both pools and empties them, and carries what there is then.
func goOn(w *relay.World) {
	for i, denom := range []string{"coin", "gold"} {
		for w.Submit(i, pay("ann", "zed", denom, 1)) == api.OK {
		}
		w.Block(i, 3)
		w.Relay(1 - i)
	}
}

// dataOf is a transfer's, byte by byte.
func dataOf(denom string, n uint64, from, to string) string {
	text := func(b []byte, s string) []byte {
		return append(binary.BigEndian.AppendUint16(b, uint16(len(s))), s...)
	}
	b := text(nil, denom)
	b = binary.BigEndian.AppendUint64(b, n)
	b = text(b, from)
	return string(text(b, to))
}

// transfer is what a packet's data says.
type transfer struct {
	denom    string
	n        uint64
	from, to string
}

// transferOf is the one of a packet that a chain sent.
func transferOf(p api.Packet) transfer {
	rest := []byte(p.Data)
	text := func() string {
		n := binary.BigEndian.Uint16(rest)
		s := string(rest[2 : 2+n])
		rest = rest[2+n:]
		return s
	}
	var x transfer
	x.denom = text()
	x.n = binary.BigEndian.Uint64(rest)
	rest = rest[8:]
	x.from = text()
	x.to = text()
	return x
}

// open are the packets that the i-th chain sent and that are not closed.
func open(w *relay.World, i int) []api.Packet {
	a := w.Chain(i).App()
	l := a.Entries()
	return slices.DeleteFunc(a.Sent(), func(p api.Packet) bool { return !has(l, numbered("commit", p.Seq)) })
}

// answered is the answer that the other chain gave to a packet of the i-th one; nothing, if it gave none.
func answered(w *relay.World, i, seq int) string {
	answer, _ := valueOf(w.Chain(1-i).App().Entries(), numbered("answer", seq))
	return answer
}

// balances: at the i-th chain an account has just so much.
func balances(t *testing.T, w *relay.World, i int, account, denom string, n uint64) {
	t.Helper()
	if got := w.Chain(i).App().Bank().Balance(account, denom); got != n {
		t.Errorf("at chain %d %s has %d %s, not %d", i, account, got, denom, n)
	}
}

// nothingFromNothing: of what was granted there is as much as ever where it was, of what escrow has so much is at the other chain or on the way, and there is nothing else.
func nothingFromNothing(t *testing.T, w *relay.World) {
	t.Helper()
	for i, native := range []string{"coin", "gold"} {
		here, there := w.Chain(i).App().Bank(), w.Chain(1-i).App().Bank()
		abroad := []string{"a/", "b/"}[i] + native
		if n := here.Supply(native); n != 1000 {
			t.Fatalf("of %s there are %d", native, n)
		}
		if got, want := here.Balance("escrow", native), there.Supply(abroad)+onTheWay(w, i, native)+onTheWay(w, 1-i, abroad); got != want {
			t.Fatalf("escrow has %d %s, not %d", got, native, want)
		}
		for _, e := range there.Entries() {
			if d := e.Key[len("bank/"):strings.LastIndexByte(e.Key, '/')]; d != abroad && d != []string{"gold", "coin"}[i] {
				t.Fatalf("%v comes from nothing", e)
			}
		}
	}
}

// onTheWay is what left the i-th chain of a denom, is not closed there, and did not arrive.
func onTheWay(w *relay.World, i int, denom string) uint64 {
	all := uint64(0)
	for _, p := range open(w, i) {
		if x := transferOf(p); x.denom == denom && answered(w, i, p.Seq) != "ok" {
			all += x.n
		}
	}
	return all
}
