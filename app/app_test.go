package app_test

import (
	"math"
	"slices"
	"strings"
	"testing"

	"nuncio/api"
	"nuncio/app"
	"nuncio/blake"
	"nuncio/merkle"
)

// wrongSets are such as are not right.
func wrongSets() [][]api.Validator {
	var many []api.Validator
	for i := range api.MaxValidators + 1 {
		many = append(many, api.Validator{Key: uint64(i), Power: 1})
	}
	return [][]api.Validator{
		nil, {}, many,
		{{Key: 3, Power: 0}},
		{{Key: 3, Power: -1}},
		{{Key: 3, Power: api.MaxPower + 1}},
		{{Key: 3, Power: api.MaxPower}, {Key: 4, Power: 1}},
		{{Key: 3, Power: math.MaxInt}, {Key: 4, Power: math.MaxInt}, {Key: 5, Power: 3}},
		{{Key: 4, Power: 1}, {Key: 3, Power: 1}},
		{{Key: 3, Power: 1}, {Key: 3, Power: 1}},
	}
}

func TestNew(t *testing.T) { // P21.1 (Z1)
	for _, own := range rightNames {
		for _, other := range rightNames {
			if own == other {
				refusedNew(t, own, other, crew(), api.ErrName)
				continue
			}
			a := begun(t, own, other)
			if v := look(a); !isSame(v, view{set: crew(), root: blake.Sum(nil)}) {
				t.Errorf("New(%q, %q): %+v", own, other, v)
			}
			expect(t, "Trust", a.Trust(block(other, 1, api.Hash{}, nil), late, patient), api.OK)
			expect(t, "Grant", a.Grant("ann", "coin", 1), api.OK)
			run(t, a, send("ann", "bob", "coin", 1, 9), api.OK)
			if p := a.Sent()[0]; p.From != own {
				t.Errorf("a packet from %q, not %q", p.From, own)
			}
		}
	}
	var full []api.Validator
	for i := range api.MaxValidators {
		full = append(full, api.Validator{Key: uint64(i), Power: api.MaxPower / api.MaxValidators})
	}
	for _, set := range [][]api.Validator{full, {{Key: 0, Power: 1}}, {{Key: math.MaxUint64, Power: api.MaxPower}}} {
		if a, e := app.New("a", "b", set); e != api.OK || !slices.Equal(a.Set(), set) {
			t.Errorf("New with %v: %d", set, e)
		}
	}
}

func refusedNew(t *testing.T, own, other string, set []api.Validator, want api.Errno) {
	t.Helper()
	if a, e := app.New(own, other, set); a != nil || e != want {
		t.Errorf("New(%q, %q, %v): %v, %d, not %d", own, other, set, a, e, want)
	}
}

func TestNewFaults(t *testing.T) { // P21.1 (Z1), rules 1 and 2
	for _, wrong := range wrongNames {
		refusedNew(t, wrong, "a", crew(), api.ErrName)
		refusedNew(t, "a", wrong, crew(), api.ErrName)
		refusedNew(t, wrong, wrong, crew(), api.ErrName)
	}
	for _, set := range wrongSets() {
		refusedNew(t, "a", "b", set, api.ErrSet)
		refusedNew(t, "a", "a", set, api.ErrSet)
		refusedNew(t, "A", "b", set, api.ErrSet)
		refusedNew(t, "a", "", set, api.ErrSet)
	}
}

// refused: the Grant is refused just so, and nothing changes.
func refused(t *testing.T, a *app.App, account, denom string, n uint64, want api.Errno) {
	t.Helper()
	unchanged(t, a, func() { expect(t, "Grant of "+denom+" to "+account, a.Grant(account, denom, n), want) })
}

func TestGrant(t *testing.T) { // P21.1 (Z1), P21.2
	a := begun(t, "a", "bc")
	var want []string
	for _, denom := range []string{"coin", "bc", "bcd/x", "b/c/x", "x/bc/y", "a/x", "b/x", "c", strings.Repeat("z", 40)} {
		for _, account := range []string{"ann", "escrows", "scrow", "bc", "abcdefghijklmnop"} {
			expect(t, "Grant", a.Grant(account, denom, 3), api.OK)
			expect(t, "Grant", a.Grant(account, denom, 4), api.OK)
			want = append(want, "bank/"+denom+"/"+account, "7")
			shows(t, a, want...)
		}
		for _, n := range []uint64{0, 1, math.MaxUint64} {
			refused(t, a, "escrow", denom, n, api.ErrName)
			refused(t, a, "escrow", "bc/"+denom, n, api.ErrName)
			refused(t, a, "ann", "bc/"+denom, n, api.ErrName)
		}
		refused(t, a, "ann", denom, math.MaxUint64-34, api.ErrOverflow)
		refused(t, a, "ann", denom, 0, api.ErrArg)
	}
	for _, n := range []uint64{0, 1, math.MaxUint64} {
		refused(t, a, "ann", "bc/", n, api.ErrName)
		refused(t, a, "ann", "bc//x", n, api.ErrName)
		refused(t, a, "escrow", "", n, api.ErrName)
		for _, account := range wrongAccounts {
			refused(t, a, account, "coin", n, api.ErrName)
		}
		for _, denom := range wrongDenoms {
			refused(t, a, "ann", denom, n, api.ErrName)
		}
	}
	expect(t, "Grant", a.Grant("ann", "coin", math.MaxUint64-35), api.OK)
	supplies(t, a.Bank(), "coin", math.MaxUint64)
	refused(t, a, "bob", "coin", 1, api.ErrOverflow)
}

// rootFault is what makes a root, a clock or options wrong; those whose rank is lower are answered first.
type rootFault struct {
	rank int
	want api.Errno
	make func(l *api.Light, now *float64, o *api.Options)
}

func rootFaults() []rootFault {
	change := func(rank int, want api.Errno, f func(l *api.Light, now *float64, o *api.Options)) rootFault {
		return rootFault{rank, want, f}
	}
	l := []rootFault{
		change(1, api.ErrOptions, func(_ *api.Light, _ *float64, o *api.Options) { o.Level = math.NaN() }),
		change(1, api.ErrOptions, func(_ *api.Light, _ *float64, o *api.Options) { o.Period = 0 }),
		change(2, api.ErrClock, func(_ *api.Light, now *float64, _ *api.Options) { *now = math.NaN() }),
		change(2, api.ErrClock, func(_ *api.Light, now *float64, _ *api.Options) { *now = math.Inf(-1) }),
		change(3, api.ErrForm, func(l *api.Light, _ *float64, _ *api.Options) { l.Commit.Height = 0 }),
		change(4, api.ErrSet, func(l *api.Light, _ *float64, _ *api.Options) { l.Next = nil }),
		change(5, api.ErrSetHash, func(l *api.Light, _ *float64, _ *api.Options) { l.Header.Set[0]++ }),
		change(6, api.ErrCommit, func(l *api.Light, _ *float64, _ *api.Options) { l.Commit.Seals = nil }),
		change(7, api.ErrExpired, func(_ *api.Light, _ *float64, o *api.Options) { o.Period = 1 }),
	}
	for _, name := range append(wrongNames, "a", "c", "bb") {
		l = append(l, change(0, api.ErrChain, func(l *api.Light, _ *float64, _ *api.Options) { l.Header.Chain = name }))
	}
	return l
}

func TestTrust(t *testing.T) { // P21.1 (Z1), P21.2, rule 1
	a := begun(t, "a", "b")
	tried := func(want api.Errno, faults ...rootFault) {
		t.Helper()
		l, now, o := block("b", 3, api.Hash{}, nil), float64(late), patient
		for _, f := range faults {
			f.make(&l, &now, &o)
		}
		unchanged(t, a, func() { expect(t, "Trust", a.Trust(l, now, o), want) })
	}
	each := func(want func(f rootFault) api.Errno) {
		t.Helper()
		for _, f := range rootFaults() {
			tried(want(f), f)
			for _, g := range rootFaults() {
				if f.rank < g.rank {
					tried(want(f), g, f)
				}
			}
		}
	}
	each(func(f rootFault) api.Errno { return f.want })
	run(t, a, send("ann", "bob", "coin", 1, 9), api.ErrRoot)
	expect(t, "Trust", a.Trust(block("b", 3, api.Hash{}, nil), late, patient), api.OK)
	if a.Known() != 3 {
		t.Errorf("%d is known", a.Known())
	}
	each(func(f rootFault) api.Errno {
		if f.rank == 0 {
			return api.ErrChain
		}
		return api.ErrDone
	})
	tried(api.ErrDone)
	expect(t, "later", a.Trust(block("b", 4, api.Hash{}, nil), late, patient), api.ErrDone)
}

// TestTrustedOptions: the client is one of that root, at that clock, with these options.
func TestTrustedOptions(t *testing.T) { // P21.1 (Z1)
	a := begun(t, "a", "b")
	o := api.Options{Level: 1, Period: 50, Drift: 2}
	root := block("b", 3, api.Hash{}, nil)
	expect(t, "expired", a.Trust(root, 53, o), api.ErrExpired)
	expect(t, "Trust", a.Trust(root, math.Nextafter(53, 0), o), api.OK)
	up := api.Tx{Kind: api.Update, Light: block("b", 4, root.Commit.Block, nil)}
	runAt(t, a, up, 5, 53, api.ErrExpired)
	runAt(t, a, up, 5, 2-1.0/(1<<40), api.ErrFuture)
	runAt(t, a, api.Tx{Kind: api.Update, Light: block("b", 5, api.Hash{}, nil)}, 5, 10, api.ErrTrust)
	runAt(t, a, up, 5, 2, api.OK)
	if a.Known() != 4 {
		t.Errorf("%d is known", a.Known())
	}
}

// TestEntries: those of the bank and of the channel stand among each other, by whole keys; the root is theirs.
func TestEntries(t *testing.T) { // P21.1 (Z1), rules 5 and 9
	p := []api.Packet{
		{Seq: 1, From: "b", Data: dataOf("gold", 6, "bob", "ann"), Timeout: 50},
		{Seq: 12, From: "b", Data: "?", Timeout: 50},
	}
	l := commitsOf(p...)
	a := home(t, states{3: l})
	expect(t, "Grant", a.Grant("ann", "coin/z", 2), api.OK)
	run(t, a, receive(p[1], 3, l), api.OK)
	run(t, a, receive(p[0], 3, l), api.OK)
	var sent []string
	for n := 1; n <= 11; n++ {
		run(t, a, send("ann", "bob", "coin", 1, 9), api.OK)
		sent = append(sent, textOf(a.Sent()[n-1]))
	}
	want := "answer/1=ok answer/12=no bank/b/gold/ann=6 bank/coin/ann=89 bank/coin/escrow=11 bank/coin/z/ann=2 commit/1=" + sent[0] +
		" commit/10=" + sent[9] + " commit/11=" + sent[10] + " commit/2=" + sent[1] + " commit/3=" + sent[2] + " commit/4=" + sent[3] + " commit/5=" + sent[4] +
		" commit/6=" + sent[5] + " commit/7=" + sent[6] + " commit/8=" + sent[7] + " commit/9=" + sent[8] + " receipt/1=1 receipt/12=1"
	var got []string
	for _, e := range a.Entries() {
		got = append(got, e.Key+"="+e.Value)
	}
	if strings.Join(got, " ") != want {
		t.Errorf("%s, not %s", strings.Join(got, " "), want)
	}
	root, e := merkle.Root(a.Entries())
	if e != api.OK || a.Root() != root {
		t.Errorf("%x, not %x, %d", a.Root(), root, e)
	}
}

// TestTooMany: of more entries than a tree has there is no root; all goes on nonetheless.
func TestTooMany(t *testing.T) { // P21.1 (Z1), P1
	a := begun(t, "a", "b")
	for i := range api.MaxEntries {
		account := string([]byte{'a' + byte(i/26/26), 'a' + byte(i/26%26), 'a' + byte(i%26)})
		expect(t, "Grant", a.Grant(account, "coin", 2), api.OK)
	}
	root, e := merkle.Root(a.Entries())
	if a.Root() != root || e != api.OK || root == (api.Hash{}) {
		t.Errorf("%x, not %x, %d", a.Root(), root, e)
	}
	run(t, a, pay("aab", "zzzz", "coin", 1), api.OK)
	if len(a.Entries()) != api.MaxEntries+1 || a.Root() != (api.Hash{}) {
		t.Errorf("%d entries, %x", len(a.Entries()), a.Root())
	}
	run(t, a, pay("aab", "zzzz", "coin", 1), api.OK)
	if after, e := merkle.Root(a.Entries()); a.Root() != after || e != api.OK || after == root {
		t.Errorf("%x, not %x, %d", a.Root(), after, e)
	}
}

// TestNil: ErrArg, and nothing.
func TestNil(t *testing.T) { // P21.1 (Z2), P1, rule 8
	var a *app.App
	for _, x := range anyKind() {
		expect(t, "Run", a.Run(x, 1, 1), api.ErrArg)
		expect(t, "Run", a.Run(x, math.MinInt, math.NaN()), api.ErrArg)
	}
	expect(t, "Grant", a.Grant("ann", "coin", 1), api.ErrArg)
	expect(t, "Grant", a.Grant("escrow", "", 0), api.ErrArg)
	expect(t, "Trust", a.Trust(block("b", 1, api.Hash{}, nil), 1, patient), api.ErrArg)
	expect(t, "Trust", a.Trust(api.Light{}, math.NaN(), api.Options{}), api.ErrArg)
	if a.Bank() != nil || a.Root() != (api.Hash{}) || a.Known() != 0 || a.Copy() != nil || len(a.Entries())+len(a.Set())+len(a.Sent()) != 0 {
		t.Error("a nil app has something")
	}
}

// TestNotGiven: an app that New did not give is of no chain.
func TestNotGiven(t *testing.T) { // P1
	var a app.App
	for _, x := range anyKind() {
		if e := a.Run(x, 1, 1); e == api.OK {
			t.Errorf("kind %d is done", x.Kind)
		}
	}
	if e := a.Grant("ann", "coin", 1); e == api.OK {
		t.Error("Grant")
	}
	if a.Known() != 0 || len(a.Entries())+len(a.Set())+len(a.Sent()) != 0 || a.Copy() == nil {
		t.Error("it has something")
	}
}

// anyKind are transactions of each kind, and of none.
func anyKind() []api.Tx {
	p := api.Packet{Seq: 1, From: "b", Data: dataOf("gold", 6, "bob", "ann"), Timeout: 50}
	l := commitsOf(p)
	own := p
	own.From = "a"
	return []api.Tx{
		pay("ann", "bob", "coin", 1), send("ann", "bob", "coin", 1, 9), {Kind: api.Update, Light: block("b", 2, api.Hash{}, nil)},
		receive(p, 1, l), acknowledge(own, "ok", 1, l), expire(own, 50, l), {Kind: api.Powers, Changes: crew()},
		{}, {Kind: -1}, {Kind: 8}, {Kind: math.MinInt}, {Kind: math.MaxInt},
	}
}

// TestCopy: both are the same, and apart.
func TestCopy(t *testing.T) { // P21.1 (Z1)
	gold := api.Packet{Seq: 1, From: "b", Data: dataOf("gold", 6, "bob", "ann"), Timeout: 50}
	l := commitsOf(gold)
	all := states{3: l}
	for name, change := range changes(gold, l) {
		a := home(t, all)
		run(t, a, send("ann", "bob", "coin", 30, 9), api.OK)
		run(t, a, send("ann", "bob", "coin", 20, 9), api.OK)
		d := a.Copy()
		if d == nil || d == a || !isSame(look(a), look(d)) || !isSame(next(a), next(d)) {
			t.Fatal("no other app, or not the same")
		}
		was := look(a)
		unchanged(t, a, func() { expect(t, name, change(d), api.OK) })
		if isSame(look(d), was) {
			t.Errorf("%s changes nothing", name)
		}
		unchanged(t, d, func() { expect(t, name, change(a), api.OK) })
		if !isSame(look(a), look(d)) {
			t.Errorf("%s: %+v, not %+v", name, look(a), look(d))
		}
	}
}

// changes are calls that change an app, each of which may be done.
func changes(gold api.Packet, l []api.Entry) map[string]func(*app.App) api.Errno {
	all := map[string]func(*app.App) api.Errno{
		"Grant": func(a *app.App) api.Errno { return a.Grant("bob", "coin", 1) },
	}
	for name, x := range map[string]api.Tx{
		"pay":     pay("ann", "bob", "coin", 50),
		"send":    send("ann", "bob", "coin", 50, 9),
		"update":  {Kind: api.Update, Light: block("b", 9, api.Hash{}, nil)},
		"receive": receive(gold, 3, l),
		"powers":  {Kind: api.Powers, Changes: []api.Validator{{Key: 3}, {Key: 8, Power: 1}, {Key: 9, Power: 2}}},
	} {
		all[name] = func(a *app.App) api.Errno { return a.Run(x, 5, late) }
	}
	return all
}

// TestCopiesTrust: a copy's client is its own, and so is what it took in.
func TestCopiesTrust(t *testing.T) { // P21.1 (Z1)
	a := begun(t, "a", "b")
	d := a.Copy()
	shown(t, d, "b", states{3: nil})
	if a.Known() != 0 || d.Known() != 3 {
		t.Fatalf("%d and %d are known", a.Known(), d.Known())
	}
	shown(t, a, "b", states{4: nil})
	gold := api.Packet{Seq: 1, From: "b", Data: "?", Timeout: 50}
	l := commitsOf(gold)
	run(t, d.Copy(), api.Tx{Kind: api.Update, Light: block("b", 9, api.Hash{}, l)}, api.OK)
	run(t, d, receive(gold, 9, l), api.ErrRoot)
	if d.Known() != 3 {
		t.Errorf("%d is known", d.Known())
	}
}

// TestCopiesSend: packets that copies send do not come among those of another one.
func TestCopiesSend(t *testing.T) { // P21.1 (Z1), rule 4
	a := home(t, states{3: nil})
	all := []*app.App{a}
	said := [][]string{nil}
	for i := range 40 {
		at := i % len(all)
		to := string([]byte{'a' + byte(i/26), 'a' + byte(i%26)})
		d, was := all[at].Copy(), slices.Clone(said[at])
		all, said = append(all, d), append(said, was)
		run(t, d, send("ann", to, "coin", 1, 9), api.OK)
		said[len(said)-1] = append(was, to)
		run(t, all[at], send("ann", to+"x", "coin", 1, 9), api.OK)
		said[at] = append(said[at], to+"x")
		for i, x := range all {
			for seq, p := range x.Sent() {
				if p.Seq != seq+1 || p.Data != dataOf("coin", 1, "ann", said[i][seq]) {
					t.Fatalf("app %d sent %v, not to %v", i, x.Sent(), said[i])
				}
			}
			if len(x.Sent()) != len(said[i]) {
				t.Fatalf("app %d sent %d, not %d", i, len(x.Sent()), len(said[i]))
			}
		}
	}
}
