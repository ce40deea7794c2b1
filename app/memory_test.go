package app_test

import (
	"slices"
	"testing"

	"nuncio/api"
	"nuncio/app"
	"nuncio/bank"
)

// TestAnswersApart: what is answered may be written into.
func TestAnswersApart(t *testing.T) { // P21.1 (Z1), rule 4
	a := sent(t, "coin")
	spoil := map[string]func(a *app.App){
		"Bank":    func(a *app.App) { spend(a.Bank()) },
		"Entries": func(a *app.App) { l := a.Entries(); clear(l[:cap(l)]) },
		"Set":     func(a *app.App) { l := a.Set(); clear(l[:cap(l)]) },
		"Sent":    func(a *app.App) { l := a.Sent(); clear(l[:cap(l)]) },
	}
	for name, f := range spoil {
		unchanged(t, a, func() { f(a) })
		d := a.Copy()
		unchanged(t, a, func() { f(d) })
		unchanged(t, d, func() { f(a) })
		if a.Bank() == a.Bank() {
			t.Errorf("%s: one bank twice", name)
		}
	}
}

func spend(b *bank.Bank) {
	b.Mint("ann", "coin", 5)
	b.Move("escrow", "ann", "coin", 5)
	b.Burn("ann", "bb/gold", 5)
}

// room is a list ahead of other elements in its memory.
func room[T any](l []T, more ...T) []T { return slices.Concat(l, more)[:len(l)] }

func roomy(l api.Light) api.Light {
	l.Commit.Seals = room(l.Commit.Seals, api.Seal{Key: 1})
	l.Set = room(l.Set, api.Validator{Key: 3})
	l.Next = room(l.Next, api.Validator{Key: 5})
	return l
}

func spoiled(l api.Light) {
	clear(l.Commit.Seals[:cap(l.Commit.Seals)])
	clear(l.Set[:cap(l.Set)])
	clear(l.Next[:cap(l.Next)])
}

// TestHandedIn: what is handed in is neither written into nor kept, nor is what lies behind it read.
func TestHandedIn(t *testing.T) { // rule 4
	gold := api.Packet{Seq: 1, From: "b", Data: dataOf("gold", 6, "bob", "ann"), Timeout: 50}
	l := commitsOf(gold)
	set, changes := room(crew(), api.Validator{Key: 9, Power: 1}), room([]api.Validator{{Key: 8, Power: 1}, {Key: 7, Power: 4}}, api.Validator{Key: 9, Power: 1})
	root, up := roomy(block("b", 3, api.Hash{}, nil)), roomy(block("b", 7, api.Hash{}, l))
	got := receive(gold, 7, l)
	got.Proof.Parts = room(got.Proof.Parts, api.Part{Index: 1})
	got.Proof.Parts[0].Path = room(got.Proof.Parts[0].Path, api.Hash{1})

	a, e := app.New("a", "b", set)
	expect(t, "New", e, api.OK)
	expect(t, "Trust", a.Trust(root, late, patient), api.OK)
	clear(set[:cap(set)])
	spoiled(root)
	if !slices.Equal(a.Set(), crew()) {
		t.Errorf("%v", a.Set())
	}
	run(t, a, api.Tx{Kind: api.Powers, Changes: changes}, api.OK)
	if now := []api.Validator{{Key: 8, Power: 1}, {Key: 7, Power: 4}, {Key: 9, Power: 1}}; !slices.Equal(changes[:3], now) {
		t.Errorf("the changes are %v", changes[:3])
	}
	clear(changes[:cap(changes)])
	if now := []api.Validator{{Key: 3, Power: 2}, {Key: 7, Power: 4}, {Key: 8, Power: 1}}; !slices.Equal(a.Set(), now) {
		t.Errorf("%v", a.Set())
	}
	run(t, a, api.Tx{Kind: api.Update, Light: up}, api.OK)
	spoiled(up)
	run(t, a, got, api.OK)
	if got.Proof.Parts[:2][1].Index != 1 || got.Proof.Parts[0].Entry.Key != "commit/1" {
		t.Errorf("the proof is %v", got.Proof)
	}
	run(t, a, api.Tx{Kind: api.Update, Light: block("b", 8, block("b", 7, api.Hash{}, l).Commit.Block, nil)}, api.OK)
	run(t, a, api.Tx{Kind: api.Update, Light: block("b", 30, api.Hash{}, nil)}, api.OK)
	shows(t, a, "bank/b/gold/ann", "6", "receipt/1", "1", "answer/1", "ok")
}

// TestMany: very many transactions are run in little time.
func TestMany(t *testing.T) { // P1, P21.1
	const many = 1500
	var all []api.Packet
	for n := 1; n <= many; n++ {
		all = append(all, api.Packet{Seq: n, From: "b", Data: dataOf("gold", 1, "bob", "ann"), Timeout: 50})
	}
	l := commitsOf(all...)
	a := home(t, states{3: l})
	expect(t, "Grant", a.Grant("ann", "coin", many), api.OK)
	for i := range many {
		run(t, a, send("ann", "bob", "coin", 1, 9), api.OK)
		expect(t, "Pay", a.Run(pay("ann", "bob", "coin", 1000*many), 5, late), api.ErrBalance)
		if i%10 == 0 {
			run(t, a, receive(all[i], 3, l), api.OK)
		}
	}
	if len(a.Sent()) != many || a.Bank().Balance("escrow", "coin") != many || a.Bank().Supply("b/gold") != many/10 {
		t.Errorf("%d packets, %v", len(a.Sent()), a.Bank().Entries())
	}
}
