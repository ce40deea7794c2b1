package chain_test

import (
	"slices"
	"testing"

	"nuncio/api"
	"nuncio/chain"
)

// room is a list ahead of other elements in its memory.
func room[T any](l []T, more ...T) []T { return slices.Concat(l, more)[:len(l)] }

func roomy(l api.Light) api.Light {
	l.Commit.Seals = room(l.Commit.Seals, api.Seal{Key: 1})
	l.Set = room(l.Set, api.Validator{Key: 3})
	l.Next = room(l.Next, api.Validator{Key: 5})
	return l
}

func spoilLight(l api.Light) {
	clear(l.Commit.Seals[:cap(l.Commit.Seals)])
	clear(l.Set[:cap(l.Set)])
	clear(l.Next[:cap(l.Next)])
}

func spoilProof(p api.Proof) {
	for _, part := range p.Parts {
		clear(part.Path[:cap(part.Path)])
	}
	clear(p.Parts[:cap(p.Parts)])
}

// TestAnswersApart: what is answered may be written into.
func TestAnswersApart(t *testing.T) { // P22.1 (B3), rule 4
	s := seed(func() *chain.Chain {
		c := begun(t, "a", "b")
		submit(t, c, pay("ann", "bob", "coin", 3), pay("bob", "cid", "a/coin", 3), api.Tx{})
		made(t, c, 10)
		made(t, c, 20)
		submit(t, c, powers(api.Validator{Key: 77, Power: 1}), api.Tx{})
		made(t, c, 30)
		return c
	})
	keys := []string{"bank/coin/ann", "bank/coin/anna", "", "zzz"}
	s.unchanged(t, func(c *chain.Chain) {
		for h := 1; h <= 3; h++ {
			spoilLight(light(t, c, h))
			r := c.Results(h)
			clear(r[:cap(r)])
			for _, key := range keys {
				p, _ := c.Proof(h, key)
				spoilProof(p)
			}
		}
		state := entries("bank/a/coin/bob", "47", "bank/a/coin/cid", "3", "bank/coin/ann", "97", "bank/coin/bob", "3")
		for h := 1; h <= 3; h++ {
			proved(t, c, h, state)
		}
		sound(t, c, "a")
	})
	c := s()
	for h := 1; h <= 3; h++ {
		l, m := light(t, c, h), light(t, c, h)
		r := c.Results(h)
		p, _ := c.Proof(h, "")
		q, _ := c.Proof(h, "")
		kept := [][]byte{bytesOf(t, l)}
		was := slices.Clone(r)
		spoilLight(m)
		spoilProof(q)
		other := c.Results(h)
		clear(other[:cap(other)])
		goOn(c)
		if !slices.Equal(bytesOf(t, l), kept[0]) || !slices.Equal(r, was) || len(p.Parts) != 1 || p.Parts[0].Entry.Key == "" || len(p.Parts[0].Path) != 2 || p.Parts[0].Path[0] == (api.Hash{}) {
			t.Errorf("what was answered of %d changes with what is answered later", h)
		}
	}
	// Set and Next of one light block are two lists, even where they are the same validators.
	l := light(t, c, 1)
	clear(l.Set)
	if l.Next[0].Key == 0 {
		t.Error("Set and Next share their memory")
	}
	next := light(t, c, 2)
	clear(next.Next)
	if light(t, c, 3).Set[0].Key == 0 || light(t, c, 2).Next[0].Key == 0 {
		t.Error("what is answered is kept")
	}
}

// TestHandedIn: what is handed in is neither written into nor kept, nor is what lies behind it read.
func TestHandedIn(t *testing.T) { // rule 4
	secrets, weights := room(crew(), 0), room(crewPowers(), -1)
	slices.Reverse(secrets)
	slices.Reverse(weights)
	hadSecrets, hadWeights := slices.Clone(secrets), slices.Clone(weights)
	c, e := chain.New("a", "b", secrets, weights)
	expect(t, "New", e, api.OK)
	if !slices.Equal(secrets, hadSecrets) || !slices.Equal(weights, hadWeights) || secrets[:4][3] != 0 || weights[:4][3] != -1 {
		t.Errorf("%v, %v", secrets, weights)
	}
	clear(secrets[:cap(secrets)])
	clear(weights[:cap(weights)])
	if want := setOf(crew(), crewPowers()); !slices.Equal(c.App().Set(), want) {
		t.Errorf("%v, not %v", c.App().Set(), want)
	}

	who := room([]bool{false, true}, false, false)
	expect(t, "Block", c.Block(1, 0, who), api.OK)
	if who[0] || !who[1] || len(light(t, c, 1).Commit.Seals) != 2 {
		t.Errorf("%v", light(t, c, 1).Commit)
	}
	clear(who[:cap(who)])

	b := begun(t, "b", "a")
	expect(t, "Trust", b.Trust(light(t, c, 1), 10, patient), api.OK)
	submit(t, b, send("bob", "ann", "b/coin", 5, 9))
	made(t, b, 10)
	submit(t, b, pay("ann", "bob", "coin", 1))
	made(t, b, 20)
	root := roomy(light(t, b, 1))
	expect(t, "Trust", c.Trust(root, 20, patient), api.OK)
	spoilLight(root)

	proof, e := b.Proof(2, "commit/1")
	expect(t, "Proof", e, api.OK)
	proof.Parts = room(proof.Parts, api.Part{Index: 1})
	proof.Parts[0].Path = room(proof.Parts[0].Path, api.Hash{1})
	up := roomy(light(t, b, 2))
	changes := room([]api.Validator{{Key: 77, Power: 1}}, api.Validator{Key: 78, Power: 1})
	submit(t, c, api.Tx{Kind: api.Update, Light: up}, api.Tx{Kind: api.Receive, Packet: b.App().Sent()[0], Height: 2, Proof: proof}, powers(changes...))
	submit(t, c, api.Tx{Kind: api.Powers, Changes: changes})
	if proof.Parts[:2][1].Index != 1 || proof.Parts[0].Entry.Key != "commit/1" || changes[0].Key != 77 || up.Set[:4][3].Key != 3 {
		t.Error("what was submitted is written into")
	}
	// It is spoiled ahead of being run.
	spoilLight(up)
	spoilProof(proof)
	clear(changes[:cap(changes)])
	made(t, c, 30)
	if want := []api.Errno{api.OK, api.OK, api.OK, api.OK}; !slices.Equal(c.Results(2), want) {
		t.Errorf("%v, not %v", c.Results(2), want)
	}
	if l := light(t, c, 2); len(l.Next) != 4 || l.Next[0].Key != 77 || len(l.Set) != 3 {
		t.Errorf("%v", l)
	}
	sound(t, c, "a")
	proved(t, c, 2, entries("answer/1", "ok", "bank/b/b/coin/ann", "5", "receipt/1", "1"))
}

// TestMany: very many blocks are made, and shown, in little time.
func TestMany(t *testing.T) { // P1, P22.1
	const many = 3000
	c := begun(t, "a", "b")
	for i := range 500 {
		expect(t, "Grant", c.Grant(lettered(i), "coin", 1), api.OK)
	}
	for h := 1; h <= many; h++ {
		if h%100 == 0 {
			for i := range api.MaxTxs {
				submit(t, c, pay(lettered(i+h/100), "ann", "coin", 1))
			}
		}
		made(t, c, h)
	}
	for h := 1; h <= many; h += 97 {
		a := light(t, c, h)
		if a.Header.Height != h {
			t.Errorf("%d: %+v", h, a.Header)
		}
	}
	if len(c.Results(many)) != api.MaxTxs || len(c.Results(many-1)) != 0 {
		t.Errorf("%d and %d", len(c.Results(many)), len(c.Results(many-1)))
	}
}
