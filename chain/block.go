package chain

import (
	"iter"
	"slices"

	"nuncio/api"
	"nuncio/blake"
	"nuncio/forms"
	"nuncio/tally"
	"nuncio/valset"
	"nuncio/wire"
)

// dataTag keeps a block's results from being taken for something else that is hashed.
const dataTag = 7

// Block makes the next block.
func (c *Chain) Block(time, round int, who []bool) api.Errno {
	if c == nil {
		return api.ErrArg
	}
	set := c.app.Set()
	if e := c.mayBe(time, round, set, who); e != api.OK {
		return e
	}
	results := c.runPool(time)
	light := api.Light{Header: c.header(time, set, results), Set: set, Next: c.app.Set()}
	light.Commit = c.commit(light.Header, round, set, who)
	c.blocks = append(c.blocks, block{light: light, entries: c.state(), results: results})
	return api.OK
}

// mayBe tells what is wrong with a next block. Of one that may be nothing more can go wrong: its header, its sets and its votes are right.
func (c *Chain) mayBe(time, round int, set []api.Validator, who []bool) api.Errno {
	if time <= c.last().light.Header.Time || time > api.MaxHeight {
		return api.ErrOrder
	}
	if round < 0 || round > api.MaxRound {
		return api.ErrForm
	}
	part := 0
	for v := range c.signers(set, who) {
		part += v.Power
	}
	if total, _ := valset.Total(set); !tally.Two(part, total) {
		return api.ErrCommit
	}
	return api.OK
}

// last is the block ahead of the next one; at the beginning it has noughts alone, as the next one asks for.
func (c *Chain) last() block {
	b, _ := c.at(c.Height())
	return b
}

// signers tells who of a set signs, each with the secret, by rising keys: those whose secrets there are, but for the ones of whom who says that they do not.
func (c *Chain) signers(set []api.Validator, who []bool) iter.Seq2[api.Validator, uint64] {
	return func(yield func(api.Validator, uint64) bool) {
		for i, v := range set {
			secret, is := c.secrets[v.Key]
			if !is || i < len(who) && !who[i] {
				continue
			}
			if !yield(v, secret) {
				return
			}
		}
	}
}

// runPool runs the pool's transactions in the next block, and empties it. Their errors are answered, in order.
func (c *Chain) runPool(time int) []api.Errno {
	var results []api.Errno
	for _, t := range c.pool {
		results = append(results, c.app.Run(t, c.Height()+1, float64(time)))
	}
	c.pool = nil
	return results
}

// header is the next block's, behind its transactions; set are the validators ahead of them.
func (c *Chain) header(time int, set []api.Validator, results []api.Errno) api.Header {
	h := api.Header{
		Chain:  c.own,
		Height: c.Height() + 1,
		Time:   time,
		Last:   c.last().light.Commit.Block,
		Data:   dataOf(results),
		App:    c.app.Root(),
	}
	h.Set, _ = valset.Hash(set)
	h.Next, _ = valset.Hash(c.app.Set())
	return h
}

// dataOf is the hash of transactions' errors.
func dataOf(results []api.Errno) api.Hash {
	w := wire.NewWriter()
	for _, e := range results {
		w.Number(int(e))
	}
	numbers, _ := w.Bytes()
	return blake.Join(dataTag, numbers)
}

// commit is a header's, by those of a set who sign.
func (c *Chain) commit(h api.Header, round int, set []api.Validator, who []bool) api.Commit {
	hash, _ := forms.HeaderHash(h)
	made := api.Commit{Height: h.Height, Round: round, Block: hash}
	vote := api.Vote{Chain: h.Chain, Height: h.Height, Round: round, Type: api.Precommit, Block: hash}
	for v, secret := range c.signers(set, who) {
		signed, _ := tally.Sign(secret, vote)
		made.Seals = append(made.Seals, api.Seal{Key: v.Key, Sig: signed.Sig})
	}
	return made
}

// state are the entries behind the next block. Where they are those of the block ahead these are kept but once, since most blocks of an idle chain change nothing.
func (c *Chain) state() []api.Entry {
	l := c.app.Entries()
	if ahead := c.last().entries; slices.Equal(l, ahead) {
		return ahead
	}
	return l
}
