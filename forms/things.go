package forms

import (
	"math"

	"nuncio/api"
)

const (
	mostParts = 2
	mostPath  = 16
)

func vote(f fields, v *api.Vote) {
	begin(f, voteNumber)
	name(f, &v.Chain)
	height(f, &v.Height)
	round(f, &v.Round)
	number(f, &v.Type, api.Prevote, api.Precommit)
	hash(f, &v.Block)
	word(f, &v.Key)
	signature(f, &v.Sig)
}

func header(f fields, h *api.Header) {
	begin(f, headerNumber)
	name(f, &h.Chain)
	height(f, &h.Height)
	number(f, &h.Time, 0, api.MaxHeight)
	hash(f, &h.Last)
	hash(f, &h.Set)
	hash(f, &h.Next)
	hash(f, &h.Data)
	hash(f, &h.App)
}

func set(f fields, l *[]api.Validator) {
	begin(f, setNumber)
	list(f, l, api.MaxValidators, validator)
}

func validator(f fields, v *api.Validator) {
	word(f, &v.Key)
	number(f, &v.Power, math.MinInt, math.MaxInt)
}

func commit(f fields, c *api.Commit) {
	begin(f, commitNumber)
	height(f, &c.Height)
	round(f, &c.Round)
	hash(f, &c.Block)
	list(f, &c.Seals, api.MaxValidators, seal)
}

func seal(f fields, s *api.Seal) {
	word(f, &s.Key)
	signature(f, &s.Sig)
}

func light(f fields, l *api.Light) {
	begin(f, lightNumber)
	header(f, &l.Header)
	commit(f, &l.Commit)
	set(f, &l.Set)
	set(f, &l.Next)
}

func packet(f fields, p *api.Packet) {
	begin(f, packetNumber)
	number(f, &p.Seq, 1, api.MaxHeight)
	name(f, &p.From)
	text(f, &p.Data, api.MaxData)
	height(f, &p.Timeout)
}

func proof(f fields, p *api.Proof) {
	begin(f, proofNumber)
	number(f, &p.Size, 0, api.MaxEntries)
	list(f, &p.Parts, mostParts, part)
}

func part(f fields, p *api.Part) {
	number(f, &p.Index, 0, api.MaxEntries)
	text(f, &p.Entry.Key, api.MaxText)
	text(f, &p.Entry.Value, api.MaxText)
	list(f, &p.Path, mostPath, hash)
}

func height(f fields, n *int) { number(f, n, 1, api.MaxHeight) }

func round(f fields, n *int) { number(f, n, 0, api.MaxRound) }

func signature(f fields, s *api.Sig) {
	word(f, &s.R)
	word(f, &s.S)
}
