package node

import (
	"nuncio/api"
	"nuncio/forms"
	"nuncio/schnorr"
	"nuncio/tally"
	"nuncio/wire"
)

// proposalNumber stands ahead of a proposal's fields, as the forms' numbers stand ahead of theirs.
const proposalNumber = 8

// noRound stands where there is none.
const noRound = -1

// message is a vote or a proposal. A proposal has no type, and may name an earlier round.
type message struct {
	api.Vote
	valid int
}

func (m message) isProposal() bool { return m.Type == 0 }

// Propose is a proposal's bytes.
func Propose(secret uint64, chain string, height, round, valid int, block api.Hash) ([]byte, api.Errno) {
	key, e := schnorr.Key(secret)
	if e != api.OK {
		return nil, e
	}
	m := message{Vote: api.Vote{Chain: chain, Height: height, Round: round, Block: block}, valid: valid}
	if !m.mayBeProposed() {
		return nil, api.ErrMessage
	}
	sig, e := schnorr.Sign(secret, m.proposed())
	if e != api.OK {
		return nil, e
	}
	m.Key, m.Sig = key, sig
	return m.proposed(), api.OK
}

// mayBeProposed asks for chain, height and round by a vote of these.
func (m message) mayBeProposed() bool {
	_, e := forms.SignBytes(api.Vote{Chain: m.Chain, Height: m.Height, Round: m.Round, Type: api.Prevote})
	return e == api.OK && m.valid >= noRound && m.valid < m.Round && m.Block != api.Hash{}
}

// proposed are a proposal's bytes. Its chain is a name, so no text is too long for them.
func (m message) proposed() []byte {
	w := wire.NewWriter()
	w.Number(proposalNumber)
	w.Text(m.Chain)
	w.Number(m.Height)
	w.Number(m.Round)
	w.Number(m.valid)
	w.Hash(m.Block)
	w.Word(m.Key)
	w.Word(m.Sig.R)
	w.Word(m.Sig.S)
	b, _ := w.Bytes()
	return b
}

// decode is the message that bytes are, whoever's it is.
func decode(b []byte) (message, bool) {
	v, e := forms.DecodeVote(b)
	if e != api.OK {
		return decodeProposal(b)
	}
	return message{Vote: v}, tally.Signed(v)
}

func decodeProposal(b []byte) (message, bool) {
	var m message
	r := wire.NewReader(b)
	number := r.Number()
	m.Chain = r.Text()
	m.Height = r.Number()
	m.Round = r.Number()
	m.valid = r.Number()
	m.Block = r.Hash()
	m.Key = r.Word()
	m.Sig.R = r.Word()
	m.Sig.S = r.Word()
	return m, r.End() == api.OK && number == proposalNumber && m.mayBeProposed() && m.isSigned()
}

// isSigned is asked of a proposal that may be.
func (m message) isSigned() bool {
	bare := m
	bare.Key, bare.Sig = 0, api.Sig{}
	return schnorr.Verify(m.Key, bare.proposed(), m.Sig)
}
