package forms_test

import (
	"encoding/binary"

	"nuncio/api"
)

// plain are the fields of the document's layer 2, laid one behind the other beside the program. Nothing is refused: what is not right has bytes too.
type plain []byte

func (b plain) number(l ...int) plain {
	for _, n := range l {
		b = binary.BigEndian.AppendUint64(b, uint64(n))
	}
	return b
}

func (b plain) word(l ...uint64) plain {
	for _, n := range l {
		b = binary.BigEndian.AppendUint64(b, n)
	}
	return b
}

func (b plain) hash(l ...api.Hash) plain {
	for _, h := range l {
		b = append(b, h[:]...)
	}
	return b
}

func (b plain) text(l ...string) plain {
	for _, s := range l {
		b = append(binary.BigEndian.AppendUint16(b, uint16(len(s))), s...)
	}
	return b
}

func plainVote(v api.Vote) []byte {
	return plain{}.number(1).text(v.Chain).number(v.Height, v.Round, int(v.Type)).hash(v.Block).word(v.Key, v.Sig.R, v.Sig.S)
}

func plainHeader(h api.Header) []byte {
	return plain{}.number(2).text(h.Chain).number(h.Height, h.Time).hash(h.Last, h.Set, h.Next, h.Data, h.App)
}

func plainSet(l []api.Validator) []byte {
	b := plain{}.number(3, len(l))
	for _, v := range l {
		b = b.word(v.Key).number(v.Power)
	}
	return b
}

func plainCommit(c api.Commit) []byte {
	b := plain{}.number(4, c.Height, c.Round).hash(c.Block).number(len(c.Seals))
	for _, s := range c.Seals {
		b = b.word(s.Key, s.Sig.R, s.Sig.S)
	}
	return b
}

func plainLight(l api.Light) []byte {
	b := plain{}.number(5)
	for _, part := range [][]byte{plainHeader(l.Header), plainCommit(l.Commit), plainSet(l.Set), plainSet(l.Next)} {
		b = append(b, part...)
	}
	return b
}

func plainPacket(p api.Packet) []byte {
	return plain{}.number(6, p.Seq).text(p.From, p.Data).number(p.Timeout)
}

func plainProof(p api.Proof) []byte {
	b := plain{}.number(7, p.Size, len(p.Parts))
	for _, part := range p.Parts {
		b = b.number(part.Index).text(part.Entry.Key, part.Entry.Value).number(len(part.Path)).hash(part.Path...)
	}
	return b
}
