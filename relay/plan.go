package relay

import (
	"iter"
	"slices"
	"strconv"
	"strings"

	"nuncio/api"
	"nuncio/chain"
)

// What the keys of a channel's entries begin with, ahead of a packet's number.
const (
	commits  = "commit/"
	receipts = "receipt/"
	answers  = "answer/"
)

// shore is a chain as it is behind its last block.
type shore struct {
	chain   *chain.Chain
	height  int
	known   int
	sent    []api.Packet
	entries []api.Entry // by rising keys
}

func shoreOf(c *chain.Chain) shore {
	a := c.App()
	return shore{chain: c, height: c.Height(), known: a.Known(), sent: a.Sent(), entries: a.Entries()}
}

// Plan is what a chain should hear of another one.
func Plan(from, to *chain.Chain) []api.Tx {
	if from == nil || to == nil || from.Height() == 0 {
		return nil
	}
	var l []api.Tx
	for t := range planned(shoreOf(from), shoreOf(to)) {
		l = append(l, t)
		if len(l) == api.MaxTxs {
			break
		}
	}
	return l
}

// planned tells all that one shore should hear of another one, in order. Proofs are dear, so each is made only when it is asked for.
func planned(from, to shore) iter.Seq[api.Tx] {
	return func(yield func(api.Tx) bool) {
		if to.known < from.height && !yield(from.update()) {
			return
		}
		for _, p := range from.sent {
			if mayReceive(from, to, p) && !yield(from.shows(api.Receive, p, commits)) {
				return
			}
		}
		for _, p := range to.sent {
			if t, is := closing(from, to, p); is && !yield(t) {
				return
			}
		}
	}
}

// mayReceive tells whether a shore may still receive, in its next block, a packet that another one sent.
func mayReceive(from, to shore, p api.Packet) bool {
	return from.has(commits, p.Seq) && !to.has(receipts, p.Seq) && p.Timeout > to.height+1
}

// closing is what closes a packet that a shore sent, if anything does by now.
func closing(from, to shore, p api.Packet) (api.Tx, bool) {
	if !to.has(commits, p.Seq) {
		return api.Tx{}, false
	}
	if answer, is := from.value(answers, p.Seq); is {
		t := from.shows(api.Acknowledge, p, answers)
		t.Ack = answer
		return t, true
	}
	if from.height < p.Timeout || from.has(receipts, p.Seq) {
		return api.Tx{}, false
	}
	return from.shows(api.Expire, p, receipts), true
}

// update shows the last block.
func (s shore) update() api.Tx {
	l, _ := s.chain.Light(s.height)
	return api.Tx{Kind: api.Update, Light: l}
}

// shows is a transaction of a packet, with a proof of what the last block's state has of it.
func (s shore) shows(kind api.TxKind, p api.Packet, what string) api.Tx {
	// Of more entries than a tree may have there is no proof: an empty one is carried, and refused where it arrives.
	proof, _ := s.chain.Proof(s.height, numbered(what, p.Seq))
	return api.Tx{Kind: kind, Packet: p, Height: s.height, Proof: proof}
}

func numbered(what string, seq int) string { return what + strconv.Itoa(seq) }

func (s shore) has(what string, seq int) bool {
	_, is := s.value(what, seq)
	return is
}

// value is what the state has of a packet's number, if it has something.
func (s shore) value(what string, seq int) (string, bool) {
	at, is := slices.BinarySearchFunc(s.entries, numbered(what, seq), func(e api.Entry, key string) int { return strings.Compare(e.Key, key) })
	if !is {
		return "", false
	}
	return s.entries[at].Value, true
}
