package app

import (
	"nuncio/api"
	"nuncio/valset"
)

// What a packet that was received is answered.
const (
	yes = "ok"
	no  = "no"
)

// Run does a transaction.
func (a *App) Run(t api.Tx, height int, now float64) api.Errno {
	return a.whole(func(next *App) { next.do(t, height, now) })
}

// whole does something to a copy, which takes the app's place if all could be done. What can't be panics: the panic ends here, and the copy is dropped.
func (a *App) whole(do func(*App)) (e api.Errno) {
	if a == nil {
		return api.ErrArg
	}
	defer func() {
		if thrown := recover(); thrown != nil {
			e = thrown.(api.Errno)
		}
	}()
	next := a.Copy()
	do(next)
	*a = *next
	return api.OK
}

// ask gives a transaction up with an error, if what is asked for is not so.
func ask(so bool, e api.Errno) {
	if !so {
		panic(e)
	}
}

// askFor gives a transaction up with the error of what it leans on.
func askFor(e api.Errno) { ask(e == api.OK, e) }

func (a *App) do(t api.Tx, height int, now float64) {
	ask(t.Kind >= api.Pay && t.Kind <= api.Powers, api.ErrTx)
	ask(a.client != nil || t.Kind == api.Pay || t.Kind == api.Powers, api.ErrRoot)
	switch t.Kind {
	case api.Pay:
		a.pay(t)
	case api.Send:
		a.send(t)
	case api.Update:
		askFor(a.client.Update(t.Light, now))
	case api.Receive:
		a.receive(t, height)
	case api.Acknowledge:
		a.acknowledge(t)
	case api.Expire:
		a.expire(t)
	case api.Powers:
		a.empower(t.Changes)
	}
}

func (a *App) pay(t api.Tx) {
	ask(t.From != escrow && t.To != escrow, api.ErrName)
	askFor(a.bank.Move(t.From, t.To, t.Denom, t.Amount))
}

func (a *App) send(t api.Tx) {
	ask(t.From != escrow, api.ErrName)
	ask(t.Timeout > a.Known(), api.ErrTimeout)
	x := transfer{denom: t.Denom, amount: t.Amount, from: t.From, to: t.To}
	askFor(a.takeOut(x))
	data, fits := x.data()
	ask(fits, api.ErrForm)
	p, e := a.channel.Send(data, t.Timeout)
	askFor(e)
	a.sent = append(a.sent, p)
}

// receive is done even if what the packet says can't be: then the answer is no, and what was sent comes back at the other chain.
func (a *App) receive(t api.Tx, height int) {
	askFor(a.channel.Receive(t.Packet, height, a.client, t.Height, t.Proof))
	answer := yes
	if x, is := transferOf(t.Packet.Data); !is || a.takeIn(x) != api.OK {
		answer = no
	}
	askFor(a.channel.Answer(t.Packet.Seq, answer))
}

func (a *App) acknowledge(t api.Tx) {
	askFor(a.channel.Acknowledge(t.Packet, t.Ack, a.client, t.Height, t.Proof))
	if t.Ack == no {
		a.undo(t.Packet)
	}
}

func (a *App) expire(t api.Tx) {
	askFor(a.channel.Expire(t.Packet, a.client, t.Height, t.Proof))
	a.undo(t.Packet)
}

// undo gives back what one of the app's own packets, that is closed, took out.
func (a *App) undo(p api.Packet) {
	x, is := transferOf(p.Data)
	ask(is, api.ErrPacket)
	askFor(a.giveBack(x))
}

func (a *App) empower(changes []api.Validator) {
	set, e := valset.Update(a.set, changes)
	askFor(e)
	a.set = set
}
