package app

import (
	"strings"

	"nuncio/api"
	"nuncio/wire"
)

// transfer is what a packet's data says.
type transfer struct {
	denom    string
	amount   uint64
	from, to string
}

// data are its bytes, as a text; there are none if one of its texts is too long.
func (x transfer) data() (string, bool) {
	w := wire.NewWriter()
	w.Text(x.denom)
	w.Word(x.amount)
	w.Text(x.from)
	w.Text(x.to)
	b, e := w.Bytes()
	return string(b), e == api.OK
}

// transferOf is the one that a packet's data says, if it says one.
func transferOf(data string) (transfer, bool) {
	var x transfer
	r := wire.NewReader([]byte(data))
	x.denom = r.Text()
	x.amount = r.Word()
	x.from = r.Text()
	x.to = r.Text()
	return x, r.End() == api.OK
}

// isOthers tells whether a denom is of the other chain.
func (a *App) isOthers(denom string) bool { return strings.HasPrefix(denom, a.other+"/") }

// takeOut is what a transfer to the other chain does here: what came from there goes back, so it is here no more.
func (a *App) takeOut(x transfer) api.Errno {
	if a.isOthers(x.denom) {
		return a.bank.Burn(x.from, x.denom, x.amount)
	}
	return a.bank.Move(x.from, escrow, x.denom, x.amount)
}

// giveBack undoes takeOut.
func (a *App) giveBack(x transfer) api.Errno {
	if a.isOthers(x.denom) {
		return a.bank.Mint(x.from, x.denom, x.amount)
	}
	return a.bank.Move(escrow, x.from, x.denom, x.amount)
}

// takeIn is what a transfer from the other chain does here.
func (a *App) takeIn(x transfer) api.Errno {
	if x.to == escrow {
		return api.ErrName
	}
	if denom, is := strings.CutPrefix(x.denom, a.own+"/"); is {
		return a.bank.Move(escrow, x.to, denom, x.amount)
	}
	return a.bank.Mint(x.to, a.other+"/"+x.denom, x.amount)
}
