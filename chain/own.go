package chain

import (
	"slices"

	"nuncio/api"
)

// ownTx is a transaction in memory of its own.
func ownTx(t api.Tx) api.Tx {
	t.Proof.Parts = ownParts(t.Proof.Parts)
	t.Light = ownLight(t.Light)
	t.Changes = slices.Clone(t.Changes)
	return t
}

func ownParts(l []api.Part) []api.Part {
	own := slices.Clone(l)
	for i, p := range own {
		own[i].Path = slices.Clone(p.Path)
	}
	return own
}

func ownLight(l api.Light) api.Light {
	l.Commit.Seals = slices.Clone(l.Commit.Seals)
	l.Set = slices.Clone(l.Set)
	l.Next = slices.Clone(l.Next)
	return l
}
