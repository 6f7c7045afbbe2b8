package grant

import (
	"slices"

	"buttress/api"
)

// table is a row of grants.
type table []api.Grant

// right says whether the clients rise, and all grants have what a grant must have.
func (t table) right() bool {
	last := 0
	for _, g := range t {
		if g.Client <= last || g.Client > api.MaxClients || len(g.Public) != api.PublicKey || len(g.Prefix) > api.MaxKey {
			return false
		}
		last = g.Client
	}
	return true
}

// find answers the client's first grant, whose key is the table's own, and whether there is one.
func (t table) find(client int) (api.Grant, bool) {
	at := slices.IndexFunc(t, func(g api.Grant) bool { return g.Client == client })
	if at < 0 {
		return api.Grant{}, false
	}
	return t[at], true
}
