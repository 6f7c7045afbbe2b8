package grant

import (
	"strings"

	"buttress/api"
	"buttress/record"
)

// desk looks at records. It embeds the table of grants that say what may be.
type desk struct {
	table
}

// look answers the first error of the table and the records; OK, if there is none.
func (d desk) look(records ...api.Record) (err api.Errno) {
	err = api.ErrArg // until all was looked at, nothing is let through
	defer func() {
		if why, ok := recover().(api.Errno); ok {
			err = why
		}
	}()
	must(d.right(), api.ErrArg)
	for _, r := range records {
		d.pass(r)
	}
	return api.OK
}

// pass panics with the record's error, if it has one.
func (d desk) pass(r api.Record) {
	must(record.Right(r), api.ErrShape)
	g, there := d.find(r.Client)
	must(there && strings.HasPrefix(r.Key, g.Prefix), api.ErrGrant)
	err := record.Check(g.Public, r)
	must(err == api.OK, err)
}

// must panics with the error, unless what must be is so.
func must(so bool, or api.Errno) {
	if !so {
		panic(or)
	}
}
