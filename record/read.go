package record

import (
	"buttress/api"
	"buttress/wire"
)

// read answers the record whose bytes these are, if they are one's; of other bytes whatever is found where a record's parts would stand.
func read(b []byte) api.Record {
	in := wire.NewReader(b)
	in.Byte() // the one that all texts begin with
	var w work
	w.Key = string(in.Bytes(api.MaxKey))
	d := readDot(in)
	w.Client, w.Seq = d.Client, d.Seq
	for range in.Count(api.MaxClients) {
		w.Context = append(w.Context, readDot(in))
	}
	w.Gone = in.Byte() == isGone
	w.Value = in.Bytes(api.MaxValue)
	for range api.Signature {
		w.Sig = append(w.Sig, in.Byte())
	}
	return w.Record
}

// readDot answers the next dot.
func readDot(in *wire.Reader) api.Dot {
	client, seq := in.Number(), in.Number()
	return api.Dot{Client: client, Seq: seq}
}
