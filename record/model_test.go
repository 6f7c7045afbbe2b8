package record_test

import (
	"encoding/binary"
	"fmt"
	"math"
	"math/rand"
	"reflect"
	"slices"
	"strconv"
	"strings"
	"testing"

	"buttress/api"
)

// of answers the dots whose clients and numbers stand one behind the other.
func of(numbers ...int) []api.Dot {
	var out []api.Dot
	for k := 0; k+1 < len(numbers); k += 2 {
		out = append(out, api.Dot{Client: numbers[k], Seq: numbers[k+1]})
	}
	return out
}

// some is n bytes, the same for each n, without a period.
func some(n int) []byte {
	b := make([]byte, n)
	rand.New(rand.NewSource(int64(n) + 8)).Read(b)
	return b
}

// one is an ordinary record, with a signature's bytes that nobody made.
func one() api.Record {
	return api.Record{Key: "key", Client: 2, Seq: 5, Context: of(1, 3, 2, 4, 7, 9), Value: []byte("value"), Sig: some(64)}
}

// with answers one(), turned.
func with(turn func(r *api.Record)) api.Record {
	r := one()
	turn(&r)
	return r
}

// isDot says by the chapters' words whether a dot is right.
func isDot(client, seq int) bool {
	return 1 <= client && client <= 8 && 1 <= seq && seq <= 1<<30
}

// sees says by the chapters' words whether a vector has a dot.
func sees(v []api.Dot, client, seq int) bool {
	return slices.ContainsFunc(v, func(d api.Dot) bool { return d.Client == client && d.Seq >= seq })
}

// isShaped says by the chapters' words whether a record has a right shape.
func isShaped(r api.Record) bool {
	for i, d := range r.Context {
		if !isDot(d.Client, d.Seq) || i > 0 && r.Context[i-1].Client >= d.Client {
			return false
		}
	}
	if sees(r.Context, r.Client, r.Seq) || r.Gone && len(r.Value) > 0 {
		return false
	}
	return len(r.Key) > 0 && len(r.Key) < 65 && isDot(r.Client, r.Seq) && len(r.Value) < 1025
}

// isRight says by the chapter's words whether a record is right.
func isRight(r api.Record) bool {
	return isShaped(r) && len(r.Sig) == 64
}

// isOver says by the chapter's words whether both have a right shape, and a is over b.
func isOver(a, b api.Record) bool {
	return isShaped(a) && isShaped(b) && a.Key == b.Key && sees(a.Context, b.Client, b.Seq)
}

// number puts a number's eight bytes behind b.
func number(b []byte, n int) []byte {
	return binary.BigEndian.AppendUint64(b, uint64(n))
}

// textOf is a record's text by the chapter's words, whatever its shape.
func textOf(r api.Record) []byte {
	b := number([]byte{1}, len(r.Key))
	b = append(b, r.Key...)
	b = number(number(b, r.Client), r.Seq)
	b = number(b, len(r.Context))
	for _, d := range r.Context {
		b = number(number(b, d.Client), d.Seq)
	}
	gone := byte(0)
	if r.Gone {
		gone = 1
	}
	return append(number(append(b, gone), len(r.Value)), r.Value...)
}

// bytesOf are a record's bytes by the chapter's words, whatever it is.
func bytesOf(r api.Record) []byte {
	return append(textOf(r), r.Sig...)
}

// cutter takes bytes off its row, from the front, as long as there are as many.
type cutter struct {
	left []byte
	bad  bool
}

func (c *cutter) take(n int) []byte {
	if c.bad || n < 0 || n > len(c.left) {
		c.bad = true
		return nil
	}
	out := c.left[:n]
	c.left = c.left[n:]
	return out
}

func (c *cutter) byte() byte {
	if b := c.take(1); !c.bad {
		return b[0]
	}
	return 0
}

func (c *cutter) number() int {
	if b := c.take(8); !c.bad {
		return int(binary.BigEndian.Uint64(b))
	}
	return 0
}

// parsed answers by the chapter's words the right record whose bytes these are, and whether there is one.
func parsed(b []byte) (api.Record, bool) {
	c := &cutter{left: b}
	ok := c.byte() == 1
	r := api.Record{Key: string(c.take(c.number())), Client: c.number(), Seq: c.number()}
	count := c.number()
	for range min(count, len(b)) {
		client := c.number()
		r.Context = append(r.Context, api.Dot{Client: client, Seq: c.number()})
	}
	gone := c.byte()
	r.Gone = gone == 1
	r.Value = slices.Clone(c.take(c.number()))
	r.Sig = slices.Clone(c.take(64))
	if ok && count == len(r.Context) && gone < 2 && !c.bad && len(c.left) == 0 && isRight(r) {
		return r, true
	}
	return api.Record{}, false
}

// copied is the same record in memory of its own.
func copied(r api.Record) api.Record {
	r.Context, r.Value, r.Sig = slices.Clone(r.Context), slices.Clone(r.Value), slices.Clone(r.Sig)
	return r
}

// same says whether two records are the same; lists without elements and nil ones are one.
func same(a, b api.Record) bool {
	return a.Key == b.Key && a.Client == b.Client && a.Seq == b.Seq && a.Gone == b.Gone &&
		slices.Equal(a.Context, b.Context) && slices.Equal(a.Value, b.Value) && slices.Equal(a.Sig, b.Sig)
}

// show tells of a thing as much as can be read.
func show(x any) string {
	s := fmt.Sprintf("%+v", x)
	return strconv.QuoteToASCII(s[:min(len(s), 400)])
}

// nothing fails, unless a record is all zero, as beside an error.
func nothing(t *testing.T, r api.Record, of string) {
	t.Helper()
	if !same(r, api.Record{}) {
		t.Fatalf("%s: beside an error %s", of, show(r))
	}
}

// keys are of the lengths about the bounds, and of bytes of all kinds; the bytes count, not the signs.
func keys() []string {
	out := []string{"", "k", "\x00", "\xff", "\x00\x00", "a/b", strings.Repeat("é", 32), strings.Repeat("é", 33), strings.Repeat("é", 64), strings.Repeat("\x80", 64), strings.Repeat("k", 100000)}
	for _, n := range []int{2, 31, 63, 64, 65, 66, 128, 256, 320} {
		out = append(out, string(some(n)))
	}
	return out
}

// clients and seqs are about the bounds, and far off them.
func clients() []int {
	return []int{math.MinInt, -1, 0, 1, 2, 7, 8, 9, 10, 256 + 1, 1<<32 + 1, math.MaxInt}
}

func seqs() []int {
	return []int{math.MinInt, -1, 0, 1, 2, 5, 1<<30 - 1, 1 << 30, 1<<30 + 1, 1 << 31, 1<<32 + 1, math.MaxInt}
}

// contexts are vectors of none to eight dots, and rows that are no vectors.
func contexts() [][]api.Dot {
	const most = 1 << 30
	return [][]api.Dot{
		nil, {}, of(1, 1), of(2, 1), of(2, 4), of(2, 5), of(2, 6), of(8, most), of(8, most-1), of(1, most),
		of(1, 3, 2, 4), of(1, 3, 2, 5), of(1, 7, 7, 7, 8, 1),
		of(1, 1, 2, 1, 3, 1, 4, 1, 5, 1, 6, 1, 7, 1, 8, 1),
		of(1, most, 2, most, 3, most, 4, most, 5, most, 6, most, 7, most, 8, most),
		of(3, most, 4, most, 5, most, 6, most, 7, most),
		of(2, 1, 1, 1), of(1, 1, 1, 1), of(1, 1, 1, 2), of(1, 2, 3, 1, 3, 1), of(0, 1), of(9, 1), of(-1, 1), of(1, 0), of(1, -1), of(1, most+1), of(1, 1, 4, math.MinInt), of(math.MaxInt, 1),
		of(1, 1, 2, 1, 3, 1, 4, 1, 5, 1, 6, 1, 7, 1, 8, 1, 9, 1), of(1, 1, 2, 1, 3, 1, 4, 1, 5, 1, 6, 1, 7, 1, 8, 1, 8, 2),
		make([]api.Dot, 1), make([]api.Dot, 3000),
	}
}

// values and sigs are of the lengths about the bounds, and far off them.
func values() [][]byte {
	out := [][]byte{nil, {}}
	for _, n := range []int{1, 2, 8, 64, 255, 256, 1023, 1024, 1025, 1026, 2048, 1 << 20} {
		out = append(out, some(n), make([]byte, n))
	}
	return out
}

func sigs() [][]byte {
	out := [][]byte{nil, {}}
	for _, n := range []int{1, 32, 62, 63, 64, 65, 66, 128, 320, 1 << 16} {
		out = append(out, some(n), make([]byte, n))
	}
	return out
}

// turned are all records that differ from one() in one field, or in Gone and Value, or in what the dot and the Context have of each other, right and wrong ones.
func turned() []api.Record {
	out := []api.Record{one()}
	add := func(turn func(r *api.Record)) { out = append(out, with(turn)) }
	for _, k := range keys() {
		add(func(r *api.Record) { r.Key = k })
	}
	for _, c := range contexts() {
		add(func(r *api.Record) { r.Context = c })
		for _, client := range clients() {
			add(func(r *api.Record) { r.Client, r.Context = client, c })
			for _, seq := range seqs() {
				add(func(r *api.Record) { r.Client, r.Seq, r.Context = client, seq, c })
			}
		}
	}
	for _, v := range values() {
		add(func(r *api.Record) { r.Value = v })
		add(func(r *api.Record) { r.Value, r.Gone = v, true })
	}
	for _, s := range sigs() {
		add(func(r *api.Record) { r.Sig = s })
		add(func(r *api.Record) { r.Sig, r.Gone, r.Value = s, true, nil })
	}
	return append(out, api.Record{}, api.Record{Sig: some(64)})
}

// mixed are records whose fields r chooses, most of them right.
func mixed(r *rand.Rand, n int) []api.Record {
	var out []api.Record
	for range n {
		x := one()
		x.Key = string(some(1 + r.Intn(64)))
		x.Client, x.Seq, x.Context = 1+r.Intn(8), 1+r.Intn(1<<r.Intn(31)), nil
		for client := 1; client <= 8; client++ {
			if seq := 1 + r.Intn(1<<r.Intn(31)); r.Intn(2) == 0 && (client != x.Client || seq < x.Seq) {
				x.Context = append(x.Context, api.Dot{Client: client, Seq: seq})
			}
		}
		x.Value, x.Sig = some(r.Intn(1<<r.Intn(11))), some(64)
		if x.Gone = r.Intn(4) == 0; x.Gone {
			x.Value = nil
		}
		r.Read(x.Sig)
		if r.Intn(8) == 0 {
			wrongOne(r, &x)
		}
		out = append(out, x)
	}
	return out
}

// wrongOne makes one thing of a record wrong.
func wrongOne(r *rand.Rand, x *api.Record) {
	switch r.Intn(6) {
	case 0:
		x.Key = ""
	case 1:
		x.Client = 9
	case 2:
		x.Seq = 0
	case 3:
		x.Context = of(x.Client, x.Seq)
	case 4:
		x.Gone, x.Value = true, some(1)
	case 5:
		x.Sig = x.Sig[:63]
	}
}

// The model itself: what it puts it parses.
func TestModel(t *testing.T) {
	right := 0
	for _, r := range append(turned(), mixed(rand.New(rand.NewSource(80)), 500)...) {
		got, ok := parsed(bytesOf(r))
		if ok != isRight(r) || ok && (!same(got, r) || !reflect.DeepEqual(bytesOf(got), bytesOf(r))) {
			t.Fatalf("%s: %s, %v", show(r), show(got), ok)
		}
		if ok {
			right++
		}
	}
	if right < 500 {
		t.Error("few right records:", right)
	}
}
