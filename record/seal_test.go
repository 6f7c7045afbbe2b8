package record_test

import (
	"crypto/ed25519"
	"math/rand"
	"slices"
	"testing"

	"buttress/api"
	"buttress/record"
	"buttress/sign"
)

// sealed is a record with the signature that another program makes.
func sealed(seed []byte, r api.Record) api.Record {
	r = copied(r)
	r.Sig = ed25519.Sign(ed25519.NewKeyFromSeed(seed), textOf(r))
	return r
}

// several are every so manieth of all records.
func several(step int) []api.Record {
	var out []api.Record
	for i, r := range records() {
		if i%step == 0 {
			out = append(out, r)
		}
	}
	return append(out, few()...)
}

// P8.3, P8.4: what is sealed is the record, with the seed's signature of its text, whatever it had, and is checked with its key; of a wrong shape nothing is.
func TestSeal(t *testing.T) {
	n := 0
	for i, r := range several(7) {
		seed := some(32)
		seed[0], seed[1] = byte(i), byte(i>>8)
		got, err := record.Seal(seed, r)
		if !isShaped(r) {
			if err != api.ErrShape {
				t.Fatalf("%s: %v", show(r), err)
			}
			nothing(t, got, "a wrong shape")
			continue
		}
		if n++; err != api.OK || !same(got, sealed(seed, r)) {
			t.Fatalf("%s: %s, %v", show(r), show(got), err)
		}
		if !record.Right(got) || record.Check(sign.Public(seed), got) != api.OK {
			t.Fatalf("%s: what was sealed is not checked", show(r))
		}
	}
	if n < 200 {
		t.Error("few were sealed:", n)
	}
}

// P8.3: whatever signature a record had, of whatever length, plays no part.
func TestSealAgain(t *testing.T) {
	seed := some(32)
	want := sealed(seed, one())
	for i, sig := range append(sigs(), want.Sig, sealed(make([]byte, 32), one()).Sig) {
		got, err := record.Seal(seed, with(func(r *api.Record) { r.Sig = sig }))
		if err != api.OK || !same(got, want) {
			t.Fatalf("%d: %s, %v", i, show(got), err)
		}
	}
	twice, err := record.Seal(seed, want)
	if err != api.OK || !same(twice, want) {
		t.Error("sealed twice:", show(twice), err)
	}
}

// P8.3: a seed that has not 32 bytes seals nothing; that is told ahead of a wrong shape.
func TestSealErrors(t *testing.T) {
	wrong := with(func(r *api.Record) { r.Key = "" })
	for _, n := range []int{0, 1, 16, 30, 31, 32, 33, 34, 63, 64, 65, 96, 1 << 16} {
		for _, seed := range [][]byte{make([]byte, n), some(n)} {
			for _, c := range []struct {
				r    api.Record
				want api.Errno
			}{{one(), api.OK}, {wrong, api.ErrShape}, {api.Record{}, api.ErrShape}} {
				if n != 32 {
					c.want = api.ErrArg
				}
				got, err := record.Seal(seed, c.r)
				if err != c.want {
					t.Fatalf("%d bytes, %s: %v", n, show(c.r), err)
				}
				if err != api.OK {
					nothing(t, got, "an error")
				}
			}
		}
	}
	if got, err := record.Seal(nil, one()); err != api.ErrArg || got.Key != "" {
		t.Error("no seed:", show(got), err)
	}
	if _, err := record.Seal(nil, api.Record{}); err != api.ErrArg {
		t.Error("no seed and no record:", err)
	}
}

// P8.3: what is not right is so told, whatever key it is checked with, and though its signature fits the text that it would have.
func TestCheckShape(t *testing.T) {
	seed := some(32)
	public := sign.Public(seed)
	n := 0
	for _, r := range several(3) {
		if isShaped(r) {
			continue
		}
		n++
		for _, x := range []api.Record{r, sealed(seed, r)} {
			for _, key := range [][]byte{public, nil, some(31), some(32)} {
				if err := record.Check(key, x); err != api.ErrShape {
					t.Fatalf("%s: %v", show(x), err)
				}
			}
		}
	}
	if n < 200 {
		t.Error("few wrong shapes:", n)
	}
	for n := range 130 {
		x, want := sealed(seed, one()), api.ErrShape
		if n == 64 {
			want = api.OK
		}
		x.Sig = append(x.Sig, make([]byte, 66)...)[:n]
		if err := record.Check(public, x); err != want {
			t.Errorf("a signature of %d bytes: %v", n, err)
		}
	}
}

// P8.3: a signature fits just the public key whose seed made it.
func TestCheckKey(t *testing.T) {
	rnd := rand.New(rand.NewSource(84))
	var all [][]byte
	for range 4 {
		seed := make([]byte, 32)
		rnd.Read(seed)
		all = append(all, seed)
	}
	for i, seed := range all {
		r := sealed(seed, one())
		for j, other := range all {
			want := api.ErrSig
			if i == j {
				want = api.OK
			}
			if err := record.Check(sign.Public(other), r); err != want {
				t.Fatal(i, j, err)
			}
		}
		public := sign.Public(seed)
		for n := range 70 {
			key := append(slices.Clone(public), make([]byte, 40)...)[:n]
			if err := record.Check(key, r); (err == api.OK) != (n == 32) || err != api.OK && err != api.ErrSig {
				t.Fatalf("a key of %d bytes: %v", n, err)
			}
		}
		for k := range public {
			public[k] ^= 1 << (k % 8)
			if err := record.Check(public, r); err != api.ErrSig {
				t.Fatalf("byte %d of the key turned: %v", k, err)
			}
			public[k] ^= 1 << (k % 8)
		}
		if err := record.Check(nil, r); err != api.ErrSig {
			t.Error("no key:", err)
		}
	}
}

// P8.3: a signature fits its text alone: with any part of the record turned, or of the signature, it fits no more.
func TestCheckTurned(t *testing.T) {
	seed := some(32)
	public := sign.Public(seed)
	r := sealed(seed, one())
	for i, turn := range []func(r *api.Record){
		func(r *api.Record) { r.Key = "kez" },
		func(r *api.Record) { r.Key = "key\x00" },
		func(r *api.Record) { r.Client = 3 },
		func(r *api.Record) { r.Seq = 6 },
		func(r *api.Record) { r.Context = nil },
		func(r *api.Record) { r.Context = r.Context[:2] },
		func(r *api.Record) { r.Context[0].Seq = 4 },
		func(r *api.Record) { r.Context[2].Client = 8 },
		func(r *api.Record) { r.Context = append(r.Context, api.Dot{Client: 8, Seq: 1}) },
		func(r *api.Record) { r.Value = []byte("valuf") },
		func(r *api.Record) { r.Value = []byte("value\x00") },
		func(r *api.Record) { r.Value = nil },
		func(r *api.Record) { r.Value, r.Gone = nil, true },
	} {
		x := copied(r)
		turn(&x)
		if err := record.Check(public, x); err != api.ErrSig {
			t.Error(i, err)
		}
	}
	for k := range r.Sig {
		for _, by := range []byte{1, 128, byte(k + 2)} {
			r.Sig[k] ^= by
			if err := record.Check(public, r); err != api.ErrSig {
				t.Fatalf("byte %d of the signature turned by %d: %v", k, by, err)
			}
			r.Sig[k] ^= by
		}
	}
	if err := record.Check(public, r); err != api.OK {
		t.Error(err)
	}
}

// P8.3: what is signed is the text, not the bytes that the record is put as, nor the value.
func TestSignedText(t *testing.T) {
	seed := some(32)
	private := ed25519.NewKeyFromSeed(seed)
	for i, text := range [][]byte{bytesOf(one()), one().Value, textOf(one())[1:], nil} {
		x := with(func(r *api.Record) { r.Sig = ed25519.Sign(private, text) })
		if err := record.Check(sign.Public(seed), x); err != api.ErrSig {
			t.Error(i, err)
		}
	}
}

// P8.2 to P8.4: what was sealed is put and got, and is checked then too.
func TestSealPutGet(t *testing.T) {
	seed := some(32)
	for _, r := range few() {
		of, _ := record.Seal(seed, r)
		b, err := record.Put(of)
		if err != api.OK {
			t.Fatal(err)
		}
		got, err := record.Get(b)
		if err != api.OK || !same(got, of) || record.Check(sign.Public(seed), got) != api.OK {
			t.Fatalf("%s: %s, %v", show(of), show(got), err)
		}
	}
}
