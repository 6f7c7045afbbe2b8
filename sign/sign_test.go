package sign_test

import (
	"bytes"
	"crypto/ed25519"
	"encoding/hex"
	"math/big"
	"math/rand"
	"slices"
	"testing"

	"buttress/sign"
)

func fromHex(s string) []byte {
	b, err := hex.DecodeString(s)
	if err != nil {
		panic(err)
	}
	return b
}

// P5.1, P5.2: the first three examples of RFC 8032.
func TestKnown(t *testing.T) {
	for _, c := range []struct{ seed, public, text, sig string }{
		{
			"9d61b19deffd5a60ba844af492ec2cc44449c5697b326919703bac031cae7f60",
			"d75a980182b10ab7d54bfed3c964073a0ee172f3daa62325af021a68f707511a",
			"",
			"e5564300c360ac729086e2cc806e828a84877f1eb8e5d974d873e065224901555fb8821590a33bacc61e39701cf9b46bd25bf5f0595bbe24655141438e7a100b",
		},
		{
			"4ccd089b28ff96da9db6c346ec114e0f5b8a319f35aba624da8cf6ed4fb8a6fb",
			"3d4017c3e843895a92b70aa74d1b7ebc9c982ccf2ec4968cc0cd55f12af4660c",
			"72",
			"92a009a9f0d4cab8720e820b5f642540a2b27b5416503f8fb3762223ebdb69da085ac1e43e15996e458f3613d0f11d8c387b2eaeb4302aeeb00d291612bb0c00",
		},
		{
			"c5aa8df43f9f837bedb7442f31dcb7b166d38535076f094b85ce3a2e0b4458f7",
			"fc51cd8e6218a1a38da47ed00230f0580816ed13ba3303ac5deb911548908025",
			"af82",
			"6291d657deec24024827e69c3abe01a30ce548a284743a445e3680d7db5ac3ac18ff9b538d16f290ae67f760984dc6594a7c15e9716ed28dc027beceea1ec40a",
		},
	} {
		seed, text := fromHex(c.seed), fromHex(c.text)
		public, sig := sign.Public(seed), sign.Sign(seed, text)
		if hex.EncodeToString(public) != c.public || hex.EncodeToString(sig) != c.sig {
			t.Errorf("%s: %x %x", c.seed, public, sig)
		}
		if !sign.Verify(fromHex(c.public), fromHex(c.sig), text) {
			t.Errorf("%s: it does not fit", c.seed)
		}
	}
}

// P5.1: keys and signatures are those of RFC 8032, which another program makes too.
func TestSign(t *testing.T) {
	r := rand.New(rand.NewSource(51))
	all := texts()
	for i, seed := range seeds(r, 40) {
		private := ed25519.NewKeyFromSeed(seed)
		if got := sign.Public(seed); !bytes.Equal(got, private.Public().(ed25519.PublicKey)) {
			t.Fatalf("Public of %x: %x", seed, got)
		}
		text := all[i%len(all)]
		if got := sign.Sign(seed, text); !bytes.Equal(got, ed25519.Sign(private, text)) {
			t.Fatalf("Sign of %x, %x: %x", seed, text, got)
		}
	}
}

// P5.1, P5.2: how a text is parted plays no part; where its parts stand does.
func TestParts(t *testing.T) {
	r := rand.New(rand.NewSource(511))
	seed := some(32)
	public := sign.Public(seed)
	for _, text := range texts() {
		sig := ed25519.Sign(ed25519.NewKeyFromSeed(seed), text)
		for _, parts := range partings(r, text) {
			if !bytes.Equal(sign.Sign(seed, parts...), sig) {
				t.Fatalf("Sign of %d bytes in %d parts", len(text), len(parts))
			}
			if !sign.Verify(public, sig, parts...) {
				t.Fatalf("Verify of %d bytes in %d parts", len(text), len(parts))
			}
		}
	}
	one, two := []byte("one"), []byte("two")
	sig := sign.Sign(seed, one, two)
	if bytes.Equal(sign.Sign(seed, two, one), sig) || sign.Verify(public, sig, two, one) || sign.Verify(public, sig, one) || sign.Verify(public, sig, two) {
		t.Error("parts in another order, or one of them, are the text")
	}
}

// P5.1: a seed that has not 32 bytes has no key and signs nothing.
func TestSeedLength(t *testing.T) {
	for _, n := range []int{0, 1, 16, 30, 31, 33, 34, 63, 64, 65, 96, 1 << 16} {
		for _, seed := range [][]byte{make([]byte, n), some(n)} {
			if b := sign.Public(seed); len(b) != 0 {
				t.Errorf("Public of %d bytes: %x", n, b)
			}
			for _, text := range [][][]byte{nil, {nil}, {some(5), some(6)}} {
				if b := sign.Sign(seed, text...); len(b) != 0 {
					t.Errorf("Sign of %d bytes: %x", n, b)
				}
			}
		}
	}
	if len(sign.Public(nil)) != 0 || len(sign.Sign(nil)) != 0 || len(sign.Sign(nil, []byte("text"))) != 0 {
		t.Error("no seed")
	}
}

// P5.2: keys and signatures of other lengths than 32 and 64 fit nothing.
func TestLengths(t *testing.T) {
	seed, text := some(32), some(20)
	public, sig := sign.Public(seed), sign.Sign(seed, text)
	longPublic, longSig := append(slices.Clone(public), make([]byte, 40)...), append(slices.Clone(sig), make([]byte, 80)...)
	for n := range longPublic {
		if sign.Verify(longPublic[:n], sig, text) != (n == 32) {
			t.Errorf("a key of %d bytes", n)
		}
	}
	for n := range longSig {
		if sign.Verify(public, longSig[:n], text) != (n == 64) {
			t.Errorf("a signature of %d bytes", n)
		}
	}
	if sign.Verify(nil, sig, text) || sign.Verify(public, nil, text) || sign.Verify(nil, nil) || sign.Verify(nil, nil, nil, text) {
		t.Error("none")
	}
	if sign.Verify(append([]byte{0}, public...), sig, text) || sign.Verify(public, append([]byte{0}, sig...), text) {
		t.Error("a byte ahead")
	}
	if sign.Verify(sig, public, text) || sign.Verify(sig[:32], append(public[:32:32], sig[32:]...), text) {
		t.Error("one for the other")
	}
}

// P5.2: one byte turned, in the key, the signature or the text: it fits no more.
func TestTurned(t *testing.T) {
	r := rand.New(rand.NewSource(52))
	for i, seed := range seeds(r, 2) {
		text := some(3 + 40*i)
		public, sig := sign.Public(seed), sign.Sign(seed, text)
		for _, part := range [][]byte{public, sig, text} {
			for k := range part {
				for _, by := range []byte{1, 128, byte(1 + r.Intn(255))} {
					part[k] ^= by
					if sign.Verify(public, sig, text) {
						t.Fatalf("%x, %x, %x: byte %d turned by %d", public, sig, text, k, by)
					}
					part[k] ^= by
				}
			}
		}
		if !sign.Verify(public, sig, text) {
			t.Fatalf("%x, %x, %x", public, sig, text)
		}
	}
}

// P5.2: a signature fits no other text, and no other seed's key.
func TestOther(t *testing.T) {
	r := rand.New(rand.NewSource(521))
	all := seeds(r, 3)
	words := [][]byte{nil, {0}, {0, 0}, []byte("text"), []byte("text\x00"), []byte("\x00text"), []byte("tex"), some(200)}
	for i, seed := range all {
		for k, text := range words {
			sig := sign.Sign(seed, text)
			for j, other := range all {
				if sign.Verify(sign.Public(other), sig, text) != (j == i) {
					t.Fatalf("seed %d, key %d, text %d", i, j, k)
				}
			}
			for j, other := range words {
				if sign.Verify(sign.Public(seed), sig, other) != (j == k) {
					t.Fatalf("seed %d, text %d, text %d", i, k, j)
				}
			}
		}
	}
}

// P5.3: a signature fits its seed's public key and its text.
func TestFits(t *testing.T) {
	r := rand.New(rand.NewSource(53))
	all := texts()
	for i, seed := range seeds(r, 30) {
		text := all[i%len(all)]
		public, sig := sign.Public(seed), sign.Sign(seed, text)
		if !sign.Verify(public, sig, text) || !fits(public, sig, text) || !ed25519.Verify(public, text, sig) {
			t.Fatalf("%x, %x, %x", public, sig, text)
		}
	}
}

// P5.3: with L added to S, as often as 32 bytes hold it, a signature fits no more.
func TestOrderAdded(t *testing.T) {
	r := rand.New(rand.NewSource(531))
	for _, seed := range seeds(r, 5) {
		public, sig := sign.Public(seed), sign.Sign(seed, seed)
		s := value(sig[32:])
		for n := 1; ; n++ {
			if s.Add(s, order); s.BitLen() > 256 {
				if n < 15 {
					t.Fatal(n)
				}
				break
			}
			if sign.Verify(public, slices.Concat(sig[:32], raw(s)), seed) {
				t.Errorf("%x: S and %d L", seed, n)
			}
		}
	}
}

// P5.3: with another S below L a signature does not fit either.
func TestOtherS(t *testing.T) {
	r := rand.New(rand.NewSource(532))
	for _, seed := range seeds(r, 5) {
		public, sig := sign.Public(seed), sign.Sign(seed, seed)
		s := value(sig[32:])
		others := []*big.Int{zero, big.NewInt(1), plus(order, -1), plus(s, 1), plus(s, -1), new(big.Int).Sub(order, s)}
		for k := range uint(253) {
			others = append(others, mod(new(big.Int).Xor(s, power2(k))))
		}
		for range 20 {
			others = append(others, new(big.Int).Rand(r, order))
		}
		for _, other := range others {
			if sign.Verify(public, slices.Concat(sig[:32], raw(mod(other))), seed) {
				t.Fatalf("%x: %x in place of %x", seed, other, s)
			}
		}
	}
}

// P5.3, R4: a seed signs a text in one way, whatever was signed in between; of other seeds and other texts R is another one.
func TestOneWay(t *testing.T) {
	all := seeds(rand.New(rand.NewSource(533)), 3)
	var sigs [][]byte
	for range 2 {
		for _, seed := range all {
			for n := range 4 {
				sigs = append(sigs, sign.Sign(seed, make([]byte, n)))
			}
		}
	}
	half := len(sigs) / 2
	for i, sig := range sigs {
		for j, other := range sigs {
			if bytes.Equal(sig[:32], other[:32]) != (i%half == j%half) || bytes.Equal(sig, other) != (i%half == j%half) {
				t.Fatal(i, j)
			}
		}
	}
}

// R3: no argument is changed, what is told is new memory.
func TestMemory(t *testing.T) {
	seed, text := some(40)[:32], some(90)
	parts := [][]byte{text[:30], nil, text[30:]}
	public, sig := sign.Public(seed), sign.Sign(seed, parts...)
	if !sign.Verify(public, sig, parts...) {
		t.Fatal("it does not fit")
	}
	if !bytes.Equal(seed, some(40)[:32]) || !bytes.Equal(seed[:40], some(40)) || !bytes.Equal(text, some(90)) || len(parts) != 3 || len(parts[0]) != 30 || parts[1] != nil || len(parts[2]) != 60 {
		t.Error("an argument was changed")
	}
	public2, sig2 := slices.Clone(public), slices.Clone(sig)
	clear(sign.Public(seed))
	clear(sign.Sign(seed, parts...))
	sign.Verify(public, sig, parts...)
	if !bytes.Equal(public, public2) || !bytes.Equal(sig, sig2) || !bytes.Equal(sign.Public(seed), public2) || !bytes.Equal(sign.Sign(seed, parts...), sig2) {
		t.Error("memory is shared")
	}
	clear(seed)
	clear(text)
	if !bytes.Equal(public, public2) || !bytes.Equal(sig, sig2) {
		t.Error("an argument was kept")
	}
}

func BenchmarkSign(b *testing.B) {
	seed := some(32)
	for b.Loop() {
		sign.Sign(seed, seed)
	}
}

func BenchmarkVerify(b *testing.B) {
	seed := some(32)
	public, sig := sign.Public(seed), sign.Sign(seed, seed)
	for b.Loop() {
		sign.Verify(public, sig, seed)
	}
}
