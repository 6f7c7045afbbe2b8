package field

const (
	limbBits = 51
	limbMask = 1<<limbBits - 1
	fold     = 19 // what 2^255 is modulo p
	size     = 32 // bytes of a number
)

// fourTimesP is 4 p in limbs each of which is above those of right elements.
var fourTimesP = Elem{4 * (limbMask - 18), 4 * limbMask, 4 * limbMask, 4 * limbMask, 4 * limbMask}

// carry hands on what each limb has above its 51 bits, the last one's to the first, all at once. That is enough: whatever the limbs were, they are below 2^52 then.
func carry(a Elem) Elem {
	return Elem{
		a[0]&limbMask + fold*(a[4]>>limbBits),
		a[1]&limbMask + a[0]>>limbBits,
		a[2]&limbMask + a[1]>>limbBits,
		a[3]&limbMask + a[2]>>limbBits,
		a[4]&limbMask + a[3]>>limbBits,
	}
}

// least answers limbs of 51 bits of the number from 0 to p - 1.
func least(a Elem) Elem {
	a = carry(a) // below 2 p now
	over := uint64(fold)
	for _, limb := range a {
		over = (limb + over) >> limbBits
	}
	a[0] += fold * over // over is 1, if a is p or more: p less is 19 more and 2^255 less
	for i := range 4 {
		a[i+1] += a[i] >> limbBits
		a[i] &= limbMask
	}
	a[4] &= limbMask
	return a
}

// bytesOf answers the bytes of the number from 0 to p - 1.
func bytesOf(a Elem) [size]byte {
	a = least(a)
	var b [size]byte
	putWord(b[0:], a[0]|a[1]<<51)
	putWord(b[8:], a[1]>>13|a[2]<<38)
	putWord(b[16:], a[2]>>26|a[3]<<25)
	putWord(b[24:], a[3]>>39|a[4]<<12)
	return b
}

// ofBytes answers a right element of the number of any 32 bytes: the highest limb has the highest bit too.
func ofBytes(b []byte) Elem {
	w0, w1, w2, w3 := getWord(b[0:]), getWord(b[8:]), getWord(b[16:]), getWord(b[24:])
	return Elem{
		w0 & limbMask,
		(w0>>51 | w1<<13) & limbMask,
		(w1>>38 | w2<<26) & limbMask,
		(w2>>25 | w3<<39) & limbMask,
		w3 >> 12,
	}
}

func getWord(b []byte) uint64 {
	var word uint64
	for i := range 8 {
		word |= uint64(b[i]) << (8 * i)
	}
	return word
}

func putWord(b []byte, word uint64) {
	for i := range 8 {
		b[i] = byte(word >> (8 * i))
	}
}
