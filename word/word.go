// Package word is layer 1: see shared/doc/01-word.md.
package word

// Bytes tells a number's four bytes, the lowest first.
func Bytes(w uint32) [4]byte {
	return [4]byte{byte(w), byte(w >> 8), byte(w >> 16), byte(w >> 24)}
}

// Of tells the number of four bytes.
func Of(b [4]byte) uint32 {
	return uint32(b[0]) | uint32(b[1])<<8 | uint32(b[2])<<16 | uint32(b[3])<<24
}

// Flat tells the bytes of some numbers, one behind the other.
func Flat(l []uint32) []byte {
	flat := make([]byte, 4*len(l))
	for i, w := range l {
		four := Bytes(w)
		copy(flat[4*i:], four[:])
	}
	return flat
}

// Words tells the numbers of some bytes; noughts stand behind the last ones, where they are too few.
func Words(b []byte) []uint32 {
	l := make([]uint32, 0, (len(b)+3)/4)
	for len(b) > 0 {
		var four [4]byte // anew each time: the noughts behind the last bytes are its own
		n := copy(four[:], b)
		l = append(l, Of(four))
		b = b[n:]
	}
	return l
}

// Sign tells the number that 16 bits are, the highest one being a sign.
func Sign(w uint32) uint32 { return uint32(int16(w)) }

// Less tells whether one number is below another one, the highest bits being signs.
func Less(a, b uint32) bool { return int32(a) < int32(b) }

// Byte tells a byte of a number, 0 being the lowest.
func Byte(w uint32, i int) byte { return Bytes(w)[place(i)] }

// WithByte tells a number with another byte.
func WithByte(w uint32, i int, b byte) uint32 {
	four := Bytes(w)
	four[place(i)] = b
	return Of(four)
}

// place tells i modulo 4 by its lowest bits: % would answer less than 0 for an i below 0.
func place(i int) int { return i & 3 }
