package header

// modulus is the greatest prime below 65536, so that both halves of a sum
// fit into two bytes each.
const modulus = 65521

// Sum tells the sum of packed bytes.
func Sum(packed []byte) uint32 {
	a, b := uint32(1), uint32(0)
	for _, c := range packed {
		a = (a + uint32(c)) % modulus
		b = (b + a) % modulus
	}
	return b<<16 + a
}
