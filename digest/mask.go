package digest

const pieceBytes = 16 // as many as a digest has

// Mask hides a value.
func Mask(kind int, secret, vector, value string) string {
	in, out := []byte(value), make([]byte, len(value))
	cover(out, in, out, secret, firstKey(kind, secret, vector))
	return string(out)
}

// Unmask shows a value that was hidden.
func Unmask(kind int, secret, vector, value string) string {
	in, out := []byte(value), make([]byte, len(value))
	cover(out, in, in, secret, firstKey(kind, secret, vector))
	return string(out)
}

// firstKey tells the digest for the first piece.
func firstKey(kind int, secret, vector string) [16]byte {
	return Md5(string([]byte{byte(kind >> 8), byte(kind)}) + secret + vector)
}

// cover fills out with in, piece by piece exclusive or a key. The hidden one of the two is chained: its last piece makes the next key, so that both ways come to the same keys.
func cover(out, in, hidden []byte, secret string, key [16]byte) {
	for at := 0; at < len(in); at += pieceBytes {
		if at > 0 {
			key = Md5(secret + string(hidden[at-pieceBytes:at]))
		}
		for i := at; i < min(at+pieceBytes, len(in)); i++ {
			out[i] = in[i] ^ key[i-at]
		}
	}
}
