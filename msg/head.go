package msg

import "tollgate/api"

// The first two bytes of a message are flags and a version, in one word.
const (
	ctlFlag = 1 << 15
	lenFlag = 1 << 14 // a length stands behind the first word
	seqFlag = 1 << 11 // Ns and Nr stand behind Session
	version = 2

	loadFirst = lenFlag | version
	seqFirst  = loadFirst | seqFlag
	ctlFirst  = seqFirst | ctlFlag
)

// Where the words of a head stand.
const (
	wordLen   = 2
	firstAt   = 0 * wordLen
	lengthAt  = 1 * wordLen
	tunnelAt  = 2 * wordLen
	sessionAt = 3 * wordLen
	nsAt      = 4 * wordLen
	nrAt      = 5 * wordLen

	shortHead = nsAt // without Ns and Nr
	longHead  = nrAt + wordLen
)

const mostWord = 1<<16 - 1

// lay tells the bytes of a message: its first word, the length of all, further words of its head, and what stands behind these.
func lay(first int, behind string, words ...int) string {
	size := wordLen*(2+len(words)) + len(behind)
	b := make([]byte, 0, size)
	for _, v := range append([]int{first, size}, words...) {
		b = append(b, byte(v>>8), byte(v)) // the conversions cut off what is above each byte
	}
	return string(append(b, behind...))
}

// cut tells what stands behind a head of so many bytes, up to the length that the head names; the caller sees to it that the length is there.
func cut(b string, head int) (string, api.Errno) {
	size := word(b, lengthAt)
	if size > len(b) {
		return "", api.ErrShort
	}
	if size < head {
		return "", api.ErrForm
	}
	return b[head:size], api.OK
}

// word tells the number of the two bytes at a place; the caller sees to it that they are there.
func word(b string, at int) int { return int(b[at])<<8 | int(b[at+1]) }

// areWords tells whether each number fits into two bytes.
func areWords(l ...int) bool {
	for _, v := range l {
		if v < 0 || v > mostWord {
			return false
		}
	}
	return true
}
