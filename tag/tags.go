package tag

import (
	"slices"
	"strings"

	"tollgate/api"
)

const (
	kindLen = 2
	tagHead = kindLen + 2
)

// PutTags tells tags as bytes.
func PutTags(l []api.Tag) (string, api.Errno) {
	if len(l) > api.MaxTags {
		return "", api.ErrLong
	}
	size := 0
	for _, t := range l {
		if t.Type == api.TagEnd || t.Type < 0 || t.Type > mostWord {
			return "", api.ErrArg
		}
		size += tagHead + len(t.Value)
	}
	if size > mostData {
		return "", api.ErrLong
	}
	b := make([]byte, 0, size)
	for _, t := range l {
		b = putWord(b, t.Type)
		b = putWord(b, len(t.Value))
		b = append(b, t.Value...)
	}
	return string(b), api.OK
}

// GetTags tells the tags of some bytes.
func GetTags(b string) ([]api.Tag, api.Errno) {
	var l []api.Tag
	for !isEnd(b) {
		if len(b) < tagHead {
			return nil, api.ErrShort
		}
		end := tagHead + getWord(b[kindLen:tagHead])
		if len(b) < end {
			return nil, api.ErrShort
		}
		if len(l) == api.MaxTags {
			return nil, api.ErrLong
		}
		l = append(l, api.Tag{Type: getWord(b), Value: strings.Clone(b[tagHead:end])})
		b = b[end:]
	}
	return l, api.OK
}

// isEnd tells whether no tag stands at the front of b: there is nothing, or the Type that ends a list; that one needs no length behind it.
func isEnd(b string) bool {
	return b == "" || len(b) >= kindLen && getWord(b) == api.TagEnd
}

// Find tells the first tag of a kind, and how many there are.
func Find(l []api.Tag, kind int) (string, int) {
	first, n := "", 0
	for _, t := range l {
		if t.Type != kind {
			continue
		}
		if n == 0 {
			first = strings.Clone(t.Value)
		}
		n++
	}
	return first, n
}

// Same tells whether tags are the same.
func Same(a, b []api.Tag) bool { return slices.Equal(a, b) }
