package heap

import "strconv"

// MaxPlace is the highest place; MaxLength, one more, is the greatest length.
const (
	MaxPlace  = 1<<32 - 2
	MaxLength = 1<<32 - 1
)

// Key of a property: a place, or a name that is none.
type Key struct {
	Name    string
	Place   uint32
	IsPlace bool
}

// KeyOf: the key that a text is.
func KeyOf(text string) Key {
	if place, ok := placeOf(text); ok {
		return Key{Place: place, IsPlace: true}
	}
	return Key{Name: text}
}

// Text: how the key is written.
func (k Key) Text() string {
	if k.IsPlace {
		return strconv.FormatUint(uint64(k.Place), 10)
	}
	return k.Name
}

func placeOf(text string) (uint32, bool) {
	const mostDigits = 10 // more cannot be a place, and could wrap round
	if text == "" || len(text) > mostDigits || text[0] == '0' && len(text) > 1 {
		return 0, false
	}
	n := uint64(0)
	for i := range len(text) {
		if text[i] < '0' || text[i] > '9' {
			return 0, false
		}
		n = 10*n + uint64(text[i]-'0')
	}
	if n > MaxPlace {
		return 0, false
	}
	return uint32(n), true
}
