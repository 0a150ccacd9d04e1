package emit

import "bloomery/mid"

// Bounds, in words: of a program in which all is reached by jal, and of a function.
const (
	NearWords = nearWords
	MostWords = mostWords
)

// FromAfar is a program's instructions in which all is reached as it is where a whole program is too long for a jal.
func FromAfar(c *mid.Code, l Layout) (string, bool) {
	w, ok := fromAfar(c, l)
	return w.text.String(), ok
}
