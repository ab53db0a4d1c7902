package tables

// The first syllable and the first pieces, and how many there are of each; tails count none as the first.
const (
	firstSyllable = 0xAC00
	firstLead     = 0x1100
	firstVowel    = 0x1161
	noTail        = 0x11A7

	leads     = 19
	vowels    = 21
	tails     = 28
	syllables = leads * vowels * tails
)

// syllable is a syllable of Hangul, by its place among all of them.
type syllable uint16

// place gives a number's place among n numbers, or false, if it is none of them.
func place(r, first, n int) (int, bool) {
	at := uint(r) - uint(first) // a number ahead of the first one wraps round to a great one
	if at >= uint(n) {
		return 0, false
	}
	return int(at), true
}

// syllableOf gives a number as a syllable, or false, if it is none.
func syllableOf(r int) (syllable, bool) {
	at, ok := place(r, firstSyllable, syllables)
	return syllable(at), ok
}

// scalar gives a syllable's number.
func (s syllable) scalar() int {
	return firstSyllable + int(s)
}

// tail gives the place of a syllable's last piece among all of them; 0: it has none.
func (s syllable) tail() int {
	return int(s) % tails
}

// parts gives what a syllable is made of: the syllable without its last piece and that piece, or a leading piece and a vowel.
func (s syllable) parts() (first, second int) {
	if t := s.tail(); t != 0 {
		return s.scalar() - t, noTail + t
	}
	open := int(s) / tails
	return firstLead + open/vowels, firstVowel + open%vowels
}

// joined gives the syllable that two numbers make, or false, if they make none.
func joined(first, second int) (int, bool) {
	l, begins := place(first, firstLead, leads)
	v, sounds := place(second, firstVowel, vowels)
	if begins && sounds {
		return syllable((l*vowels + v) * tails).scalar(), true
	}
	s, ready := syllableOf(first)
	t, ends := place(second, noTail, tails)
	if ready && s.tail() == 0 && ends && t != 0 {
		return s.scalar() + t, true
	}
	return 0, false
}

// Hangul tells whether a number is a syllable (P10.1).
func Hangul(r int) bool {
	_, ok := syllableOf(r)
	return ok
}
