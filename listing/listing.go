// Package listing writes and parses the texts of lists whose elements have texts. It is no layer: every layer may call it.
package listing

import (
	"cardgame/api"
	"cardgame/word"
)

// Text returns the texts of the elements of l joined by by, or the empty string if l is empty, has more than most
// elements, or contains one without a text.
func Text[T any](l []T, most int, by string, textOf func(x T) string) string {
	if len(l) > most {
		return ""
	}
	var parts []string
	for _, x := range l {
		text := textOf(x)
		if text == "" {
			return ""
		}
		parts = append(parts, text)
	}
	return word.Join(parts, by)
}

// Parse returns the list whose Text is s, or ErrForm if there is none. No text of an element contains by outside brackets.
func Parse[T any](s string, most int, by string, parse func(s string) (T, api.Errno)) ([]T, api.Errno) {
	var l []T
	var part string
	for more := true; more; {
		part, s, more = word.Cut(s, by)
		x, err := parse(part)
		if err != api.OK || len(l) == most {
			return nil, api.ErrForm
		}
		l = append(l, x)
	}
	return l, api.OK
}
