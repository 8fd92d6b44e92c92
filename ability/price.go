package ability

import (
	"cardgame/api"
	"cardgame/mana"
	"cardgame/num"
	"cardgame/word"
	"strings"
)

const (
	beginPrice = "{"
	endPrice   = "}"
	comma      = ", " // between the parts of a price
	tap        = "tap"
	sacrifice  = "sacrifice"
	life       = "life "

	mostLife = 99
)

// isPrice reports whether p is valid.
func isPrice(p api.Price) bool {
	return mana.Is(p.Mana) && p.Mana.X == 0 && 0 <= p.Life && p.Life <= mostLife
}

// PriceText returns the text of p, or the empty string if p is invalid.
func PriceText(p api.Price) string {
	if !isPrice(p) {
		return ""
	}
	var parts []string
	// Mana is the only part with a text that says that there is nothing to pay.
	if p.Mana != (api.Cost{}) || p == (api.Price{}) {
		parts = append(parts, mana.Text(p.Mana))
	}
	if p.Tap {
		parts = append(parts, tap)
	}
	if p.Sacrifice {
		parts = append(parts, sacrifice)
	}
	if p.Life != 0 {
		parts = append(parts, life+num.Text(p.Life))
	}
	return beginPrice + word.Join(parts, comma) + endPrice
}

// readPrice returns the price with the text s, whose last bracket may be missing, or, if there is none, any price.
func readPrice(s string) api.Price {
	var p api.Price
	var part string
	rest := strings.TrimSuffix(strings.TrimPrefix(s, beginPrice), endPrice)
	for more := true; more; {
		part, rest, more = word.Cut(rest, comma)
		switch points, isLife := strings.CutPrefix(part, life); {
		case isLife:
			p.Life, _ = num.Number(points)
		case part == tap:
			p.Tap = true
		case part == sacrifice:
			p.Sacrifice = true
		default:
			p.Mana, _ = mana.Parse(part)
		}
	}
	return p
}
