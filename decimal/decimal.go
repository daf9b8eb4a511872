// Package decimal is numbers as the layers' texts have them: of a few decimal digits, without leading zeros.
package decimal

import (
	"strconv"

	"weighbridge/api"
)

// Parse tells the number of a text: ErrForm unless it is one to so many digits without leading zeros, ErrRange if the number is greater than 64 bits hold.
func Parse(s string, most int) (uint64, api.Errno) {
	if len(s) < 1 || len(s) > most || len(s) > 1 && s[0] == '0' {
		return 0, api.ErrForm
	}
	for i := range len(s) {
		if s[i] < '0' || s[i] > '9' {
			return 0, api.ErrForm
		}
	}
	n, err := strconv.ParseUint(s, 10, 64)
	if err != nil {
		// Of nothing but digits only their number can be refused.
		return 0, api.ErrRange
	}
	return n, api.OK
}
