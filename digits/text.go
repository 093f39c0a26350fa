package digits

import (
	"strings"

	"regatta/api"
	"regatta/wide"
)

// number is a text of a number, taken apart: its sign, and its digits ahead of the point and behind it (none, if it has no point).
type number struct {
	below         bool
	ahead, behind string
}

// apart is s, taken apart; false, if it is no text of a number.
func apart(s string) (number, bool) {
	rest, below := strings.CutPrefix(s, "-")
	right, points := 0, 0
through:
	for _, c := range rest {
		switch {
		case '0' <= c && c <= '9':
		case c == '.' && points == 0:
			points++
		default:
			break through
		}
		right++
	}
	ahead, behind, _ := strings.Cut(rest, ".")
	ok := right == len(rest) && plain(ahead) && !strings.HasSuffix(rest, ".")
	return number{below, ahead, behind}, ok
}

// plain says whether digits have no nought ahead of others; no digits at all are not plain either.
func plain(digits string) bool {
	return digits == "0" || digits != "" && digits[0] != '0'
}

// count is the number that digits stand for; there are at most MaxDigits of them, far fewer than a wide number has room for.
func count(digits string) api.Wide {
	var n api.Wide
	for _, c := range digits {
		tenfold := wide.Add(wide.Shl(n, 3), wide.Shl(n, 1))
		n = wide.Add(tenfold, wide.Of(int64(c-'0')))
	}
	return n
}

// signed is size with n's sign.
func (n number) signed(size api.Wide) api.Wide {
	if n.below {
		return wide.Neg(size)
	}
	return size
}
