package whole

import (
	"strings"

	"dendron/api"
	"dendron/nat"
)

// Parse is the number that digits, behind a minus or not, are.
func Parse(s string) (api.Int, api.Errno) {
	digits, minus := strings.CutPrefix(s, "-")
	abs, e := nat.Parse(digits)
	if e != api.OK {
		return api.Int{}, e
	}
	return signed(minus, abs), api.OK
}

// Print is a number as text.
func Print(a api.Int) string {
	if Sign(a) < 0 {
		return "-" + nat.Print(a.Abs)
	}
	return nat.Print(a.Abs)
}
