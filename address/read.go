package address

import (
	"strconv"
	"strings"

	"flange/kind"
)

// maxDigits is how many digits an index has at most.
const maxDigits = 3

// reader reads an address from the left; where one can't be read it stands at the fault.
type reader struct {
	text string
	at   int
}

func (r *reader) ended() bool {
	return r.at == len(r.text)
}

// take goes behind a byte, if it stands there.
func (r *reader) take(c byte) bool {
	if r.ended() || r.text[r.at] != c {
		return false
	}
	r.at++
	return true
}

// address reads an address; its index is left as it is, if none is there.
func (r *reader) address(a *Address) bool {
	names := r.name(&a.Provider) && r.take('.') && r.name(&a.Kind) && r.take('.') && r.name(&a.Name)
	if !names || r.ended() {
		return names
	}
	return r.take('[') && r.index(&a.Index) && r.take(']') && r.ended()
}

// name reads the longest name that stands there: the first byte that is too many for one is what can't stand behind it.
func (r *reader) name(to *string) bool {
	began := r.at
	for !r.ended() && kind.Named(r.text[began:r.at+1]) {
		r.at++
	}
	*to = strings.Clone(r.text[began:r.at])
	return r.at > began
}

// index reads an index. A digit too many is told ahead of digits that tell a number otherwise than they should.
func (r *reader) index(to *int) bool {
	began := r.at
	for r.digit() && r.at < began+maxDigits {
		r.at++
	}
	if r.digit() {
		return false
	}
	digits := r.text[began:r.at]
	// No digits at all are told otherwise, too: no number is told so.
	n, _ := strconv.Atoi(digits)
	if strconv.Itoa(n) != digits {
		r.at = began
		return false
	}
	*to = n
	return true
}

// digit tells whether a digit stands there.
func (r *reader) digit() bool {
	return !r.ended() && r.text[r.at] >= '0' && r.text[r.at] <= '9'
}
