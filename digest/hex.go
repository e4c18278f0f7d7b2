package digest

import "dunnage/api"

// hexDigits are the digits in the order of their values.
const hexDigits = "0123456789abcdef"

// Hex returns some bytes as hexadecimal text.
func Hex(b []byte) (string, api.Errno) {
	if len(b) > api.MaxInput {
		return "", api.ErrMany
	}
	text := make([]byte, 0, 2*len(b))
	for _, x := range b {
		text = append(text, hexDigits[x>>4], hexDigits[x&15])
	}
	return string(text), api.OK
}

// ParseHex returns the bytes of a hexadecimal text.
func ParseHex(s string) ([]byte, api.Errno) {
	if len(s) > 2*api.MaxInput {
		return nil, api.ErrMany
	}
	if len(s)%2 != 0 {
		return nil, api.ErrForm
	}
	b := make([]byte, 0, len(s)/2)
	for i := 0; i < len(s); i += 2 {
		high, isHigh := digitValue(s[i])
		low, isLow := digitValue(s[i+1])
		if !isHigh || !isLow {
			return nil, api.ErrForm
		}
		b = append(b, high<<4|low)
	}
	return b, api.OK
}

// digitValue returns the value of a hexadecimal digit, and whether the character is one.
func digitValue(c byte) (byte, bool) {
	switch {
	case c >= '0' && c <= '9':
		return c - '0', true
	case c >= 'a' && c <= 'f':
		return c - 'a' + 10, true
	}
	return 0, false
}
