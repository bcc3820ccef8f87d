package impl

import (
	"strconv"
	"strings"
)

const (
	MaxInputLen      = 20000
	MaxUint          = 1000000000
	MaxLineLen       = 600
	MaxFieldsPerLine = 24
)

const hexDigits = "0123456789abcdef"

// EncodeHex returns the lowercase hexadecimal encoding of s.
func EncodeHex(s string) (string, bool) {
	if len(s) > MaxInputLen {
		return "", false
	}
	encoded := make([]byte, 0, 2*len(s))
	for i := range len(s) {
		encoded = append(encoded, hexDigits[s[i]>>4], hexDigits[s[i]&15])
	}
	return string(encoded), true
}

// DecodeHex returns the string whose EncodeHex is s.
func DecodeHex(s string) (string, bool) {
	if len(s)%2 != 0 || len(s) > 2*MaxInputLen {
		return "", false
	}
	decoded := make([]byte, 0, len(s)/2)
	for i := 0; i < len(s); i += 2 {
		high := strings.IndexByte(hexDigits, s[i])
		low := strings.IndexByte(hexDigits, s[i+1])
		if high < 0 || low < 0 {
			return "", false
		}
		decoded = append(decoded, byte(16*high+low))
	}
	return string(decoded), true
}

// FormatInt returns n in decimal.
func FormatInt(n int) string {
	return strconv.Itoa(n)
}

// ParseUint returns the number from 0 to MaxUint whose FormatInt is s.
func ParseUint(s string) (int, bool) {
	n, err := strconv.Atoi(s)
	if err != nil || n < 0 || n > MaxUint {
		return 0, false
	}
	// Atoi also reads "+1", "-0" and "01", which FormatInt never writes.
	if FormatInt(n) != s {
		return 0, false
	}
	return n, true
}

// SplitFields returns the runs of bytes between the spaces of a line.
func SplitFields(line string) ([]string, bool) {
	if len(line) > MaxLineLen {
		return nil, false
	}
	fields := []string{}
	field := []byte{}
	valid := true
scan:
	for i := range len(line) {
		switch c := line[i]; {
		case c < 32 || c > 126:
			valid = false
			break scan
		case c == ' ':
			fields = appendField(fields, field)
			field = field[:0]
		default:
			field = append(field, c)
		}
	}
	fields = appendField(fields, field)
	if !valid || len(fields) > MaxFieldsPerLine {
		return nil, false
	}
	return fields, true
}

// appendField appends a field unless it is empty, as it is between two neighboring spaces and at the ends of a line.
func appendField(fields []string, field []byte) []string {
	if len(field) == 0 {
		return fields
	}
	return append(fields, string(field))
}

// Clamp returns n clamped to the range low to high, and low if that range is empty.
func Clamp(n int, low int, high int) int {
	// The lower end is applied last, so that it wins over a high that is less than low.
	return max(low, min(n, high))
}
