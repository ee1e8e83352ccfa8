package wire

import (
	"consistory/api"
)

const (
	more     = 0x80 // the bit of a byte behind which another one stands
	lastByte = 9    // the place of the tenth byte, which has room for one bit
)

// PutUint: n, seven bits a byte, the lowest first.
func PutUint(n uint64) []byte { return appendUint(nil, n) }

func appendUint(b []byte, n uint64) []byte {
	for ; n >= more; n >>= 7 {
		b = append(b, byte(n)|more)
	}
	return append(b, byte(n))
}

// Uint: the number at b's beginning, and its size.
func Uint(b []byte) (uint64, int, error) {
	var n uint64
	for i, c := range b {
		if i == lastByte && c > 1 || i > 0 && c == 0 {
			return 0, 0, fault(api.ErrForm, i)
		}
		n |= uint64(c&^more) << (7 * i)
		if c < more {
			return n, i + 1, nil
		}
	}
	return 0, 0, fault(api.ErrShort, len(b))
}

// leastOf tells the least number whose bytes begin with those of b, behind each of which another one stands.
func leastOf(b []byte) uint64 {
	if len(b) == 0 {
		return 0
	}
	n := uint64(1) << (7 * len(b)) // the last byte isn't 0, or it would be one too many
	for i, c := range b {
		n |= uint64(c&^more) << (7 * i)
	}
	return n
}

// PutInt: n, so that numbers near 0 are short on both sides of it.
func PutInt(n int64) []byte { return PutUint(folded(n)) }

func folded(n int64) uint64 { return uint64(n)<<1 ^ uint64(n>>63) }

func unfolded(n uint64) int64 { return int64(n>>1) ^ -int64(n&1) }

// Int: the number at b's beginning, and its size.
func Int(b []byte) (int64, int, error) {
	n, size, err := Uint(b)
	return unfolded(n), size, err
}

// PutText: s behind its length.
func PutText(s string) []byte {
	return append(PutUint(uint64(len(s))), s...)
}

// Text: the text at b's beginning, and its size with its length's.
func Text(b []byte) (string, int, error) {
	n, size, err := Uint(b)
	if err != nil {
		return "", 0, err
	}
	if n > api.MaxSQL {
		return "", 0, fault(api.ErrForm, 0)
	}
	end := size + int(n)
	if end > len(b) {
		return "", 0, fault(api.ErrShort, len(b))
	}
	return string(b[size:end]), end, nil
}
