package wire

import (
	"bytes"

	"consistory/api"
)

const wordSize = 4 // bytes of a frame's length, and of its sum

// sumSteps: what four bits that leave the sum do to it. (Four at a time: a table for eight would be a large one.)
var sumSteps = [16]uint32{
	0x00000000, 0x1DB71064, 0x3B6E20C8, 0x26D930AC, 0x76DC4190, 0x6B6B51F4, 0x4DB26158, 0x5005713C,
	0xEDB88320, 0xF00F9344, 0xD6D6A3E8, 0xCB61B38C, 0x9B64C2B0, 0x86D3D2D4, 0xA00AE278, 0xBDBDF21C,
}

// Sum: the CRC-32 of b.
func Sum(b []byte) uint32 {
	s := ^uint32(0)
	for _, c := range b {
		s ^= uint32(c)
		s = s>>4 ^ sumSteps[s&15]
		s = s>>4 ^ sumSteps[s&15]
	}
	return ^s
}

// Frame: b between its length and the sum of both.
func Frame(b []byte) ([]byte, error) {
	if len(b) > api.MaxFrame {
		return nil, fault(api.ErrForm, 0)
	}
	f := make([]byte, 0, len(b)+2*wordSize)
	f = appendWord(f, uint32(len(b)))
	f = append(f, b...)
	return appendWord(f, Sum(f)), nil
}

// Unframe: what the frame at b's beginning holds, and the frame's size.
func Unframe(b []byte) ([]byte, int, error) {
	if len(b) < wordSize {
		return nil, 0, fault(api.ErrShort, len(b))
	}
	n := word(b)
	if n > api.MaxFrame {
		return nil, 0, fault(api.ErrForm, 0)
	}
	end := wordSize + int(n)
	if len(b) < end+wordSize {
		return nil, 0, fault(api.ErrShort, len(b))
	}
	if Sum(b[:end]) != word(b[end:]) {
		return nil, 0, fault(api.ErrSum, end)
	}
	return bytes.Clone(b[wordSize:end]), end + wordSize, nil
}

// appendWord writes n, the lowest byte first.
func appendWord(b []byte, n uint32) []byte {
	return append(b, byte(n), byte(n>>8), byte(n>>16), byte(n>>24))
}

func word(b []byte) uint32 {
	return uint32(b[0]) | uint32(b[1])<<8 | uint32(b[2])<<16 | uint32(b[3])<<24
}
