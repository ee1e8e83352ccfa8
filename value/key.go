package value

import (
	"bytes"

	"consistory/api"
)

const (
	mostInKey = 16      // values of a key
	lift      = 1 << 63 // what an integer is raised by, so that those below 0 stand ahead of the others
	intSize   = 8       // bytes of an integer
)

// Key: l as bytes that stand as l does among rows of its length. Behind a text stands a 0, which is less than all that a longer text may have there.
func Key(l []api.Value) ([]byte, error) {
	if len(l) > mostInKey {
		return nil, api.ErrForm
	}
	var b []byte
	for _, v := range l {
		if !Is(v) {
			return nil, api.ErrForm
		}
		b = appendKey(b, v)
	}
	return b, nil
}

func appendKey(b []byte, v api.Value) []byte {
	b = append(b, byte(v.Kind))
	switch v.Kind {
	case api.Bool:
		b = append(b, byte(v.Int))
	case api.Int:
		b = appendInt(b, v.Int)
	case api.Text:
		b = append(append(b, v.Text...), 0)
	}
	return b
}

func appendInt(b []byte, n int64) []byte {
	lifted := uint64(n) + lift
	for shift := 8 * (intSize - 1); shift >= 0; shift -= 8 {
		b = append(b, byte(lifted>>shift))
	}
	return b
}

// Unkey: the row of which Key tells just b.
func Unkey(b []byte) ([]api.Value, error) {
	var l []api.Value
	for len(b) > 0 {
		size := sizeOf(b)
		if size > len(b) || len(l) == mostInKey {
			return nil, api.ErrForm
		}
		v := valueOf(b[:size])
		if !Is(v) {
			return nil, api.ErrForm
		}
		l = append(l, v)
		b = b[size:]
	}
	return l, nil
}

// sizeOf tells how many bytes the value at b's beginning has; more than b has, if b ends within it.
func sizeOf(b []byte) int {
	switch int(b[0]) {
	case api.Bool:
		return 1 + 1
	case api.Int:
		return 1 + intSize
	case api.Text:
		end := bytes.IndexByte(b, 0)
		if end < 0 {
			return len(b) + 1
		}
		return end + 1
	}
	return 1
}

// valueOf reads the value that b is, also one that may not be.
func valueOf(b []byte) api.Value {
	v := api.Value{Kind: int(b[0])}
	rest := b[1:]
	switch v.Kind {
	case api.Bool:
		v.Int = int64(rest[0])
	case api.Int:
		v.Int = intOf(rest)
	case api.Text:
		v.Text = string(rest[:len(rest)-1])
	}
	return v
}

func intOf(b []byte) int64 {
	var lifted uint64
	for _, c := range b {
		lifted = lifted<<8 | uint64(c)
	}
	return int64(lifted - lift)
}
