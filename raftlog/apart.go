package raftlog

import (
	"errors"
	"strconv"
)

// apart: an index at which this log has nothing to tell, or is another one than is asked for, and the nearest one at which it may do.
type apart struct {
	index, near uint64
	err         error
}

// Error tells both.
func (a *apart) Error() string {
	return "index " + strconv.FormatUint(a.index, 10) + ", try " + strconv.FormatUint(a.near, 10) + ": " + a.err.Error()
}

// Unwrap tells what is wrapped.
func (a *apart) Unwrap() error { return a.err }

// nearest tells where an error says that it may be tried again.
func nearest(err error) (near uint64) {
	var a *apart
	if errors.As(err, &a) {
		near = a.near
	}
	return near
}
