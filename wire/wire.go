// Package wire: things as bytes: see doc/01-wire.md.
//
// The exported functions stand by what they write and read: numbers and texts (number.go), rows (row.go), entries (entry.go), messages (msg.go), frames (frame.go). An error tells by its api.Placed the byte at which the fault is, counted from the beginning of what is read or written.
package wire
