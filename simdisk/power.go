package simdisk

import (
	"consistory/api"
)

// Halt: n changing calls are done still; below 0: no end of them.
func (d *Disk) Halt(n int) {
	d.halting, d.left = n >= 0, n
}

// Crash: the power goes and comes back; what wasn't sure is lost, but for what c keeps.
func (d *Disk) Crash(c api.Crash) {
	for i, name := range d.List() {
		keep := 0
		if i < len(c.Keep) {
			keep = c.Keep[i]
		}
		d.files[name].fall(keep)
	}
	d.off, d.halting, d.left = false, false, 0
}

// Count: how many changing calls were done.
func (d *Disk) Count() int { return d.count }

// fall: of the bytes that aren't sure the first keep stay. All that is left is sure.
func (f *file) fall(keep int) {
	unsure := len(f.data) - f.sure
	f.sure += min(max(keep, 0), unsure)
	f.data = f.data[:f.sure]
}

// begin counts a changing call, which is to be done then, or tells why it may not be. The power comes ahead of the call's own refusal; but a call that is refused takes none of those that Halt left.
func (d *Disk) begin(name string, refusal error) error {
	if d.off {
		return within(name, api.ErrDown)
	}
	if refusal != nil {
		return within(name, refusal)
	}
	if d.halting && d.left == 0 {
		d.off = true
		return within(name, api.ErrDown)
	}
	if d.halting {
		d.left--
	}
	d.count++
	return nil
}
