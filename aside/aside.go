// Package aside lets a device's file have other bytes at once: they are laid under another name first, and last before they get the file's own, so that there is always a whole one.
package aside

import (
	"outstation/api"
	"outstation/device"
)

// ending is what the name of a file that is being made has behind the file's own.
const ending = ".new"

// Clear removes a file that was being made, if there is one.
func Clear(d *device.Device, name string) api.Errno {
	errno := d.Remove(name + ending)
	if errno == api.ErrNone {
		return api.OK
	}
	return errno
}

// Replace lets a file have those bytes, or leaves it as it is.
func Replace(d *device.Device, name string, b []byte) api.Errno {
	if errno := Clear(d, name); errno != api.OK {
		return errno
	}
	if errno := d.Append(name+ending, b); errno != api.OK {
		return errno
	}
	if errno := d.Sync(name + ending); errno != api.OK {
		return errno
	}
	return d.Rename(name+ending, name)
}
