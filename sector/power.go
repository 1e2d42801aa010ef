package sector

import "entrepot/api"

func (d *Device) Stop(calls int) {
	if d != nil {
		d.left = calls
	}
}

func (d *Device) Off() bool {
	return d == nil || d.left == 0
}

func (d *Device) Crash(keep []int, torn, bytes int) api.Errno {
	if d == nil {
		return api.ErrClosed
	}
	if bytes < 0 || bytes > api.SectorBytes {
		return api.ErrArg
	}
	for _, i := range keep {
		d.settle(i, api.SectorBytes)
	}
	d.settle(torn, bytes)
	clear(d.dirty)
	d.left = never
	return api.OK
}

// settle of a sector that is settled whole already changes nothing: one that is kept is not torn.
func (d *Device) settle(i, bytes int) {
	if last, ok := d.dirty[i]; ok {
		copy(d.sure[i][:bytes], last[:])
	}
}
