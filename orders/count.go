package orders

import "dunnage/api"

// CheckCount returns an error unless a count is valid for a length of a window and a quota.
func CheckCount(c api.Count, window, quota int) api.Errno {
	if !within(1, api.MaxWindow, window) || !within(1, api.MaxQuota, quota) {
		return api.ErrArg
	}
	if c.Window > api.MaxTick || !within(0, quota, c.Many) {
		return api.ErrBad
	}
	return api.OK
}

// Take returns the count after one more submission.
func Take(c api.Count, window, quota int, now uint64) (api.Count, api.Errno) {
	left, e := Remaining(c, window, quota, now)
	if e != api.OK {
		return api.Count{}, e
	}
	if left == 0 {
		return api.Count{}, api.ErrQuota
	}
	return api.Count{Window: windowOf(now, window), Many: quota - left + 1}, api.OK
}

// Remaining returns how many submissions remain in the window of a tick.
func Remaining(c api.Count, window, quota int, now uint64) (int, api.Errno) {
	if e := CheckCount(c, window, quota); e != api.OK {
		return 0, e
	}
	if now > api.MaxTick {
		return 0, api.ErrArg
	}
	if windowOf(now, window) != c.Window {
		return quota, api.OK
	}
	return quota - c.Many, api.OK
}

// windowOf returns the number of the window of a tick.
func windowOf(now uint64, window int) uint64 { return now / uint64(window) }
