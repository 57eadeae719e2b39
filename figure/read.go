package figure

import "playpen/api"

// Read64 reads a binary64, and tells the place of the first fault.
func Read64(s string) (float64, int, api.Errno) { return read(s, binary64, join64) }

// Read32 reads a binary32's bits, and tells the place of the first fault.
func Read32(s string) (uint32, int, api.Errno) { return read(s, binary32, join32) }

// read reads a number of either kind.
func read[T float64 | uint32](s string, k kind, join func(parts) T) (T, int, api.Errno) {
	f, at, err := find(s)
	if err != api.OK {
		return 0, at, err
	}
	if f.sort != api.SortFinite {
		return join(parts{sort: f.sort, minus: f.minus}), 0, api.OK
	}
	p := rounded(f.value(), k)
	if p.sort == api.SortEndless {
		return 0, 0, api.ErrLarge
	}
	p.minus = f.minus
	return join(p), 0, api.OK
}
