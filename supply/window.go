package supply

import "reveille/api"

// Window is from where to where microvolts may be.
type Window struct{ Lo, Hi int64 }

// isWindow says whether a window may be.
func isWindow(w Window) bool { return w.Lo >= 0 && w.Lo <= w.Hi && w.Hi <= MaxMicro }

// First is the place of the first entry within a window.
func First(w Window) (int, api.Errno) {
	if !isWindow(w) {
		return 0, api.ErrArg
	}
	for i, n := range table {
		if n >= w.Lo && n <= w.Hi {
			return i, api.OK
		}
	}
	return 0, api.ErrNone
}

// Meet is what all windows have in common.
func Meet(l []Window) (Window, api.Errno) {
	all := Window{0, MaxMicro}
	for _, w := range l {
		if !isWindow(w) {
			return Window{}, api.ErrArg
		}
		all = Window{max(all.Lo, w.Lo), min(all.Hi, w.Hi)}
	}
	if all.Lo > all.Hi {
		return Window{}, api.ErrNone
	}
	return all, api.OK
}
