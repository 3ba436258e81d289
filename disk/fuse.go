package disk

import "tidepole/api"

// fuse is how long the power lasts.
type fuse struct {
	left  int // how many steps are done ahead of its going; below 0: it does not go
	gone  bool
	steps int // how many were done
}

// unlit is a fuse that lets the power on.
func unlit() fuse { return fuse{left: -1} }

// isOn says whether a step that begins now has power. It goes no earlier than that step: what is asked ahead of it is answered.
func (f *fuse) isOn() bool {
	if f.left == 0 {
		f.gone = true
	}
	return !f.gone
}

// done ends a step that was not refused.
func (f *fuse) done() api.Errno {
	if f.left > 0 {
		f.left--
	}
	f.steps++
	return api.OK
}

// mend brings the power back, without a fuse.
func (f *fuse) mend() { f.left, f.gone = -1, false }
