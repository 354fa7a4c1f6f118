package cuts

import "congou/api"

// The greatest way that Move moves a plate, without sign.
const maxWay = 5

// Move returns the plate moved by (x, y).
func Move(p []Side, x, y int) ([]Side, api.Errno) {
	if !isPlate(p) || !allWithin(-maxWay, maxWay, x, y) {
		return nil, api.ErrArg
	}
	moved := make([]Side, len(p))
	for i, s := range p {
		s.C += s.A*x + s.B*y
		if !allWithin(-maxC, maxC, s.C) {
			return nil, api.ErrNone
		}
		moved[i] = s
	}
	return moved, api.OK
}

// Turn returns the plate turned by a quarter to the left.
func Turn(p []Side) ([]Side, api.Errno) {
	if !isPlate(p) {
		return nil, api.ErrArg
	}
	turned := make([]Side, len(p))
	for i, s := range p {
		turned[i] = Side{A: -s.B, B: s.A, C: s.C}
	}
	return turned, api.OK
}
