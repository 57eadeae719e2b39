package host

import (
	"playpen/api"
	"playpen/plane"
)

// mostPoints is how many points plane.Wave takes at most.
const mostPoints = 8

func (*Host) addPoints(q asked) api.Reply {
	return laid(q.a, plane.Add(q.point(q.b), q.point(q.c)))
}

func (*Host) mulPoints(q asked) api.Reply {
	return laid(q.a, plane.Mul(q.point(q.b), q.point(q.c)))
}

func (*Host) divPoints(q asked) api.Reply {
	quotient, err := plane.Div(q.point(q.b), q.point(q.c))
	if err != api.OK {
		return told(0)
	}
	return laid(q.a, quotient)
}

func (*Host) turnPoint(q asked) api.Reply {
	return laid(q.a, plane.Turn(q.point(q.b), int(int32(q.c))))
}

func (*Host) far(q asked) api.Reply {
	length, _ := plane.Bits(plane.Near(complex(plane.Length(q.point(q.a)), 0)))
	return told(length)
}

func (*Host) wave(q asked) api.Reply {
	// The count is the guest's own word and may be as great as words are: it is looked at ahead of making room for so many.
	if q.c > mostPoints {
		return told(0)
	}
	points := make([]complex128, q.c)
	for i := range points {
		points[i] = q.point(q.b + 8*uint32(i))
	}
	waves, err := plane.Wave(points, false)
	if err != api.OK {
		return told(0)
	}
	return laid(q.a, waves...)
}
