package watch

import (
	"playpen/alu"
	"playpen/api"
	"playpen/verify"
)

// numbered is a point with its number, as it was told and as what can be met.
type numbered struct {
	number int
	told   api.Point
	point  point
}

// mayBe tells whether a module may have a point.
func mayBe(m *verify.Module, p api.Point) bool {
	named := api.Point{Kind: p.Kind, At: p.At}
	switch p.Kind {
	case api.PointAt:
		return p == named && uint64(p.At) < uint64(m.Count())
	case api.PointIn:
		return p == named && m.Begins(p.At)
	case api.PointRead, api.PointWrite:
		named.Len = p.Len
		return p == named && p.Len > 0
	case api.PointWhen:
		named.Op, named.Value = p.Op, p.Value
		_, err := alu.Holds(p.Op, 0, 0)
		return p == named && err == api.OK
	case api.PointCall:
		return p == named && p.At < 1<<31
	}
	return false
}

// pointOf gives what can be met of a point that may be.
func pointOf(p api.Point) point {
	switch p.Kind {
	case api.PointAt:
		return comesTo{index: p.At}
	case api.PointIn:
		return enters{begin: p.At}
	case api.PointRead:
		return reads{window{at: p.At, count: p.Len}}
	case api.PointWrite:
		return writes{window{at: p.At, count: p.Len}}
	case api.PointWhen:
		return becomes{at: p.At, op: p.Op, value: p.Value}
	}
	return asks{number: p.At}
}

// question asks whether the instruction that was taken meets a point.
type question func(done taken) bool

// point is what an instruction can meet. It looks at the run ahead of the instruction, and what it has seen there the question keeps, which is asked behind it.
type point interface {
	ahead(v *view) question
}

// questions lets all points look at the run ahead of an instruction.
func questions(points []numbered, v *view) []asking {
	var all []asking
	for _, p := range points {
		all = append(all, asking{number: p.number, met: p.point.ahead(v)})
	}
	return all
}

// asking is the question of the point of a number.
type asking struct {
	number int
	met    question
}

// firstMet gives the least number of a point that an instruction meets, if there is one.
func firstMet(all []asking, done taken) (int, bool) {
	for _, one := range all {
		if one.met(done) {
			return one.number, true
		}
	}
	return 0, false
}
