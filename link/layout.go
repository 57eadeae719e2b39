package link

import (
	"playpen/api"
	"playpen/asm"
	"playpen/image"
)

// extent is how much there is of each section.
type extent struct {
	code uint32
	data uint32
	zero uint32
}

// layout says where the sections of all objects lie in the image.
type layout struct {
	ahead []extent // of each object: what the objects ahead of it have
	all   extent
	stack uint32
	open  seats
}

// layOut finds a place for each object; else the number of the one at fault.
func layOut(objects []api.Object) (*layout, int, api.Errno) {
	if !numberMayBe(objects) {
		return nil, 0, api.ErrObjects
	}
	plan := &layout{stack: api.MinStack, open: seats{}}
	for i, object := range objects {
		if err := plan.add(i, object); err != api.OK {
			return nil, i, err
		}
	}
	if plan.all.data+plan.all.zero+plan.stack > 1<<api.MaxBits {
		return nil, len(objects) - 1, api.ErrSize
	}
	return plan, 0, api.OK
}

func numberMayBe(objects []api.Object) bool {
	return len(objects) > 0 && len(objects) <= api.MaxObjects
}

// add lays one object more behind the others.
func (l *layout) add(number int, object api.Object) api.Errno {
	if err := asm.Check(object); err != api.OK {
		return err
	}
	if !l.open.addOpen(number, object.Labels) {
		return api.ErrClash
	}
	ahead := l.all
	l.all.code += uint32(len(object.Code))
	l.all.data += uint32(len(object.Data))
	l.all.zero += object.Zero
	if l.all.code > api.MaxInstrs {
		return api.ErrInstrs
	}
	if !stackMayBe(object.Stack) {
		return api.ErrSize
	}
	l.ahead = append(l.ahead, ahead)
	// It began as MinStack, and no object may ask for less: it stays so where none asks for more.
	l.stack = max(l.stack, object.Stack)
	return api.OK
}

// stackMayBe tells whether an object asks for no stack, or for one with which an image that has nothing else may be.
func stackMayBe(stack uint32) bool {
	return stack == 0 || image.Check(api.Image{Stack: stack}) == api.OK
}

// value gives a label's index of the code, or its address of the data segment, where all noughts lie behind all data.
func (l *layout) value(s seat) uint32 {
	ahead := l.ahead[s.object]
	switch s.in {
	case api.SecCode:
		return ahead.code + s.at
	case api.SecData:
		return ahead.data + s.at
	default:
		return l.all.data + ahead.zero + s.at
	}
}
