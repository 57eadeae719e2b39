package link

import (
	"slices"
	"strings"

	"playpen/api"
	"playpen/isa"
	"playpen/little"
)

// builder is an image that grows object by object.
type builder struct {
	plan  *layout
	image api.Image
}

func begin(plan *layout) *builder {
	return &builder{plan: plan, image: api.Image{Zero: plan.all.zero, Stack: plan.stack}}
}

// add lays one object more behind the others, with values in the place of names.
func (b *builder) add(number int, object api.Object) api.Errno {
	seen := scopeOf(number, object, b.plan.open)
	b.image.Code = append(b.image.Code, object.Code...)
	b.image.Data = append(b.image.Data, object.Data...)
	for _, fix := range object.Fixes {
		if err := b.fix(b.plan.ahead[number], fix, seen); err != api.OK {
			return err
		}
	}
	for _, target := range object.Targets {
		at, err := b.index(target, seen)
		if err != api.OK {
			return err
		}
		b.image.Jumps = append(b.image.Jumps, at)
	}
	for _, entry := range object.Entries {
		if err := b.entry(entry, seen); err != api.OK {
			return err
		}
	}
	// A value that several targets have counts once: the limit is asked when the doubles are gone.
	slices.Sort(b.image.Jumps)
	b.image.Jumps = slices.Compact(b.image.Jumps)
	if len(b.image.Jumps) > api.MaxInstrs {
		return api.ErrTable
	}
	return api.OK
}

// fix lays a value into an object's code or data, which begin behind what lies ahead of them.
func (b *builder) fix(ahead extent, fix api.Fix, seen scope) api.Errno {
	label, is := seen.meant(fix.Name)
	if !is {
		return api.ErrMissing
	}
	value := b.plan.value(label) + fix.Add
	if fix.In == api.SecData {
		copy(b.image.Data[ahead.data+fix.At:], little.Put(value))
		return api.OK
	}
	at := ahead.code + fix.At
	b.image.Code[at].Arg = value
	if isa.Check(b.image.Code[at]) != api.OK {
		return api.ErrFix
	}
	return api.OK
}

// index gives the index of the code that a name means.
func (b *builder) index(name string, seen scope) (uint32, api.Errno) {
	label, is := seen.meant(name)
	if !is {
		return 0, api.ErrMissing
	}
	if label.in != api.SecCode {
		return 0, api.ErrInCode
	}
	return b.plan.value(label), api.OK
}

func (b *builder) entry(entry api.Entry, seen scope) api.Errno {
	at, err := b.index(entry.Label, seen)
	if err != api.OK {
		return err
	}
	if slices.ContainsFunc(b.image.Names, func(e api.Export) bool { return e.Name == entry.Name }) {
		return api.ErrClash
	}
	if len(b.image.Names) == api.MaxNames {
		return api.ErrNames
	}
	b.image.Names = append(b.image.Names, api.Export{Name: strings.Clone(entry.Name), At: at})
	return api.OK
}

// finished gives the image when all objects are in it.
func (b *builder) finished() api.Image {
	slices.SortFunc(b.image.Names, func(x, y api.Export) int { return strings.Compare(x.Name, y.Name) })
	return b.image
}
