package list

import (
	"slices"
	"sort"
	"strconv"
	"strings"

	"playpen/api"
	"playpen/image"
	"playpen/isa"
)

// Object gives an image as an object whose places have names.
func Object(im api.Image) (api.Object, api.Errno) {
	if err := image.Check(im); err != api.OK {
		return api.Object{}, err
	}
	if goesBeyond(im) {
		return api.Object{}, api.ErrBeyond
	}
	places := placesOf(im)
	if len(places) > api.MaxLabels {
		return api.Object{}, api.ErrPlaces
	}
	return objectOf(im, places), api.OK
}

// goesBeyond tells whether a jump or a name can't be a label of the code, or jumps do not rise: no linker makes such images.
func goesBeyond(im api.Image) bool {
	end := codeEnd(im.Code)
	for i, jump := range im.Jumps {
		if jump > end || i > 0 && jump <= im.Jumps[i-1] {
			return true
		}
	}
	return slices.ContainsFunc(im.Names, func(name api.Export) bool { return name.At > end })
}

// codeEnd gives the index behind the last instruction, at which a label may still stand.
func codeEnd(code []api.Instr) uint32 { return uint32(len(code)) }

// placesOf gives the indices that need a name, rising, each once.
func placesOf(im api.Image) []uint32 {
	places := append([]uint32(nil), im.Jumps...)
	for _, name := range im.Names {
		places = append(places, name.At)
	}
	for _, in := range im.Code {
		if hasPlace(in, codeEnd(im.Code)) {
			places = append(places, in.Arg)
		}
	}
	slices.Sort(places)
	return slices.Compact(places)
}

// hasPlace tells whether an instruction's operand is a place. A target beyond the code's end is none: it stays a number.
func hasPlace(in api.Instr, end uint32) bool {
	info, _ := isa.Info(in.Op)
	return (info.Kind == api.KindGoto || info.Kind == api.KindBranch) && in.Arg <= end
}

// objectOf gives the object of an image with these places.
func objectOf(im api.Image, places []uint32) api.Object {
	o := api.Object{
		Code:   append([]api.Instr(nil), im.Code...),
		Data:   append([]byte(nil), im.Data...),
		Zero:   im.Zero,
		Stack:  im.Stack,
		Labels: labelsOf(places),
	}
	nameOf := func(place uint32) string {
		i := sort.Search(len(places), func(i int) bool { return places[i] >= place })
		return o.Labels[i].Name
	}
	for i, in := range im.Code {
		if hasPlace(in, codeEnd(im.Code)) {
			o.Code[i].Arg = 0
			o.Fixes = append(o.Fixes, api.Fix{In: api.SecCode, At: uint32(i), Name: nameOf(in.Arg)})
		}
	}
	for _, jump := range im.Jumps {
		o.Targets = append(o.Targets, nameOf(jump))
	}
	for _, name := range im.Names {
		o.Entries = append(o.Entries, api.Entry{Name: strings.Clone(name.Name), Label: nameOf(name.At)})
	}
	return o
}

// labelsOf gives each place its name.
func labelsOf(places []uint32) []api.Label {
	var labels []api.Label
	for _, place := range places {
		name := joined("at", strconv.FormatUint(uint64(place), 10))
		labels = append(labels, api.Label{Name: name, In: api.SecCode, At: place})
	}
	return labels
}
