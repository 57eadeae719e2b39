package asm

import (
	"bytes"

	"playpen/api"
	"playpen/isa"
	"playpen/text"
)

// fixSize is how many bytes of the data a fix has.
const fixSize = 4

// Check tells whether an object may be.
func Check(o api.Object) api.Errno {
	// The limits come first, so that no long list is gone through, and what lies within a fix last, when each fix is known to have its bytes.
	if !hasRoom(o) || !codeMayBe(o.Code) || !labelsMayBe(o) || !fixesMayBe(o) || !targetsMayBe(o.Targets) || !entriesMayBe(o.Entries) || labelWithin(o) {
		return api.ErrObject
	}
	return api.OK
}

// hasRoom tells whether an object keeps the limits.
func hasRoom(o api.Object) bool {
	return len(o.Code) <= api.MaxInstrs && len(o.Data) <= api.MaxPart && o.Zero <= api.MaxPart &&
		len(o.Labels) <= api.MaxLabels && len(o.Fixes) <= api.MaxFixes && len(o.Entries) <= api.MaxNames
}

func codeMayBe(code []api.Instr) bool {
	for _, in := range code {
		if isa.Check(in) != api.OK {
			return false
		}
	}
	return true
}

func labelsMayBe(o api.Object) bool {
	ahead := names{}
	for i, label := range o.Labels {
		if !isName(label.Name) || !ahead.add(label.Name) || !hasPlace(o, label) {
			return false
		}
		if i > 0 && before(label.In, label.At, o.Labels[i-1].In, o.Labels[i-1].At) {
			return false
		}
	}
	return true
}

// isName tells whether a text is a name and nothing else.
func isName(s string) bool {
	tokens, _, err := text.Tokens(s)
	return err == api.OK && len(tokens) == 1 && tokens[0].Kind == api.TokName && tokens[0].Text == s
}

// hasPlace tells whether a label stands in one of the sections, or at its end.
func hasPlace(o api.Object, label api.Label) bool {
	switch label.In {
	case api.SecCode:
		return label.At <= uint32(len(o.Code))
	case api.SecData:
		return label.At <= uint32(len(o.Data))
	case api.SecZero:
		return label.At <= o.Zero
	}
	return false
}

// before tells whether a place of a section comes ahead of another place.
func before(in api.Section, at uint32, otherIn api.Section, other uint32) bool {
	return in < otherIn || in == otherIn && at < other
}

func fixesMayBe(o api.Object) bool {
	for i, fix := range o.Fixes {
		if !isName(fix.Name) || !isNought(o, fix) {
			return false
		}
		if i > 0 && !follows(o.Fixes[i-1], fix) {
			return false
		}
	}
	return true
}

// isNought tells whether what a fix is to be laid into is there, and is nought.
func isNought(o api.Object, fix api.Fix) bool {
	switch {
	case fix.In == api.SecCode && fix.At < uint32(len(o.Code)):
		in := o.Code[fix.At]
		info, _ := isa.Info(in.Op)
		return info.Width != 0 && in.Arg == 0
	case fix.In == api.SecData && fix.At < uint32(len(o.Data)):
		return bytes.HasPrefix(o.Data[fix.At:], make([]byte, fixSize))
	}
	return false
}

// follows tells whether a fix may stand behind another one: neither lies over the other.
func follows(ahead, fix api.Fix) bool {
	size := uint32(1)
	if ahead.In == api.SecData {
		size = fixSize
	}
	return !before(fix.In, fix.At, ahead.In, ahead.At+size)
}

func targetsMayBe(targets []string) bool {
	ahead := names{}
	for _, target := range targets {
		if !isName(target) || !ahead.add(target) {
			return false
		}
	}
	return true
}

func entriesMayBe(entries []api.Entry) bool {
	ahead := names{}
	for _, entry := range entries {
		if !mayName(entry.Name) || !ahead.add(entry.Name) || !isName(entry.Label) {
			return false
		}
	}
	return true
}

// labelWithin tells whether a label of the data stands within a fix's bytes, behind their first: a text can't name such a place.
func labelWithin(o api.Object) bool {
	within := make([]bool, len(o.Data)+1)
	for _, fix := range o.Fixes {
		if fix.In == api.SecData {
			for i := range uint32(fixSize - 1) {
				within[fix.At+1+i] = true
			}
		}
	}
	for _, label := range o.Labels {
		if label.In == api.SecData && within[label.At] {
			return true
		}
	}
	return false
}
