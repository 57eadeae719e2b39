package asm

import (
	"strconv"

	"playpen/api"
	"playpen/figure"
	"playpen/isa"
	"playpen/text"
)

// rowSize is how many bytes of the data a line has at most.
const rowSize = 16

// printer writes an object from the left, and so comes to its labels and fixes in just their order.
type printer struct {
	text   []byte
	labels []api.Label // those that are not written yet
	fixes  []api.Fix   // likewise
}

// Print gives a text that is assembled to this object.
func Print(o api.Object) (string, api.Errno) {
	if err := Check(o); err != api.OK {
		return "", err
	}
	p := printer{labels: o.Labels, fixes: o.Fixes}
	p.code(o.Code)
	p.data(o.Data)
	p.zero(int(o.Zero))
	p.rest(o)
	if len(p.text) > api.MaxAsm {
		return "", api.ErrAsmRoom
	}
	return string(p.text), api.OK
}

// line writes a line of these parts. What comes behind a text that is too long is left out: an object can name long names very often.
func (p *printer) line(parts ...string) {
	for _, part := range parts {
		if len(p.text) > api.MaxAsm {
			return
		}
		p.text = append(p.text, part...)
	}
	p.text = append(p.text, '\n')
}

func (p *printer) code(code []api.Instr) {
	p.line("code")
	for i, in := range code {
		p.labelsAt(api.SecCode, i)
		info, _ := isa.Info(in.Op)
		if info.Width == 0 {
			p.line("\t", info.Word)
			continue
		}
		fixed, is := p.fixAt(api.SecCode, i)
		if !is {
			fixed = figure.Signed(in.Arg)
		}
		p.line("\t", info.Word, " ", fixed)
	}
	p.labelsAt(api.SecCode, len(code))
}

func (p *printer) data(data []byte) {
	if len(data) == 0 && !p.hasLabel(api.SecData) {
		return
	}
	p.line("data")
	for at := 0; at < len(data); {
		p.labelsAt(api.SecData, at)
		if fixed, is := p.fixAt(api.SecData, at); is {
			p.line("\tword ", fixed)
			at += fixSize
			continue
		}
		end := p.stop(api.SecData, min(at+rowSize, len(data)))
		p.line("\tbytes ", text.Show(data[at:end]))
		at = end
	}
	p.labelsAt(api.SecData, len(data))
}

func (p *printer) zero(count int) {
	if count == 0 && !p.hasLabel(api.SecZero) {
		return
	}
	p.line("zero")
	for at := 0; at < count; {
		p.labelsAt(api.SecZero, at)
		end := p.stop(api.SecZero, count)
		p.line("\tspace ", strconv.Itoa(end-at))
		at = end
	}
	p.labelsAt(api.SecZero, count)
}

// rest writes what belongs to no section.
func (p *printer) rest(o api.Object) {
	if o.Stack != 0 {
		p.line("stack ", decimal(o.Stack))
	}
	for _, label := range o.Labels {
		if label.Open {
			p.line("open ", label.Name)
		}
	}
	for _, target := range o.Targets {
		p.line("target ", target)
	}
	for _, entry := range o.Entries {
		p.line("entry ", text.Show([]byte(entry.Name)), ", ", entry.Label)
	}
}

// hasLabel tells whether the next label is one of a section.
func (p *printer) hasLabel(in api.Section) bool {
	return len(p.labels) > 0 && p.labels[0].In == in
}

// hasFix tells whether the next fix is one of a section.
func (p *printer) hasFix(in api.Section) bool {
	return len(p.fixes) > 0 && p.fixes[0].In == in
}

// labelsAt writes the labels of a place.
func (p *printer) labelsAt(in api.Section, at int) {
	for p.hasLabel(in) && int(p.labels[0].At) == at {
		p.line(p.labels[0].Name, ":")
		p.labels = p.labels[1:]
	}
}

// fixAt gives the fix of a place as an operand is written, if there is one.
func (p *printer) fixAt(in api.Section, at int) (string, bool) {
	if !p.hasFix(in) || int(p.fixes[0].At) != at {
		return "", false
	}
	fix := p.fixes[0]
	p.fixes = p.fixes[1:]
	if fix.Add == 0 {
		return fix.Name, true
	}
	return fix.Name + "+" + decimal(fix.Add), true
}

// stop gives the next place of a section at which a line must end; end, if there is none ahead of it.
func (p *printer) stop(in api.Section, end int) int {
	if p.hasLabel(in) {
		end = min(end, int(p.labels[0].At))
	}
	if p.hasFix(in) {
		end = min(end, int(p.fixes[0].At))
	}
	return end
}

// decimal writes a word's number without a sign.
func decimal(x uint32) string { return strconv.FormatUint(uint64(x), 10) }
