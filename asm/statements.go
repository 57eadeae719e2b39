package asm

import (
	"slices"

	"playpen/api"
	"playpen/isa"
	"playpen/text"
)

// statements gives what reads the statement of each word.
func (a *assembler) statements() map[string]func() {
	table := map[string]func(){
		"code":   a.turnToCode,
		"data":   a.turnToData,
		"zero":   a.turnToZero,
		"byte":   a.layByte,
		"word":   a.layWord,
		"bytes":  a.layBytes,
		"space":  a.laySpace,
		"stack":  a.setStack,
		"open":   a.nameOpen,
		"target": a.nameTarget,
		"entry":  a.nameEntry,
	}
	for op := api.OpNop; op <= api.LastOp; op++ {
		info, _ := isa.Info(op)
		table[info.Word] = a.instruction
	}
	return table
}

func (a *assembler) turnToCode() { a.turnTo(api.SecCode) }
func (a *assembler) turnToData() { a.turnTo(api.SecData) }
func (a *assembler) turnToZero() { a.turnTo(api.SecZero) }

func (a *assembler) turnTo(section api.Section) {
	a.ended()
	a.section = section
}

// mustBeIn refuses a statement that stands in none of these sections.
func (a *assembler) mustBeIn(sections ...api.Section) {
	if !slices.Contains(sections, a.section) {
		panic(fault{api.ErrHere, a.word.At})
	}
}

func (a *assembler) instruction() {
	a.mustBeIn(api.SecCode)
	op, _ := isa.ByWord(a.word.Text)
	info, _ := isa.Info(op)
	var x operand
	if info.Width != 0 {
		x = a.operand(op == api.OpConst, info.Most)
	}
	a.ended()
	a.within(len(a.object.Code)+1, api.MaxInstrs)
	a.fix(x)
	a.object.Code = append(a.object.Code, api.Instr{Op: op, Arg: x.value})
}

// fix notes that the operand's name, if it has one, is to be laid in where the section ends by now.
func (a *assembler) fix(x operand) {
	if x.name == "" {
		return
	}
	a.within(len(a.object.Fixes)+1, api.MaxFixes)
	a.object.Fixes = append(a.object.Fixes, api.Fix{In: a.section, At: a.here(), Name: x.name, Add: x.add})
}

func (a *assembler) layByte() {
	a.mustBeIn(api.SecData)
	var row []byte
	a.list(func() { row = append(row, byte(a.number(isByte))) })
	a.lay(row)
}

// isByte tells whether a word is a byte's number, with or without sign.
func isByte(x uint32) bool { return int32(x) >= -128 && int32(x) <= 255 }

func (a *assembler) layWord() {
	a.mustBeIn(api.SecData)
	var row []operand
	a.list(func() { row = append(row, a.operand(true, 1<<32-1)) })
	for _, x := range row {
		a.fix(x)
		a.lay([]byte{byte(x.value), byte(x.value >> 8), byte(x.value >> 16), byte(x.value >> 24)})
	}
}

func (a *assembler) layBytes() {
	a.mustBeIn(api.SecData)
	literal := a.take(api.TokBytes).Text
	a.ended()
	row, _, _ := text.Bytes(literal)
	a.lay(row)
}

func (a *assembler) laySpace() {
	a.mustBeIn(api.SecData, api.SecZero)
	count := a.number(isPart)
	a.ended()
	if a.section == api.SecData {
		a.lay(make([]byte, count))
		return
	}
	a.within(int(a.object.Zero+count), api.MaxPart)
	a.object.Zero += count
}

// isPart tells whether a section may have so many bytes.
func isPart(x uint32) bool { return x <= api.MaxPart }

// lay puts bytes behind the data.
func (a *assembler) lay(row []byte) {
	a.within(len(a.object.Data)+len(row), api.MaxPart)
	a.object.Data = append(a.object.Data, row...)
}

func (a *assembler) setStack() {
	if a.stacked {
		panic(fault{api.ErrTwice, a.word.At})
	}
	stack := a.value(false)
	a.ended()
	a.stacked, a.object.Stack = true, stack
}

func (a *assembler) nameOpen() {
	a.list(func() { a.opened = append(a.opened, a.newName(a.opens)) })
}

func (a *assembler) nameTarget() {
	a.list(func() { a.object.Targets = append(a.object.Targets, a.newName(a.targets).Text) })
}

// newName reads a name that none of these is.
func (a *assembler) newName(ahead names) api.Token {
	name := a.take(api.TokName)
	if !ahead.add(name.Text) {
		panic(fault{api.ErrTwice, name.At})
	}
	return name
}

func (a *assembler) nameEntry() {
	name := a.entryName()
	if !a.passes(",") {
		panic(fault{api.ErrForm, a.peek().At})
	}
	label := a.take(api.TokName).Text
	a.ended()
	a.within(len(a.object.Entries)+1, api.MaxNames)
	a.object.Entries = append(a.object.Entries, api.Entry{Name: name, Label: label})
}

// entryName reads the name of an entry, which no earlier one has.
func (a *assembler) entryName() string {
	literal := a.take(api.TokBytes)
	b, _, _ := text.Bytes(literal.Text)
	name := string(b)
	if !mayName(name) {
		panic(fault{api.ErrForm, literal.At})
	}
	if !a.entries.add(name) {
		panic(fault{api.ErrTwice, literal.At})
	}
	return name
}

// mayName tells whether an entry may have a name of so many bytes.
func mayName(name string) bool { return len(name) >= 1 && len(name) <= api.MaxName }
