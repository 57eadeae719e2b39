package asm_test

import (
	"regexp"
	"slices"
	"sort"
	"strconv"
	"strings"
	"testing"

	"playpen/api"
	"playpen/asm"
	"playpen/figure"
	"playpen/isa"
	"playpen/text"
)

// sameObject tells whether two objects are one thing.
func sameObject(x, y api.Object) bool {
	return slices.Equal(x.Code, y.Code) && slices.Equal(x.Data, y.Data) && x.Zero == y.Zero && x.Stack == y.Stack &&
		slices.Equal(x.Labels, y.Labels) && slices.Equal(x.Fixes, y.Fixes) &&
		slices.Equal(x.Targets, y.Targets) && slices.Equal(x.Entries, y.Entries)
}

// cloned gives an object with lists of its own.
func cloned(o api.Object) api.Object {
	o.Code, o.Data, o.Labels = slices.Clone(o.Code), slices.Clone(o.Data), slices.Clone(o.Labels)
	o.Fixes, o.Targets, o.Entries = slices.Clone(o.Fixes), slices.Clone(o.Targets), slices.Clone(o.Entries)
	return o
}

// brief keeps what a failing test tells short.
func brief(s string) string { return s[:min(len(s), 300)] }

// faultAt gives a fault at a place of a text.
func faultAt(s string, err api.Errno, at int) api.AsmFault {
	return api.AsmFault{Err: err, Line: 1 + strings.Count(s[:at], "\n"), At: at}
}

// checkAssemble holds Assemble of a text against the document's words.
func checkAssemble(t *testing.T, s string) (api.Object, api.AsmFault) {
	t.Helper()
	o, f := asm.Assemble(s)
	if want, wantFault := assembleBy(s); !sameObject(o, want) || f != wantFault {
		t.Fatalf("Assemble(%q): %v, %v, want %v, %v", brief(s), o, f, want, wantFault)
	}
	return o, f
}

// mustAssemble gives the object of a text that has no fault.
func mustAssemble(t *testing.T, s string) api.Object {
	t.Helper()
	o, f := asm.Assemble(s)
	if f != (api.AsmFault{}) {
		t.Fatalf("Assemble(%q): %v", brief(s), f)
	}
	return o
}

// shapes says what each statement wants: a letter for a token (n a name, f a figure, b and r literals), a sign for itself.
var shapes = map[string]string{
	"code": "", "data": "", "zero": "",
	"byte": "N(,N)*", "word": "O(,O)*", "bytes": "b", "space": "N", "stack": "N",
	"open": "n(,n)*", "target": "n(,n)*", "entry": "b,n",
}

// places says in which sections each statement may stand; the others stand anywhere.
var places = map[string][]api.Section{
	"byte": {api.SecData}, "word": {api.SecData}, "bytes": {api.SecData}, "space": {api.SecData, api.SecZero},
}

// wholeShape gives the pattern of all that may stand behind a word.
func wholeShape(shape string) *regexp.Regexp {
	shape = strings.NewReplacer("N", "(-?f|r)", "O", "(-?f|r|n([+-]f)?)").Replace(shape)
	return regexp.MustCompile("^(" + shape + ")$")
}

var patterns = allPatterns()

func allPatterns() map[string]*regexp.Regexp {
	table := map[string]*regexp.Regexp{"O": wholeShape("O")}
	for _, shape := range shapes {
		table[shape] = wholeShape(shape)
	}
	return table
}

// viable tells whether tokens of these letters can be the beginning of what a statement wants.
func viable(pattern *regexp.Regexp, letters string) bool {
	ends := []string{"", "f", "n", "b", ",n", ",f", "b,n"}
	return slices.ContainsFunc(ends, func(end string) bool { return pattern.MatchString(letters + end) })
}

// letterOf gives the letter of a token in a shape.
func letterOf(token api.Token) string {
	switch token.Kind {
	case api.TokName:
		return "n"
	case api.TokFigure:
		return "f"
	case api.TokBytes:
		return "b"
	case api.TokRune:
		return "r"
	}
	return token.Text
}

// flaw is a fault of a statement, at a place.
type flaw struct {
	err api.Errno
	at  int
}

// oracle assembles by the document's words: of each statement it gathers all flaws, and tells the leftmost.
type oracle struct {
	object  api.Object
	section api.Section
	flaws   []flaw
	labels  map[string]bool
	opens   []api.Token
	stacked bool
}

func (o *oracle) flaw(err api.Errno, at int) { o.flaws = append(o.flaws, flaw{err, at}) }

func assembleBy(s string) (api.Object, api.AsmFault) {
	if len(s) > 524288 {
		return api.Object{}, api.AsmFault{Err: api.ErrAsmRoom}
	}
	tokens, at, err := text.Tokens(s, ":", ",", "+", "-")
	if err != api.OK {
		return api.Object{}, faultAt(s, err, at)
	}
	o := &oracle{section: api.SecCode, labels: map[string]bool{}}
	var line []api.Token
	for _, token := range append(tokens, api.Token{Kind: api.TokLine, At: len(s)}) {
		if token.Kind != api.TokLine {
			line = append(line, token)
			continue
		}
		o.line(line, token.At)
		line = nil
		if len(o.flaws) > 0 {
			break
		}
	}
	o.open()
	if len(o.flaws) > 0 {
		sort.SliceStable(o.flaws, func(i, j int) bool { return o.flaws[i].at < o.flaws[j].at })
		return api.Object{}, faultAt(s, o.flaws[0].err, o.flaws[0].at)
	}
	sort.SliceStable(o.object.Labels, func(i, j int) bool { return o.object.Labels[i].In < o.object.Labels[j].In })
	sort.SliceStable(o.object.Fixes, func(i, j int) bool { return o.object.Fixes[i].In < o.object.Fixes[j].In })
	return o.object, api.AsmFault{}
}

// open looks for the labels that are to be open, if there was no other fault.
func (o *oracle) open() {
	if len(o.flaws) > 0 {
		return
	}
	for _, name := range o.opens {
		i := slices.IndexFunc(o.object.Labels, func(l api.Label) bool { return l.Name == name.Text })
		if i < 0 {
			o.flaw(api.ErrUnknown, name.At)
			continue
		}
		o.object.Labels[i].Open = true
	}
}

func (o *oracle) length() uint32 {
	return map[api.Section]uint32{api.SecCode: uint32(len(o.object.Code)), api.SecData: uint32(len(o.object.Data)), api.SecZero: o.object.Zero}[o.section]
}

func (o *oracle) line(line []api.Token, end int) {
	for len(line) >= 2 && line[0].Kind == api.TokName && line[1].Text == ":" {
		name := line[0]
		if o.labels[name.Text] {
			o.flaw(api.ErrTwice, name.At)
		}
		if len(o.labels) == 4096 {
			o.flaw(api.ErrAsmRoom, name.At)
		}
		o.labels[name.Text] = true
		o.object.Labels = append(o.object.Labels, api.Label{Name: name.Text, In: o.section, At: o.length()})
		line = line[2:]
	}
	if len(line) == 0 {
		return
	}
	word, rest := line[0], line[1:]
	op, isOp := isa.ByWord(word.Text)
	shape, is := shapes[word.Text]
	sections := places[word.Text]
	info, _ := isa.Info(op)
	if isOp {
		sections = []api.Section{api.SecCode}
		if info.Width != 0 {
			shape = "O"
		}
	}
	switch {
	case word.Kind != api.TokName:
		o.flaw(api.ErrForm, word.At)
	case !is && !isOp:
		o.flaw(api.ErrMnemonic, word.At)
	case sections != nil && !slices.Contains(sections, o.section):
		o.flaw(api.ErrHere, word.At)
	default:
		o.statement(word, o.formed(shape, rest, end), info)
	}
}

// formed gives the tokens up to the first that may not stand where it does.
func (o *oracle) formed(shape string, rest []api.Token, end int) []api.Token {
	pattern := patterns[shape]
	letters := ""
	for i, token := range rest {
		if !viable(pattern, letters+letterOf(token)) {
			o.flaw(api.ErrForm, token.At)
			return rest[:i]
		}
		letters += letterOf(token)
	}
	if !pattern.MatchString(letters) {
		o.flaw(api.ErrForm, end)
	}
	return rest
}

// item is a number, a float or a name with what is added, or a literal.
type item struct {
	word uint32
	fix  api.Fix
	text string
	at   int
}

// items reads the things between commas; what is cut off is left out.
func (o *oracle) items(rest []api.Token, floats bool) []item {
	var list []item
	for len(rest) > 0 {
		size := slices.IndexFunc(rest, func(token api.Token) bool { return token.Text == "," })
		if size < 0 {
			size = len(rest)
		}
		if size > 0 {
			list = append(list, o.item(rest[:size], floats))
		}
		rest = rest[min(size+1, len(rest)):]
	}
	return list
}

func (o *oracle) item(part []api.Token, floats bool) item {
	x := item{at: part[0].At, text: part[0].Text}
	joined := ""
	for _, token := range part {
		joined += token.Text
	}
	switch last := part[len(part)-1]; {
	case part[0].Kind == api.TokRune:
		r, _, _ := text.Rune(joined)
		x.word = uint32(r)
	case part[0].Kind == api.TokName && len(part) < 3:
		x.fix.Name = part[0].Text
	case part[0].Kind == api.TokName:
		number, _, err := figure.Word(last.Text)
		if err != api.OK {
			o.flaw(err, last.At)
		}
		x.fix = api.Fix{Name: part[0].Text, Add: number}
		if part[1].Text == "-" {
			x.fix.Add = uint32((1<<32 - uint64(number)) % (1 << 32))
		}
	case last.Kind == api.TokFigure:
		number, _, err := figure.Word(joined)
		if err != api.OK && floats && strings.Trim(last.Text, "0123456789") != "" {
			if bits, _, err32 := figure.Read32(joined); err32 == api.OK {
				number, err = bits, api.OK
			}
		}
		if err != api.OK {
			o.flaw(err, x.at)
		}
		x.word = number
	}
	return x
}

// statement does what a statement says, with the tokens that are formed rightly; its flaws are gathered.
func (o *oracle) statement(word api.Token, rest []api.Token, info api.OpInfo) {
	list := o.items(rest, word.Text == "const" || word.Text == "word")
	bound := func(allowed func(uint32) bool) {
		for _, x := range list {
			if !allowed(x.word) {
				o.flaw(api.ErrOperand, x.at)
			}
		}
	}
	if info.Word != "" {
		bound(func(w uint32) bool { return w <= info.Most })
	}
	switch word.Text {
	case "byte":
		bound(func(w uint32) bool { return w <= 255 || w >= 4294967168 })
	case "space":
		bound(func(w uint32) bool { return w <= 65536 })
	case "stack":
		if o.stacked {
			o.flaw(api.ErrTwice, word.At)
		}
	}
	o.twice(word, list)
	if len(o.flaws) > 0 {
		return
	}
	o.apply(word, list)
	if len(o.object.Code) > 16384 || len(o.object.Data) > 65536 || o.object.Zero > 65536 || len(o.object.Fixes) > 16384 || len(o.object.Entries) > 64 {
		o.flaw(api.ErrAsmRoom, word.At)
	}
}

// twice looks at the names of open, target and entry.
func (o *oracle) twice(word api.Token, list []item) {
	var ahead []string
	switch word.Text {
	case "open":
		for _, token := range o.opens {
			ahead = append(ahead, token.Text)
		}
	case "target":
		ahead = slices.Clone(o.object.Targets)
	case "entry":
		for _, entry := range o.object.Entries {
			ahead = append(ahead, text.Show([]byte(entry.Name)))
		}
		for i := range list[:min(len(list), 1)] {
			b, _, _ := text.Bytes(list[i].text)
			if len(b) == 0 || len(b) > 32 {
				o.flaw(api.ErrForm, list[i].at)
			}
			list[i].text = text.Show(b)
		}
		list = list[:min(len(list), 1)]
	default:
		return
	}
	for _, x := range list {
		if slices.Contains(ahead, x.text) {
			o.flaw(api.ErrTwice, x.at)
		}
		ahead = append(ahead, x.text)
	}
}

func (o *oracle) apply(word api.Token, list []item) {
	switch word.Text {
	case "code", "data", "zero":
		o.section = map[string]api.Section{"code": api.SecCode, "data": api.SecData, "zero": api.SecZero}[word.Text]
	case "byte":
		for _, x := range list {
			o.object.Data = append(o.object.Data, byte(x.word%256))
		}
	case "word":
		for _, x := range list {
			o.fix(x)
			for shift := 0; shift < 32; shift += 8 {
				o.object.Data = append(o.object.Data, byte(x.word>>shift))
			}
		}
	case "bytes":
		b, _, _ := text.Bytes(list[0].text)
		o.object.Data = append(o.object.Data, b...)
	case "space":
		if o.section == api.SecZero {
			o.object.Zero += list[0].word
		} else {
			o.object.Data = append(o.object.Data, make([]byte, list[0].word)...)
		}
	case "stack":
		o.stacked, o.object.Stack = true, list[0].word
	case "open":
		for _, x := range list {
			o.opens = append(o.opens, api.Token{Text: x.text, At: x.at})
		}
	case "target":
		for _, x := range list {
			o.object.Targets = append(o.object.Targets, x.text)
		}
	case "entry":
		b, _, _ := text.Bytes(list[0].text)
		o.object.Entries = append(o.object.Entries, api.Entry{Name: string(b), Label: list[1].text})
	default:
		op, _ := isa.ByWord(word.Text)
		in := api.Instr{Op: op}
		for _, x := range list {
			o.fix(x)
			in.Arg = x.word
		}
		o.object.Code = append(o.object.Code, in)
	}
}

func (o *oracle) fix(x item) {
	if x.fix.Name != "" {
		x.fix.In, x.fix.At = o.section, o.length()
		o.object.Fixes = append(o.object.Fixes, x.fix)
	}
}

// printBy gives the text of an object that may be, by the document's words.
func printBy(o api.Object) string {
	var b strings.Builder
	labels := func(in api.Section, at int) {
		for _, l := range o.Labels {
			if l.In == in && int(l.At) == at {
				b.WriteString(l.Name + ":\n")
			}
		}
	}
	fix := func(in api.Section, at int) string {
		for _, f := range o.Fixes {
			if f.In == in && int(f.At) == at {
				if f.Add != 0 {
					return f.Name + "+" + strconv.FormatUint(uint64(f.Add), 10)
				}
				return f.Name
			}
		}
		return ""
	}
	has := func(in api.Section) bool {
		return slices.ContainsFunc(o.Labels, func(l api.Label) bool { return l.In == in })
	}
	hasAt := func(in api.Section, at int) bool {
		return slices.ContainsFunc(o.Labels, func(l api.Label) bool { return l.In == in && int(l.At) == at })
	}
	b.WriteString("code\n")
	for i, in := range o.Code {
		labels(api.SecCode, i)
		info, _ := isa.Info(in.Op)
		b.WriteString("\t" + info.Word)
		if info.Width > 0 {
			operand := fix(api.SecCode, i)
			if operand == "" {
				operand = figure.Signed(in.Arg)
			}
			b.WriteString(" " + operand)
		}
		b.WriteString("\n")
	}
	labels(api.SecCode, len(o.Code))
	if len(o.Data) > 0 || has(api.SecData) {
		b.WriteString("data\n")
		for at := 0; at < len(o.Data); {
			labels(api.SecData, at)
			if operand := fix(api.SecData, at); operand != "" {
				b.WriteString("\tword " + operand + "\n")
				at += 4
				continue
			}
			end := at + 1
			for end < len(o.Data) && end < at+16 && !hasAt(api.SecData, end) && fix(api.SecData, end) == "" {
				end++
			}
			b.WriteString("\tbytes " + text.Show(o.Data[at:end]) + "\n")
			at = end
		}
		labels(api.SecData, len(o.Data))
	}
	if o.Zero > 0 || has(api.SecZero) {
		b.WriteString("zero\n")
		for at := 0; at < int(o.Zero); {
			labels(api.SecZero, at)
			end := at + 1
			for end < int(o.Zero) && !hasAt(api.SecZero, end) {
				end++
			}
			b.WriteString("\tspace " + strconv.Itoa(end-at) + "\n")
			at = end
		}
		labels(api.SecZero, int(o.Zero))
	}
	printRest(&b, o)
	return b.String()
}

func printRest(b *strings.Builder, o api.Object) {
	if o.Stack != 0 {
		b.WriteString("stack " + strconv.FormatUint(uint64(o.Stack), 10) + "\n")
	}
	for _, l := range o.Labels {
		if l.Open {
			b.WriteString("open " + l.Name + "\n")
		}
	}
	for _, target := range o.Targets {
		b.WriteString("target " + target + "\n")
	}
	for _, entry := range o.Entries {
		b.WriteString("entry " + text.Show([]byte(entry.Name)) + ", " + entry.Label + "\n")
	}
}

// scattered gives so many words, always the same ones, from all over.
func scattered(count int) []uint32 {
	list := make([]uint32, count)
	state := uint64(0x9E3779B97F4A7C15)
	for i := range list {
		state ^= state << 13
		state ^= state >> 7
		state ^= state << 17
		list[i] = uint32(state * 0x2545F4914F6CDD1D >> 32)
	}
	return list
}

// dice hands out scattered words one by one, over and over.
type dice struct {
	words []uint32
	next  int
}

func (d *dice) upTo(most int) int {
	d.next = (d.next + 1) % len(d.words)
	return int(uint64(d.words[d.next]) * uint64(most+1) >> 32)
}

// someObject gives an object that may be, of few parts of all kinds; its names begin with prefix.
func someObject(d *dice, prefix string) api.Object {
	var o api.Object
	name := func() string { return prefix + strconv.Itoa(d.upTo(9)) }
	for range d.upTo(8) {
		in := api.Instr{Op: api.Op(1 + d.upTo(58))}
		info, _ := isa.Info(in.Op)
		switch d.upTo(3) {
		case 0:
			in.Arg = info.Most
		case 1:
			in.Arg = uint32(uint64(d.upTo(1<<32-1)) % (uint64(info.Most) + 1))
		case 2:
			if info.Width > 0 {
				o.Fixes = append(o.Fixes, api.Fix{In: api.SecCode, At: uint32(len(o.Code)), Name: name(), Add: uint32(d.upTo(3) * d.upTo(1<<30))})
			}
		}
		o.Code = append(o.Code, in)
	}
	for range d.upTo(5) {
		if d.upTo(2) == 0 {
			o.Fixes = append(o.Fixes, api.Fix{In: api.SecData, At: uint32(len(o.Data)), Name: name(), Add: uint32(d.upTo(3) * d.upTo(1<<30))})
			o.Data = append(o.Data, 0, 0, 0, 0)
			continue
		}
		for range d.upTo(40) {
			o.Data = append(o.Data, byte(d.upTo(255)))
		}
	}
	o.Zero = uint32(d.upTo(2) * d.upTo(20))
	o.Stack = uint32(d.upTo(1) * d.upTo(1<<32-1))
	for i := range d.upTo(6) {
		section := api.Section(1 + d.upTo(2))
		length := map[api.Section]int{api.SecCode: len(o.Code), api.SecData: len(o.Data), api.SecZero: int(o.Zero)}[section]
		label := api.Label{Name: prefix + strconv.Itoa(i), In: section, At: uint32(d.upTo(length)), Open: d.upTo(1) == 0}
		for _, f := range o.Fixes {
			if f.In == api.SecData && section == api.SecData && label.At > f.At && label.At < f.At+4 {
				label.At = f.At
			}
		}
		o.Labels = append(o.Labels, label)
	}
	sort.SliceStable(o.Labels, func(i, j int) bool {
		x, y := o.Labels[i], o.Labels[j]
		return x.In < y.In || x.In == y.In && x.At < y.At
	})
	for i := range d.upTo(3) {
		o.Targets = append(o.Targets, prefix+"t"+strconv.Itoa((i*7+d.upTo(1)*4)%11))
	}
	o.Targets = distinct(o.Targets)
	for i := range d.upTo(3) {
		o.Entries = append(o.Entries, api.Entry{Name: prefix + strconv.Itoa(i) + string([]byte{byte(d.upTo(255))}), Label: name()})
	}
	return o
}

// distinct gives the texts of a list that no earlier one is.
func distinct(list []string) []string {
	var kept []string
	for _, s := range list {
		if !slices.Contains(kept, s) {
			kept = append(kept, s)
		}
	}
	return kept
}
