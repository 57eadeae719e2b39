package list

import (
	"strings"

	"playpen/api"
	"playpen/figure"
	"playpen/isa"
)

const (
	lineColumn = 24 // bytes of a row ahead of its instruction
	restSize   = 8  // bytes of a row that is no instruction's
)

// Dump gives bytes of code as rows.
func Dump(b []byte) (string, api.Errno) {
	if len(b) > api.MaxDump {
		return "", api.ErrDump
	}
	var rows []string
	end := 0
	for at, in := range isa.Walk(b) {
		end = at + isa.Size(in)
		rows = append(rows, instructionRow(at, b[at:end], in))
	}
	for at := end; at < len(b); at += restSize {
		rest := b[at:min(at+restSize, len(b))]
		rows = append(rows, joined(bytesRow(at, rest), "\n"))
	}
	return joined(rows...), api.OK
}

// instructionRow gives the row of an instruction. It has five bytes at most, so its row never comes up to the column.
func instructionRow(at int, b []byte, in api.Instr) string {
	row := bytesRow(at, b)
	return joined(row, strings.Repeat(" ", lineColumn-len(row)), written(in), "\n")
}

// bytesRow gives a row up to its last byte.
func bytesRow(at int, b []byte) string {
	pairs := make([]string, len(b))
	for i, x := range b {
		pairs[i] = lastDigits(uint32(x), 2)
	}
	return joined(lastDigits(uint32(at), 6), "  ", strings.Join(pairs, " "))
}

// lastDigits gives the last hexadecimal digits of a number.
func lastDigits(x uint32, count int) string {
	digits := figure.Hex(x)
	return digits[len(digits)-count:]
}
