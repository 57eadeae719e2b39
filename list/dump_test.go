package list_test

import (
	"bytes"
	"strings"
	"testing"

	"playpen/api"
	"playpen/isa"
	"playpen/list"
)

func tryDump(t *testing.T, b []byte, want string) {
	t.Helper()
	if text, err := list.Dump(b); text != want || err != api.OK {
		t.Errorf("Dump(% x): %q, %d, want %q", b, text, err, want)
	}
	checkDump(t, b)
}

// The chapter's example 4.
func TestExampleDump(t *testing.T) {
	tryDump(t, []byte{0x03, 0x08, 0x00, 0x0a, 0xff, 0x01}, `000000  03 08 00        enter 8
000003  0a              pop
000004  ff 01
`)
}

// P12.4: rows of instructions of every size, rows of what is left, no bytes.
func TestDumps(t *testing.T) {
	tryDump(t, nil, "")
	tryDump(t, []byte{}, "")
	tryDump(t, []byte{8, 0xfe, 0xff, 0xff, 0xff}, "000000  08 fe ff ff ff  const -2\n")
	tryDump(t, []byte{12, 14, 1}, "000000  0c 0e           arg 14\n000002  01              nop\n")
	tryDump(t, []byte{12, 15, 1}, "000000  0c 0f 01\n")
	tryDump(t, []byte{0}, "000000  00\n")
	tryDump(t, []byte{6, 0xff, 0x3f, 6, 0xff, 0x40}, "000000  06 ff 3f        goto 16383\n000003  06 ff 40\n")
	tryDump(t, []byte{1, 8, 1, 2, 3}, "000000  01              nop\n000001  08 01 02 03\n")
	tryDump(t, []byte{0, 1, 2, 3, 4, 5, 6, 7, 8, 9}, "000000  00 01 02 03 04 05 06 07\n000008  08 09\n")
}

// P12.4: what is left is told in eights, whatever it begins with, from the place on at which the walk ended.
func TestDumpOfTheRest(t *testing.T) {
	rows := []string{
		"000003  ff 01 01 01 01 01 01 01\n",
		"00000b  01 01 01 01 01 01 01 01\n",
		"000013  01 01 01 01 01 01 01 01\n",
	}
	begin := "000000  03 08 00        enter 8\n"
	for left := range 25 {
		b := append([]byte{3, 8, 0}, bytes.Repeat([]byte{1}, left)...)
		want := begin
		if left > 0 {
			b[3] = 0xff
			want += strings.Join(rows[:left/8], "")
			if left%8 > 0 {
				want += rows[left/8][:8+3*(left%8)-1] + "\n"
			}
		}
		tryDump(t, b, want)
	}
}

// P12.4: each operation, with the operands at its bounds, and each byte that is none.
func TestDumpOfEveryByte(t *testing.T) {
	for op := range 256 {
		info, _ := isa.Info(api.Op(op))
		for _, arg := range []uint32{0, info.Most, info.Most + 1} {
			b := []byte{byte(op), byte(arg), byte(arg >> 8), byte(arg >> 16), byte(arg >> 24)}
			for size := range 6 {
				checkDump(t, b[:size])
			}
			checkDump(t, append(b, b...))
		}
	}
}

// P12.4: MaxDump bytes are told, one more is refused. The walk ends behind MaxInstrs instructions.
func TestMostBytes(t *testing.T) {
	for what, unit := range map[string][]byte{
		"nop":      {1},
		"none":     {0},
		"const":    {8, 1, 2, 3, 0xff},
		"enter":    {3, 4, 0},
		"arg":      {12, 14},
		"at times": {1, 10, 8, 0, 0, 0, 0, 6, 0, 0, 12, 14},
	} {
		b := bytes.Repeat(unit, 65537/len(unit)+1)
		for _, size := range []int{65535, 65536} {
			checkDump(t, b[:size])
		}
		if text, err := list.Dump(b[:65537]); text != "" || err != api.ErrDump {
			t.Errorf("%s: %d bytes, %d", what, len(text), err)
		}
	}
	text, _ := list.Dump(bytes.Repeat([]byte{1}, 65536))
	if n := strings.Count(text, "nop\n"); n != 16384 {
		t.Errorf("%d rows of nop", n)
	}
	if !strings.Contains(text, "\n003fff  01              nop\n004000  01 01 01 01 01 01 01 01\n") || !strings.HasSuffix(text, "\n00fff8  01 01 01 01 01 01 01 01\n") {
		t.Error("the rows behind the last instruction")
	}
}

// P12.4: the bytes of many codes, whole, cut short and changed.
func TestDumpsScattered(t *testing.T) {
	d := &dice{words: scattered(9973)}
	for range 3000 {
		var code []api.Instr
		for range d.upTo(12) {
			code = append(code, someInstruction(d, 12))
		}
		b, _, err := isa.Encode(code)
		if err != api.OK {
			t.Fatal(err)
		}
		checkDump(t, b)
		text, _ := list.Dump(b)
		if strings.Count(text, "\n") != len(code) {
			t.Errorf("%v: %q", code, text)
		}
		checkDump(t, b[:d.upTo(int64(len(b)))])
		if len(b) > 0 {
			b[d.upTo(int64(len(b)-1))] = byte(d.upTo(255))
		}
		checkDump(t, b)
	}
}
