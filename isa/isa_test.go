package isa

import (
	"math"
	"strings"
	"testing"
)

// shapes are the fields that each Op has, by its number (A, B, I for Imm); "" is no Op.
var shapes = [...]string{
	1: "AI", 2: "AI", 3: "AB", 4: "AB", 5: "AB", 6: "AB", 7: "AB", 8: "AB",
	9: "AB", 10: "AB", 11: "AB", 12: "AB", 13: "AI", 14: "ABI", 15: "ABI", 16: "ABI",
	17: "ABI", 18: "I", 19: "AI", 20: "AI", 21: "ABI", 22: "I", 23: "A", 24: "I",
}

// noOps are numbers of no Op; some of them are an Op's in their lowest bits.
var noOps = []int{
	0, 25, 26, 31, 32, 100, 127, 128, 255, 256, 257, 256 + 24, 1<<16 + 1, 1<<32 + 1,
	-1, -2, -24, -255, math.MaxInt, math.MinInt, math.MinInt + 1,
}

var goodRegs = []int{0, 1, 2, 7, 8, 14, 15}

var badRegs = []int{-1, -15, -16, 16, 17, 31, 255, 256, 1 << 32, 1<<32 + 1, math.MaxInt, math.MinInt}

var goodImms = []int{-32768, -32767, -256, -2, -1, 0, 1, 5, 255, 256, 32766, 32767}

var badImms = []int{-32769, -65536, -65535, 32768, 65535, 65536, 65537, 1 << 32, 1<<32 + 5, math.MaxInt, math.MinInt}

// shape tells which fields an Op has; false: there is no such Op.
func shape(op int) (string, bool) {
	if op < 1 || op >= len(shapes) {
		return "", false
	}
	return shapes[op], true
}

// fieldMay tells whether a field of an Op of a shape may be n.
func fieldMay(s, field string, n, low, high int) bool {
	if strings.Contains(s, field) {
		return n >= low && n <= high
	}
	return n == 0
}

// want tells the word that an instruction shall have; false: it is none.
func want(i Instr) (uint32, bool) {
	s, ok := shape(i.Op)
	if !ok || !fieldMay(s, "A", i.A, 0, 15) || !fieldMay(s, "B", i.B, 0, 15) || !fieldMay(s, "I", i.Imm, -32768, 32767) {
		return 0, false
	}
	imm := i.Imm
	if imm < 0 {
		imm += 65536
	}
	return uint32(((i.Op*16+i.A)*16+i.B)*65536 + imm), true
}

// check holds what a table says of an instruction against what it shall say.
func check(t *testing.T, x *Table, i Instr) {
	w, ok := want(i)
	if x.Valid(i) != ok {
		t.Errorf("Valid(%v): not %v", i, ok)
	}
	if gotW, gotOK := x.Encode(i); gotW != w || gotOK != ok {
		t.Errorf("Encode(%v): %08X %v, not %08X %v", i, gotW, gotOK, w, ok)
	}
	if !ok {
		return
	}
	if back, gotOK := x.Decode(w); back != i || !gotOK {
		t.Errorf("Decode(%08X): %v %v, not %v", w, back, gotOK, i)
	}
}

// examples are instructions of each row of the chapter's table, and words of them, written out.
var examples = []struct {
	i Instr
	w uint32
}{
	{Instr{Op: Set, A: 1, Imm: 5}, 0x01100005},
	{Instr{Op: Set, A: 15, Imm: -1}, 0x01F0FFFF},
	{Instr{Op: Set}, 0x01000000},
	{Instr{Op: High, A: 2, Imm: 32767}, 0x02207FFF},
	{Instr{Op: Mov, A: 1, B: 2}, 0x03120000},
	{Instr{Op: Add, A: 15, B: 15}, 0x04FF0000},
	{Instr{Op: Sub, B: 1}, 0x05010000},
	{Instr{Op: Mul, A: 1}, 0x06100000},
	{Instr{Op: Div}, 0x07000000},
	{Instr{Op: And, A: 3, B: 4}, 0x08340000},
	{Instr{Op: Or, A: 4, B: 3}, 0x09430000},
	{Instr{Op: Xor, A: 10, B: 11}, 0x0AAB0000},
	{Instr{Op: Shl, A: 12, B: 13}, 0x0BCD0000},
	{Instr{Op: Shr, A: 14, B: 0}, 0x0CE00000},
	{Instr{Op: AddI, A: 1, Imm: -1}, 0x0D10FFFF},
	{Instr{Op: Load, A: 3, B: 4, Imm: -32768}, 0x0E348000},
	{Instr{Op: Store, A: 5, B: 6, Imm: 60}, 0x0F56003C},
	{Instr{Op: LoadB, A: 7, B: 8, Imm: 3}, 0x10780003},
	{Instr{Op: StoreB, A: 9, B: 10, Imm: -3}, 0x119AFFFD},
	{Instr{Op: Jmp, Imm: -2}, 0x1200FFFE},
	{Instr{Op: Jz, A: 8, Imm: 256}, 0x13800100},
	{Instr{Op: Jnz, A: 1, Imm: -1}, 0x1410FFFF},
	{Instr{Op: Jlt, A: 1, B: 15, Imm: 1}, 0x151F0001},
	{Instr{Op: Call, Imm: 32767}, 0x16007FFF},
	{Instr{Op: Ret, A: 15}, 0x17F00000},
	{Instr{Op: SysCall, Imm: 7}, 0x18000007},
	{Instr{Op: SysCall, Imm: -32768}, 0x18008000},
}

func TestOpsAreNumbered(t *testing.T) {
	ops := []int{
		Set, High, Mov, Add, Sub, Mul, Div, And, Or, Xor, Shl, Shr,
		AddI, Load, Store, LoadB, StoreB, Jmp, Jz, Jnz, Jlt, Call, Ret, SysCall,
	}
	for i, op := range ops {
		if op != i+1 {
			t.Errorf("Op %d has the number %d", i+1, op)
		}
	}
}

// Promise 2.1.

func TestKnown(t *testing.T) {
	var x Table
	for op := -300; op <= 300; op++ {
		if x.Known(op) != (op >= 1 && op <= 24) {
			t.Errorf("Known(%d): %v", op, x.Known(op))
		}
	}
	for _, op := range noOps {
		if x.Known(op) {
			t.Errorf("Known(%d)", op)
		}
	}
}

func TestValidExamples(t *testing.T) {
	var x Table
	for _, e := range examples {
		if !x.Valid(e.i) {
			t.Errorf("Valid(%v): false", e.i)
		}
	}
	for _, i := range []Instr{
		{},
		{Op: Mov, A: 1, B: 2, Imm: 1},
		{Op: Set, A: 16},
		{Op: Set, A: -1},
		{Op: Set, A: 1, B: 1},
		{Op: Set, A: 1, Imm: 32768},
		{Op: AddI, A: 1, Imm: -32769},
		{Op: Add, A: 1, B: 16},
		{Op: Load, A: 1, B: -1},
		{Op: Jmp, A: 1},
		{Op: Jmp, B: 1},
		{Op: Jmp, Imm: 32768},
		{Op: SysCall, A: 1, Imm: 7},
		{Op: Ret, A: 15, B: 1},
		{Op: Ret, A: 15, Imm: 1},
		{Op: Ret, A: 15, Imm: -1},
		{Op: Ret, A: 16},
		{Op: 25},
		{Op: -1},
		{Op: 256 + Set},
	} {
		if x.Valid(i) {
			t.Errorf("Valid(%v): true", i)
		}
	}
}

// Each Op with each of the good and the bad values of each field: the fields that it has may be the good ones, the others 0 alone.
func TestFieldsOfEachOp(t *testing.T) {
	var x Table
	regs := append(append([]int{}, goodRegs...), badRegs...)
	imms := append(append([]int{}, goodImms...), badImms...)
	for op := -1; op <= 26; op++ {
		for _, a := range regs {
			for _, b := range regs {
				for _, imm := range imms {
					check(t, &x, Instr{op, a, b, imm})
				}
			}
		}
	}
	for _, op := range noOps {
		for _, a := range goodRegs {
			check(t, &x, Instr{Op: op, A: a, B: a, Imm: a})
		}
	}
}

// Promise 2.2.

func TestEncodeExamples(t *testing.T) {
	var x Table
	for _, e := range examples {
		if w, ok := x.Encode(e.i); w != e.w || !ok {
			t.Errorf("Encode(%v): %08X %v, not %08X", e.i, w, ok, e.w)
		}
		if i, ok := x.Decode(e.w); i != e.i || !ok {
			t.Errorf("Decode(%08X): %v %v, not %v", e.w, i, ok, e.i)
		}
	}
}

func TestDecodeOfNone(t *testing.T) {
	var x Table
	for _, w := range []uint32{
		0, 1, 0x00100005, 0x00FFFFFF, // Op 0
		0x19000000, 0x80000000, 0xFF000000, 0xFFFFFFFF, 0x81100005, // no Ops
		0x01010000, 0x010F0005, // Set with a B
		0x03120001, 0x03128000, 0x0C00FFFF, // Mov, Shr with a number
		0x12100000, 0x12010000, 0x16F00001, 0x18010007, // Jmp, Call, SysCall with registers
		0x17010000, 0x17F00001, 0x17008000, // Ret with more than its register
	} {
		if i, ok := x.Decode(w); ok || i != (Instr{}) {
			t.Errorf("Decode(%08X): %v %v", w, i, ok)
		}
	}
}

// All Ops' bits with all registers' bits, and numbers at the edges.
func TestDecodeOfRegisters(t *testing.T) {
	var x Table
	for op := range 256 {
		for a := range 16 {
			for b := range 16 {
				for _, imm := range goodImms {
					checkDecode(t, &x, Instr{op, a, b, imm})
				}
			}
		}
	}
}

// All Ops' bits with all numbers' bits.
func TestDecodeOfNumbers(t *testing.T) {
	var x Table
	for op := range 256 {
		for imm := -32768; imm <= 32767; imm++ {
			checkDecode(t, &x, Instr{Op: op, Imm: imm})
		}
	}
}

// checkDecode holds the word of which these are the parts, whether they make an instruction or none, against what it shall be decoded as.
func checkDecode(t *testing.T, x *Table, i Instr) {
	w := uint32(i.Op)<<24 | uint32(i.A)<<20 | uint32(i.B)<<16 | uint32(i.Imm)&0xFFFF
	_, ok := want(i)
	if !ok {
		i = Instr{}
	}
	if got, gotOK := x.Decode(w); got != i || gotOK != ok {
		t.Errorf("Decode(%08X): %v %v, not %v %v", w, got, gotOK, i, ok)
	}
}

// The zero table is filled by whichever question comes first.
func TestZeroTable(t *testing.T) {
	i := Instr{Op: Set, A: 1, Imm: 5}
	if x := new(Table); !x.Known(SysCall) || x.Known(0) {
		t.Error("Known first")
	}
	if x := new(Table); !x.Valid(i) || x.Valid(Instr{}) {
		t.Error("Valid first")
	}
	x := new(Table)
	if w, ok := x.Encode(i); w != 0x01100005 || !ok {
		t.Error("Encode first", w, ok)
	}
	x = new(Table)
	if got, ok := x.Decode(0x01100005); got != i || !ok {
		t.Error("Decode first", got, ok)
	}
	x = new(Table)
	if x.Known(25) || x.Known(-1) || !x.Known(Set) {
		t.Error("what is no Op first")
	}
}

func TestNilTable(t *testing.T) {
	var x *Table
	for op := -1; op <= 26; op++ {
		if x.Known(op) {
			t.Errorf("a nil table: Known(%d)", op)
		}
	}
	for _, op := range noOps {
		if x.Known(op) {
			t.Errorf("a nil table: Known(%d)", op)
		}
	}
	for _, e := range examples {
		if x.Valid(e.i) {
			t.Errorf("a nil table: Valid(%v)", e.i)
		}
		if w, ok := x.Encode(e.i); w != 0 || ok {
			t.Errorf("a nil table: Encode(%v): %08X %v", e.i, w, ok)
		}
		if i, ok := x.Decode(e.w); i != (Instr{}) || ok {
			t.Errorf("a nil table: Decode(%08X): %v %v", e.w, i, ok)
		}
	}
}

// A question leaves nothing that another one could tell (R5).
func TestAskedAgain(t *testing.T) {
	var x Table
	for range 3 {
		for _, e := range examples {
			check(t, &x, e.i)
			check(t, &x, Instr{Op: e.i.Op, A: 16, B: -1, Imm: 1 << 20})
			check(t, &x, Instr{Op: e.i.Op + 256})
		}
	}
}

// Promise 2.3.

func TestEncodedIsDecodedAsItWas(t *testing.T) {
	var x Table
	whose := map[uint32]Instr{}
	n := 0
	for op := 1; op <= 24; op++ {
		for a := range 16 {
			for b := range 16 {
				for _, imm := range goodImms {
					i := Instr{op, a, b, imm}
					w, ok := x.Encode(i)
					if !ok {
						continue
					}
					n++
					if other, ok := whose[w]; ok {
						t.Errorf("%v and %v have the word %08X", i, other, w)
					}
					whose[w] = i
					if back, ok := x.Decode(w); back != i || !ok {
						t.Errorf("Decode(Encode(%v)): %v %v", i, back, ok)
					}
				}
			}
		}
	}
	// 5 Ops of A and Imm, 10 of A and B, 5 of all three, 3 of Imm, 1 of A.
	if all := 5*16*12 + 10*16*16 + 5*16*16*12 + 3*12 + 16; n != all || len(whose) != all {
		t.Errorf("%d instructions, %d words, not %d", n, len(whose), all)
	}
}

// A word that is decoded is that instruction's word, and no other one's.
func TestDecodedIsEncodedAsItWas(t *testing.T) {
	var x Table
	for w, n := uint32(0), 0; n < 1<<20; w, n = w+0x10FFB, n+1 { // an odd step: words from all over, none twice
		if i, ok := x.Decode(w); ok {
			if back, ok := x.Encode(i); back != w || !ok {
				t.Errorf("Encode(Decode(%08X)): %08X %v", w, back, ok)
			}
		}
	}
}
