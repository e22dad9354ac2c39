package asm

import (
	"fmt"
	"math/big"
	"math/rand"
	"regexp"
	"slices"
	"strings"
	"testing"

	"onionskin/api"
)

// ops are the Ops from 1 on: the name, and the parts behind it (r: a register, n: a number, j: a number or a label).
var ops = []struct{ name, parts string }{
	{"set", "rn"}, {"high", "rn"}, {"mov", "rr"}, {"add", "rr"}, {"sub", "rr"}, {"mul", "rr"},
	{"div", "rr"}, {"and", "rr"}, {"or", "rr"}, {"xor", "rr"}, {"shl", "rr"}, {"shr", "rr"},
	{"addi", "rn"}, {"load", "rrn"}, {"store", "rrn"}, {"loadb", "rrn"}, {"storeb", "rrn"}, {"jmp", "j"},
	{"jz", "rj"}, {"jnz", "rj"}, {"jlt", "rrj"}, {"call", "j"}, {"ret", "r"}, {"sys", "n"},
}

// regNames are the registers' names.
var regNames = strings.Fields("r0 r1 r2 r3 r4 r5 r6 r7 r8 r9 r10 r11 r12 r13 r14 r15")

var (
	partForm   = regexp.MustCompile("[^ \t\r\v\f]+")
	numberForm = regexp.MustCompile(`^(0|-?[1-9][0-9]*)$`)
)

// pieces tells a line's parts.
func pieces(line string) []string {
	if i := strings.IndexByte(line, ';'); i >= 0 {
		line = line[:i]
	}
	return partForm.FindAllString(line, -1)
}

// number tells a number from low to high; is: it is a number at all; fits: it is one of these.
func number(s string, low, high int64) (n int64, is, fits bool) {
	if !numberForm.MatchString(s) {
		return 0, false, false
	}
	b, _ := new(big.Int).SetString(s, 10)
	if b.Cmp(big.NewInt(low)) < 0 || b.Cmp(big.NewInt(high)) > 0 {
		return 0, true, false
	}
	return b.Int64(), true, true
}

// wantWord tells the word that parts shall be, the here-th of its text; false: they are none.
func wantWord(p []string, labels map[string]int, here int) (uint32, bool) {
	if p[0] == "word" {
		if len(p) != 2 {
			return 0, false
		}
		n, _, fits := number(p[1], 0, 1<<32-1)
		return uint32(n), fits
	}
	op := slices.IndexFunc(ops, func(o struct{ name, parts string }) bool { return o.name == p[0] })
	if op < 0 || len(p)-1 != len(ops[op].parts) {
		return 0, false
	}
	regs, imm := [2]int{}, int64(0)
	for i, kind := range ops[op].parts {
		said := p[i+1]
		if kind == 'r' {
			r := slices.Index(regNames, said)
			if r < 0 {
				return 0, false
			}
			regs[i] = r
			continue
		}
		n, is, fits := number(said, -32768, 32767)
		if at, known := labels[said]; !is && kind == 'j' && known {
			n = int64(at - here)
			fits = n >= -32768 && n <= 32767
		}
		if !fits {
			return 0, false
		}
		imm = n
	}
	return uint32((op+1)<<24 + regs[0]<<20 + regs[1]<<16 + int(imm+65536)%65536), true
}

// want tells what Read shall answer.
func want(s string) ([]uint32, int, api.Errno) {
	labels := map[string]int{}
	n := 0
	lines := strings.Split(s, "\n")
	for i, line := range lines {
		p := pieces(line)
		if len(p) > 0 && p[0][len(p[0])-1] == ':' {
			label := p[0][:len(p[0])-1]
			if _, twice := labels[label]; twice || label == "" {
				return nil, i + 1, api.EFORM
			}
			labels[label] = n
			p = p[1:]
		}
		if len(p) > 0 {
			n++
		}
	}
	var words []uint32
	for i, line := range lines {
		p := pieces(line)
		if len(p) > 0 && p[0][len(p[0])-1] == ':' {
			p = p[1:]
		}
		if len(p) == 0 {
			continue
		}
		w, ok := wantWord(p, labels, len(words))
		if !ok {
			return nil, i + 1, api.EFORM
		}
		if len(words) == 512 {
			return nil, i + 1, api.EBIG
		}
		words = append(words, w)
	}
	return words, 0, api.OK
}

// brief keeps what is told of a long text short.
func brief(s string) string {
	if len(s) > 200 {
		return fmt.Sprintf("%q.. (%d bytes)", s[:200], len(s))
	}
	return fmt.Sprintf("%q", s)
}

// expect holds what Read answers against what it shall answer, two times.
func expect(t *testing.T, s string, l []uint32, at int, e api.Errno) {
	t.Helper()
	for range 2 {
		gotL, gotAt, gotE := Read(s)
		if gotE != e || gotAt != at || !slices.Equal(gotL, l) {
			t.Errorf("Read(%s): %.8X %d %d, not %.8X %d %d", brief(s), gotL, gotAt, gotE, l, at, e)
			return
		}
	}
}

// reads expects a text to be read as these words.
func reads(t *testing.T, s string, l ...uint32) {
	t.Helper()
	expect(t, s, l, 0, api.OK)
}

// refuses expects a text to have an error in a line.
func refuses(t *testing.T, s string, at int, e api.Errno) {
	t.Helper()
	expect(t, s, nil, at, e)
}

// holds expects of a text what the test's own reading tells.
func holds(t *testing.T, s string) {
	t.Helper()
	l, at, e := want(s)
	expect(t, s, l, at, e)
}

// Promise 3.1.

func TestReadExamples(t *testing.T) {
	reads(t, "a: jmp a", 0x12000000)
	reads(t, "set r1 5", 0x01100005)
	reads(t, "l: addi r1 -1\njnz r1 l", 0x0D10FFFF, 0x1410FFFF)
	reads(t, "word 4294967295\nword 0", 0xFFFFFFFF, 0)
	reads(t, "load r15 r3 -32768\nstoreb r0 r10 32767\nsys 7\nret r12", 0x0EF38000, 0x110A7FFF, 0x18000007, 0x17C00000)
}

// example tells parts that may stand behind an Op's name, and the word that they are of.
func example(op int) ([]string, uint32) {
	var p []string
	w := uint32(op+1) << 24
	for i, kind := range ops[op].parts {
		switch {
		case kind != 'r':
			p, w = append(p, "-3"), w|0xFFFD
		case i == 0:
			p, w = append(p, "r11"), w|11<<20
		default:
			p, w = append(p, "r6"), w|6<<16
		}
	}
	return p, w
}

func TestReadEachOp(t *testing.T) {
	for op, o := range ops {
		p, w := example(op)
		line := func(p ...string) string { return "word 9\n" + o.name + " " + strings.Join(p, " ") + "\nword 8\n" }
		reads(t, line(p...), 9, w, 8)
		refuses(t, line(p[:len(p)-1]...), 2, api.EFORM)
		refuses(t, line(p[1:]...), 2, api.EFORM)
		for _, more := range []string{"r0", "r6", "0", "-3", "x", ":"} {
			refuses(t, line(append(slices.Clone(p), more)...), 2, api.EFORM)
			refuses(t, line(append([]string{more}, p...)...), 2, api.EFORM)
		}
		for i := range p {
			for _, other := range []string{"r6", "-3", "x", "word", o.name, "x:", ",", "r11,"} {
				q := slices.Clone(p)
				q[i] = other
				holds(t, line(q...))
			}
		}
		reads(t, "x: "+o.name+" "+strings.Join(p, " "), w)
		for _, name := range []string{strings.ToUpper(o.name), strings.ToUpper(o.name[:1]) + o.name[1:], o.name + "q", "q" + o.name, o.name + ","} {
			refuses(t, name+" "+strings.Join(p, " "), 1, api.EFORM)
		}
	}
	for _, s := range []string{"foo", "nop", "0", "1", "r1", "Word 1", "words 1", "wor 1", "-", "\x00", "addi: r1 1", "sub", "jmp", "ret", "sys"} {
		refuses(t, s, 1, api.EFORM)
	}
}

func TestReadBlanks(t *testing.T) {
	for _, b := range []string{" ", "\t", "\r", "\v", "\f", "  ", " \t\r\v\f", "\f\v\r\t ", "\r\r"} {
		reads(t, strings.ReplaceAll("_a:_jlt_r1_r2_a_\n_\nword_5_;x\n_", "_", b), 0x15120000, 5)
		reads(t, b)
		reads(t, "set r1 5"+b, 0x01100005)
		reads(t, b+"set r1 5", 0x01100005)
		refuses(t, "set r1"+b+b, 1, api.EFORM)
		refuses(t, "se"+b+"t r1 5", 1, api.EFORM)
		refuses(t, b+":"+b+"set r1 5", 1, api.EFORM)
	}
	for _, no := range []string{"\x00", "\x07", "\b", "\x1B", "\x1C", "\x1F", "\x7F", "\x85", "\xA0", "\u0085", "\u00A0", "\u1680", "\u2003", "\u2028", "\u2029", "\u3000", "\uFEFF", ",", "_"} {
		refuses(t, "word 1\nset"+no+"r1 5", 2, api.EFORM)
		refuses(t, "set r1 5"+no, 1, api.EFORM)
		refuses(t, no+"set r1 5", 1, api.EFORM)
		refuses(t, no, 1, api.EFORM)
		reads(t, "a"+no+"b: jmp a"+no+"b", 0x12000000)
		reads(t, "sys 1;"+no, 0x18000001)
	}
}

func TestReadLines(t *testing.T) {
	for _, s := range []string{"", "\n", "\n\n\n", ";", ";\n", "; all that is said is nothing", " ; a: b: set\n;;;\n\t\n", "a:", "a:\n", "a:\nb: ; set r1 5\nc:;c:\n", "\r\n\r\n"} {
		reads(t, s)
	}
	reads(t, "word 1\nword 2", 1, 2)
	reads(t, "word 1\nword 2\n", 1, 2)
	reads(t, "word 1\nword 2\n\n\n", 1, 2)
	reads(t, "word 1\r\nword 2\r\n", 1, 2)
	reads(t, "\n\n; one\nword 1\n\n;two\n word 2 ; two\n;", 1, 2)
	reads(t, "word 7; 8\nword 9;10;11", 7, 9)
	reads(t, "word 12;3\nword 4;", 12, 4)
	reads(t, "a:;jmp a\nword 1\nb: ;jmp b\njmp a;b", 1, 0x1200FFFF)
	refuses(t, "word ;7", 1, api.EFORM)
	refuses(t, "word 1 word 2", 1, api.EFORM)
	refuses(t, "word 1\rword 2", 1, api.EFORM)
	refuses(t, "word\n1", 1, api.EFORM)
	refuses(t, "word 1 # 2", 1, api.EFORM)
	refuses(t, "\n\n;\na:\nword 1\nb:\n\nfoo", 8, api.EFORM)
	refuses(t, "foo\n", 1, api.EFORM)
	refuses(t, "\nfoo\n", 2, api.EFORM)
}

// jumps are what a label may stand behind, and the word of that with the number 0.
var jumps = []struct {
	said string
	w    uint32
}{{"jmp", 0x12000000}, {"jz r3", 0x13300000}, {"jnz r3", 0x14300000}, {"jlt r3 r4", 0x15340000}, {"call", 0x16000000}}

func TestReadLabels(t *testing.T) {
	reads(t, "set r1 10\nloop: addi r1 -1 ; down\n\tjnz r1 loop\n  call end\nend:\n\tret r15\nword 5\n",
		0x0110000A, 0x0D10FFFF, 0x1410FFFF, 0x16000001, 0x17F00000, 5)
	for _, j := range jumps {
		reads(t, j.said+" a\na: word 1", j.w|1, 1)
		reads(t, j.said+" a\nword 1\nword 2\na:", j.w|3, 1, 2)
		reads(t, "a: "+j.said+" a", j.w)
		reads(t, "a:\n\n"+j.said+" a", j.w)
		reads(t, "a: word 1\nword 2\n"+j.said+" a", 1, 2, j.w|0xFFFE)
		refuses(t, j.said+" a", 1, api.EFORM)
		refuses(t, "a: b: "+j.said+" a", 1, api.EFORM)
		refuses(t, "a: "+j.said+" a:", 1, api.EFORM)
		refuses(t, "a: "+j.said+" A", 1, api.EFORM)
		refuses(t, "a: "+j.said+" aa", 1, api.EFORM)
		refuses(t, "aa: "+j.said+" a", 1, api.EFORM)
	}
	reads(t, "a:\nb:\n\n;\nc: word 1\nd:\njmp a\njmp b\njmp c\njmp d",
		1, 0x1200FFFF, 0x1200FFFE, 0x1200FFFD, 0x1200FFFD)
	reads(t, "a:\njmp end\n;x:\n\nend:\n", 0x12000001)
	reads(t, "word: word 1\nset: jmp word\njmp set\nr1: jz r1 r1\njmp r1", 1, 0x1200FFFF, 0x1200FFFF, 0x13100000, 0x1200FFFF)
	reads(t, "a::\nword 1\n::: jmp a:\njmp ::", 1, 0x1200FFFF, 0x1200FFFF)
	reads(t, "\xFF\u00E9,(): call \xFF\u00E9,()", 0x16000000)
	refuses(t, "a;: word 1\njmp a", 1, api.EFORM)
	refuses(t, "a :\nword 1", 1, api.EFORM)
	refuses(t, "a:word 1", 1, api.EFORM)
	refuses(t, "word 1 a:", 1, api.EFORM)
}

func TestReadLabelsThatMayNotBe(t *testing.T) {
	refuses(t, ":", 1, api.EFORM)
	refuses(t, "word 1\n : word 1", 2, api.EFORM)
	refuses(t, "a: set r1 1\na: ret r1", 2, api.EFORM)
	refuses(t, "a:\nb:\n\na:", 4, api.EFORM)
	refuses(t, "a:\nb:\nb:\na:", 3, api.EFORM)
	refuses(t, "word 1\na:\na:\n:", 3, api.EFORM)
	refuses(t, ":\na:\na:", 1, api.EFORM)
	refuses(t, "5:\n5:", 2, api.EFORM)
	reads(t, "a:\nA:\na::\n;a:\naa:")
}

func TestReadLabelsAreNoNumbers(t *testing.T) {
	reads(t, "word 1\nword 2\n7: jmp 7\n-7: jmp -7\n0: jmp 0\nword 3", 1, 2, 0x12000007, 0x1200FFF9, 0x12000000, 3)
	for _, n := range []string{"32768", "-32769", "65536", "4294967296", "9223372036854775808", "-9223372036854775809", "100000000000000000000000000000"} {
		refuses(t, n+": word 1\njmp "+n, 2, api.EFORM)
	}
	for _, no := range []string{"05", "-0", "+5", "00", "-05", "--5", "5-", "-", "+", "0x5", "5x", "1_0", "1e1", "5.", "\u0665", "\uFF15"} {
		reads(t, "word 1\nword 2\n"+no+": jmp "+no, 1, 2, 0x12000000)
		refuses(t, "jmp "+no, 1, api.EFORM)
	}
}

func TestReadLabelsWhereNoneMayStand(t *testing.T) {
	for op, o := range ops {
		p, w := example(op)
		for i, kind := range o.parts {
			q := slices.Clone(p)
			q[i] = "a"
			s := "a: " + o.name + " " + strings.Join(q, " ")
			if kind == 'j' {
				reads(t, s, w&0xFFFF0000)
			} else {
				refuses(t, s, 1, api.EFORM)
			}
		}
	}
	refuses(t, "a: word a", 1, api.EFORM)
	refuses(t, "r16: jz r16 0", 1, api.EFORM)
	refuses(t, "a: a", 1, api.EFORM)
}

func TestReadRegisters(t *testing.T) {
	for n, name := range regNames {
		reads(t, "ret "+name, 0x17000000|uint32(n)<<20)
		reads(t, "mov "+name+" r5", 0x03050000|uint32(n)<<20)
		reads(t, "mov r5 "+name, 0x03500000|uint32(n)<<16)
		reads(t, "storeb r5 "+name+" 1", 0x11500001|uint32(n)<<16)
	}
	for _, no := range []string{"r16", "r01", "r00", "r015", "r-1", "r-0", "r+1", "r", "R1", "1", "rr1", "r1r", "r1,", "r1.", "r17", "r99", "r255", "r256", "r4294967297", "r18446744073709551617", "r1:", "-r1", "r\u0661"} {
		refuses(t, "ret "+no, 1, api.EFORM)
		refuses(t, "mov "+no+" r5", 1, api.EFORM)
		refuses(t, "mov r5 "+no, 1, api.EFORM)
		refuses(t, "jlt r5 "+no+" 1", 1, api.EFORM)
	}
}

func TestReadNumbers(t *testing.T) {
	for s, w := range map[string]uint32{"0": 0, "1": 1, "-1": 0xFFFF, "10": 10, "100": 100, "32767": 0x7FFF, "-32768": 0x8000, "-32767": 0x8001, "-10": 0xFFF6} {
		for op, o := range ops {
			p, full := example(op)
			if o.parts[len(p)-1] == 'r' {
				continue
			}
			p[len(p)-1] = s
			reads(t, o.name+" "+strings.Join(p, " "), full&0xFFFF0000|w)
		}
	}
	for _, s := range []string{"32768", "-32769", "65535", "65536", "-65535", "-65536", "4294967295", "4294967296", "4294967297", "18446744073709551616", "18446744073709551617", "-18446744073709551615", "00", "05", "-0", "-00", "-05", "+5", "+0", "--1", "-", "+", "0x1", "1_0", "0b1", "1e2", "1.0", "5a", "a5", "5,", "#5", "\u0665", "r1"} {
		for op, o := range ops {
			p, _ := example(op)
			if o.parts[len(p)-1] == 'r' {
				continue
			}
			p[len(p)-1] = s
			refuses(t, o.name+" "+strings.Join(p, " "), 1, api.EFORM)
		}
	}
}

func TestReadWordNumbers(t *testing.T) {
	for s, w := range map[string]uint32{"0": 0, "1": 1, "32768": 32768, "65536": 65536, "2147483647": 1<<31 - 1, "2147483648": 1 << 31, "4294967294": 0xFFFFFFFE, "4294967295": 0xFFFFFFFF} {
		reads(t, "word "+s, w)
	}
	for _, s := range []string{"", "4294967296", "4294967297", "18446744073709551615", "18446744073709551616", "100000000000000000000000", "-1", "-0", "-4294967295", "+1", "00", "01", "0x1", "1_0", "a", "r1", "1 1", "1 r1"} {
		refuses(t, "word "+s, 1, api.EFORM)
	}
}

// A jump so far that its number does not fit is no word; one that fits is one, though there are too many words then.
func TestReadFarJumps(t *testing.T) {
	for _, j := range jumps {
		refuses(t, j.said+" end\n"+strings.Repeat("word 1\n", 32766)+"end:", 513, api.EBIG)
		refuses(t, j.said+" end\n"+strings.Repeat("word 1\n", 32767)+"end:", 1, api.EFORM)
		refuses(t, j.said+" end\n"+strings.Repeat("word 1\n", 65535)+"end:", 1, api.EFORM)
	}
	far := "a: " + strings.Repeat("word 1\n", 511)
	reads(t, far+"jmp a", append(slices.Repeat([]uint32{1}, 511), 0x12000000|(65536-511))...)
	reads(t, "jmp a\n"+strings.Repeat("word 1\n", 511)+"a:", append([]uint32{0x12000200}, slices.Repeat([]uint32{1}, 511)...)...)
}

func TestReadTooLong(t *testing.T) {
	full := strings.Repeat("word 1\n", 512)
	ones := slices.Repeat([]uint32{1}, 512)
	if MaxWords != 512 {
		t.Error(MaxWords)
	}
	reads(t, full, ones...)
	reads(t, full+"a:\n\n;word 2\n \t\n", ones...)
	refuses(t, full+"word 1", 513, api.EBIG)
	refuses(t, full+"word 1\n", 513, api.EBIG)
	refuses(t, full+"\n;\na:\nb: ret r1", 516, api.EBIG)
	refuses(t, "\n\n"+full+"word 1\nword 1", 515, api.EBIG)
	refuses(t, full+"foo", 513, api.EFORM)
	refuses(t, full+"word 1\nfoo", 513, api.EBIG)
	refuses(t, full+"\nfoo\nword 1", 514, api.EFORM)
	refuses(t, strings.Replace(full, "1", "x", 1)+"word 1", 1, api.EFORM)
	refuses(t, full+"word 1\n:", 514, api.EFORM)
	refuses(t, full+"a: word 1\nword 1\na:", 515, api.EFORM)
	refuses(t, full+"jmp a\na:", 513, api.EBIG)
	refuses(t, full+"jmp a", 513, api.EFORM)
}

func TestReadWhichErrorIsTold(t *testing.T) {
	refuses(t, "foo\nbar", 1, api.EFORM)
	refuses(t, "word 1\nfoo\nbar", 2, api.EFORM)
	refuses(t, "foo\n:", 2, api.EFORM)
	refuses(t, "foo\nword 1\na:\njmp b\na:", 5, api.EFORM)
	refuses(t, "a:\na: foo\nbar", 2, api.EFORM)
	refuses(t, "a: foo\nb:\nc:", 1, api.EFORM)
	refuses(t, "jmp b\nfoo", 1, api.EFORM)
}

// words are parts of which the texts are made that Read is held against the test's own reading with.
var words = strings.Fields("set high mov add sub mul div and or xor shl shr addi load store loadb storeb jmp jz jnz jlt call ret sys word " +
	"r0 r1 r15 r16 r01 0 1 5 -1 -0 05 +5 32767 32768 -32768 -32769 4294967295 4294967296 a b 7 a: b: 7: c: : r1: ;")

// anyLine tells a line by chance, one that may be a word's more often than not.
func anyLine(r *rand.Rand) string {
	var p []string
	if r.Intn(4) == 0 {
		p = append(p, fmt.Sprintf("%c%d:", 'a'+r.Intn(3), r.Intn(30)))
	}
	switch k := r.Intn(10); {
	case k == 0:
		for range r.Intn(6) {
			p = append(p, words[r.Intn(len(words))])
		}
	case k == 1:
	case k == 2:
		p = append(p, "word", fmt.Sprint(r.Uint32()))
	default:
		o := ops[r.Intn(len(ops))]
		p = append(p, o.name)
		for _, kind := range o.parts {
			switch {
			case kind == 'r':
				p = append(p, regNames[r.Intn(16)])
			case kind == 'j' && r.Intn(2) == 0:
				p = append(p, fmt.Sprintf("%c%d", 'a'+r.Intn(3), r.Intn(30)))
			default:
				p = append(p, fmt.Sprint(r.Intn(65536)-32768))
			}
		}
	}
	blanks := []string{" ", " ", "\t", "\r", "\v", "\f", "  "}
	s := strings.Join(p, blanks[r.Intn(len(blanks))])
	if r.Intn(5) == 0 {
		s = blanks[r.Intn(len(blanks))] + s + " ; a: jmp a"
	}
	return s
}

func TestReadAnyText(t *testing.T) {
	r := rand.New(rand.NewSource(3))
	good := 0
	for range 20000 {
		var lines []string
		for range r.Intn(8) {
			lines = append(lines, anyLine(r))
		}
		s := strings.Join(lines, "\n")
		if r.Intn(2) == 0 {
			s += "\n"
		}
		holds(t, s)
		if l, _, e := want(s); e == api.OK && len(l) > 1 {
			good++
		}
	}
	if good < 1000 {
		t.Error("few texts are programs: ", good)
	}
}

func TestReadAnyBytes(t *testing.T) {
	r := rand.New(rand.NewSource(4))
	from := "aj:; \n\t\r\v\f0159-rset\x00\xFF\xC2\xA0\x85word jmp \nword 1\na:"
	for range 20000 {
		b := make([]byte, r.Intn(24))
		for i := range b {
			b[i] = from[r.Intn(len(from))]
		}
		holds(t, string(b))
	}
}

// What is answered is the asker's own (R4).
func TestReadSharesNothing(t *testing.T) {
	s := "a: set r1 5\njmp a"
	l, _, _ := Read(s)
	m, _, _ := Read(s)
	l[0], l[1] = 0, 0
	if !slices.Equal(m, []uint32{0x01100005, 0x1200FFFF}) {
		t.Errorf("%X", m)
	}
	reads(t, s, 0x01100005, 0x1200FFFF)
}

// Promise 3.2.

// writes expects words to be written as a text, two times, and to stay as they are; behind them stands what is not theirs.
func writes(t *testing.T, s string, l ...uint32) {
	t.Helper()
	longer := append(slices.Clone(l), 0x01100005, 7)
	for range 2 {
		if got := Write(longer[:len(l)]); got != s {
			t.Errorf("Write(%.8X): %s, not %s", l, brief(got), brief(s))
		}
	}
	if !slices.Equal(longer, append(slices.Clone(l), 0x01100005, 7)) {
		t.Errorf("Write(%.8X) changed it to %.8X", l, longer)
	}
}

func TestWriteExamples(t *testing.T) {
	writes(t, "")
	writes(t, "jmp 0\n", 0x12000000)
	writes(t, "set r1 5\n", 0x01100005)
	writes(t, "addi r1 -1\njnz r1 -1\n", 0x0D10FFFF, 0x1410FFFF)
	writes(t, "set r1 10\naddi r1 -1\njnz r1 -1\ncall 1\nret r15\nword 5\n",
		0x0110000A, 0x0D10FFFF, 0x1410FFFF, 0x16000001, 0x17F00000, 5)
	if s := Write([]uint32{}); s != "" {
		t.Errorf("%q", s)
	}
}

func TestWriteEachOp(t *testing.T) {
	for op, o := range ops {
		p, w := example(op)
		writes(t, o.name+" "+strings.Join(p, " ")+"\n", w)
		if last := len(p) - 1; o.parts[last] != 'r' {
			for s, n := range map[string]uint32{"0": 0, "1": 1, "-1": 0xFFFF, "32767": 0x7FFF, "-32768": 0x8000} {
				p[last] = s
				writes(t, o.name+" "+strings.Join(p, " ")+"\n", w&0xFFFF0000|n)
			}
		}
	}
	for n, name := range regNames {
		writes(t, "ret "+name+"\nload "+name+" r3 0\nload r3 "+name+" 0\n",
			0x17000000|uint32(n)<<20, 0x0E030000|uint32(n)<<20, 0x0E300000|uint32(n)<<16)
	}
}

func TestWriteWordsOfNoInstruction(t *testing.T) {
	for _, w := range []uint32{
		0, 1, 5, 0xFFFF, 0x00FFFFFF, // no Op is 0
		0x19000000, 0x1A000000, 0x20000000, 0x7FFFFFFF, 0x80000000, 0x81100005, 0xFFFFFFFF, // nor 25 and above
		0x01010000, 0x02010000, 0x0D110001, // no B
		0x03120001, 0x0C128000, 0x17100001, // no Imm
		0x12100000, 0x16010000, 0x18F00000, // no A and no B
		0x13010000, 0x14118000, 0x17110000,
	} {
		writes(t, fmt.Sprintf("word %d\n", w), w)
		writes(t, fmt.Sprintf("ret r0\nword %d\nret r0\n", w), 0x17000000, w, 0x17000000)
	}
}

// Words beyond what a program may have are written too.
func TestWriteLong(t *testing.T) {
	writes(t, strings.Repeat("sys 1\n", 513), slices.Repeat([]uint32{0x18000001}, 513)...)
}

// Promise 3.3.

// back expects words to be read as they were written.
func back(t *testing.T, l []uint32) {
	t.Helper()
	s := Write(l)
	if got, at, e := Read(s); e != api.OK || at != 0 || !slices.Equal(got, l) {
		t.Errorf("%.8X is written as %s, and read as %.8X %d %d", l, brief(s), got, at, e)
	}
}

func TestWrittenIsRead(t *testing.T) {
	r := rand.New(rand.NewSource(5))
	back(t, nil)
	for n := range uint32(256) { // what is an Op's number, and what is none
		for regs := range uint32(256) {
			for _, imm := range []uint32{0, 1, 0x7FFF, 0x8000, 0xFFFF} {
				back(t, []uint32{n<<24 | regs<<16 | imm})
			}
		}
	}
	for range 200 {
		l := make([]uint32, r.Intn(513))
		for i := range l {
			l[i] = r.Uint32() >> (r.Intn(6) * r.Intn(2))
		}
		back(t, l)
	}
	back(t, slices.Repeat([]uint32{0x12008000}, 512))
	refuses(t, Write(slices.Repeat([]uint32{0x12008000}, 513)), 513, api.EBIG)
}
