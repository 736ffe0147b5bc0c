package scan_test

import (
	"reflect"
	"strings"
	"testing"

	"counterproof/api"
	"counterproof/scan"
)

func tok(kind int, text string, n, line int) api.Token {
	return api.Token{Kind: kind, Text: text, N: n, Line: line}
}

var words = []string{"int", "if", "else", "while", "break", "continue", "return", "print", "read", "trap"}
var signs = strings.Fields("( ) { } [ ] , ; = | ^ & + - * / % ! ~ < > == != <= >= << >>")

func TestNameAndWord(t *testing.T) { // S1
	for _, w := range words {
		if !scan.Word(w) || scan.Name(w) || scan.Word(w+"x") || !scan.Name(w+"x") || scan.Word(strings.ToUpper(w)) {
			t.Error(w)
		}
	}
	for _, s := range []string{"a", "z", "A", "Z", "_", "aAzZ_09", "a0", "_9", "zZ_09", "int1", "Int", strings.Repeat("a", 20)} {
		if !scan.Name(s) || scan.Word(s) {
			t.Error(s)
		}
	}
	for _, s := range []string{"", "0", "9a", "a b", "a-", "é", "aé", "a\x00", "a\xff", " a", "a ", strings.Repeat("a", 21), "[", "`", "@", "{"} {
		if scan.Name(s) || scan.Word(s) {
			t.Error(s)
		}
	}
}

func TestTokens(t *testing.T) { // S2
	for _, x := range []struct {
		s    string
		want []api.Token
	}{
		{"", []api.Token{tok(api.TokEnd, "", 0, 1)}},
		{"\n\n", []api.Token{tok(api.TokEnd, "", 0, 3)}},
		{"x1 = 'é';", []api.Token{tok(api.TokName, "x1", 0, 1), tok(api.TokSign, "=", 0, 1), tok(api.TokNumber, "'é'", 233, 1), tok(api.TokSign, ";", 0, 1), tok(api.TokEnd, "", 0, 1)}},
		{"12ab 0x", []api.Token{tok(api.TokNumber, "12", 12, 1), tok(api.TokName, "ab", 0, 1), tok(api.TokNumber, "0", 0, 1), tok(api.TokName, "x", 0, 1), tok(api.TokEnd, "", 0, 1)}},
		{"9223372036854775807", []api.Token{tok(api.TokNumber, "9223372036854775807", 1<<63-1, 1), tok(api.TokEnd, "", 0, 1)}},
		{"a\r\n\tif//x\xc3\xa9 'é\n-- b", []api.Token{tok(api.TokName, "a", 0, 1), tok(api.TokWord, "if", 0, 2), tok(api.TokSign, "-", 0, 3), tok(api.TokSign, "-", 0, 3), tok(api.TokName, "b", 0, 3), tok(api.TokEnd, "", 0, 3)}},
		{"<<=>>===!==", []api.Token{tok(api.TokSign, "<<", 0, 1), tok(api.TokSign, "=", 0, 1), tok(api.TokSign, ">>", 0, 1), tok(api.TokSign, "==", 0, 1), tok(api.TokSign, "=", 0, 1), tok(api.TokSign, "!=", 0, 1), tok(api.TokSign, "=", 0, 1), tok(api.TokEnd, "", 0, 1)}},
		{"'/''\"'' ''\x7f''\U0010ffff'", []api.Token{tok(api.TokNumber, "'/'", 47, 1), tok(api.TokNumber, "'\"'", 34, 1), tok(api.TokNumber, "' '", 32, 1), tok(api.TokNumber, "'\x7f'", 127, 1), tok(api.TokNumber, "'\U0010ffff'", 0x10ffff, 1), tok(api.TokEnd, "", 0, 1)}},
		{"a/ /b//", []api.Token{tok(api.TokName, "a", 0, 1), tok(api.TokSign, "/", 0, 1), tok(api.TokSign, "/", 0, 1), tok(api.TokName, "b", 0, 1), tok(api.TokEnd, "", 0, 1)}},
	} {
		got, e, line := scan.Scan(x.s)
		if e != api.OK || line != 0 || !reflect.DeepEqual(got, x.want) {
			t.Errorf("%q: %v %d %d", x.s, got, e, line)
		}
	}
	for _, s := range signs {
		if got, e, _ := scan.Scan(s); e != api.OK || !reflect.DeepEqual(got, []api.Token{tok(api.TokSign, s, 0, 1), tok(api.TokEnd, "", 0, 1)}) {
			t.Error(s, got, e)
		}
	}
}

func TestNoTokens(t *testing.T) { // S2, wrong inputs
	for _, x := range []struct {
		s    string
		line int
	}{
		{"00", 1}, {"\n01", 2}, {"9223372036854775808", 1}, {"99999999999999999999999", 1}, {strings.Repeat("a", 21), 1}, {"\n\n" + strings.Repeat("_", 400), 3},
		{"'", 1}, {"''", 1}, {"'''", 1}, {"'\\'", 1}, {"'\n'", 1}, {"'\t'", 1}, {"'ab'", 1}, {"'a", 1}, {"a\n'\x1f'", 2}, {"'\xff'", 1}, {"'\uFFFD'", 1}, {"'\xc3'", 1},
		{"a $", 1}, {"\"", 1}, {"a\n\n#", 3}, {"é", 1}, {"\x00", 1}, {"\v", 1}, {"\f", 1}, {"\\", 1}, {"?", 1}, {":", 1}, {".", 1}, {"\xff", 1}, {"\u00a0", 1},
		{"x\n// a\xff", 2}, {"// \uFFFD", 1}, {"//\n\n//\n//\xe2\x82", 4}, {"$\n01", 1},
	} {
		if got, e, line := scan.Scan(x.s); len(got) != 0 || e != api.ErrLex || line != x.line {
			t.Errorf("%q: %v %d %d", x.s, got, e, line)
		}
	}
}

func TestTooLong(t *testing.T) { // S2, the limit
	if got, e, line := scan.Scan(strings.Repeat(" ", 20001)); len(got) != 0 || e != api.ErrArg || line != 0 {
		t.Error(got, e, line)
	}
	if got, e, _ := scan.Scan(strings.Repeat("$", 20001)); len(got) != 0 || e != api.ErrArg {
		t.Error(got, e)
	}
	if got, e, line := scan.Scan(strings.Repeat("+", 20000)); len(got) != 20001 || e != api.OK || line != 0 {
		t.Error(len(got), e, line)
	}
}

func TestTheorem(t *testing.T) { // S3
	kinds := map[string]int{"a": api.TokName, "_b9": api.TokName, "7": api.TokNumber, "'+'": api.TokNumber}
	all := []string{"a", "_b9", "7", "'+'"}
	for _, w := range words {
		kinds[w] = api.TokWord
		all = append(all, w)
	}
	for _, s := range signs {
		kinds[s] = api.TokSign
		all = append(all, s)
	}
	gaps := []string{" ", "\t\n", "// é\n", " //a'\"\n\r"}
	for seed := range 50 {
		var one, other strings.Builder
		other.WriteString(gaps[seed%4])
		var want []string
		for i := range 30 {
			s := all[(seed*7+i*i*3+i)%len(all)]
			want = append(want, s)
			one.WriteString(s + " ")
			other.WriteString(s + " " + gaps[(seed+i)%4])
		}
		a, e, _ := scan.Scan(one.String())
		b, f, _ := scan.Scan(other.String())
		if e != api.OK || f != api.OK || len(a) != len(want)+1 || len(b) != len(a) {
			t.Fatal(one.String(), e, f)
		}
		for i := range a {
			if i < len(want) && (a[i].Text != want[i] || a[i].Kind != kinds[want[i]]) {
				t.Error(a[i], want[i])
			}
			a[i].Line, b[i].Line = 0, 0
		}
		if !reflect.DeepEqual(a, b) {
			t.Error(seed)
		}
	}
}

func FuzzScan(f *testing.F) {
	f.Add("int main() { print('é' + 07); } // \xff")
	f.Fuzz(func(t *testing.T, s string) {
		got, e, line := scan.Scan(s)
		if (e == api.OK) != (line == 0 && len(got) > 0) && e != api.ErrArg {
			t.Error(got, e, line)
		}
		if e == api.ErrLex && (line < 1 || line > 1+strings.Count(s, "\n") || len(got) > 0) {
			t.Error(line)
		}
	})
}
