package lex

import "strings"

const (
	keywords = "break case catch continue debugger default delete do else finally for function if in instanceof new return" +
		" switch this throw try typeof var void while with class const enum export extends import super null true false" +
		" implements interface let package private protected public static yield"

	signs = ">>>= === !== >>> <<= >>= <= >= == != ++ -- << >> && || += -= *= %= &= |= ^= /=" +
		" { } ( ) [ ] . ; , < > + - * % & | ^ ! ~ ? : = /"
	longestSign = len(">>>=")
)

// kinds: of the words of a list, each with a kind of tokens.
func kinds(list string, kind int) map[string]int {
	words := strings.Fields(list)
	m := make(map[string]int, len(words))
	for _, w := range words {
		m[w] = kind
	}
	return m
}
