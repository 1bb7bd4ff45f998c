package tests

import (
	"fmt"
	"math/rand"
	"reflect"
	"regexp"
	"slices"
	"strings"
	"testing"

	"loop.example/g03011/impl"
)

// Promise 14: tokens stand where they say.

func inlineAt(at int, s string) impl.Token { return impl.Token{Kind: 1, Text: s, At: at} }
func varAt(at int, s string) impl.Token    { return impl.Token{Kind: 2, Text: s, At: at} }
func nameAt(at int, s string) impl.Token   { return impl.Token{Kind: 3, Text: s, At: at} }
func intAt(at int, n int) impl.Token       { return impl.Token{Kind: 4, Num: n, At: at} }
func textAt(at int, s string) impl.Token   { return impl.Token{Kind: 5, Text: s, At: at} }
func markAt(at int, s string) impl.Token   { return impl.Token{Kind: 6, Text: s, At: at} }

// documentMarks has the marks in the order of the document.
func documentMarks() []string {
	return strings.Fields("=== !== <=> == != <= >= => -> :: && || ?? + - * / % . = ! < > ( ) [ ] { } , ; ? : &")
}

// codeForm is one form of what may stand in code. Its first group is what it takes off.
type codeForm struct {
	kind int
	form *regexp.Regexp
}

const (
	formOfClosing = -1
	formOfSpace   = -2
)

// codeForms has the forms in the order in which the document tries them.
var codeForms = []codeForm{
	{formOfClosing, regexp.MustCompile(`^(\?>\n?)`)},
	{formOfSpace, regexp.MustCompile(`^([ \t\n\r])`)},
	{formOfSpace, regexp.MustCompile(`^(?s:(//.*?)(?:\n|\?>|\z))`)},
	{impl.TokMark, regexp.MustCompile(`^(===|!==|<=>|==|!=|<=|>=|=>|->|::|&&|\|\||\?\?|[-+*/%.=!<>()[\]{},;?:&])`)},
	{impl.TokVar, regexp.MustCompile(`^(\$[a-zA-Z_][a-zA-Z0-9_]*)`)},
	{impl.TokName, regexp.MustCompile(`^([a-zA-Z_][a-zA-Z0-9_]*)`)},
	{impl.TokInt, regexp.MustCompile(`^([0-9]+)`)},
	{impl.TokText, regexp.MustCompile(`^(?s:('(?:[^'\\]|\\.)*'))`)},
}

var (
	inlineForm  = regexp.MustCompile(`^(?s:(.*?)(<\?=|<\?|\z))`)
	integerForm = regexp.MustCompile(`^(?:0|[1-9][0-9]{0,8}|1000000000)$`)
	escapeForm  = regexp.MustCompile(`\\(['\\])`)
	wordForm    = regexp.MustCompile(`^[a-zA-Z_][a-zA-Z0-9_]{0,19}$`)
)

// lexResult is all that Lex returns.
type lexResult struct {
	tokens []impl.Token
	code   int
	at     int
}

func modelLex(s string) lexResult {
	if len(s) > 4000 {
		return lexResult{code: impl.LexLong}
	}
	var tokens []impl.Token
	inCode := false
	for at := 0; at < len(s); {
		if !inCode {
			found := inlineForm.FindStringSubmatch(s[at:])
			if found[1] != "" {
				tokens = append(tokens, inlineAt(at, found[1]))
			}
			if found[2] == "<?=" {
				tokens = append(tokens, nameAt(at+len(found[1]), "echo"))
			}
			at += len(found[0])
			inCode = true
			continue
		}
		kind, form := modelCode(s[at:])
		token, code := modelToken(kind, form, at)
		if code != impl.LexOK {
			return lexResult{code: code, at: at}
		}
		if kind != formOfSpace {
			tokens = append(tokens, token)
		}
		at += len(form)
		inCode = kind != formOfClosing
	}
	return lexResult{tokens: tokens}
}

func modelCode(s string) (int, string) {
	for _, f := range codeForms {
		if found := f.form.FindStringSubmatch(s); found != nil {
			return f.kind, found[1]
		}
	}
	if s[0] == '\'' {
		return impl.TokText, ""
	}
	return 0, ""
}

func modelToken(kind int, form string, at int) (impl.Token, int) {
	switch kind {
	case formOfClosing:
		return markAt(at, ";"), impl.LexOK
	case formOfSpace:
		return impl.Token{}, impl.LexOK
	case impl.TokMark, impl.TokName:
		return impl.Token{Kind: kind, Text: form, At: at}, impl.LexOK
	case impl.TokVar:
		return varAt(at, form[1:]), impl.LexOK
	case impl.TokInt:
		if !integerForm.MatchString(form) {
			return impl.Token{}, impl.LexNumber
		}
		n := 0
		fmt.Sscan(form, &n)
		return intAt(at, n), impl.LexOK
	case impl.TokText:
		if form == "" {
			return impl.Token{}, impl.LexText
		}
		text := escapeForm.ReplaceAllString(form[1:len(form)-1], "$1")
		if len(text) > 400 {
			return impl.Token{}, impl.LexText
		}
		return textAt(at, text), impl.LexOK
	}
	return impl.Token{}, impl.LexByte
}

func modelQuoted(s string) string {
	return "'" + strings.NewReplacer("'", `\'`, `\`, `\\`).Replace(s) + "'"
}

func lexed(s string) lexResult {
	tokens, code, at := impl.Lex(s)
	return lexResult{tokens, code, at}
}

func checkLexed(t *testing.T, s string, want lexResult) {
	t.Helper()
	got := lexed(s)
	if got.code != want.code || got.at != want.at || !slices.Equal(got.tokens, want.tokens) {
		t.Errorf("Lex(%s) = %.500s; want %.500s", cut(s), fmt.Sprintf("%+v", got), fmt.Sprintf("%+v", want))
	}
}

func checkTokens(t *testing.T, s string, want ...impl.Token) {
	t.Helper()
	checkLexed(t, s, lexResult{tokens: want})
	checkStand(t, s)
}

func checkFails(t *testing.T, s string, code, at int) {
	t.Helper()
	checkLexed(t, s, lexResult{code: code, at: at})
}

// codePrefix is a text behind which code begins, and its tokens.
type codePrefix struct {
	s      string
	tokens []impl.Token
}

func codePrefixes() []codePrefix {
	return []codePrefix{
		{"<? ", nil},
		{"<?\t\r\n", nil},
		{"a b<? ", []impl.Token{inlineAt(0, "a b")}},
		{"<<?= ", []impl.Token{inlineAt(0, "<"), nameAt(1, "echo")}},
		{"<??>\n\n<?//?>\n<?\n", []impl.Token{markAt(2, ";"), inlineAt(5, "\n"), markAt(10, ";")}},
		{"<?$a 7 ['?>'//'\n ", []impl.Token{varAt(2, "a"), intAt(5, 7), markAt(7, "["), textAt(8, "?>")}},
	}
}

// checkCode checks code that stands behind other code. The indexes of its tokens are those within it.
func checkCode(t *testing.T, code string, want ...impl.Token) {
	t.Helper()
	for _, p := range codePrefixes() {
		tokens := slices.Clone(p.tokens)
		for _, token := range want {
			token.At += len(p.s)
			tokens = append(tokens, token)
		}
		checkTokens(t, p.s+code, tokens...)
		// A newline ends what is still open.
		end := len(p.s + code)
		checkTokens(t, p.s+code+"\n;", append(tokens, markAt(end+1, ";"))...)
		checkTokens(t, p.s+code+"\n?>?>", append(tokens, markAt(end+1, ";"), inlineAt(end+3, "?>"))...)
	}
}

// checkCodeFails also has further tokens that fail: the first one counts.
func checkCodeFails(t *testing.T, s string, code, at int) {
	t.Helper()
	for _, p := range codePrefixes() {
		for _, behind := range []string{"", " ", "\n;", "\n@", "\n?> x", "\n00", "\n$", "\n@ 01 $ \\"} {
			checkFails(t, p.s+s+behind, code, len(p.s)+at)
		}
	}
}

// checkSourceAsModel reports whether all tokens of s are read.
func checkSourceAsModel(t *testing.T, s string) bool {
	t.Helper()
	checkLexed(t, s, modelLex(s))
	checkStand(t, s)
	return lexed(s).code == impl.LexOK
}

// gapForm is what may stand between two tokens.
var gapForm = regexp.MustCompile(`^(?:[ \t\n\r]|<\?|//[^\n]*(?:\n|$))*$`)

// checkStand checks the promise in its own words: every token stands at its index, in order, and between tokens is what gives none.
func checkStand(t *testing.T, s string) {
	t.Helper()
	r := lexed(s)
	if r.code != impl.LexOK {
		if len(r.tokens) != 0 || r.at < 0 || r.at > len(s) {
			t.Errorf("Lex(%s) fails with %+v", cut(s), r)
		}
		return
	}
	end := 0
	for i, token := range r.tokens {
		if token.At < end || token.At >= len(s) {
			t.Fatalf("the token %d of %s, %+v, begins ahead of %d or behind the source", i, cut(s), token, end)
		}
		size, isThere := standing(s[token.At:], token)
		gap := s[end:token.At]
		if !isThere || !gapForm.MatchString(gap) || strings.Contains(gap, "?>") {
			t.Fatalf("the token %d of %s, %+v, does not stand there, behind %q", i, cut(s), token, gap)
		}
		end = token.At + size
	}
	if gap := s[end:]; !gapForm.MatchString(gap) || strings.Contains(gap, "?>") {
		t.Fatalf("behind the last token of %s is %q", cut(s), gap)
	}
}

// standing reports whether the token stands at the front of s, and how many bytes it has there.
func standing(s string, token impl.Token) (int, bool) {
	form := token.Text
	switch {
	case token.Kind == impl.TokText:
		return standingText(s, token.Text)
	case token.Kind == impl.TokVar:
		form = "$" + token.Text
	case token.Kind == impl.TokInt:
		form = fmt.Sprint(token.Num)
	case token == nameAt(token.At, "echo") && strings.HasPrefix(s, "<?="):
		form = "<?="
	case token == markAt(token.At, ";") && strings.HasPrefix(s, "?>\n"):
		form = "?>\n"
	case token == markAt(token.At, ";") && strings.HasPrefix(s, "?>"):
		form = "?>"
	}
	return len(form), form != "" && strings.HasPrefix(s, form)
}

func standingText(s, text string) (int, bool) {
	at := 1
	for i := range len(text) {
		c := text[i]
		rest := s[min(at, len(s)):]
		switch {
		case (c == '\'' || c == '\\') && strings.HasPrefix(rest, `\`+string(rune(c))):
			at += 2
		case c != '\'' && strings.HasPrefix(rest, text[i:i+1]):
			at++
		default:
			return 0, false
		}
	}
	return at + 1, s[0] == '\'' && strings.HasPrefix(s[at:], "'")
}

func TestTokenConstants(t *testing.T) {
	got := []int{impl.TokInline, impl.TokVar, impl.TokName, impl.TokInt, impl.TokText, impl.TokMark, impl.LexOK, impl.LexLong, impl.LexByte, impl.LexText, impl.LexNumber, impl.MaxSource}
	if want := []int{1, 2, 3, 4, 5, 6, 0, 1, 2, 3, 4, 4000}; !slices.Equal(got, want) {
		t.Errorf("the constants are %v; want %v", got, want)
	}
}

func checkIsName(t *testing.T, s string, want bool) {
	t.Helper()
	if got := impl.IsName(s); got != want {
		t.Errorf("IsName(%s) = %v", cut(s), got)
	}
	if wordForm.MatchString(s) != want {
		t.Errorf("the test of the name %s is wrong", cut(s))
	}
}

func TestNames(t *testing.T) {
	for _, s := range []string{
		"a", "z", "A", "Z", "_", "b2", "_a1", "__", "_0", "a9", "Z0z", "snake_case_9", "echo", "if", "null", "x_", "abcdefghijklmnopqrs",
		"abcdefghijklmnopqrst", "ABCDEFGHIJKLMNOPQRST", "_1234567890123456789", strings.Repeat("_", 20), "uvwxyzUVWXYZ",
	} {
		checkIsName(t, s, true)
	}
	for _, s := range []string{
		"", "1", "0", "9", "1a", "0_", "9Z", "12", " ", "a ", " a", "a b", "a-b", "a.b", "$a", "a$", "a'", "a\n", "\na", "a\x00", "\x00", "a::b", "\\a",
		"abcdefghijklmnopqrstu", "_12345678901234567890", strings.Repeat("_", 21), strings.Repeat("a", 40), strings.Repeat("a", 4000), "1bcdefghijklmnopqrst", "abcdefghijklmnopqrs ",
		"\xc3\xa9", "a\xc3\xa9", "\xc3", "a\xff", "\xe4\xb8\x96", "\xd9\xa3", "a\xd9\xa3", "\xef\xbd\x81", "\xef\xbf\xbd", "\xc5\xbf", "\xe2\x84\xaa",
	} {
		checkIsName(t, s, false)
	}
	if impl.IsName(strings.Repeat("a", 1<<25)) {
		t.Error("a name may be as long as it likes")
	}
}

// TestEveryByteOfNames has each byte, among them those just inside and just outside the letters, the digits and the underscore.
func TestEveryByteOfNames(t *testing.T) {
	const letters, digits = "abcdefghijklmnopqrstuvwxyzABCDEFGHIJKLMNOPQRSTUVWXYZ_", "0123456789"
	for c := range 256 {
		s := string([]byte{byte(c)})
		begins, goesOn := strings.Contains(letters, s), strings.Contains(letters+digits, s)
		checkIsName(t, s, begins)
		checkIsName(t, s+"a", begins)
		checkIsName(t, s+"1", begins)
		checkIsName(t, "a"+s, goesOn)
		checkIsName(t, "_"+s+"b", goesOn)
		checkIsName(t, "a1"+s+"1", goesOn)
		checkIsName(t, strings.Repeat("a", 19)+s, goesOn)
		checkIsName(t, strings.Repeat("a", 20)+s, false)
	}
}

// TestTheExampleOfEveryKind has one token of each kind.
func TestTheExampleOfEveryKind(t *testing.T) {
	checkTokens(t, "a<? $x = 'it\\'s'; // end\n?>", inlineAt(0, "a"), varAt(4, "x"), markAt(7, "="), textAt(9, "it's"), markAt(16, ";"), markAt(25, ";"))
	checkTokens(t, "<p><?= $a['k'] + 10 ?></p>\n<? f($b->c, 'x'); ?>\nend",
		inlineAt(0, "<p>"), nameAt(3, "echo"), varAt(7, "a"), markAt(9, "["), textAt(10, "k"), markAt(13, "]"), markAt(15, "+"), intAt(17, 10), markAt(20, ";"),
		inlineAt(22, "</p>\n"), nameAt(30, "f"), markAt(31, "("), varAt(32, "b"), markAt(34, "->"), nameAt(36, "c"), markAt(37, ","), textAt(39, "x"), markAt(42, ")"), markAt(43, ";"), markAt(45, ";"), inlineAt(48, "end"))
}

func TestInlineText(t *testing.T) {
	checkTokens(t, "")
	for _, s := range append(plainTexts(), "a", "\n", "\n\n", " ", "?>", "?>\n", "a?>b", "<", "a<", "<<", "< ?", "<a?", "<\n?", "?<", "<=?", "$", "$1", "'", "'a", "\\", "@", "|", "00", "12345678901", "//", "// a\n", "echo", "=", "1", "\xff\x00", "\xc3\xa9", "<\x00?") {
		if s != "" {
			checkTokens(t, s, inlineAt(0, s))
			checkTokens(t, s+"<?", inlineAt(0, s))
			checkTokens(t, s+"<? 5 ?>x"+s, inlineAt(0, s), intAt(len(s)+3, 5), markAt(len(s)+5, ";"), inlineAt(len(s)+7, "x"+s))
			checkTokens(t, "<??>\n"+s+"<?= a", markAt(2, ";"), inlineAt(5, s), nameAt(5+len(s), "echo"), nameAt(9+len(s), "a"))
		}
	}
}

func TestOpeningTags(t *testing.T) {
	checkTokens(t, "<?")
	checkTokens(t, "a<?", inlineAt(0, "a"))
	checkTokens(t, "<?a", nameAt(2, "a"))
	checkTokens(t, "<?1", intAt(2, 1))
	checkTokens(t, "<? ")
	checkTokens(t, "<?\n")
	checkTokens(t, "<<?", inlineAt(0, "<"))
	checkTokens(t, "<<<?a", inlineAt(0, "<<"), nameAt(4, "a"))
	// Directly behind a closing tag.
	checkTokens(t, "<??><?", markAt(2, ";"))
	checkTokens(t, "<??><?a", markAt(2, ";"), nameAt(6, "a"))
	checkTokens(t, "<??>\n<?a", markAt(2, ";"), nameAt(7, "a"))
	checkTokens(t, "<??><??><??>", markAt(2, ";"), markAt(6, ";"), markAt(10, ";"))
	// In code, there are no opening tags.
	checkTokens(t, "<?<?", markAt(2, "<"), markAt(3, "?"))
	checkTokens(t, "<?<?=", markAt(2, "<"), markAt(3, "?"), markAt(4, "="))
	checkTokens(t, "<? <?>a", markAt(3, "<"), markAt(4, ";"), inlineAt(6, "a"))
	checkTokens(t, "<?>", markAt(2, ">"))
	checkTokens(t, "<?php", nameAt(2, "php"))
}

func TestEchoTags(t *testing.T) {
	checkTokens(t, "<?=", nameAt(0, "echo"))
	checkTokens(t, "a<?=", inlineAt(0, "a"), nameAt(1, "echo"))
	checkTokens(t, "<?=1", nameAt(0, "echo"), intAt(3, 1))
	checkTokens(t, "<?=b", nameAt(0, "echo"), nameAt(3, "b"))
	checkTokens(t, "<?= $x ?>", nameAt(0, "echo"), varAt(4, "x"), markAt(7, ";"))
	checkTokens(t, "<?=?>", nameAt(0, "echo"), markAt(3, ";"))
	checkTokens(t, "<?=//\n", nameAt(0, "echo"))
	checkTokens(t, "<??><?=", markAt(2, ";"), nameAt(4, "echo"))
	checkTokens(t, "<??>\n<?=a", markAt(2, ";"), nameAt(5, "echo"), nameAt(8, "a"))
	checkTokens(t, "<<?==", inlineAt(0, "<"), nameAt(1, "echo"), markAt(4, "="))
	checkTokens(t, "<?===", nameAt(0, "echo"), markAt(3, "=="))
	checkTokens(t, "<?====", nameAt(0, "echo"), markAt(3, "==="))
	checkTokens(t, "<?=>", nameAt(0, "echo"), markAt(3, ">"))
	checkTokens(t, "<?==>", nameAt(0, "echo"), markAt(3, "=>"))
	// The = must stand directly behind the tag.
	checkTokens(t, "<? =", markAt(3, "="))
	checkTokens(t, "<?\n=a", markAt(3, "="), nameAt(4, "a"))
	checkFails(t, "<?=@", impl.LexByte, 3)
	checkFails(t, "<?='", impl.LexText, 3)
	checkFails(t, "<?=01", impl.LexNumber, 3)
}

func TestTagsThatAreCutOff(t *testing.T) {
	checkTokens(t, "<", inlineAt(0, "<"))
	checkTokens(t, "a<", inlineAt(0, "a<"))
	checkTokens(t, "<<", inlineAt(0, "<<"))
	checkTokens(t, "<??><", markAt(2, ";"), inlineAt(4, "<"))
	checkTokens(t, "<??>\n<", markAt(2, ";"), inlineAt(5, "<"))
	checkTokens(t, "<??><?", markAt(2, ";"))
	checkTokens(t, "<? ?", markAt(3, "?"))
	checkTokens(t, "<??", markAt(2, "?"))
	checkTokens(t, "<?//?")
	checkTokens(t, "<?\n/", markAt(3, "/"))
	checkFails(t, "<?'?>", impl.LexText, 2)
	checkFails(t, "<?'<?", impl.LexText, 2)
}

func TestClosingTags(t *testing.T) {
	checkTokens(t, "<??>", markAt(2, ";"))
	checkTokens(t, "<??>\n", markAt(2, ";"))
	checkTokens(t, "<??>\n\n", markAt(2, ";"), inlineAt(5, "\n"))
	checkTokens(t, "<??>\n\n\n", markAt(2, ";"), inlineAt(5, "\n\n"))
	checkTokens(t, "<??>\r\n", markAt(2, ";"), inlineAt(4, "\r\n"))
	checkTokens(t, "<??>\n\r\n", markAt(2, ";"), inlineAt(5, "\r\n"))
	checkTokens(t, "<??>\r", markAt(2, ";"), inlineAt(4, "\r"))
	checkTokens(t, "<??> \n", markAt(2, ";"), inlineAt(4, " \n"))
	checkTokens(t, "<??>\t", markAt(2, ";"), inlineAt(4, "\t"))
	checkTokens(t, "<??>x", markAt(2, ";"), inlineAt(4, "x"))
	checkTokens(t, "<??>\nx", markAt(2, ";"), inlineAt(5, "x"))
	checkTokens(t, "<??>\n<?", markAt(2, ";"))
	checkTokens(t, "<??>\n\n<?", markAt(2, ";"), inlineAt(5, "\n"))
	checkTokens(t, "<?\n?>\n", markAt(3, ";"))
	checkTokens(t, "<?;?>", markAt(2, ";"), markAt(3, ";"))
	checkTokens(t, "<??>?>", markAt(2, ";"), inlineAt(4, "?>"))
	checkTokens(t, "<??>//", markAt(2, ";"), inlineAt(4, "//"))
	checkTokens(t, "<?a?>'", nameAt(2, "a"), markAt(3, ";"), inlineAt(5, "'"))
	checkTokens(t, "<?1?>2", intAt(2, 1), markAt(3, ";"), inlineAt(5, "2"))
	checkTokens(t, "<?$a?>", varAt(2, "a"), markAt(4, ";"))
	checkTokens(t, "<?'a'?>", textAt(2, "a"), markAt(5, ";"))
	checkTokens(t, "<?-?>", markAt(2, "-"), markAt(3, ";"))
	// A closing tag is recognized ahead of the mark ?, but ?? ahead of what its second byte begins.
	checkTokens(t, "<???>", markAt(2, "??"), markAt(4, ">"))
	checkTokens(t, "<????>", markAt(2, "??"), markAt(4, ";"))
	checkTokens(t, "<? ? ?>", markAt(3, "?"), markAt(5, ";"))
	checkTokens(t, "<? ? >", markAt(3, "?"), markAt(5, ">"))
	checkTokens(t, "<? ?\n>", markAt(3, "?"), markAt(5, ">"))
	checkTokens(t, "<? ?>=", markAt(3, ";"), inlineAt(5, "="))
	checkTokens(t, "<? ?=>", markAt(3, "?"), markAt(4, "=>"))
}

func TestSpaces(t *testing.T) {
	for _, space := range []string{" ", "\t", "\n", "\r", "  ", "\r\n", " \t\n\r", "\n\n", "\t \t"} {
		size := len(space)
		checkCode(t, space)
		checkCode(t, "a"+space+"b", nameAt(0, "a"), nameAt(1+size, "b"))
		checkCode(t, space+"1"+space+"2"+space, intAt(size, 1), intAt(2*size+1, 2))
		checkCode(t, "="+space+"="+space+"=", markAt(0, "="), markAt(1+size, "="), markAt(2+2*size, "="))
		checkCode(t, "'a"+space+"b'"+space+"'c'", textAt(0, "a"+space+"b"), textAt(4+2*size, "c"))
		checkCode(t, "/"+space+"/", markAt(0, "/"), markAt(1+size, "/"))
		checkCodeFails(t, "$"+space+"a", impl.LexByte, 0)
	}
	checkTokens(t, "<?"+strings.Repeat(" \t\n\r", 900)+"a", nameAt(3602, "a"))
	for _, other := range []string{"\v", "\f", "\x00", "\b", "\x1f", "\x7f", "\xa0", "\x85", "\xc2\xa0", "\xc2\x85", "\xe2\x80\xa8", "\xe3\x80\x80", "\xef\xbb\xbf"} {
		checkCodeFails(t, other, impl.LexByte, 0)
		checkCodeFails(t, "a "+other+" b", impl.LexByte, 2)
		checkCodeFails(t, "a"+other+"b", impl.LexByte, 1)
	}
}

func TestComments(t *testing.T) {
	for _, s := range []string{"//", "// a", "///", "////", "//a//b", "//'", "//$", "//\\", "//@#\"`^~|", "//00", "//\x00\xff\xc3", "//\xc3\xa9", "// <? <?= x", "//?", "//? >", "//>?", "// a\rb", "//\r", "//\t", "//;", "//*", "//<"} {
		checkCode(t, s)
		checkCode(t, s+"\n")
		checkCode(t, s+"\n$b", varAt(len(s)+1, "b"))
		checkCode(t, "1"+s+"\n2", intAt(0, 1), intAt(len(s)+2, 2))
		checkCode(t, "a "+s+"\n"+s+"\n\n"+s+"\nb", nameAt(0, "a"), nameAt(3*len(s)+6, "b"))
		checkTokens(t, "<?"+s+"?>", markAt(len(s)+2, ";"))
		checkTokens(t, "<?"+s+"?>\n", markAt(len(s)+2, ";"))
		checkTokens(t, "<?"+s+"?>b\n$c", markAt(len(s)+2, ";"), inlineAt(len(s)+4, "b\n$c"))
		checkTokens(t, "<?"+s+"?>\n//b<?c", markAt(len(s)+2, ";"), inlineAt(len(s)+5, "//b"), nameAt(len(s)+10, "c"))
		checkTokens(t, "<?"+s+"\n?>?>", markAt(len(s)+3, ";"), inlineAt(len(s)+5, "?>"))
		checkFails(t, "<?"+s+"\n'", impl.LexText, len(s)+3)
	}
	checkTokens(t, "<?//a?>b?>", markAt(5, ";"), inlineAt(7, "b?>"))
	checkTokens(t, "<?//??>", markAt(5, ";"))
	checkTokens(t, "<?//"+strings.Repeat("x", 3996))
}

// TestSlashes has comments directly behind marks, and marks that begin no comment.
func TestSlashes(t *testing.T) {
	for _, m := range documentMarks() {
		if m == "/" {
			continue
		}
		checkCode(t, m+"//x", markAt(0, m))
		checkCode(t, m+"//\n"+m, markAt(0, m), markAt(len(m)+3, m))
		checkCode(t, m+"/"+m, markAt(0, m), markAt(len(m), "/"), markAt(len(m)+1, m))
		checkCode(t, m+"/ /", markAt(0, m), markAt(len(m), "/"), markAt(len(m)+2, "/"))
	}
	checkCode(t, "/", markAt(0, "/"))
	checkCode(t, "/ /", markAt(0, "/"), markAt(2, "/"))
	checkCode(t, "/*a*/", markAt(0, "/"), markAt(1, "*"), nameAt(2, "a"), markAt(3, "*"), markAt(4, "/"))
	checkCode(t, "6/3", intAt(0, 6), markAt(1, "/"), intAt(2, 3))
	checkCode(t, "6//3", intAt(0, 6))
	checkCode(t, "6///3", intAt(0, 6))
	checkCode(t, "/ //3\n/", markAt(0, "/"), markAt(6, "/"))
	checkTokens(t, "<?/?>/", markAt(2, "/"), markAt(3, ";"), inlineAt(5, "/"))
}

func TestVariablesAndNames(t *testing.T) {
	long := "a_long_name_of_more_than_20_bytes"
	for _, s := range []string{"a", "z", "A", "Z", "_", "x1", "_9", "snake_case", "if", "echo", "null", "abcdefghijklmnopqrst", "abcdefghijklmnopqrstu", long, strings.Repeat("n", 1500)} {
		checkCode(t, s, nameAt(0, s))
		checkCode(t, "$"+s, varAt(0, s))
		checkCode(t, s+"$"+s, nameAt(0, s), varAt(len(s), s))
		checkCode(t, "$"+s+"->"+s[:1], varAt(0, s), markAt(len(s)+1, "->"), nameAt(len(s)+3, s[:1]))
		checkCode(t, s+"'"+s[:1]+"'", nameAt(0, s), textAt(len(s), s[:1]))
		for _, behind := range []string{"\xc3\xa9", "\xff", "\\", "@", "|", "\"", "`"} {
			checkCodeFails(t, s+behind, impl.LexByte, len(s))
			checkCodeFails(t, "$"+s+behind, impl.LexByte, len(s)+1)
		}
	}
	checkCode(t, "$a$b $c", varAt(0, "a"), varAt(2, "b"), varAt(5, "c"))
	checkCode(t, "a.b-c", nameAt(0, "a"), markAt(1, "."), nameAt(2, "b"), markAt(3, "-"), nameAt(4, "c"))
	checkCode(t, "A::b", nameAt(0, "A"), markAt(1, "::"), nameAt(3, "b"))
	for _, s := range []string{"$", "$1", "$0a", "$ a", "$\na", "$$", "$$a", "$'a'", "$=", "$-", "$//", "$\xc3\xa9", "$\xff", "$\x00", "$?", "$@", "$(a)"} {
		checkCodeFails(t, s, impl.LexByte, 0)
		checkCodeFails(t, "$a "+s, impl.LexByte, 3)
		checkCodeFails(t, "$a"+s, impl.LexByte, 2)
	}
	checkFails(t, "<?$", impl.LexByte, 2)
	checkFails(t, "<?$?>", impl.LexByte, 2)
}

func TestIntegers(t *testing.T) {
	for _, n := range []int{0, 1, 5, 9, 10, 42, 99, 100, 1000, 123456789, 999999999, 1000000000} {
		s := fmt.Sprint(n)
		checkCode(t, s, intAt(0, n))
		checkCode(t, "-"+s, markAt(0, "-"), intAt(1, n))
		checkCode(t, s+" "+s, intAt(0, n), intAt(len(s)+1, n))
		checkCode(t, s+"."+s, intAt(0, n), markAt(len(s), "."), intAt(len(s)+1, n))
		for _, name := range []string{"a", "e5", "x1F", "_000", "Z", "_"} {
			checkCode(t, s+name, intAt(0, n), nameAt(len(s), name))
		}
		checkCode(t, s+"$a", intAt(0, n), varAt(len(s), "a"))
		checkCode(t, s+"'a'", intAt(0, n), textAt(len(s), "a"))
		checkCodeFails(t, s+"\xd9\xa3", impl.LexByte, len(s))
		checkCodeFails(t, "0"+s, impl.LexNumber, 0)
		checkCodeFails(t, "00"+s+"a", impl.LexNumber, 0)
	}
	for _, s := range []string{
		"00", "01", "007", "0000000000", "0123456789", "01000000000", "1000000001", "1000000009", "1000000010", "1234567890", "2000000000", "9999999999", "10000000000", "12345678901", "99999999999",
		"1000000000000", "9223372036854775807", "9223372036854775808", "18446744073709551615", "18446744073709551616", "18446744073709551617", "18446744074709551616", "340282366920938463463374607431768211457", strings.Repeat("0", 3000), strings.Repeat("9", 3000), "1" + strings.Repeat("0", 3000),
	} {
		checkCodeFails(t, s, impl.LexNumber, 0)
		checkCodeFails(t, "1 a "+s, impl.LexNumber, 4)
		checkCodeFails(t, "-"+s+"a", impl.LexNumber, 1)
		// Within a name, digits are no number.
		checkCode(t, "a"+s, nameAt(0, "a"+s))
		checkCode(t, "$_"+s, varAt(0, "_"+s))
	}
	checkFails(t, "<?"+strings.Repeat("1", 3998), impl.LexNumber, 2)
}

// quotedTexts has codes of strings, and what they say.
func quotedTexts() map[string]string {
	return map[string]string{
		`''`: "", `'a'`: "a", `' '`: " ", `'a b'`: "a b",
		`'\''`: "'", `'\\'`: `\`, `'\'\''`: "''", `'\\\\'`: `\\`, `'\\\''`: `\'`, `'\'\\'`: `'\`, `'it\'s'`: "it's",
		`'\n'`: `\n`, `'\a'`: `\a`, `'a\b\c'`: `a\b\c`, `'\x41'`: `\x41`, `'\ '`: `\ `, `'\$a'`: `\$a`, `'\"'`: `\"`, `'\0'`: `\0`,
		`'\\n'`: `\n`, `'\\\n'`: `\\n`, `'\\\\n'`: `\\n`, `'a\\'`: `a\`, `'a\\\\'`: `a\\`, `'\n\\'`: `\n\`, `'\n\''`: `\n'`,
		`'<?'`: "<?", `'?>'`: "?>", `'<?= 1 ?>'`: "<?= 1 ?>", `'//'`: "//", `'// a'`: "// a", `'$a'`: "$a", `'12'`: "12", `'00'`: "00", `'@'`: "@", `'"'`: `"`,
		"'\n'": "\n", "'\r\n\t '": "\r\n\t ", "'a\nb?>\nc//\n'": "a\nb?>\nc//\n", "'\\\n'": "\\\n", "'\x00'": "\x00", "'\xff\xc3'": "\xff\xc3", "'\xc3\xa9'": "\xc3\xa9", "'\\\xff'": "\\\xff", "'\\\x00'": "\\\x00",
	}
}

func TestStrings(t *testing.T) {
	for s, text := range quotedTexts() {
		checkCode(t, s, textAt(0, text))
		checkCode(t, s+s, textAt(0, text), textAt(len(s), text))
		checkCode(t, "a"+s+"b", nameAt(0, "a"), textAt(1, text), nameAt(1+len(s), "b"))
		checkCode(t, "1"+s+"2//"+s[:1], intAt(0, 1), textAt(1, text), intAt(1+len(s), 2))
		checkCode(t, "("+s+","+s+")", markAt(0, "("), textAt(1, text), markAt(1+len(s), ","), textAt(2+len(s), text), markAt(2+2*len(s), ")"))
		checkFails(t, "<?"+s+"'", impl.LexText, 2+len(s))
		checkFails(t, "<? "+s[:len(s)-1], impl.LexText, 3)
		checkCode(t, modelQuoted(text), textAt(0, text))
	}
}

// TestLongStrings has strings of MaxText bytes and of one more, where an escape counts as one byte.
func TestLongStrings(t *testing.T) {
	fill := strings.Repeat
	for _, c := range []struct{ s, text string }{
		{fill("t", 400), fill("t", 400)},
		{fill("\xff", 400), fill("\xff", 400)},
		{fill(`\'`, 400), fill("'", 400)},
		{fill(`\\`, 400), fill(`\`, 400)},
		{fill(`\a`, 200), fill(`\a`, 200)},
		{fill("t", 399) + `\'`, fill("t", 399) + "'"},
		{`\\` + fill("t", 399), `\` + fill("t", 399)},
		{fill(`\'`, 399) + "t", fill("'", 399) + "t"},
		{fill("?>\n//", 80), fill("?>\n//", 80)},
	} {
		checkCode(t, "'"+c.s+"'", textAt(0, c.text))
		for _, more := range []string{"t", `\'`, `\\`, `\t`, "\n", "\xff", fill("t", 100)} {
			checkCodeFails(t, "'"+c.s+more+"'", impl.LexText, 0)
			checkCodeFails(t, "'"+more+c.s+"'", impl.LexText, 0)
			checkCodeFails(t, "a '"+c.s+more+"' 00", impl.LexText, 2)
			checkCodeFails(t, "'"+c.s+more, impl.LexText, 0)
		}
		checkCodeFails(t, "'"+c.s, impl.LexText, 0)
		checkCodeFails(t, "''"+"'"+c.s, impl.LexText, 2)
	}
	checkCode(t, "'"+fill("t", 399)+"'", textAt(0, fill("t", 399)))
	checkFails(t, "<?'"+fill("t", 3996)+"'", impl.LexText, 2)
	checkFails(t, "<?'"+fill(`\'`, 1998), impl.LexText, 2)
}

func TestStringsThatDoNotEnd(t *testing.T) {
	for _, s := range []string{"'", "'a", `'\`, `'\'`, `'a\'`, `'\\\'`, `'a\`, "'a\n", "'a?>", "'// a\n", "'\"", "'\xff", "'<?=", `'\\`} {
		checkFails(t, "<?"+s, impl.LexText, 2)
		checkFails(t, "<?=a "+s, impl.LexText, 5)
		checkFails(t, "x<??>\n<?''"+s, impl.LexText, 10)
		checkFails(t, "<? $a['b'] //c\n"+s, impl.LexText, 15)
	}
}

func TestMarks(t *testing.T) {
	for _, m := range documentMarks() {
		checkCode(t, m, markAt(0, m))
		checkCode(t, m+" "+m, markAt(0, m), markAt(len(m)+1, m))
		checkCode(t, "a"+m+"b", nameAt(0, "a"), markAt(1, m), nameAt(1+len(m), "b"))
		checkCode(t, "1"+m+"2", intAt(0, 1), markAt(1, m), intAt(1+len(m), 2))
		checkCode(t, "''"+m+"''", textAt(0, ""), markAt(2, m), textAt(2+len(m), ""))
		checkCode(t, "$a"+m+"$b", varAt(0, "a"), markAt(2, m), varAt(2+len(m), "b"))
	}
}

// TestMarksInARow has each pair of marks of which one begins with the other, and what they are without a space.
func TestMarksInARow(t *testing.T) {
	for _, c := range []struct{ code, marks string }{
		{"====", "=== ="}, {"=====", "=== =="}, {"======", "=== ==="}, {"=======", "=== === ="},
		{"!===", "!== ="}, {"!=!==", "!= !=="}, {"!!", "! !"}, {"!!=", "! !="}, {"!!==", "! !=="}, {"=!=", "= !="}, {"=!==", "= !=="}, {"!=>", "!= >"}, {"!==>", "!== >"},
		{"<=>=", "<=> ="}, {"<==", "<= ="}, {"<==>", "<= =>"}, {"<===", "<= =="}, {"<=>>", "<=> >"}, {"<<=>", "< <=>"}, {"<<=", "< <="}, {"<<", "< <"}, {"<>", "< >"}, {"<=<", "<= <"}, {"<->", "< ->"},
		{">==", ">= ="}, {">=>", ">= >"}, {">>=", "> >="}, {">>", "> >"}, {">=>=", ">= >="}, {">===", ">= =="}, {">=<", ">= <"},
		{"=>=", "=> ="}, {"==>", "== >"}, {"===>", "=== >"}, {"====>", "=== =>"}, {"=>>", "=> >"}, {"=>>=", "=> >="}, {"==>=", "== >="}, {"=<", "= <"}, {"=<=>", "= <=>"}, {"=<=", "= <="},
		{"-->", "- ->"}, {"->>", "-> >"}, {"->=", "-> ="}, {"--", "- -"}, {"->->", "-> ->"}, {"->-", "-> -"}, {"=->", "= ->"},
		{":::", ":: :"}, {"::::", ":: ::"}, {"?::", "? ::"}, {"?:", "? :"}, {":?", ": ?"}, {"??:", "?? :"},
		{"&&&", "&& &"}, {"&&&&", "&& &&"}, {"&=", "& ="}, {"||||", "|| ||"}, {"||&&", "|| &&"}, {"=&", "= &"},
		{"???", "?? ?"}, {"????", "?? ??"}, {"???=", "?? ? ="}, {"?->", "? ->"}, {"?=>", "? =>"}, {"?=", "? ="},
		{"++", "+ +"}, {"+=", "+ ="}, {"+++", "+ + +"}, {"**", "* *"}, {"*=", "* ="}, {"%%", "% %"}, {".=", ". ="}, {"...", ". . ."}, {"/=", "/ ="}, {"*/", "* /"},
		{"((", "( ("}, {"()", "( )"}, {"[]", "[ ]"}, {"{}", "{ }"}, {";;", "; ;"}, {",,", ", ,"}, {"){", ") {"}, {"]=", "] ="}, {"(!", "( !"}, {"[=>]", "[ => ]"},
	} {
		var want []impl.Token
		at := 0
		for _, m := range strings.Fields(c.marks) {
			want = append(want, markAt(at, m))
			at += len(m)
		}
		checkCode(t, c.code, want...)
	}
	for _, m := range documentMarks() {
		for _, n := range documentMarks() {
			checkCode(t, m+" "+n, markAt(0, m), markAt(len(m)+1, n))
			for _, o := range append(documentMarks(), "") {
				checkSourceAsModel(t, "<? "+m+n+o)
			}
		}
	}
	checkCodeFails(t, "|||", impl.LexByte, 2)
	checkCodeFails(t, "&|", impl.LexByte, 1)
}

func TestBytesInCode(t *testing.T) {
	const letters, spaces, marks = "abcdefghijklmnopqrstuvwxyzABCDEFGHIJKLMNOPQRSTUVWXYZ_", " \t\n\r", "+-*/%.=!<>()[]{},;?:&"
	failing := 0
	for c := range 256 {
		s := string([]byte{byte(c)})
		switch {
		case strings.Contains(letters, s):
			checkCode(t, s, nameAt(0, s))
		case strings.Contains(spaces, s):
			checkCode(t, s)
		case strings.Contains(marks, s):
			checkCode(t, s, markAt(0, s))
		case '0' <= c && c <= '9':
			checkCode(t, s, intAt(0, c-'0'))
		case s == "'":
			checkFails(t, "<?"+s, impl.LexText, 2)
		default:
			failing++
			checkCodeFails(t, s, impl.LexByte, 0)
			checkCodeFails(t, "=> "+s, impl.LexByte, 3)
			checkCodeFails(t, "f"+s+" g", impl.LexByte, 1)
			checkCodeFails(t, "7"+s+"8", impl.LexByte, 1)
			checkCodeFails(t, "$v"+s, impl.LexByte, 2)
			checkCodeFails(t, "'s'"+s, impl.LexByte, 3)
			checkCodeFails(t, "//"+s+"\n"+s, impl.LexByte, 4)
		}
		if c != '\n' && c != '\'' && c != '\\' {
			checkCode(t, "//"+s)
			checkCode(t, "'"+s+"'", textAt(0, s))
		}
		checkTokens(t, s+s+"<?", inlineAt(0, s+s))
	}
	// All control bytes but three, the quotation mark, #, $, @, \, ^, `, |, ~, and all bytes above 126.
	if want := 32 - 3 + 9 + 129; failing != want {
		t.Errorf("at %d bytes no token begins; want %d", failing, want)
	}
}

func TestTheFirstTokenThatFails(t *testing.T) {
	for _, c := range []struct {
		s    string
		code int
		at   int
	}{
		{"<? @ 00", impl.LexByte, 3}, {"<? 00 @", impl.LexNumber, 3}, {"<? @ 'a", impl.LexByte, 3}, {"<? 00 'a", impl.LexNumber, 3},
		{"<? 'a 00 @", impl.LexText, 3}, {"<? 'a' 00 @", impl.LexNumber, 7}, {"<? $ 1234567890123 '", impl.LexByte, 3}, {"<? 1 01 $", impl.LexNumber, 5},
		{"a<? b ?>@ 00 $ ' <? 00 ?> <? '", impl.LexNumber, 20}, {"@ <?= $a; # ?> <? 00", impl.LexByte, 10}, {"'<?'a'?>'<?'a?>", impl.LexText, 11},
		{"<? // @ 00\n// $\n\"a\"", impl.LexByte, 16}, {"<? 10000000000 $", impl.LexNumber, 3}, {"<? a\\b 00", impl.LexByte, 4}, {"<?//?>00 @<?$", impl.LexByte, 12},
		{"<?00", impl.LexNumber, 2}, {"<?\"", impl.LexByte, 2}, {"<?'", impl.LexText, 2}, {"<?| |", impl.LexByte, 2}, {"<?||\n|", impl.LexByte, 5}, {"<?a\xc3\xa9", impl.LexByte, 3},
		{"<?$a-> $", impl.LexByte, 7}, {"<?'\\''\\''", impl.LexByte, 6}, {"<? '" + strings.Repeat("t", 401) + "' @", impl.LexText, 3}, {"<? @ '" + strings.Repeat("t", 401) + "'", impl.LexByte, 3},
	} {
		checkFails(t, c.s, c.code, c.at)
	}
}

func TestLongSources(t *testing.T) {
	fill := strings.Repeat
	for _, c := range []struct{ s, more string }{
		{fill("a", 3999), "a"}, {fill("\xff", 3999), "\x00"}, {"<?" + fill(" ", 3997), "\n"}, {"<?//" + fill("x", 3995), "x"}, {"<?" + fill("a", 3997), "a"}, {"<?" + fill("+", 3997), "+"}, {"<?" + fill("[", 3997), "]"}, {fill("<??>", 999) + "abc", "<"}, {"<?$" + fill("v", 3996), "7"},
	} {
		for _, s := range []string{c.s, c.s + c.more} {
			if !checkSourceAsModel(t, s) {
				t.Errorf("a source of %d bytes fails", len(s))
			}
		}
		checkFails(t, c.s+c.more+c.more, impl.LexLong, 0)
		checkFails(t, c.s+c.more+"?", impl.LexLong, 0)
	}
	if got := len(lexed("<?" + fill("+", 3998)).tokens); got != 3998 {
		t.Errorf("a source of 3998 marks has %d tokens", got)
	}
	// The length counts ahead of the tokens that fail.
	checkFails(t, "<?@"+fill(" ", 3997), impl.LexByte, 2)
	checkFails(t, "<?@"+fill(" ", 3998), impl.LexLong, 0)
	checkFails(t, "<?00"+fill(" ", 3997), impl.LexLong, 0)
	checkFails(t, "<?"+fill(" ", 3997)+"@", impl.LexByte, 3999)
	checkFails(t, "<?"+fill(" ", 3997)+"'", impl.LexText, 3999)
	checkFails(t, "<?"+fill(" ", 3996)+"01", impl.LexNumber, 3998)
	checkFails(t, "<?'"+fill("a", 3998), impl.LexLong, 0)
	checkFails(t, fill("<??>", 1<<20), impl.LexLong, 0)
}

func checkQuoted(t *testing.T, s, want string) {
	t.Helper()
	if got := impl.QuoteText(s); got != want {
		t.Errorf("QuoteText(%s) = %s; want %s", cut(s), cut(got), cut(want))
	}
}

func TestQuoteText(t *testing.T) {
	for _, c := range []struct{ s, want string }{
		{"", `''`}, {"a", `'a'`}, {"it's", `'it\'s'`}, {"'", `'\''`}, {`\`, `'\\'`}, {"''", `'\'\''`}, {`\\`, `'\\\\'`}, {`\'`, `'\\\''`}, {`'\`, `'\'\\'`}, {`\n`, `'\\n'`}, {`a\`, `'a\\'`}, {`\'\'`, `'\\\'\\\''`},
		{"'a'", `'\'a\''`}, {`"`, `'"'`}, {"\n", "'\n'"}, {"\x00\xff\x80", "'\x00\xff\x80'"}, {"\xc3\xa9", "'\xc3\xa9'"}, {"\xc3", "'\xc3'"}, {"<? ?> // $a", "'<? ?> // $a'"},
	} {
		checkQuoted(t, c.s, c.want)
	}
	for c := range 256 {
		s := string([]byte{byte(c)})
		want := s
		if s == "'" || s == `\` {
			want = `\` + s
		}
		checkQuoted(t, s, "'"+want+"'")
		checkQuoted(t, "x"+s+s+"y", "'x"+want+want+"y'")
	}
	for _, s := range append(plainTexts(), strings.Repeat(`'\a`, 100000)) {
		checkQuoted(t, s, modelQuoted(s))
	}
}

// checkSaysAgain checks that s between quotes is one token that says s again, if s is no longer than a text may be.
func checkSaysAgain(t *testing.T, s string) {
	t.Helper()
	quoted := impl.QuoteText(s)
	if len(s) > impl.MaxText {
		checkFails(t, "<? a "+quoted+" b", impl.LexText, 5)
		return
	}
	checkTokens(t, "<?"+quoted, textAt(2, s))
	checkTokens(t, "<?a"+quoted+"b", nameAt(2, "a"), textAt(3, s), nameAt(3+len(quoted), "b"))
	checkTokens(t, "<?"+quoted+quoted, textAt(2, s), textAt(2+len(quoted), s))
	tokens := lexed("<?" + quoted).tokens
	if len(tokens) != 1 || impl.TokenText(tokens[0]) != quoted {
		t.Errorf("the token of %s is written %v", cut(s), tokens)
	}
}

func TestQuotedTextsSayTheTextAgain(t *testing.T) {
	for _, s := range append(plainTexts(), rawForms()...) {
		checkSaysAgain(t, s)
	}
	for i := range 1 << 16 {
		if s := string([]byte{byte(i), byte(i >> 8)}); strings.ContainsAny(s, `'\`) || i%97 == 0 {
			checkSaysAgain(t, s)
		}
	}
	for _, s := range spelled(`'\a?`, 5) {
		checkSaysAgain(t, s)
	}
	r := rand.New(rand.NewSource(14))
	for range 2000 {
		s := make([]byte, r.Intn(450))
		for i := range s {
			s[i] = byte(r.Intn(256))
			if r.Intn(3) == 0 {
				s[i] = `'\?>/n`[r.Intn(6)]
			}
		}
		checkSaysAgain(t, string(s))
	}
	for size := 395; size <= 405; size++ {
		for _, c := range []string{"a", "'", `\`, "\xff"} {
			checkSaysAgain(t, strings.Repeat(c, size))
		}
	}
}

func checkTokenText(t *testing.T, token impl.Token, want string) {
	t.Helper()
	if got := impl.TokenText(token); got != want {
		t.Errorf("TokenText(%+v) = %q; want %q", token, got, want)
	}
}

func TestTokenText(t *testing.T) {
	for _, text := range append(plainTexts(), "x", "echo", "it's", `\`, ";", "a b\n") {
		for _, n := range []int{0, 1, -1, 7, impl.MaxInt, -impl.MaxInt, impl.MaxInt + 1, 1 << 62, -1 << 63} {
			for _, at := range []int{0, 5, -1, 4000} {
				checkTokenText(t, impl.Token{Kind: 1, Num: n, Text: text, At: at}, text)
				checkTokenText(t, impl.Token{Kind: 2, Num: n, Text: text, At: at}, "$"+text)
				checkTokenText(t, impl.Token{Kind: 3, Num: n, Text: text, At: at}, text)
				checkTokenText(t, impl.Token{Kind: 4, Num: n, Text: text, At: at}, fmt.Sprint(n))
				checkTokenText(t, impl.Token{Kind: 5, Num: n, Text: text, At: at}, modelQuoted(text))
				checkTokenText(t, impl.Token{Kind: 6, Num: n, Text: text, At: at}, text)
				for _, kind := range []int{0, 7, 8, -1, -6, 12, 1 << 62, -1 << 63, 1<<32 + 1, 256 + 3} {
					checkTokenText(t, impl.Token{Kind: kind, Num: n, Text: text, At: at}, "")
				}
			}
		}
	}
	checkTokenText(t, impl.Token{}, "")
}

// spelled returns all texts of at most so many of these bytes.
func spelled(alphabet string, most int) []string {
	all := []string{""}
	for first := 0; most > 0; most-- {
		last := len(all)
		for _, s := range all[first:last] {
			for i := range len(alphabet) {
				all = append(all, s+alphabet[i:i+1])
			}
		}
		first = last
	}
	return all
}

// TestAllShortSources has all short sources of the bytes that count for tags, comments, marks, strings, and names and numbers.
func TestAllShortSources(t *testing.T) {
	for _, c := range []struct {
		prefix, alphabet string
		most, read       int
	}{
		{"", "<?=>\n a", 5, 19000},
		{"<? ", "/?>\na<", 5, 9000},
		{"<?", "=!<>-:&|?+/", 4, 8000},
		{"<?a", "'\\?>b", 5, 900},
		{"<?", "$a_01 9\xc3", 4, 1500},
		{"<?'", "'\\/\n>?", 5, 2000},
		{"<?//", "?>\n<= '", 4, 1500},
	} {
		read := 0
		for _, s := range spelled(c.alphabet, c.most) {
			if checkSourceAsModel(t, c.prefix+s) {
				read++
			}
		}
		if read < c.read {
			t.Errorf("only %d sources that begin with %q have tokens", read, c.prefix)
		}
	}
}

func TestAnySources(t *testing.T) {
	parts := append(documentMarks(), "<?", "<?=", "?>", "?>\n", "<?", "?>", "//", "// a", "\n", " ", "\t", "\r\n", "$", "$a", "$_b1", "a", "if", "echo", "0", "1", "42", "1000000000", "00", "'", "''", "'a'", `'\''`, `\`, `'\\'`, "\xc3\xa9", "@", "|", "\x00")
	r := rand.New(rand.NewSource(1414))
	read := 0
	for i := range 60000 {
		var s strings.Builder
		s.WriteString([]string{"", "<?", "<? ", "a<?="}[i%4])
		for range r.Intn(2 + i%12) {
			s.WriteString(parts[r.Intn(len(parts))])
		}
		if checkSourceAsModel(t, s.String()) {
			read++
		}
	}
	if read < 25000 {
		t.Errorf("only %d sources have tokens", read)
	}
}

// builtSource writes random tokens and what separates them, and knows where it has put them.
type builtSource struct {
	s      strings.Builder
	tokens []impl.Token
}

func (b *builtSource) put(form string, token impl.Token) {
	token.At = b.s.Len()
	b.tokens = append(b.tokens, token)
	b.s.WriteString(form)
}

func (b *builtSource) putToken(r *rand.Rand) {
	names := []string{"a", "_", "if", "echo", "aLongNameOfMoreThanTwentyBytes", "x9", "class"}
	name := names[r.Intn(len(names))]
	switch r.Intn(5) {
	case 0:
		b.put("$"+name, varAt(0, name))
	case 1:
		b.put(name, nameAt(0, name))
	case 2:
		n := r.Intn(1000000001) >> r.Intn(31)
		b.put(fmt.Sprint(n), intAt(0, n))
	case 3:
		for form, text := range map[string]string{`'it\'s'`: "it's", "''": "", `'\a\\'`: `\a\`, "'?>\n//'": "?>\n//", "'<?='": "<?="} {
			if r.Intn(5) == 0 {
				b.put(form, textAt(0, text))
				return
			}
		}
	default:
		m := documentMarks()[r.Intn(34)]
		b.put(m, markAt(0, m))
	}
}

func (b *builtSource) putCode(r *rand.Rand) {
	if r.Intn(3) == 0 {
		b.put("<?=", nameAt(0, "echo"))
	} else {
		b.s.WriteString("<?")
	}
	for range r.Intn(8) {
		b.s.WriteString([]string{" ", "\n", "\t\t", "\r\n", " //\n", "\r// '<?= a $\n", " // ??\n//\xff\n\r"}[r.Intn(7)])
		b.putToken(r)
	}
	b.s.WriteString([]string{" ", "\n", " // @ 'x", "\t//"}[r.Intn(4)])
	b.put("?>", markAt(0, ";"))
	if r.Intn(2) == 0 {
		b.s.WriteString("\n")
	}
}

// TestTokensStandWhereTheyArePut builds sources from their tokens.
func TestTokensStandWhereTheyArePut(t *testing.T) {
	r := rand.New(rand.NewSource(41))
	for range 5000 {
		var b builtSource
		for range r.Intn(5) {
			if inline := []string{"", "a", "<p>\n", "?>'//", "\xff$1 00", "\r\n<"}[r.Intn(6)]; inline != "" {
				b.put(inline, inlineAt(0, inline))
			}
			b.putCode(r)
		}
		checkTokens(t, b.s.String(), b.tokens...)
	}
}

// TestTokensAreReadFromTheirTexts writes the tokens of code one behind the other and reads them back.
func TestTokensAreReadFromTheirTexts(t *testing.T) {
	r := rand.New(rand.NewSource(1441))
	for range 2000 {
		var b builtSource
		b.putCode(r)
		s := "<? "
		var want []impl.Token
		for _, token := range lexed(b.s.String()).tokens {
			token.At = len(s)
			want = append(want, token)
			s += impl.TokenText(token) + " "
		}
		checkTokens(t, s, want...)
	}
}

// manySources has sources that give every kind of token, and every code.
func manySources() []string {
	return []string{
		"", "a", "<? $x = 'it\\'s'; // end\n?>\nb<?= c ?>", "inline <?= $name . 12 ?> text\n<? f('a', \"", "<? 007", "<? 'open", "<? @", strings.Repeat("x", 4001), "<? $", "<??>", "<?$variable name 'text' 1000000000 ?>inline",
	}
}

func TestTokensShareNoMemory(t *testing.T) {
	for _, source := range manySources() {
		s := strings.Clone(source)
		first, second := lexed(s), lexed(s)
		texts := []string{s}
		for i, token := range append(slices.Clone(first.tokens), second.tokens...) {
			for _, other := range texts {
				if lieTogether(token.Text, other) {
					t.Errorf("the text of the token %d of %s lies in %s", i, cut(s), cut(other))
				}
			}
			texts = append(texts, token.Text)
		}
		want := slices.Clone(second.tokens)
		all := first.tokens[:cap(first.tokens)]
		for i := range all {
			all[i] = impl.Token{Kind: 9, Num: 9, Text: "9", At: 9}
		}
		if !slices.Equal(second.tokens, want) {
			t.Errorf("two results of Lex(%s) share memory", cut(s))
		}
		checkLexed(t, s, modelLex(source))
	}
}

func TestTokenTextsShareNoMemory(t *testing.T) {
	for kind := -1; kind <= 8; kind++ {
		for _, text := range []string{"a", "some text", "it's", ";"} {
			text = strings.Clone(text)
			token := impl.Token{Kind: kind, Num: 123456, Text: text, At: 5}
			before := token
			first, second := impl.TokenText(token), impl.TokenText(token)
			if lieTogether(first, text) || lieTogether(second, text) || lieTogether(first, second) {
				t.Errorf("the text of %+v shares memory", token)
			}
			if !reflect.DeepEqual(token, before) {
				t.Errorf("%+v has become %+v", before, token)
			}
		}
	}
	s := strings.Clone("plain text")
	if first, second := impl.QuoteText(s), impl.QuoteText(s); lieTogether(first, s) || lieTogether(first, second) {
		t.Error("quoted texts share memory")
	}
}

func TestLexingIsRepeatable(t *testing.T) {
	for _, s := range manySources() {
		first := lexed(s)
		for _, other := range manySources() {
			lexed(other)
			impl.IsName(other)
			impl.QuoteText(other)
			checkLexed(t, s, first)
		}
	}
}
