package tests

import (
	"fmt"
	"math"
	"strings"
	"testing"
	"unsafe"

	"loop.example/g03011/impl"
)

// Promise 4: what is escaped is unescaped and safe.

// textContext is a context with its own functions, and how it writes every byte.
type textContext struct {
	name     string
	number   int
	escape   func(string) string
	unescape func(string) (string, bool)
	forms    [256]string
	// pieces are the texts of which TestSafeTexts puts texts together.
	pieces []string
}

func textContexts() []textContext {
	return []textContext{
		{
			"HTML", impl.ContextHTML, impl.EscapeHTML, impl.UnescapeHTML, htmlForms(),
			[]string{"&", "#", "39", ";", "amp", "lt;", "&gt;", "&quot;", "<", "'", "x", "\x80"},
		},
		{
			"URL", impl.ContextURL, impl.EscapeURL, impl.UnescapeURL, urlForms(),
			[]string{"%", "4", "1", "2", "F", "f", "A", "g", "+", " ", "%20", "\xff"},
		},
		{
			"Script", impl.ContextScript, impl.EscapeScript, impl.UnescapeScript, scriptForms(),
			[]string{"\\", "x", "X", "\\x", "4", "1", "2", "7", "F", "f", "'", "\x7f"},
		},
	}
}

// otherContexts has numbers that stand for the raw context.
func otherContexts() []int {
	return []int{impl.ContextRaw, -1, -2, -3, -256, 4, 5, 99, 256 + impl.ContextHTML, 1<<32 + impl.ContextURL, math.MaxInt, math.MinInt, math.MinInt + 1}
}

func asIs() [256]string {
	var forms [256]string
	for c := range forms {
		forms[c] = string([]byte{byte(c)})
	}
	return forms
}

func htmlForms() [256]string {
	forms := asIs()
	forms['&'] = "&amp;"
	forms['<'] = "&lt;"
	forms['>'] = "&gt;"
	forms['"'] = "&quot;"
	forms['\''] = "&#39;"
	return forms
}

func urlForms() [256]string {
	forms := asIs()
	for c := range forms {
		if !strings.Contains("ABCDEFGHIJKLMNOPQRSTUVWXYZabcdefghijklmnopqrstuvwxyz0123456789-_.~", forms[c]) {
			forms[c] = fmt.Sprintf("%%%02X", c)
		}
	}
	return forms
}

func scriptForms() [256]string {
	forms := asIs()
	for c := range forms {
		if c < 32 || c > 126 || strings.Contains("\\'\"<>&", forms[c]) {
			forms[c] = fmt.Sprintf("\\x%02X", c)
		}
	}
	return forms
}

func allBytes() string {
	return strings.Join(rawForms(), "")
}

func rawForms() []string {
	forms := asIs()
	return forms[:]
}

// plainTexts has texts to be escaped; some look as if they had been escaped already.
func plainTexts() []string {
	return []string{
		"", "a", "hello", "a b", "\x00", "\x1f", " ", "~", "\x7f", "\x80", "\xff", "-_.~", "azAZ09", "@[`{/:",
		"&", "<", ">", "\"", "'", "&<>\"'", "<a href='x'>&", "<b>\"hi\" & 'bye'</b>", "a&b;c", "&&amp;;",
		"&amp;", "&amp;amp;", "&lt;", "&gt;", "&quot;", "&#39;", "&nbsp;", "&a", "&#3",
		"%", "%%", "%4", "%41", "%2F", "%2f", "%zz", "100%", "+", "a+b c", "a=b&c=d; e", "a/b?c#d",
		"\\", "\\\\", "\\x", "\\x4", "\\x41", "\\x2F", "\\x2f", "\\n", "\n\r\t", "alert('\\x27');", "</script>",
		// Valid UTF-8 of two, three and four bytes, and the replacement character.
		"h\xc3\xa9llo", "\xe6\x97\xa5\xe6\x9c\xac", "\xf0\x9f\x98\x80", "\xef\xbf\xbd",
		// None: a byte alone, cut off, a surrogate, too long, and around characters.
		"\xc3", "a\xc3", "\xe6\x97", "\xf0\x9f\x98", "\xed\xa0\x80", "\xc0\xaf", "\x80\xc3\xa9\x80", "\xff<\xfe&\xc3'", "\xc3<", "\xe6&\x97",
		allBytes(), strings.Repeat("<&\xff ", 300),
	}
}

func checkEscaped(t *testing.T, c textContext, s, want string) {
	t.Helper()
	if got := c.escape(s); got != want {
		t.Errorf("Escape%s(%q) = %q; want %q", c.name, s, got, want)
	}
	if got := impl.EscapeIn(c.number, s); got != want {
		t.Errorf("EscapeIn(%d, %q) = %q; want %q", c.number, s, got, want)
	}
}

func checkUnescaped(t *testing.T, c textContext, s, want string) {
	t.Helper()
	if got, ok := c.unescape(s); got != want || !ok {
		t.Errorf("Unescape%s(%q) = %q, %v; want %q, true", c.name, s, got, ok, want)
	}
}

func checkNotUnescaped(t *testing.T, c textContext, s string) {
	t.Helper()
	if got, ok := c.unescape(s); got != "" || ok {
		t.Errorf("Unescape%s(%q) = %q, %v; want \"\", false", c.name, s, got, ok)
	}
	checkSafe(t, c.number, s, false)
}

func checkSafe(t *testing.T, context int, s string, want bool) {
	t.Helper()
	if got := impl.IsSafeIn(context, s); got != want {
		t.Errorf("IsSafeIn(%d, %q) = %v; want %v", context, s, got, want)
	}
}

// checkBack checks that an escaped text is unescaped to what it was, and is safe.
func checkBack(t *testing.T, c textContext, s string) {
	t.Helper()
	escaped := c.escape(s)
	checkUnescaped(t, c, escaped, s)
	checkSafe(t, c.number, escaped, true)
}

// written puts together how the bytes of s are written.
func written(c textContext, s string) string {
	var b strings.Builder
	for i := range len(s) {
		b.WriteString(c.forms[s[i]])
	}
	return b.String()
}

func contextNamed(t *testing.T, name string) textContext {
	t.Helper()
	for _, c := range textContexts() {
		if c.name == name {
			return c
		}
	}
	t.Fatal("no context ", name)
	return textContext{}
}

func TestContexts(t *testing.T) {
	if impl.ContextRaw != 0 || impl.ContextHTML != 1 || impl.ContextURL != 2 || impl.ContextScript != 3 {
		t.Error(impl.ContextRaw, impl.ContextHTML, impl.ContextURL, impl.ContextScript)
	}
}

func TestEscape(t *testing.T) {
	for _, c := range []struct{ s, html, url, script string }{
		{"", "", "", ""},
		{"a", "a", "a", "a"},
		{"<a href='x'>&", "&lt;a href=&#39;x&#39;&gt;&amp;", "%3Ca%20href%3D%27x%27%3E%26", "\\x3Ca href=\\x27x\\x27\\x3E\\x26"},
		{"\"q\"", "&quot;q&quot;", "%22q%22", "\\x22q\\x22"},
		{"a b/~", "a b/~", "a%20b%2F~", "a b/~"},
		{"a'\n", "a&#39;\n", "a%27%0A", "a\\x27\\x0A"},
		{"-_.~", "-_.~", "-_.~", "-_.~"},
		{"1+1=2", "1+1=2", "1%2B1%3D2", "1+1=2"},
		{"&amp;", "&amp;amp;", "%26amp%3B", "\\x26amp;"},
		{"%41", "%41", "%2541", "%41"},
		{"\\x41", "\\x41", "%5Cx41", "\\x5Cx41"},
		{"\x00", "\x00", "%00", "\\x00"},
		{"\x1f", "\x1f", "%1F", "\\x1F"},
		{" ", " ", "%20", " "},
		{"~", "~", "~", "~"},
		{"\x7f", "\x7f", "%7F", "\\x7F"},
		{"\x80", "\x80", "%80", "\\x80"},
		{"\xff", "\xff", "%FF", "\\xFF"},
		{"\xc3\xa9", "\xc3\xa9", "%C3%A9", "\\xC3\\xA9"},
		{"\xc3<", "\xc3&lt;", "%C3%3C", "\\xC3\\x3C"},
	} {
		checkEscaped(t, contextNamed(t, "HTML"), c.s, c.html)
		checkEscaped(t, contextNamed(t, "URL"), c.s, c.url)
		checkEscaped(t, contextNamed(t, "Script"), c.s, c.script)
	}
}

func TestEveryByteIsWritten(t *testing.T) {
	for _, c := range textContexts() {
		for b, form := range c.forms {
			s := string([]byte{byte(b)})
			checkEscaped(t, c, s, form)
			checkEscaped(t, c, "x"+s+s+"x", "x"+form+form+"x")
			checkBack(t, c, s)
			// A byte is safe as it is exactly where it is written so.
			checkSafe(t, c.number, s, s == form)
		}
	}
}

func TestTextsAreWrittenByteByByte(t *testing.T) {
	for _, c := range textContexts() {
		for _, s := range plainTexts() {
			checkEscaped(t, c, s, written(c, s))
		}
	}
}

func TestEscapedTextsAreUnescapedAndSafe(t *testing.T) {
	for _, c := range textContexts() {
		for _, s := range plainTexts() {
			checkBack(t, c, s)
			checkBack(t, c, c.escape(s))
			checkBack(t, c, c.escape(c.escape(s)))
		}
	}
}

// TestAnyTwoBytesAreUnescapedAndSafe has all pairs of bytes, among them characters that are valid, cut off, or none.
func TestAnyTwoBytesAreUnescapedAndSafe(t *testing.T) {
	for _, c := range textContexts() {
		for i := range 1 << 16 {
			s := string([]byte{byte(i), byte(i >> 8)})
			checkBack(t, c, s)
			checkEscaped(t, c, s, c.forms[s[0]]+c.forms[s[1]])
		}
	}
}

func TestTextsAreEscapedPieceByPiece(t *testing.T) {
	for _, c := range textContexts() {
		for _, s := range plainTexts() {
			for i := range len(s) + 1 {
				checkEscaped(t, c, s, c.escape(s[:i])+c.escape(s[i:]))
			}
			for _, u := range plainTexts() {
				checkEscaped(t, c, s+u, c.escape(s)+c.escape(u))
			}
		}
	}
}

func TestUnescape(t *testing.T) {
	for _, c := range []struct{ context, s, want string }{
		{"HTML", "", ""},
		{"HTML", "&amp;", "&"},
		{"HTML", "&lt;", "<"},
		{"HTML", "&gt;", ">"},
		{"HTML", "&quot;", "\""},
		{"HTML", "&#39;", "'"},
		{"HTML", "&amp;&lt;&gt;&quot;&#39;", "&<>\"'"},
		{"HTML", "a&lt;b&gt;c", "a<b>c"},
		{"HTML", "&amp;;", "&;"},
		// What is unescaped is not looked at again.
		{"HTML", "&amp;lt;", "&lt;"},
		{"HTML", "&amp;amp;amp;", "&amp;amp;"},
		{"HTML", "&amp;#39;", "&#39;"},
		{"HTML", "<b>\"x\" 'y'</b>", "<b>\"x\" 'y'</b>"},
		{"HTML", "amp; #39; ;", "amp; #39; ;"},
		{"HTML", "%41+\\x41\x00\x80\xff", "%41+\\x41\x00\x80\xff"},
		{"URL", "", ""},
		{"URL", "%41+%2f", "A /"},
		{"URL", "%2F%2f%aB%Ab%AB%ab", "//\xab\xab\xab\xab"},
		{"URL", "+", " "},
		{"URL", "++a+", "  a "},
		{"URL", "%20%2B%2b", " ++"},
		{"URL", "%2541", "%41"},
		{"URL", "%25+", "% "},
		{"URL", "%00%1F%7f%80%ff", "\x00\x1f\x7f\x80\xff"},
		{"URL", "%C3%A9", "\xc3\xa9"},
		{"URL", "a b/<>&'\"\\=;", "a b/<>&'\"\\=;"},
		{"URL", "\x00\x80\xff\xc3\xa9", "\x00\x80\xff\xc3\xa9"},
		{"URL", "%411", "A1"},
		{"Script", "", ""},
		{"Script", "\\x41", "A"},
		{"Script", "a\\x27\\x0A", "a'\n"},
		{"Script", "\\x411", "A1"},
		{"Script", "\\x5Cx41", "\\x41"},
		{"Script", "\\x5C\\x5C", "\\\\"},
		{"Script", "\\x00\\x1F\\x7F\\x80\\xFF", "\x00\x1f\x7f\x80\xff"},
		{"Script", "x41 X41", "x41 X41"},
		{"Script", "'\"<>&\n\x00\x7f\x80\xff", "'\"<>&\n\x00\x7f\x80\xff"},
		{"Script", "%41+&amp;", "%41+&amp;"},
	} {
		checkUnescaped(t, contextNamed(t, c.context), c.s, c.want)
	}
}

func TestNotUnescaped(t *testing.T) {
	for _, c := range []struct {
		context string
		texts   []string
	}{
		{"HTML", []string{
			"&", "&&", "a & b", "&;", "&a", "&am", "&amp", "&amp &lt;", "&lt", "&gt", "&quot", "&#39", "&#3", "&#",
			"&AMP;", "&Lt;", "&nbsp;", "&apos;", "&#38;", "&#039;", "&#x27;", "&#39 ;", "& amp;", "&amp;&", "&&amp;", "&lt;&l",
			"&a\x80mp;", "&\xff", "a&", "&amp;amp;&amp", "&<",
		}},
		{"URL", []string{
			"%", "a%", "%4", "%f", "a%2", "%%", "%%41", "%4%41", "%g0", "%0g", "%zz", "% 1", "%1 ", "%+1", "%1+", "%-1", "%_1", "%1_", "%0x", "%x0",
			"%41%", "%41%4", "%G1", "%1G", "%@1", "%/1", "%:1", "%`1", "%\x801", "%1\xff", "%\xc3\xa9", "100% sure",
		}},
		{"Script", []string{
			"\\", "a\\", "\\x", "\\x4", "\\xF", "\\\\", "\\n", "\\'", "\\X41", "\\41", "\\u0041", "\\ x41", "x\\",
			"\\x2f", "\\xfF", "\\xFf", "\\xff", "\\xaA", "\\xAa", "\\xg0", "\\x0G", "\\xG0", "\\x 1", "\\x1 ", "\\x+1", "\\x-1", "\\x_1", "\\x1_",
			"\\x\\x41", "\\x4\\x41", "\\x41\\", "\\x41\\x", "\\x41\\x4", "\\x\x801", "\\x1\xff", "\\\x80", "\\x0x",
		}},
	} {
		for _, s := range c.texts {
			checkNotUnescaped(t, contextNamed(t, c.context), s)
			checkNotUnescaped(t, contextNamed(t, c.context), "\xc3"+s)
		}
	}
}

func TestCutOffFormsAreNotUnescaped(t *testing.T) {
	for _, c := range textContexts() {
		for _, form := range c.forms {
			for i := 1; i < len(form); i++ {
				for _, before := range []string{"", "a", "\xff", c.escape("<%\\")} {
					checkNotUnescaped(t, c, before+form[:i])
				}
			}
		}
	}
}

// hexValue returns the value of two digits; -1 if one of them is none.
func hexValue(pair string, lowerCase bool) int {
	n := 0
	for _, c := range []byte(pair) {
		digit := strings.IndexByte("0123456789ABCDEF", c)
		if digit < 0 && lowerCase {
			digit = strings.IndexByte("0123456789abcdef", c)
		}
		if digit < 0 {
			return -1
		}
		n = n*16 + digit
	}
	return n
}

// TestAnyTwoDigits has all pairs of bytes behind the signs that begin a sequence of digits.
func TestAnyTwoDigits(t *testing.T) {
	for _, c := range []struct {
		context, sign string
		lowerCase     bool
	}{
		{"URL", "%", true},
		{"Script", "\\x", false},
	} {
		context := contextNamed(t, c.context)
		for i := range 1 << 16 {
			pair := string([]byte{byte(i), byte(i >> 8)})
			s := "<" + c.sign + pair + ">"
			if n := hexValue(pair, c.lowerCase); n >= 0 {
				checkUnescaped(t, context, s, "<"+string([]byte{byte(n)})+">")
			} else {
				checkNotUnescaped(t, context, s)
			}
		}
	}
}

func TestAnyByteBehindTheSigns(t *testing.T) {
	html, script := contextNamed(t, "HTML"), contextNamed(t, "Script")
	for _, b := range rawForms() {
		checkNotUnescaped(t, html, "&"+b)
		checkNotUnescaped(t, html, "&"+b+";")
		if b != ";" {
			checkNotUnescaped(t, html, "&amp"+b)
			checkNotUnescaped(t, html, "&lt"+b+"gt;")
		}
		if b != "x" {
			checkNotUnescaped(t, script, "\\"+b+"41")
		}
	}
}

func TestOtherBytesStay(t *testing.T) {
	special := map[string]string{"HTML": "&", "URL": "%+", "Script": "\\"}
	for _, c := range textContexts() {
		for _, b := range rawForms() {
			if !strings.Contains(special[c.name], b) {
				checkUnescaped(t, c, b, b)
				checkUnescaped(t, c, b+"4"+b, b+"4"+b)
			}
		}
	}
}

// isWritten reports whether s is put together of the forms of a context. No form is the beginning of another one.
func isWritten(forms map[string]bool, s string) bool {
	for s != "" {
		size := 1
		for size <= len(s) && !forms[s[:size]] {
			size++
		}
		if size > len(s) {
			return false
		}
		s = s[size:]
	}
	return true
}

// TestSafeTexts puts every text of up to four pieces together.
func TestSafeTexts(t *testing.T) {
	for _, c := range textContexts() {
		forms := map[string]bool{}
		for _, form := range c.forms {
			forms[form] = true
		}
		safe, texts := 0, []string{""}
		for range 5 {
			var longer []string
			for _, s := range texts {
				want := isWritten(forms, s)
				checkSafe(t, c.number, s, want)
				if want {
					safe++
				}
				for _, piece := range c.pieces {
					longer = append(longer, s+piece)
				}
			}
			texts = longer
		}
		if safe < 100 {
			t.Errorf("%d texts are safe in %s", safe, c.name)
		}
	}
}

func TestUnescapedButNotSafe(t *testing.T) {
	for _, c := range []struct {
		context string
		texts   []string
	}{
		{"HTML", []string{"<", ">", "\"", "'", "a<b", "&lt;b>", "&amp;'", "\xff\""}},
		{"URL", []string{"%41", "%7a", "%7A", "%2f", "%2D", "%5F", "%2E", "%7E", "%30", "a b", "a+b", "/", "%20%41", "\x80", "\xff", "%c3%A9", "&", "\n"}},
		{"Script", []string{"\\x41", "\\x20", "\\x7E", "\\x3B", "\\x25", "'", "\"", "<", ">", "&", "\n", "\x1f", "\x7f", "\x80", "\xff", "\\x27\\x41", "\xc3\xa9"}},
	} {
		context := contextNamed(t, c.context)
		for _, s := range c.texts {
			if _, ok := context.unescape(s); !ok {
				t.Errorf("Unescape%s(%q) fails", c.context, s)
			}
			checkSafe(t, context.number, s, false)
		}
	}
}

func TestSafeInOneContextAlone(t *testing.T) {
	for _, c := range []struct {
		s                 string
		html, url, script bool
	}{
		{"", true, true, true},
		{"abc-1", true, true, true},
		{"a b", true, false, true},
		{"&lt;", true, false, false},
		{"%3C", true, true, true},
		{"%3c", true, false, true},
		{"%41", true, false, true},
		{"100%", true, false, true},
		{"\\x3C", true, false, true},
		{"\\x3c", true, false, false},
		{"\\", true, false, false},
		{"\xff", true, false, false},
		{"<", false, false, false},
		{"&", false, false, false},
	} {
		checkSafe(t, impl.ContextHTML, c.s, c.html)
		checkSafe(t, impl.ContextURL, c.s, c.url)
		checkSafe(t, impl.ContextScript, c.s, c.script)
	}
}

func TestOtherContexts(t *testing.T) {
	for _, context := range otherContexts() {
		for _, s := range append(plainTexts(), rawForms()...) {
			if got := impl.EscapeIn(context, s); got != s {
				t.Errorf("EscapeIn(%d, %q) = %q", context, s, got)
			}
			checkSafe(t, context, s, true)
		}
	}
}

func TestLongTexts(t *testing.T) {
	for _, c := range textContexts() {
		s := strings.Repeat(allBytes(), 1000)
		escaped := strings.Repeat(written(c, allBytes()), 1000)
		if c.escape(s) != escaped {
			t.Errorf("Escape%s of a long text is wrong", c.name)
		}
		if got, ok := c.unescape(escaped); got != s || !ok {
			t.Errorf("Unescape%s of a long text is wrong", c.name)
		}
		if !impl.IsSafeIn(c.number, escaped) || impl.IsSafeIn(c.number, escaped+"<") {
			t.Errorf("IsSafeIn(%d, s) is wrong for a long text", c.number)
		}
	}
}

func TestEscapedTextsShareNoMemory(t *testing.T) {
	s := strings.Clone("plain")
	check := func(what, got string) {
		t.Helper()
		if got != s || unsafe.StringData(got) == unsafe.StringData(s) {
			t.Errorf("%s is %q, in the memory of its argument", what, got)
		}
	}
	for _, c := range textContexts() {
		check("Escape"+c.name, c.escape(s))
		got, _ := c.unescape(s)
		check("Unescape"+c.name, got)
	}
	for context := impl.ContextRaw - 1; context <= impl.ContextScript+1; context++ {
		check("EscapeIn "+impl.FormatInt(context), impl.EscapeIn(context, s))
	}
}

// TestEscapingIsRepeatable checks that nothing is kept from call to call.
func TestEscapingIsRepeatable(t *testing.T) {
	for _, c := range textContexts() {
		for _, s := range plainTexts() {
			first := c.escape(s)
			c.escape("<%\\")
			c.unescape("&%\\")
			checkEscaped(t, c, s, first)
			checkBack(t, c, s)
		}
	}
}
