package tests

import (
	"fmt"
	"math"
	"math/big"
	"regexp"
	"slices"
	"strings"
	"testing"

	"loop.example/g01082/impl"
)

// wordsOver lists all strings of at most most bytes over an alphabet.
func wordsOver(alphabet string, most int) []string {
	all := []string{""}
	last := all
	for range most {
		var next []string
		for _, w := range last {
			for i := range len(alphabet) {
				next = append(next, w+alphabet[i:i+1])
			}
		}
		all = append(all, next...)
		last = next
	}
	return all
}

func TestLimitsOfStrings(t *testing.T) {
	if impl.MaxString != 4000 || impl.MaxDecimal != 999999 {
		t.Error("the limits are", impl.MaxString, impl.MaxDecimal)
	}
}

func TestFormatAndParseAllNumbers(t *testing.T) {
	for n := -impl.MaxDecimal; n <= impl.MaxDecimal; n++ {
		s, ok := impl.FormatInt(n)
		if want := fmt.Sprint(n); !ok || s != want {
			t.Fatalf("FormatInt(%d) = %q, %v; want %q", n, s, ok, want)
		}
		m, ok := impl.ParseInt(s)
		if !ok || m != n {
			t.Fatalf("ParseInt(%q) = %d, %v; want %d", s, m, ok, n)
		}
	}
}

func TestFormatIntOutOfBounds(t *testing.T) {
	for _, n := range []int{1000000, -1000000, 9999999, -9999999, math.MaxInt32 + 1, math.MaxInt, math.MinInt, math.MinInt + 1} {
		if s, ok := impl.FormatInt(n); ok || s != "" {
			t.Errorf("FormatInt(%d) = %q, %v; want a failure", n, s, ok)
		}
	}
}

func TestParseIntReadsJustWhatIsWritten(t *testing.T) {
	written := regexp.MustCompile(`\A(0|-?[1-9][0-9]{0,5})\z`)
	words := wordsOver("012589-+_. x", 4)
	for _, w := range wordsOver("09", 8) {
		words = append(words, w, "-"+w)
	}
	for _, w := range words {
		n, ok := impl.ParseInt(w)
		if ok != written.MatchString(w) {
			t.Fatalf("ParseInt(%q) = %d, %v", w, n, ok)
		}
		if ok && fmt.Sprint(n) != w || !ok && n != 0 {
			t.Fatalf("ParseInt(%q) = %d, %v", w, n, ok)
		}
	}
}

func TestParseIntFails(t *testing.T) {
	bad := []string{
		"1000000", "-1000000", "0999999", "00", "-00", "-01", "+0", "1e3", "0x1", "0b1", "1_000",
		" 1", "1 ", "1\n", "\t1", "1\x00", "\x001", "1.0", "1,", "- 1", "−1", "١", "１", "\xff", "1\xff",
		"9223372036854775807", "9223372036854775808", "-9223372036854775808", "18446744073709551617",
		strings.Repeat("1", 5000), strings.Repeat("0", 5000) + "1", "-" + strings.Repeat("9", 5000),
	}
	for _, s := range bad {
		if n, ok := impl.ParseInt(s); ok || n != 0 {
			t.Errorf("ParseInt(%.30q) = %d, %v; want a failure", s, n, ok)
		}
	}
}

// checkSplit compares SplitString with the library's, and joins the parts again.
func checkSplit(t *testing.T, s string, sep string) {
	t.Helper()
	parts, ok := impl.SplitString(s, sep)
	if !ok || !slices.Equal(parts, strings.Split(s, sep)) {
		t.Fatalf("SplitString(%.30q, %q) = %.30q, %v", s, sep, parts, ok)
	}
	if len(parts) != 1+strings.Count(s, sep) {
		t.Fatalf("SplitString(%.30q, %q) has %d parts", s, sep, len(parts))
	}
	before := slices.Clone(parts)
	joined, ok := impl.JoinStrings(parts, sep)
	if !ok || joined != s {
		t.Fatalf("JoinStrings(%.30q, %q) = %.30q, %v", parts, sep, joined, ok)
	}
	if !slices.Equal(parts, before) {
		t.Fatalf("JoinStrings has changed %.30q to %.30q", before, parts)
	}
}

func TestSplitThenJoin(t *testing.T) {
	for _, s := range wordsOver(",;a\xc3", 6) {
		checkSplit(t, s, ",")
		checkSplit(t, s, "\xc3")
		checkSplit(t, s, "z")
	}
	every := make([]byte, 256)
	for c := range every {
		every[c] = byte(c)
	}
	for c := range every {
		sep := string(every[c : c+1])
		checkSplit(t, string(every), sep)
		checkSplit(t, sep+sep+"é\xff"+sep, sep)
	}
}

func TestSplitLongTexts(t *testing.T) {
	for _, unit := range []string{"a", ",", "a,", "ab,,"} {
		full := strings.Repeat(unit, impl.MaxString/len(unit))
		if len(full) != impl.MaxString {
			t.Fatal("the text has a wrong length")
		}
		checkSplit(t, full, ",")
		for _, longer := range []string{full + "a", full + ",", "," + full, full + full, strings.Repeat(full, 300)} {
			if parts, ok := impl.SplitString(longer, ","); ok || len(parts) != 0 {
				t.Errorf("SplitString of %d bytes: %d parts, %v; want a failure", len(longer), len(parts), ok)
			}
		}
	}
}

// badSeparators are all strings of no byte or of several that stand for a kind of mistake.
func badSeparators() []string {
	return []string{"", ",,", ", ", ",;", "ab", "é", "€", "\xff\xfe", strings.Repeat(",", 300)}
}

func TestSplitAndJoinBadSeparators(t *testing.T) {
	for _, sep := range badSeparators() {
		for _, s := range []string{"", "a", "a,,b", "abé€\xff\xfe" + sep} {
			if parts, ok := impl.SplitString(s, sep); ok || len(parts) != 0 {
				t.Errorf("SplitString(%q, %q) = %q, %v; want a failure", s, sep, parts, ok)
			}
		}
		for _, parts := range [][]string{nil, {}, {""}, {"x"}, {"x", "y"}, {"", "", ""}} {
			if s, ok := impl.JoinStrings(parts, sep); ok || s != "" {
				t.Errorf("JoinStrings(%q, %q) = %q, %v; want a failure", parts, sep, s, ok)
			}
		}
	}
}

func TestSplitResultsAreNew(t *testing.T) {
	first, _ := impl.SplitString("a,b,c", ",")
	first[0], first[2] = "x", "y"
	second, ok := impl.SplitString("a,b,c", ",")
	if !ok || !slices.Equal(second, []string{"a", "b", "c"}) {
		t.Errorf("SplitString after a change of an earlier result = %q, %v", second, ok)
	}
}

// splitIsInverse tells whether splitting the joined text leads back to the parts, which the
// library joins, too.
func splitIsInverse(parts []string, sep string) bool {
	s, ok := impl.JoinStrings(parts, sep)
	if !ok || s != strings.Join(parts, sep) {
		return false
	}
	again, ok := impl.SplitString(s, sep)
	return ok && slices.Equal(again, parts)
}

func TestJoinThenSplit(t *testing.T) {
	elements := wordsOver("a;\xff", 2)
	for _, a := range elements {
		for _, b := range elements {
			for _, c := range elements {
				for _, parts := range [][]string{{a}, {a, b}, {a, b, c}} {
					inside := slices.ContainsFunc(parts, func(p string) bool { return strings.Contains(p, ";") })
					if inside {
						if s, ok := impl.JoinStrings(parts, ";"); ok || s != "" {
							t.Fatalf("JoinStrings(%q) = %q, %v; want a failure", parts, s, ok)
						}
					} else if !splitIsInverse(parts, ";") {
						t.Fatalf("JoinStrings(%q) is not inverse to SplitString", parts)
					}
				}
			}
		}
	}
}

func TestJoinSeparatorInside(t *testing.T) {
	for _, bad := range []string{";", ";b", "b;", "b;b", "b;;b", strings.Repeat("b", 100) + ";" + strings.Repeat("b", 100)} {
		for at := range 5 {
			parts := []string{"a", "", "aa", "", "aaa"}
			parts[at] = bad
			before := slices.Clone(parts)
			if s, ok := impl.JoinStrings(parts, ";"); ok || s != "" {
				t.Errorf("JoinStrings(%q) = %q, %v; want a failure", parts, s, ok)
			}
			if !slices.Equal(parts, before) {
				t.Errorf("JoinStrings has changed %q to %q", before, parts)
			}
			if !splitIsInverse(parts, ",") {
				t.Errorf("JoinStrings(%q) with another separator fails", parts)
			}
		}
	}
	for c := range 256 {
		sep := string([]byte{byte(c)})
		if s, ok := impl.JoinStrings([]string{"", "x" + sep + "y"}, sep); ok || s != "" {
			t.Errorf("JoinStrings with %q inside = %q, %v; want a failure", sep, s, ok)
		}
	}
}

func TestJoinLongTexts(t *testing.T) {
	a := strings.Repeat("a", impl.MaxString)
	for _, parts := range [][]string{
		{a},
		{a[1:], ""},
		{"", a[1:]},
		{"", a[2:], ""},
		{a[:2000], a[2001:]},
		make([]string, impl.MaxString+1),
	} {
		if s, ok := impl.JoinStrings(parts, ";"); len(s) != impl.MaxString || !ok || !splitIsInverse(parts, ";") {
			t.Errorf("JoinStrings of %d elements with %d bytes in all: %d, %v", len(parts), impl.MaxString, len(s), ok)
		}
	}
	for _, parts := range [][]string{
		{a + "a"},
		{a, ""},
		{"", a},
		{a[1:], "", ""},
		{a[:2000], a[2000:]},
		{a, a},
		make([]string, impl.MaxString+2),
		make([]string, 1000000),
		{strings.Repeat("a", 1000000), strings.Repeat("a", 1000000)},
		{strings.Repeat(";", impl.MaxString+1)},
	} {
		if s, ok := impl.JoinStrings(parts, ";"); ok || s != "" {
			t.Errorf("JoinStrings of %d elements, too long: %d bytes, %v; want a failure", len(parts), len(s), ok)
		}
	}
}

func TestJoinEmptyLists(t *testing.T) {
	for _, parts := range [][]string{nil, {}} {
		if s, ok := impl.JoinStrings(parts, ";"); ok || s != "" {
			t.Errorf("JoinStrings of no element = %q, %v; want a failure", s, ok)
		}
	}
	if s, ok := impl.JoinStrings([]string{""}, ";"); !ok || s != "" {
		t.Errorf("JoinStrings of an empty element = %q, %v", s, ok)
	}
	if parts, ok := impl.SplitString("", ";"); !ok || !slices.Equal(parts, []string{""}) {
		t.Errorf("SplitString of the empty string = %q, %v", parts, ok)
	}
}

// isLess compares two strings byte by byte, as the document says it.
func isLess(a string, b string) bool {
	for i := range min(len(a), len(b)) {
		if a[i] != b[i] {
			return a[i] < b[i]
		}
	}
	return len(a) < len(b)
}

func TestLessString(t *testing.T) {
	words := append(wordsOver("\x00Za\x7f\x80\xff", 3), "é", "z", strings.Repeat("a", 5000), strings.Repeat("a", 5001))
	for _, a := range words {
		for _, b := range words {
			if impl.LessString(a, b) != isLess(a, b) {
				t.Fatalf("LessString(%.20q, %.20q) = %v", a, b, !isLess(a, b))
			}
		}
	}
}

// sumOf adds up the checksum as a number without bounds before it is reduced.
func sumOf(s string) int {
	h := big.NewInt(7)
	for i := range len(s) {
		h.Mul(h, big.NewInt(41))
		h.Add(h, big.NewInt(int64(s[i])+1))
	}
	return int(h.Mod(h, big.NewInt(999979)).Int64())
}

// sampleTexts are texts without `#`, up to the longest ones that can be sealed with any sum.
func sampleTexts() []string {
	list := append(wordsOver("\x00a \xff", 3), "a", "key 1@ok", "été", "385", "-1", "\"\n")
	for _, n := range []int{50, 1000, impl.MaxString - 7} {
		list = append(list, strings.Repeat("x", n), strings.Repeat("\xff", n), strings.Repeat("\x00", n))
	}
	return list
}

func TestChecksum(t *testing.T) {
	for s, want := range map[string]int{"": 7, "a": 385, "\x00": 288, "\xff": 543, "ab": 41*385 + 99, "ba": 41*386 + 98} {
		if n, ok := impl.Checksum(s); !ok || n != want {
			t.Errorf("Checksum(%q) = %d, %v; want %d", s, n, ok, want)
		}
	}
	for _, s := range append(sampleTexts(), "#", "a#385", strings.Repeat("y", impl.MaxString), strings.Repeat("\xff", impl.MaxString)) {
		if n, ok := impl.Checksum(s); !ok || n != sumOf(s) {
			t.Errorf("Checksum(%.20q) = %d, %v; want %d", s, n, ok, sumOf(s))
		}
	}
	for _, n := range []int{impl.MaxString + 1, 2 * impl.MaxString, 1000000} {
		if sum, ok := impl.Checksum(strings.Repeat("y", n)); ok || sum != 0 {
			t.Errorf("Checksum of %d bytes = %d, %v; want a failure", n, sum, ok)
		}
	}
}

func TestSealThenVerify(t *testing.T) {
	for _, s := range sampleTexts() {
		sealed, ok := impl.AppendChecksum(s)
		if want := fmt.Sprintf("%s#%d", s, sumOf(s)); !ok || sealed != want {
			t.Fatalf("AppendChecksum(%.20q) = %.30q, %v; want %.30q", s, sealed, ok, want)
		}
		if text, ok := impl.VerifyChecksum(sealed); !ok || text != s {
			t.Fatalf("VerifyChecksum(%.30q) = %.20q, %v", sealed, text, ok)
		}
	}
}

func TestAppendChecksumFails(t *testing.T) {
	bad := []string{"#", "a#", "#a", "a#385", "##", strings.Repeat("a", 100) + "#", strings.Repeat("#", impl.MaxString+1)}
	for _, s := range bad {
		if sealed, ok := impl.AppendChecksum(s); ok || sealed != "" {
			t.Errorf("AppendChecksum(%.20q) = %.20q, %v; want a failure", s, sealed, ok)
		}
	}
}

func TestAppendChecksumLength(t *testing.T) {
	for n := impl.MaxString - 9; n <= impl.MaxString+2; n++ {
		// Some of these sums have fewer digits than others.
		for c := 1; c < 256; c += 5 {
			s := string([]byte{byte(c)}) + strings.Repeat("q", n-1)
			want := fmt.Sprintf("%s#%d", s, sumOf(s))
			sealed, ok := impl.AppendChecksum(s)
			if fits := len(want) <= impl.MaxString; ok != fits || fits && sealed != want || !fits && sealed != "" {
				t.Fatalf("AppendChecksum of %d bytes: %d bytes, %v", n, len(sealed), ok)
			}
			text, ok := impl.VerifyChecksum(want)
			if fits := len(want) <= impl.MaxString; ok != fits || fits && text != s || !fits && text != "" {
				t.Fatalf("VerifyChecksum of %d bytes: %d bytes, %v", len(want), len(text), ok)
			}
		}
	}
}

// checkEveryChange puts each other byte in each place of a sealed text.
func checkEveryChange(t *testing.T, s string) {
	t.Helper()
	sealed, ok := impl.AppendChecksum(s)
	if !ok {
		t.Fatalf("AppendChecksum(%.20q) fails", s)
	}
	for i := range len(sealed) {
		for c := range 256 {
			if byte(c) == sealed[i] {
				continue
			}
			changed := sealed[:i] + string([]byte{byte(c)}) + sealed[i+1:]
			if text, ok := impl.VerifyChecksum(changed); ok || text != "" {
				t.Fatalf("VerifyChecksum of %.30q with the byte %d at %d = %.20q, %v; want a failure", sealed, c, i, text, ok)
			}
		}
	}
}

func TestEverySingleChangedByte(t *testing.T) {
	for _, s := range append(wordsOver("a\xff", 3), "key 1@ok", "step 0 0@1", "\x00\x00\x00", strings.Repeat("ab ", 60)) {
		checkEveryChange(t, s)
	}
}

func TestSingleChangedByteOfLongText(t *testing.T) {
	s := strings.Repeat("long text; ", impl.MaxString)[:impl.MaxString-7]
	sealed, ok := impl.AppendChecksum(s)
	if !ok {
		t.Fatal("the longest text cannot be sealed")
	}
	for i := range len(sealed) {
		for _, d := range []byte{1, 128, 255} {
			changed := []byte(sealed)
			changed[i] += d
			if text, ok := impl.VerifyChecksum(string(changed)); ok || text != "" {
				t.Fatalf("VerifyChecksum finds no change by %d at %d", d, i)
			}
		}
	}
}

func TestVerifyChecksumFails(t *testing.T) {
	bad := []string{
		"", "a", "#", "##", "a#", "#a", "#0", "#8", "#07", "#+7", "# 7", "#7 ", "#7\n", "#7#", "##7", "#7#7",
		"a#384", "a#386", "a#0385", "a#+385", "a# 385", "a#385 ", "a#385\n", "a#385#", "a##385", "#385", "385",
		"a#385#385", "a#385#1", "a#-385", "a#1000364", "A#385", "b#385", "a#38", "a#3850", "a#385a", "\x00a#385",
	}
	for _, inner := range []string{"a#1", "a#385", "#"} {
		bad = append(bad, fmt.Sprintf("%s#%d", inner, sumOf(inner)))
	}
	for _, n := range []int{impl.MaxString - 1, impl.MaxString, impl.MaxString + 1, 1000000} {
		s := strings.Repeat("l", n)
		bad = append(bad, s, fmt.Sprintf("%s#%d", s, sumOf(s[:min(n, 5000)])), strings.Repeat("#", n))
	}
	for _, s := range bad {
		if text, ok := impl.VerifyChecksum(s); ok || text != "" {
			t.Errorf("VerifyChecksum(%.30q) = %.20q, %v; want a failure", s, text, ok)
		}
	}
}

func TestVerifyChecksumOfEmptyText(t *testing.T) {
	if text, ok := impl.VerifyChecksum("#7"); !ok || text != "" {
		t.Errorf("VerifyChecksum(%q) = %q, %v", "#7", text, ok)
	}
}
