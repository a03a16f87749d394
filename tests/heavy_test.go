package tests

import (
	"math"
	"slices"
	"strings"
	"sync"
	"testing"

	"loop.example/scrutineer/impl"
)

// textsIn has the texts of one such as "a - bb", in which "-" is the empty one.
func textsIn(text string) []string {
	l := strings.Fields(text)
	for i, word := range l {
		l[i] = strings.Trim(word, "-")
	}
	return l
}

// allPrefixes is ascending among those of one length.
func allPrefixes() []string {
	return textsIn("- a b aa ab ba bb aaa aab aba abb baa bab bba bbb")
}

func allWords() []string {
	return allPrefixes()[7:]
}

// shortPrefixes has those that a letter can follow.
func shortPrefixes() []string {
	return allPrefixes()[:7:7]
}

// forWordLists has every word list in one order, which is ascending.
func forWordLists(check func(l []string)) {
	all := allWords()
	var from func(l []string, first int)
	from = func(l []string, first int) {
		check(l)
		if len(l) == 12 {
			return
		}
		for i := first; i < len(all); i++ {
			from(append(l, all[i]), i)
		}
	}
	from(make([]string, 0, 12), 0)
}

// forTexts has every list of so many of these texts, in every order.
func forTexts(many int, texts []string, check func(l []string)) {
	var places []int
	for i := range texts {
		places = append(places, i)
	}
	forTuples(many, places, func(chosen []int) {
		l := make([]string, many)
		for i, place := range chosen {
			l[i] = texts[place]
		}
		check(l)
	})
}

// texts has drawn ones of these.
func (d *draw) texts(many int, of []string) []string {
	l := make([]string, many)
	for i := range l {
		l[i] = of[d.element()%len(of)]
	}
	return l
}

// shuffled has the same texts in a drawn order.
func (d *draw) shuffled(l []string) []string {
	l = slices.Clone(l)
	for i := range l {
		j := i + d.element()%(len(l)-i)
		l[i], l[j] = l[j], l[i]
	}
	return l
}

// someWordLists has lists of no word, of one word again and again, of every word,
// and drawn ones.
func someWordLists() [][]string {
	lists := [][]string{nil, {}, allWords(), textsIn("bbb bba bab baa abb aba aab aaa"), textsIn("aab bba aab aba")}
	d := draw(118)
	for many := 1; many <= 12; many++ {
		for _, word := range allWords() {
			lists = append(lists, slices.Repeat([]string{word}, many))
		}
		for range 6 {
			lists = append(lists, d.texts(many, allWords()), d.texts(many, textsIn("aab bba bbb")))
		}
	}
	return lists
}

// noWords has texts that are almost words.
func noWords() []string {
	bad := textsIn("- a b aa ab ba bb aaaa aaab abab baaa bbbb aabb aabaab aabbba A Aab aBa baB AAA BBB ABA c z 1 123 aac aca caa cab abc bbc xyz a.b")
	bad = append(bad, " ", " ab", "a b", "ab ", "a ", " a", "aab ", " aab", "aab\n", "\naab", "ab\n", "a\x00b", "\x00ab", "ab\x00", "aab\x00", "\x00\x00\x00")
	// A letter of more than one byte, and bytes that are none, at each place.
	bad = append(bad, "éab", "aéb", "abé", "éa", "aé", "é", "€", "€ab", "a€b", "ab€", "😀", "😀ab", "\uff41", "\uff41\uff41\uff41", "\u0430", "\u0430a", "\u0430\u0430\u0430", "a\u0301", "a\u0301b")
	bad = append(bad, "\xffab", "a\xffb", "ab\xff", "\xffaab", "aab\xff", "\xff", "\xff\xff\xff", "\xc3ab", "a\xc3b", "ab\xc3", "\x80ab", "a\x80b", "ab\x80", "\xc1\xa1a", "\xe1ab", "\xe1\xe2\xe1", "\xed\xa0\x80", "\ufffdab", "\ufffd")
	for _, many := range []int{4, 6, 255, 256, 257, 258, 259, 260, 65536, 65539, 1 << 20} {
		bad = append(bad, strings.Repeat("a", many), strings.Repeat("b", many))
	}
	return bad
}

// noPrefixes has no shorter texts of "a" and "b", which are no words, either.
func noPrefixes() []string {
	return slices.DeleteFunc(noWords(), rightPrefix)
}

// someHeads has lists that HeavyNext is to take.
func someHeads() [][]string {
	lists := [][]string{
		{""}, {"", ""}, {"a"}, {"b"}, {"a", "b"}, {"b", "a"}, {"a", "a"}, {"aa"}, {"bb", "bb", "bb"},
		textsIn("aa ab ba bb"), textsIn("bb ba ab aa"), textsIn("ab ba"), textsIn("- a aa"), textsIn("bb b -"), textsIn("a - bb a"), shortPrefixes(),
	}
	d := draw(119)
	for many := 1; many <= 12; many++ {
		lists = append(lists, slices.Repeat([]string{""}, many), slices.Repeat([]string{"ab"}, many))
		for range 3 {
			lists = append(lists, d.texts(many, shortPrefixes()), d.texts(many, textsIn("a b")), d.texts(many, textsIn("aa ab ba bb")))
		}
	}
	return lists
}

// noHeads has lists of which HeavyNext is to be empty.
func noHeads() [][]string {
	lists := [][]string{nil, {}, allWords(), allPrefixes(), textsIn("- aab"), textsIn("aab -"), textsIn("a aab b"), textsIn("aa bbb")}
	for _, head := range shortPrefixes() {
		for _, many := range []int{13, 14, 100} {
			lists = append(lists, slices.Repeat([]string{head}, many))
		}
	}
	for _, bad := range slices.Concat(allWords(), noPrefixes()) {
		lists = append(lists, []string{bad}, []string{bad, "a"}, []string{"", bad}, []string{"aa", bad, "bb"}, []string{bad, bad})
	}
	return lists
}

// thresholds has those up to above the number of words, and far ones, of which
// some are near in a smaller integer type.
func thresholds() []int {
	needs := []int{
		math.MinInt, math.MinInt + 1, math.MinInt + 5, math.MinInt32, -(1 << 32), 1 - 1<<32, -65535, -255, -254, -100, -13, -12, -3, -2, -1,
		math.MaxInt, math.MaxInt - 1, math.MaxInt32, math.MaxUint32, 1 << 32, 1<<32 + 1, 1 << 16, 1<<16 + 1, 256, 257, 100, 31,
	}
	for need := range 15 {
		needs = append(needs, need)
	}
	return needs
}

// rightPrefix is what a prefix is, as the document describes it.
func rightPrefix(text string) bool {
	return len(text) <= 3 && strings.Count(text, "a")+strings.Count(text, "b") == len(text)
}

func rightWords(l []string) bool {
	return len(l) <= 12 && !slices.ContainsFunc(l, func(word string) bool { return len(word) != 3 || !rightPrefix(word) })
}

// manyOf is what HeavyMany is to return.
func manyOf(l []string, head string) int {
	if !rightWords(l) || !rightPrefix(head) {
		return -1
	}
	many := 0
	for _, word := range l {
		if strings.HasPrefix(word, head) {
			many++
		}
	}
	return many
}

// nextOf is what HeavyNext is to return.
func nextOf(heads []string) []string {
	if len(heads) > 12 || slices.ContainsFunc(heads, func(head string) bool { return len(head) > 2 || !rightPrefix(head) }) {
		return nil
	}
	var out []string
	for _, head := range heads {
		for _, letter := range []string{"a", "b"} {
			out = append(out, head+letter)
		}
	}
	return out
}

// stepOf is what HeavyStep is to return.
func stepOf(l, heads []string, need int) []string {
	if !rightWords(l) {
		return nil
	}
	return slices.DeleteFunc(nextOf(heads), func(head string) bool { return manyOf(l, head) < need })
}

// timesIn is how often a text is there.
func timesIn(l []string, text string) int {
	many := 0
	for _, other := range l {
		if other == text {
			many++
		}
	}
	return many
}

// foundIn is what HeavyAll is to return.
func foundIn(l []string, need int) []string {
	if !rightWords(l) || need < 1 {
		return nil
	}
	return slices.DeleteFunc(allWords(), func(word string) bool { return timesIn(l, word) < need })
}

// shown has the first texts of a list that may be very long.
func shown(l []string) []string {
	return l[:min(len(l), 20)]
}

func wordsAre(t *testing.T, l []string, want bool) {
	t.Helper()
	if got := impl.WordsOk(l); got != want {
		t.Errorf("WordsOk of %d words, %.99q, is %t", len(l), shown(l), got)
	}
}

func startingIs(t *testing.T, l []string, head string, want int) {
	t.Helper()
	if got := impl.HeavyMany(l, head); got != want {
		t.Errorf("HeavyMany(%.99q, %.99q) is %d, not %d", shown(l), head, got, want)
	}
}

func nextIs(t *testing.T, heads, want []string) {
	t.Helper()
	if got := impl.HeavyNext(heads); !slices.Equal(got, want) {
		t.Errorf("HeavyNext(%.99q) is %.99q, not %q", shown(heads), shown(got), want)
	}
}

func stepIs(t *testing.T, l, heads []string, need int, want []string) {
	t.Helper()
	if got := impl.HeavyStep(l, heads, need); !slices.Equal(got, want) {
		t.Errorf("HeavyStep(%.99q, %.99q, %d) is %.99q, not %q", shown(l), shown(heads), need, shown(got), want)
	}
}

func foundIs(t *testing.T, l []string, need int, want []string) {
	t.Helper()
	if got := impl.HeavyAll(l, need); !slices.Equal(got, want) {
		t.Errorf("HeavyAll(%.99q, %d) is %.99q, not %q", shown(l), need, shown(got), want)
	}
}

// wordsAreRight checks every function of a list, whether or not it is a word
// list.
func wordsAreRight(t *testing.T, l []string) {
	t.Helper()
	wordsAre(t, l, rightWords(l))
	for _, head := range append(allPrefixes(), "aaaa", "c") {
		startingIs(t, l, head, manyOf(l, head))
	}
	for _, need := range thresholds() {
		foundIs(t, l, need, foundIn(l, need))
		stepIs(t, l, textsIn("bb - a"), need, stepOf(l, textsIn("bb - a"), need))
	}
}

// isNoWordList checks every function of a list that is none.
func isNoWordList(t *testing.T, l []string) {
	t.Helper()
	wordsAre(t, l, false)
	for _, head := range textsIn("- a b ab aab bbb aaaa c") {
		startingIs(t, l, head, -1)
	}
	for _, need := range []int{math.MinInt, -1, 0, 1, 2, 12, 13, math.MaxInt} {
		for _, heads := range [][]string{nil, {""}, {"a", "b"}, {"aa", "bb"}, {"aab"}} {
			stepIs(t, l, heads, need, nil)
		}
		foundIs(t, l, need, nil)
	}
}

// Chapter 41
func TestLimitsOfWordsAreThoseOfTheDocument(t *testing.T) {
	if impl.WordLen != 3 || impl.WordMax != 12 {
		t.Errorf("WordLen is %d, WordMax is %d", impl.WordLen, impl.WordMax)
	}
}

// P124: by hand.
func TestWordsOkOfExamples(t *testing.T) {
	for _, text := range []string{"", "aab", "bbb", "aaa aaa", "aab bba aab aba", "aaa aab aba abb baa bab bba bbb", "aaa aab aba abb baa bab bba bbb aaa aab aba abb"} {
		wordsAre(t, textsIn(text), true)
	}
	for _, text := range []string{
		"-", "a", "ab", "aaaa", "abab", "abc", "cab", "acb", "Aab", "aBb", "abA", "aab -", "- aab", "aab - aab", "aab ab", "aab aaaa aab", "éab", "éa",
		"aaa aab aba abb baa bab bba bbb aaa aab aba abb baa",
	} {
		isNoWordList(t, textsIn(text))
	}
}

// P118, P124: every text of up to three bytes as the only word and as a prefix.
func TestEveryShortTextAsAWordAndAsAPrefix(t *testing.T) {
	words, prefixes := 0, 0
	one := make([]string, 1)
	check := func(text string) {
		one[0] = text
		isWord, isPrefix := impl.WordsOk(one), impl.HeavyMany(nil, text) == 0
		if isPrefix != rightPrefix(text) || isWord != (isPrefix && len(text) == 3) {
			t.Fatalf("%q is a word: %t, a prefix: %t", text, isWord, isPrefix)
		}
		if isNext := len(impl.HeavyNext(one)) > 0; isNext != (isPrefix && len(text) < 3) {
			t.Fatalf("HeavyNext of %q is empty: %t", text, !isNext)
		}
		if isWord {
			words++
		}
		if isPrefix {
			prefixes++
		}
	}
	check("")
	for i := range 256 {
		check(string([]byte{byte(i)}))
		for j := range 256 {
			check(string([]byte{byte(i), byte(j)}))
			for k := range 256 {
				check(string([]byte{byte(i), byte(j), byte(k)}))
			}
		}
	}
	if words != 8 || prefixes != 15 {
		t.Errorf("there are %d words and %d prefixes", words, prefixes)
	}
}

// P124: one byte more than a word, before it, inside, and behind.
func TestWordsThatAreLongerByOneByte(t *testing.T) {
	for _, word := range allWords() {
		for place := range len(word) + 1 {
			for other := range 256 {
				longer := word[:place] + string([]byte{byte(other)}) + word[place:]
				wordsAre(t, []string{longer}, false)
				wordsAre(t, []string{word, longer}, false)
				startingIs(t, []string{word}, longer, -1)
				nextIs(t, []string{longer}, nil)
			}
		}
	}
}

// P124: a byte of a word replaced by each other one.
func TestWordsWithAnotherLetterAtEachPlace(t *testing.T) {
	for _, word := range allWords() {
		for place := range len(word) {
			for other := range 256 {
				if other == 'a' || other == 'b' {
					continue
				}
				bad := word[:place] + string([]byte{byte(other)}) + word[place+1:]
				wordsAre(t, []string{word, bad, word}, false)
				startingIs(t, []string{word, bad, word}, word[:place], -1)
				startingIs(t, []string{word}, bad, -1)
				startingIs(t, []string{word}, bad[:place+1], -1)
				foundIs(t, []string{word, bad, word}, 1, nil)
				stepIs(t, []string{word, bad, word}, []string{""}, 1, nil)
				stepIs(t, []string{word}, []string{bad[:place+1]}, 1, nil)
			}
		}
	}
}

// P124: at the first, a middle, and the last place of a list, and at all others.
func TestWordListsWithAnInvalidWordAtEachPlace(t *testing.T) {
	for _, bad := range noWords() {
		for _, many := range []int{1, 2, 3, 7, 12, 13} {
			for place := range many {
				for _, word := range textsIn("aaa bab") {
					l := slices.Repeat([]string{word}, many)
					l[place] = bad
					wordsAre(t, l, false)
					startingIs(t, l, "", -1)
					startingIs(t, l, word, -1)
					stepIs(t, l, []string{""}, 0, nil)
					foundIs(t, l, 1, nil)
				}
			}
		}
		isNoWordList(t, []string{bad})
		isNoWordList(t, []string{bad, bad})
		isNoWordList(t, []string{"aab", bad, "aab"})
	}
}

// P124
func TestNumbersOfWords(t *testing.T) {
	for many := range 100 {
		for _, word := range allWords() {
			l := slices.Repeat([]string{word}, many)
			if many > 12 {
				isNoWordList(t, l)
				continue
			}
			wordsAre(t, l, true)
			startingIs(t, l, "", many)
			startingIs(t, l, word, many)
		}
	}
}

// P124: numbers of words that are small in a smaller integer type, too.
func TestVeryManyWords(t *testing.T) {
	for _, many := range []int{255, 256, 257, 265, 268, 65535, 65536, 65537, 65548, 1 << 20, 1<<20 + 12} {
		isNoWordList(t, slices.Repeat([]string{"aab"}, many))
		isNoWordList(t, make([]string, many))
	}
}

// P124: every word list is valid, and also without any one of its words, and not
// with a shorter one or another letter.
func TestWordListsStayValidWithoutAWord(t *testing.T) {
	with := 0
	forWordLists(func(l []string) {
		wordsAre(t, l, true)
		for place := range l {
			with++
			without := slices.Concat(l[:place], l[place+1:])
			wordsAre(t, without, true)
			if with%7 != 0 {
				continue
			}
			for _, bad := range []string{"", l[place][:2], l[place][1:], l[place] + "a", "c" + l[place][1:], l[place][:1] + "B" + l[place][2:], l[place][:2] + "\xff"} {
				wordsAre(t, slices.Concat(l[:place], []string{bad}, l[place+1:]), false)
			}
		}
	})
	if with < 1000000 {
		t.Errorf("only %d words are left out", with)
	}
}

// P118: by hand.
func TestHeavyManyOfExamples(t *testing.T) {
	l := textsIn("aab bba aab aba")
	for _, c := range []struct {
		head string
		want int
	}{
		{"", 4}, {"a", 3}, {"b", 1}, {"aa", 2}, {"ab", 1}, {"ba", 0}, {"bb", 1},
		{"aaa", 0}, {"aab", 2}, {"aba", 1}, {"abb", 0}, {"baa", 0}, {"bab", 0}, {"bba", 1}, {"bbb", 0},
		{"aaba", -1}, {"aaab", -1}, {"bbab", -1}, {"c", -1}, {"ac", -1}, {"aac", -1}, {"A", -1}, {"aA", -1}, {"é", -1}, {"aé", -1}, {" ", -1}, {"a ", -1}, {" a", -1}, {"\x00", -1},
	} {
		startingIs(t, l, c.head, c.want)
	}
	for _, head := range allPrefixes() {
		startingIs(t, nil, head, 0)
		startingIs(t, []string{}, head, 0)
	}
}

// P118: every word list, in one order, and every prefix.
func TestHeavyManyOfEveryWordList(t *testing.T) {
	all := allPrefixes()
	forWordLists(func(l []string) {
		for _, head := range all {
			got := impl.HeavyMany(l, head)
			if want := manyOf(l, head); got != want {
				t.Fatalf("HeavyMany(%q, %q) is %d, not %d", l, head, got, want)
			}
			if head == "" && got != len(l) {
				t.Fatalf("HeavyMany(%q, \"\") is %d", l, got)
			}
			if len(head) == 3 && got != timesIn(l, head) {
				t.Fatalf("HeavyMany(%q, %q) is %d", l, head, got)
			}
			if len(head) < 3 && got != impl.HeavyMany(l, head+"a")+impl.HeavyMany(l, head+"b") {
				t.Fatalf("HeavyMany(%q, %q) is %d, which is not the sum of both extensions", l, head, got)
			}
		}
	})
}

// P118: of a word list with every prefix that is none, and of no word list with
// every prefix.
func TestHeavyManyOfInvalidArguments(t *testing.T) {
	for _, bad := range noPrefixes() {
		for _, l := range someWordLists()[:40] {
			startingIs(t, l, bad, -1)
		}
		for _, head := range append(allPrefixes(), noPrefixes()...) {
			startingIs(t, []string{bad}, head, -1)
			startingIs(t, []string{"aab", bad}, head, -1)
		}
	}
	for _, head := range append(allPrefixes(), noPrefixes()...) {
		startingIs(t, slices.Repeat([]string{"aab"}, 13), head, -1)
		startingIs(t, []string{"aab", ""}, head, -1)
		startingIs(t, []string{"ab"}, head, -1)
	}
}

// P119: by hand.
func TestHeavyNextOfExamples(t *testing.T) {
	for _, c := range [][2]string{
		{"", ""},
		{"-", "a b"},
		{"a", "aa ab"},
		{"b", "ba bb"},
		{"a b", "aa ab ba bb"},
		{"b a", "ba bb aa ab"},
		{"- -", "a b a b"},
		{"bb bb", "bba bbb bba bbb"},
		{"aa ab ba bb", "aaa aab aba abb baa bab bba bbb"},
		{"ba - a", "baa bab a b aa ab"},
		{"- a aa", "a b aa ab aaa aab"},
		{"aab", ""}, {"aab bbb", ""}, {"aa bba", ""}, {"bba aa", ""}, {"- aab -", ""}, {"a b aaa", ""}, {"aaaa", ""}, {"a aaaa", ""}, {"c", ""}, {"a c b", ""}, {"a B", ""},
		{"- - - - - - - - - - - -", "a b a b a b a b a b a b a b a b a b a b a b a b"},
		{"- - - - - - - - - - - - -", ""},
		{"a b a b a b a b a b a b", "aa ab ba bb aa ab ba bb aa ab ba bb aa ab ba bb aa ab ba bb aa ab ba bb"},
		{"a b a b a b a b a b a b a", ""},
	} {
		nextIs(t, textsIn(c[0]), textsIn(c[1]))
	}
	nextIs(t, nil, nil)
	nextIs(t, []string{}, nil)
}

// P119: all lists of up to four prefixes that a letter can follow.
func TestHeavyNextOfAllShortLists(t *testing.T) {
	for many := range 5 {
		forTexts(many, shortPrefixes(), func(heads []string) {
			got := impl.HeavyNext(heads)
			if len(got) != 2*many {
				t.Fatalf("HeavyNext(%q) is %q", heads, got)
			}
			for i, head := range heads {
				if got[2*i] != head+"a" || got[2*i+1] != head+"b" {
					t.Errorf("HeavyNext(%q) is %q", heads, got)
				}
			}
		})
	}
}

// P119: all lists of up to three prefixes, whole words among them.
func TestHeavyNextOfListsWithWholeWords(t *testing.T) {
	with := 0
	for many := 1; many <= 3; many++ {
		forTexts(many, allPrefixes(), func(heads []string) {
			nextIs(t, heads, nextOf(heads))
			if slices.ContainsFunc(heads, func(head string) bool { return len(head) == 3 }) {
				with++
				nextIs(t, heads, nil)
			}
		})
	}
	if with < 3000 {
		t.Errorf("only %d lists have whole words", with)
	}
}

// P119: of lists of each length.
func TestHeavyNextOfManyPrefixes(t *testing.T) {
	for _, heads := range someHeads() {
		if want := nextOf(heads); len(want) != 2*len(heads) {
			t.Fatalf("%q has %q", heads, want)
		}
		nextIs(t, heads, nextOf(heads))
	}
	for _, heads := range noHeads() {
		nextIs(t, heads, nil)
	}
	for many := range 100 {
		for _, head := range shortPrefixes() {
			heads := slices.Repeat([]string{head}, many)
			if many > 12 {
				nextIs(t, heads, nil)
			} else {
				nextIs(t, heads, slices.Repeat([]string{head + "a", head + "b"}, many))
			}
		}
	}
}

// P119: at the first, a middle, and the last place, and at all others.
func TestHeavyNextWithAnInvalidPrefixAtEachPlace(t *testing.T) {
	for _, bad := range slices.Concat(allWords(), noPrefixes()) {
		for _, many := range []int{1, 2, 3, 7, 12, 13} {
			for place := range many {
				for _, head := range textsIn("- b ab") {
					heads := slices.Repeat([]string{head}, many)
					heads[place] = bad
					nextIs(t, heads, nil)
					stepIs(t, textsIn("aab aab"), heads, 0, nil)
				}
			}
		}
	}
}

// Chapter 41: numbers of prefixes that are small in a smaller integer type, too.
func TestHeavyNextOfVeryManyPrefixes(t *testing.T) {
	for _, many := range []int{255, 256, 257, 265, 268, 65535, 65536, 65537, 65548, 1 << 20, 1<<20 + 12} {
		for _, head := range textsIn("- a ab aab c") {
			heads := slices.Repeat([]string{head}, many)
			nextIs(t, heads, nil)
			stepIs(t, textsIn("aab"), heads, 0, nil)
			stepIs(t, nil, heads, 0, nil)
		}
	}
}

// P120: by hand.
func TestHeavyStepOfExamples(t *testing.T) {
	l := textsIn("aab bba aab aba")
	for _, c := range []struct {
		heads string
		need  int
		want  string
	}{
		{"-", 1, "a b"}, {"-", 2, "a"}, {"-", 3, "a"}, {"-", 4, ""}, {"-", 0, "a b"}, {"-", -1, "a b"},
		{"a", 1, "aa ab"}, {"a", 2, "aa"}, {"a", 3, ""}, {"b", 1, "bb"}, {"b", 0, "ba bb"}, {"b", -5, "ba bb"}, {"b", 2, ""},
		{"a b", 1, "aa ab bb"}, {"b a", 1, "bb aa ab"}, {"a b", 2, "aa"},
		{"aa", 1, "aab"}, {"aa", 2, "aab"}, {"aa", 3, ""}, {"aa", 0, "aaa aab"}, {"aa ab bb", 1, "aab aba bba"}, {"bb ab aa", 1, "bba aba aab"},
		{"ba", 1, ""}, {"ba", 0, "baa bab"}, {"aa aa", 2, "aab aab"}, {"- -", 2, "a a"}, {"- a aa", 2, "a aa aab"}, {"aa a -", 2, "aab aa a"}, {"- bb", 1, "a b bba"},
		{"", 1, ""}, {"", 0, ""}, {"aab", 1, ""}, {"a aab", 1, ""}, {"aab a", 0, ""}, {"c", 0, ""}, {"a c", 1, ""}, {"aaaa", 0, ""},
	} {
		stepIs(t, l, textsIn(c.heads), c.need, textsIn(c.want))
	}
	stepIs(t, nil, textsIn("-"), 1, nil)
	stepIs(t, nil, textsIn("-"), 0, textsIn("a b"))
	stepIs(t, nil, textsIn("bb -"), math.MinInt, textsIn("bba bbb a b"))
	stepIs(t, textsIn("bab"), textsIn("-"), 1, textsIn("b"))
	stepIs(t, slices.Repeat([]string{"bab"}, 12), textsIn("ba -"), 12, textsIn("bab b"))
	stepIs(t, slices.Repeat([]string{"bab"}, 12), textsIn("ba -"), 13, nil)
	stepIs(t, slices.Repeat([]string{"bab"}, 13), textsIn("ba -"), 12, nil)
	stepIs(t, allWords(), textsIn("- b ab"), 2, textsIn("a b ba bb"))
	stepIs(t, allWords(), slices.Repeat([]string{"ab"}, 12), 1, slices.Repeat([]string{"aba", "abb"}, 12))
	stepIs(t, allWords(), slices.Repeat([]string{"ab"}, 13), 1, nil)
}

// P120: lists of words and of prefixes of all sorts, and every threshold.
func TestHeavyStepHasThosePrefixesThatAreOftenEnough(t *testing.T) {
	some, all, none := 0, 0, 0
	for _, l := range someWordLists() {
		for _, heads := range someHeads() {
			next := impl.HeavyNext(heads)
			var times []int
			for _, head := range next {
				startingIs(t, l, head, manyOf(l, head))
				times = append(times, impl.HeavyMany(l, head))
			}
			for _, need := range thresholds() {
				var want []string
				for i, head := range next {
					if times[i] >= need {
						want = append(want, head)
					}
				}
				stepIs(t, l, heads, need, want)
				switch len(want) {
				case 0:
					none++
				case len(next):
					all++
				default:
					some++
				}
			}
		}
	}
	if min(some, all, none) < 10000 {
		t.Errorf("%d steps have some prefixes, %d have all, and %d have none", some, all, none)
	}
}

// P120: all word lists of up to three words in every order, and all lists of up
// to two prefixes, of which some have a whole word.
func TestHeavyStepOfAllShortLists(t *testing.T) {
	for words := range 4 {
		forTexts(words, allWords(), func(l []string) {
			for many := range 3 {
				forTexts(many, allPrefixes()[:9], func(heads []string) {
					for need := range 5 {
						stepIs(t, l, heads, need, stepOf(l, heads, need))
					}
				})
			}
		})
	}
}

// P120: every word list, in one order, with the prefixes of each length.
func TestHeavyStepOfEveryWordList(t *testing.T) {
	levels := [][]string{textsIn("-"), textsIn("a b"), textsIn("aa ab ba bb")}
	forWordLists(func(l []string) {
		for _, heads := range levels {
			need := 1 + len(l)/2
			if got, want := impl.HeavyStep(l, heads, need), stepOf(l, heads, need); !slices.Equal(got, want) {
				t.Fatalf("HeavyStep(%q, %q, %d) is %q, not %q", l, heads, need, got, want)
			}
		}
	})
}

// P120: with a threshold below 1 also prefixes with which no word starts.
func TestHeavyStepWithAThresholdBelowOne(t *testing.T) {
	for _, l := range someWordLists() {
		for _, heads := range someHeads() {
			for _, need := range thresholds() {
				if need < 1 {
					stepIs(t, l, heads, need, nextOf(heads))
				} else if need > len(l) {
					stepIs(t, l, heads, need, nil)
				}
			}
		}
	}
}

// P120: with the number of words, which only prefixes of all words reach.
func TestHeavyStepWithTheNumberOfWords(t *testing.T) {
	for _, word := range allWords() {
		for many := 1; many <= 12; many++ {
			same := slices.Repeat([]string{word}, many)
			heads := []string{word[:2], word[:1], ""}
			stepIs(t, same, heads, many, []string{word, word[:2], word[:1]})
			stepIs(t, same, heads, many+1, nil)
			other := slices.Concat(same[1:], []string{"aba"})
			stepIs(t, other, heads, many, stepOf(other, heads, many))
		}
	}
}

// Chapter 41: lists that are no word lists, prefixes that are none, and both.
func TestHeavyStepOfInvalidArguments(t *testing.T) {
	noLists := [][]string{slices.Repeat([]string{"aab"}, 13), {"aab", "ab"}, {""}, {"aaba"}, {"c"}, {"aab", "Aab"}, {"\xff\xff\xff"}, {"aé"}, allPrefixes()}
	for _, need := range thresholds() {
		for _, heads := range slices.Concat(someHeads(), noHeads()) {
			for _, l := range noLists {
				stepIs(t, l, heads, need, nil)
			}
		}
	}
	for _, heads := range noHeads() {
		for _, l := range someWordLists() {
			for _, need := range []int{math.MinInt, -1, 0, 1, len(l), math.MaxInt} {
				stepIs(t, l, heads, need, nil)
			}
		}
	}
}

// P121: by hand.
func TestHeavyAllOfExamples(t *testing.T) {
	for _, c := range []struct {
		words string
		need  int
		want  string
	}{
		{"aab bba aab aba", 1, "aab aba bba"}, {"aab bba aab aba", 2, "aab"}, {"aab bba aab aba", 3, ""}, {"aab bba aab aba", 4, ""}, {"aab bba aab aba", 5, ""},
		{"bbb", 1, "bbb"}, {"bbb", 2, ""}, {"bbb bbb", 2, "bbb"}, {"bbb aaa", 1, "aaa bbb"}, {"bbb aaa", 2, ""}, {"", 1, ""},
		{"aaa aab aaa aab", 2, "aaa aab"}, {"aaa aab aaa aab", 3, ""}, {"aaa aab aba abb", 2, ""}, {"aaa aab aba abb baa bab bba bbb", 1, "aaa aab aba abb baa bab bba bbb"},
		{"bbb bba bab baa abb aba aab aaa", 1, "aaa aab aba abb baa bab bba bbb"}, {"bbb bba bab baa abb aba aab aaa", 2, ""},
		{"bab bab bab bab bab bab bab bab bab bab bab bab", 12, "bab"}, {"bab bab bab bab bab bab bab bab bab bab bab bab", 13, ""},
		{"bab bab bab bab bab bab bab bab bab bab bab bab bab", 1, ""},
		{"bab aba bab aba bab aba bab aba bab aba bab aba", 6, "aba bab"}, {"bab aba bab aba bab aba bab aba bab aba bab aba", 7, ""},
		{"aab", 0, ""}, {"aab", -1, ""}, {"aab", math.MinInt, ""}, {"aab", math.MaxInt, ""}, {"aab ab", 1, ""}, {"aab -", 1, ""}, {"aabb", 1, ""}, {"aac", 1, ""},
	} {
		foundIs(t, textsIn(c.words), c.need, textsIn(c.want))
	}
	foundIs(t, nil, 1, nil)
	foundIs(t, []string{}, 1, nil)
}

// P121, P122, P127: every word list, in one order, and every threshold from 1 to
// above the number of words.
func TestHeavyAllOfEveryWordList(t *testing.T) {
	all := allWords()
	forWordLists(func(l []string) {
		before := slices.Compact(slices.Clone(l))
		for need := 1; need <= len(l)+1; need++ {
			got := impl.HeavyAll(l, need)
			var want []string
			for _, word := range all {
				if timesIn(l, word) >= need {
					want = append(want, word)
				}
			}
			if !slices.Equal(got, want) || len(got) > len(l)/need {
				t.Fatalf("HeavyAll(%q, %d) is %q, not %q", l, need, got, want)
			}
			if need == 1 && !slices.Equal(got, before) || need > len(l) && len(got) > 0 {
				t.Fatalf("HeavyAll(%q, %d) is %q", l, need, got)
			}
			for _, word := range got {
				if !slices.Contains(before, word) {
					t.Fatalf("HeavyAll(%q, %d) is %q, but with a lower threshold %q", l, need, got, before)
				}
			}
			before = got
		}
	})
}

// P121: in every order of words.
func TestHeavyAllOfAllShortWordLists(t *testing.T) {
	for many := range 5 {
		forTexts(many, allWords(), func(l []string) {
			for need := range 7 {
				foundIs(t, l, need, foundIn(l, need))
			}
		})
	}
}

// P121, P122, P127: far thresholds, too.
func TestHeavyAllWithEachThreshold(t *testing.T) {
	for _, l := range someWordLists() {
		wordsAreRight(t, l)
		for _, need := range thresholds() {
			if need < 1 || need > len(l) {
				foundIs(t, l, need, nil)
			}
		}
	}
}

// P121: just as often as the threshold, and once less.
func TestHeavyAllAroundTheThreshold(t *testing.T) {
	for _, word := range allWords() {
		for _, other := range allWords() {
			for many := 1; many <= 12; many++ {
				for others := range 13 - many {
					l := slices.Concat(slices.Repeat([]string{other}, others), slices.Repeat([]string{word}, many))
					times := timesIn(l, word)
					if !slices.Contains(impl.HeavyAll(l, times), word) || slices.Contains(impl.HeavyAll(l, times+1), word) {
						t.Errorf("of %q, HeavyAll is %q with %d and %q with one more", l, impl.HeavyAll(l, times), times, impl.HeavyAll(l, times+1))
					}
					foundIs(t, l, times, foundIn(l, times))
					foundIs(t, l, times+1, foundIn(l, times+1))
				}
			}
		}
	}
}

// P121: prefixes are often enough, but no word is.
func TestHeavyAllHasNoWordOfAFrequentPrefix(t *testing.T) {
	for _, c := range []struct {
		words string
		need  int
	}{
		{"aaa aab", 2}, {"aaa aab aba abb", 2}, {"aaa aab aba abb", 4}, {"baa bab bba bbb baa bab", 3}, {"aaa aab aaa aab aaa aab", 4}, {"bba bbb bba bbb bba bbb bba bbb bba bbb bba bbb", 7},
	} {
		l := textsIn(c.words)
		if len(impl.HeavyStep(l, []string{""}, c.need)) == 0 {
			t.Errorf("no prefix of %q is found", l)
		}
		foundIs(t, l, c.need, nil)
	}
}

// P123: every order of short lists, and drawn orders of all.
func TestHeavyAllDoesNotDependOnTheOrder(t *testing.T) {
	d := draw(123)
	for _, l := range someWordLists() {
		back := slices.Clone(l)
		slices.Reverse(back)
		sorted := slices.Sorted(slices.Values(l))
		for need := range 14 {
			want := impl.HeavyAll(l, need)
			foundIs(t, back, need, want)
			foundIs(t, sorted, need, want)
			for range 5 {
				foundIs(t, d.shuffled(l), need, want)
			}
		}
	}
	for many := range 5 {
		forTexts(many, allWords(), func(l []string) {
			sorted := slices.Sorted(slices.Values(l))
			for need := 1; need <= many; need++ {
				foundIs(t, l, need, impl.HeavyAll(sorted, need))
			}
			for _, head := range textsIn("- b ab bba") {
				startingIs(t, l, head, impl.HeavyMany(sorted, head))
			}
		})
	}
}

// P125: the steps on the way have every prefix of what is found, and only
// prefixes of words.
func TestHeavyAllIsWordLenSteps(t *testing.T) {
	check := func(l []string, need int) {
		found := impl.HeavyAll(l, need)
		heads := []string{""}
		for many := 1; many <= 3; many++ {
			heads = impl.HeavyStep(l, heads, need)
			for _, word := range found {
				if !slices.Contains(heads, word[:many]) {
					t.Fatalf("HeavyAll(%q, %d) is %q, but step %d has only %q", l, need, found, many, heads)
				}
			}
			for _, head := range heads {
				if len(head) != many {
					t.Fatalf("of %q with %d, step %d has %q", l, need, many, heads)
				}
			}
		}
		if !slices.Equal(found, heads) {
			t.Fatalf("HeavyAll(%q, %d) is %q, but %d steps have %q", l, need, found, 3, heads)
		}
	}
	for _, l := range someWordLists() {
		for _, need := range thresholds() {
			if need >= 1 {
				check(l, need)
			}
		}
	}
	nth := 0
	forWordLists(func(l []string) {
		if nth++; nth%5 == 0 {
			check(l, 1+nth%3)
		}
	})
}

// P126: each word added at each place of lists that have space for it.
func TestAddingAWordRemovesNoneFromHeavyAll(t *testing.T) {
	added := 0
	for _, l := range someWordLists() {
		if len(l) == 12 {
			for _, word := range allWords() {
				isNoWordList(t, append(slices.Clone(l), word))
			}
			continue
		}
		for need := 1; need <= 13; need++ {
			before := impl.HeavyAll(l, need)
			for _, word := range allWords() {
				for _, place := range []int{0, len(l) / 2, len(l)} {
					after := impl.HeavyAll(slices.Insert(slices.Clone(l), place, word), need)
					want := before
					if timesIn(l, word)+1 == need {
						added++
						want = slices.Sorted(slices.Values(slices.Concat(before, []string{word})))
					}
					if !slices.Equal(after, want) {
						t.Errorf("HeavyAll(%q, %d) is %q, and with %q added %q", l, need, before, word, after)
					}
				}
			}
		}
	}
	if added < 1000 {
		t.Errorf("only %d words are added to what is found", added)
	}
}

// P121, P126: each word removed takes away no other one.
func TestRemovingAWordRemovesNoOtherFromHeavyAll(t *testing.T) {
	removed := 0
	for _, l := range someWordLists() {
		for place, word := range l {
			without := slices.Delete(slices.Clone(l), place, place+1)
			for need := 1; need <= 13; need++ {
				want := impl.HeavyAll(l, need)
				if timesIn(l, word) == need {
					removed++
					want = slices.DeleteFunc(want, func(other string) bool { return other == word })
				}
				foundIs(t, without, need, want)
			}
		}
	}
	if removed < 1000 {
		t.Errorf("only %d words are removed from what is found", removed)
	}
}

// P127: exactly the words of the list, each once.
func TestHeavyAllWithAThresholdOfOne(t *testing.T) {
	for _, l := range someWordLists() {
		foundIs(t, l, 1, slices.Compact(slices.Sorted(slices.Values(l))))
		for more := 1; more <= 20; more++ {
			foundIs(t, l, len(l)+more, nil)
		}
	}
}

// Chapter 41: thresholds below 1, also of lists that are no word lists.
func TestHeavyAllWithAThresholdBelowOne(t *testing.T) {
	for need := range 300 {
		for _, l := range [][]string{nil, {}, {"aab"}, textsIn("aab bba aab aba"), allWords(), slices.Repeat([]string{"bbb"}, 12), slices.Repeat([]string{"bbb"}, 13), {""}, {"c"}} {
			foundIs(t, l, -need, nil)
			foundIs(t, l, math.MinInt+need, nil)
			foundIs(t, l, math.MinInt32+need, nil)
			foundIs(t, l, need-1<<32, nil)
			foundIs(t, l, need-1<<16, nil)
		}
	}
}

// General rules: a list may be nil or empty, with or without space behind it.
func TestHeavyFunctionsOfNilAndEmptyLists(t *testing.T) {
	for _, none := range [][]string{nil, {}, make([]string, 0, 20), slices.Repeat([]string{"c"}, 30)[:0], allWords()[:0]} {
		wordsAre(t, none, true)
		nextIs(t, none, nil)
		for _, head := range allPrefixes() {
			startingIs(t, none, head, 0)
		}
		for _, bad := range noPrefixes() {
			startingIs(t, none, bad, -1)
		}
		for _, need := range thresholds() {
			foundIs(t, none, need, nil)
			stepIs(t, none, none, need, nil)
			for _, l := range someWordLists() {
				stepIs(t, l, none, need, nil)
			}
			for _, heads := range someHeads() {
				stepIs(t, none, heads, need, stepOf(nil, heads, need))
			}
		}
		stepIs(t, []string{"ab"}, none, 0, nil)
	}
}

// Chapter 41: what is behind the words and prefixes is not looked at.
func TestHeavyFunctionsLookOnlyAtTheLength(t *testing.T) {
	for _, behind := range []string{"aab", "bbb", "", "a", "ab", "aaaa", "c", "\xff"} {
		with := func(l []string) []string {
			return slices.Concat(l, slices.Repeat([]string{behind}, 20))[:len(l)]
		}
		for _, l := range someWordLists() {
			given := with(l)
			wordsAre(t, given, true)
			for _, head := range textsIn("- a bb aab bbb") {
				startingIs(t, given, head, manyOf(l, head))
			}
			for _, need := range []int{0, 1, 2, 5, 12} {
				foundIs(t, given, need, foundIn(l, need))
				stepIs(t, given, with(textsIn("- ab")), need, stepOf(l, textsIn("- ab"), need))
			}
		}
		for _, heads := range someHeads() {
			nextIs(t, with(heads), nextOf(heads))
		}
	}
}

// counting is a function of chapter 41, with its result if that is a slice.
type counting struct {
	name string
	call func(l, heads []string, need int) []string
}

func countings() []counting {
	return []counting{
		{"WordsOk", func(l, heads []string, need int) []string { impl.WordsOk(l); impl.WordsOk(heads); return nil }},
		{"HeavyMany", func(l, heads []string, need int) []string {
			for _, head := range append(allPrefixes(), "c") {
				impl.HeavyMany(l, head)
			}
			return nil
		}},
		{"HeavyNext", func(l, heads []string, need int) []string { return impl.HeavyNext(heads) }},
		{"HeavyStep", impl.HeavyStep},
		{"HeavyStepOfOneSlice", func(l, heads []string, need int) []string { return impl.HeavyStep(heads, heads, need) }},
		{"HeavyAll", func(l, heads []string, need int) []string { return impl.HeavyAll(l, need) }},
	}
}

// forCountings has each function with lists of every sort, valid or not, each
// with capacity left.
func forCountings(check func(f counting, l, heads []string, need int)) {
	lists := append(someWordLists(), slices.Repeat([]string{"aab"}, 13), textsIn("aab bba c"), textsIn("- aab bba"), textsIn("aab ab"))
	right, bad := someHeads(), noHeads()
	d := draw(127)
	for _, f := range countings() {
		for _, l := range lists {
			for range 4 {
				heads := right[d.element()]
				for _, need := range []int{-1, 0, 1, 2, 3, 12} {
					check(f, withSpare(l), withSpare(heads), need)
				}
				check(f, slices.Clip(slices.Clone(l)), slices.Clip(slices.Clone(heads)), 1)
			}
			check(f, withSpare(l), withSpare(bad[d.element()]), 0)
			check(f, withSpare(l), withSpare(textsIn("aa ab ba bb")), 1)
			check(f, nil, withSpare(textsIn("- a")), 0)
		}
	}
}

// General rules: an argument keeps its texts and those beyond its length, and no
// result has memory of an argument.
func TestHeavyFunctionsChangeNoArgument(t *testing.T) {
	results := 0
	forCountings(func(f counting, l, heads []string, need int) {
		fault := faultWith([][]string{l, heads}, func() [][]string {
			got := f.call(l, heads, need)
			results += len(got)
			return [][]string{got}
		})
		if fault != "" {
			t.Fatalf("%s of %q, %q and %d %s", f.name, l, heads, need, fault)
		}
	})
	if results < 10000 {
		t.Errorf("only %d texts are returned", results)
	}
}

// General rules: a result does not follow its arguments.
func TestHeavyResultsKeepNoMemoryOfArguments(t *testing.T) {
	forCountings(func(f counting, l, heads []string, need int) {
		got := f.call(l, heads, need)
		kept := slices.Clone(whole(got))
		overwrite(l)
		overwrite(heads)
		if !slices.Equal(whole(got), kept) {
			t.Fatalf("the result of %s follows its arguments", f.name)
		}
	})
}

// General rules: also beyond their lengths, and those that have no texts.
func TestHeavyResultsShareNoMemory(t *testing.T) {
	var results [][]string
	forCountings(func(f counting, l, heads []string, need int) {
		first, second := f.call(l, heads, need), f.call(l, heads, need)
		if shareMemory([][]string{first, second}) {
			t.Fatalf("results of %s(%q, %q, %d) share memory", f.name, l, heads, need)
		}
		results = append(results, f.call(l, heads, need))
	})
	for _, f := range countings() {
		results = append(results, f.call(nil, nil, 0), f.call(nil, []string{""}, 0), f.call([]string{"aab"}, []string{""}, 1), f.call([]string{""}, []string{"aab"}, 1))
	}
	if shareMemory(results) {
		t.Error("results of different calls share memory")
	}
}

// General rules: results can be extended, one apart from the other.
func TestHeavyResultsCanBeExtended(t *testing.T) {
	forCountings(func(f counting, l, heads []string, need int) {
		results := [][]string{f.call(l, heads, need), f.call(l, heads, need), l, heads}
		if !extendable(results) {
			t.Fatalf("the results of %s become %q", f.name, results)
		}
	})
}

// General rules: words and prefixes may be parts of one slice, or overlap.
func TestHeavyFunctionsOfPartsOfOneSlice(t *testing.T) {
	all := textsIn("- a b aa bab aab bab bab bba aab aaa ab bb - b")
	before := slices.Clone(all)
	for from := range all {
		for to := from; to <= len(all); to++ {
			l := all[from:to]
			wordsAreRight(t, l)
			nextIs(t, l, nextOf(l))
			for _, heads := range [][]string{all[:4], all[11:], all[to:], all[:from], l} {
				stepIs(t, l, heads, 1, stepOf(l, heads, 1))
				stepIs(t, heads, l, 0, stepOf(heads, l, 0))
			}
		}
	}
	if !slices.Equal(all, before) {
		t.Errorf("the texts become %q", all)
	}
}

// General rules: no word list is kept to tell it by, nor is a result.
func TestHeavyFunctionsReadTheirArgumentsAnew(t *testing.T) {
	l, heads := textsIn("aab bba aab"), textsIn("- b")
	for range 3 {
		foundIs(t, l, 2, textsIn("aab"))
		stepIs(t, l, heads, 1, textsIn("a b bb"))
		overwrite(impl.HeavyAll(l, 2))
		overwrite(impl.HeavyStep(l, heads, 1))
		overwrite(impl.HeavyNext(heads))
		foundIs(t, l, 2, textsIn("aab"))
		stepIs(t, l, heads, 1, textsIn("a b bb"))
		nextIs(t, heads, textsIn("a b ba bb"))
		l[0] = "bba"
		foundIs(t, l, 2, textsIn("bba"))
		startingIs(t, l, "b", 2)
		stepIs(t, l, heads, 2, textsIn("b bb"))
		heads[1] = "aa"
		stepIs(t, l, heads, 1, textsIn("a b aab"))
		heads[1] = "aab"
		stepIs(t, l, heads, 1, nil)
		l[1] = "ab"
		isNoWordList(t, l)
		l[0], l[1], heads[1] = "aab", "bba", "b"
	}
}

// General rules: a result that depended on calls before it would differ.
func TestHeavyFunctionsDoNotDependOnTheOrderOfCalls(t *testing.T) {
	lists := someWordLists()
	for i := len(lists) - 1; i >= 0; i-- {
		for j, heads := range someHeads() {
			l, need := lists[(i*7+j)%len(lists)], 1+j%4
			stepIs(t, lists[i], heads, need, stepOf(lists[i], heads, need))
			foundIs(t, l, need, foundIn(l, need))
			foundIs(t, l, -need, nil)
			foundIs(t, lists[i], need, foundIn(lists[i], need))
			nextIs(t, heads, nextOf(heads))
			startingIs(t, append(slices.Clone(l), "c"), "", -1)
			startingIs(t, l, "b", manyOf(l, "b"))
		}
	}
}

// General rules: a goroutine that is still at work after the call would use the
// texts that are overwritten here.
func TestHeavyFunctionsAreDoneWhenTheyReturn(t *testing.T) {
	d := draw(121)
	for range 2000 {
		l, heads := d.texts(12, textsIn("aab aba bba")), d.texts(12, shortPrefixes())
		found, step, next := foundIn(l, 4), stepOf(l, heads, 4), nextOf(heads)
		gotFound, gotStep, gotNext := impl.HeavyAll(l, 4), impl.HeavyStep(l, heads, 4), impl.HeavyNext(heads)
		overwrite(l)
		overwrite(heads)
		if !slices.Equal(gotFound, found) || !slices.Equal(gotStep, step) || !slices.Equal(gotNext, next) {
			t.Fatalf("the results are %q, %q and %q, not %q, %q and %q", gotFound, gotStep, gotNext, found, step, next)
		}
	}
}

// General rules: calls at the same time on the same lists keep no state.
func TestHeavyFunctionsAtTheSameTime(t *testing.T) {
	var callers sync.WaitGroup
	lists, heads := someWordLists(), someHeads()
	for caller := range 8 {
		callers.Go(func() {
			for i := range lists {
				l, h := lists[(i*7+caller*13)%len(lists)], heads[(i+caller)%len(heads)]
				wordsAreRight(t, l)
				nextIs(t, h, nextOf(h))
				stepIs(t, l, h, 1+caller%3, stepOf(l, h, 1+caller%3))
			}
		})
	}
	callers.Wait()
}
