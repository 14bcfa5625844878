package tests

import (
	"fmt"
	"math/rand"
	"regexp"
	"slices"
	"strconv"
	"strings"
	"testing"

	"loop.example/g00656/impl"
)

const tooLong = "too long\n"

// says wants each line of a script to say what stands beside it; "" is what a line of blanks says.
func says(t *testing.T, lines [][2]string) {
	t.Helper()
	text, want := "", ""
	for _, x := range lines {
		text += x[0] + "\n"
		if x[1] != "" {
			want += x[1] + "\n"
		}
	}
	saysAll(t, text, want)
}

func saysAll(t *testing.T, text string, want string) {
	t.Helper()
	for range 2 {
		if got := impl.RunScript(text); got != want {
			t.Fatalf("%.300q: %.600q, not %.600q", text, got, want)
		}
	}
}

func TestScriptOfAFilter(t *testing.T) {
	says(t, [][2]string{
		{"sample 1000 1600 1700 1900", "offset 200 delay 800"},
		{"best", "best 200 within 401"},
		{"jitter", "jitter 0"},
		// Of the same delay the last one is the best.
		{"sample 2000 2700 2700 2800", "offset 300 delay 800"},
		{"best", "best 300 within 401"},
		{"jitter", "jitter 100"},
		// A longer way says less, but it counts for the jitter.
		{"sample 3000 3000 3000 4001", "offset -501 delay 1001"},
		{"best", "best 300 within 401"},
		{"jitter", "jitter 450"},
		{"sample 5000 4990 4990 5001", "offset -11 delay 1"},
		{"best", "best -11 within 2"},
		{"jitter", "jitter 337"},
		// Not later than the last one, and one later.
		{"sample 5001 5001 5001 5001", "no"},
		{"sample 5000 5000 5000 5000", "no"},
		{"sample 0 0 0 5000", "no"},
		{"best", "best -11 within 2"},
		{"jitter", "jitter 337"},
		{"sample 5002 5002 5002 5002", "offset 0 delay 0"},
		{"best", "best 0 within 1"},
		{"jitter", "jitter 253"},
	})
}

// A sample's Disp is in what best says.
func TestScriptOfALongWay(t *testing.T) {
	says(t, [][2]string{
		{"sample 0 0 0 2000000", "offset -1000000 delay 2000000"},
		{"best", "best -1000000 within 1000031"},
		{"sample 0 0 1000000000000 1000000000000000", "no"},
		{"sample 0 500000000000000 1499000000000000 1000000000000000", "no"},
		{"sample 0 1000000000000 1000000000000 3000000", "offset 999998500000 delay 3000000"},
		{"sample 0 0 999000000000000 1000000000000000", "offset -500000000000 delay 1000000000000"},
		{"best", "best -1000000 within 1000031"},
	})
}

// The ninth sample sends the first one away, though it was the best.
func TestScriptOfNineSamples(t *testing.T) {
	lines := [][2]string{{"sample 7 8 8 7", "offset 1 delay 0"}}
	for n := range 7 {
		lines = append(lines, [2]string{fmt.Sprintf("sample 10 10 10 %d", 20+2*n), fmt.Sprintf("offset %d delay %d", -5-n, 10+2*n)})
	}
	lines = append(lines, [2]string{"best", "best 1 within 1"}, [2]string{"jitter", "jitter 9"})
	lines = append(lines, [2]string{"sample 10 10 10 40", "offset -15 delay 30"})
	says(t, append(lines, [2]string{"best", "best -5 within 6"}, [2]string{"jitter", "jitter 4"}))
}

func TestScriptWithoutSamples(t *testing.T) {
	for _, start := range [][][2]string{
		{},
		{{"sample 1 2 3 0", "no"}},
		{{"sample -1 2 3 4", "no"}, {"sample 1 2 3", "what"}},
		{{"slew 1", "slew 0"}},
	} {
		says(t, append(start, [][2]string{
			{"best", "none"},
			{"jitter", "jitter 0"},
			{"adjust 64", "none"},
			// That there is none is told ahead of a gap that is not right.
			{"adjust 0", "none"},
			{"adjust -1", "none"},
			{"adjust 100001", "none"},
			{"adjust x", "what"},
			{"adjust", "what"},
			{"clock", "clock 0 0 0 4 0"},
			{"slew 100000", "slew 0"},
			{"clock", "clock 0 0 0 4 0"},
		}...))
	}
}

func TestScriptOfAClock(t *testing.T) {
	says(t, [][2]string{
		{"clock", "clock 0 0 0 4 0"},
		{"sample 0 2048 2048 0", "offset 2048 delay 0"},
		{"clock", "clock 0 0 0 4 0"},
		{"adjust 64", "step 0"},
		{"clock", "clock 1 2048 2 4 0"},
		{"slew 0", "slew 0"},
		{"clock", "clock 1 2048 2 4 0"},
		{"slew 3", "slew 1506"},
		{"clock", "clock 1 548 2 4 0"},
		{"slew 2", "slew 552"},
		{"clock", "clock 1 0 2 4 0"},
		{"slew 100000", "slew 200000"},
		{"sample 2049 1 1 2049", "offset -2048 delay 0"},
		{"adjust 32", "step 0"},
		{"clock", "clock 1 -2048 -2 4 0"},
		{"slew 3", "slew -1506"},
		{"clock", "clock 1 -548 -2 4 0"},
		// The same best one may be asked for again.
		{"adjust 100000", "step 0"},
		{"clock", "clock 1 -2048 -2 4 0"},
	})
}

// A great offset is stepped at the start, is a spike afterwards, and is stepped where it is there twice.
func TestScriptOfGreatOffsets(t *testing.T) {
	says(t, [][2]string{
		{"sample 0 128000 128000 0", "offset 128000 delay 0"},
		{"adjust 1", "step 128000"},
		{"clock", "clock 1 0 0 4 0"},
		{"sample 1 128000 128000 1", "offset 127999 delay 0"},
		{"adjust 64", "step 0"},
		{"clock", "clock 1 127999 124 4 0"},
		{"sample 200002 2 2 200002", "offset -200000 delay 0"},
		{"adjust 64", "step 0"},
		{"clock", "clock 2 127999 124 4 0"},
		{"slew 1", "slew 624"},
		{"clock", "clock 2 127499 124 4 0"},
		{"adjust 64", "step -200000"},
		{"clock", "clock 1 0 124 4 0"},
		{"adjust 64", "step 0"},
		{"clock", "clock 2 0 124 4 0"},
		{"sample 200003 200008 200008 200003", "offset 5 delay 0"},
		{"adjust 1", "step 0"},
		{"clock", "clock 1 5 124 4 1"},
		{"adjust 1", "step 0"},
		{"adjust 1", "step 0"},
		{"adjust 1", "step 0"},
		{"clock", "clock 1 5 124 5 0"},
	})
}

// What is refused leaves the filter and the clock as they were.
func TestScriptRefuses(t *testing.T) {
	lines := [][2]string{{"sample 100 700 700 100", "offset 600 delay 0"}, {"adjust 5", "step 0"}}
	for _, x := range [][2]string{
		{"sample 100 700 700 100", "no"},
		{"sample 0 0 0 99", "no"},
		{"sample 201 0 0 200", "no"},
		{"sample 0 1 0 200", "no"},
		{"sample -1 1 1 200", "no"},
		{"sample 1 1 1 4000000000000001", "no"},
		{"sample 150 9999999999999999 1 200", "no"},
		{"adjust 0", "no"},
		{"adjust -1", "no"},
		{"adjust 100001", "no"},
		{"adjust 9999999999999999", "no"},
		{"slew -1", "no"},
		{"slew 100001", "no"},
		{"slew -9999999999999999", "no"},
		{"fly", "what"},
		{"slew 1 ?", "what"},
	} {
		lines = append(lines, x, [2]string{"clock", "clock 1 600 7 4 1"})
	}
	says(t, append(lines, [2]string{"best", "best 600 within 1"}, [2]string{"jitter", "jitter 0"}, [2]string{"slew 1", "slew 507"}))
}

// wanted are the words and how many numbers each wants.
func wanted() map[string]int {
	return map[string]int{"sample": 4, "best": 0, "jitter": 0, "adjust": 1, "slew": 1, "clock": 0}
}

// Each word with each count of numbers, and numbers without a word.
func TestScriptWantsItsNumbers(t *testing.T) {
	for word, count := range wanted() {
		for n := range 7 {
			line := word + strings.Repeat(" 1", n)
			if got := impl.RunScript(line + "\n"); (got == "what\n") != (n != count) {
				t.Errorf("%q: %q", line, got)
			}
		}
	}
	for n := range 7 {
		saysAll(t, strings.Repeat("1 ", n+1)+"\n", "what\n")
	}
}

// Each number of each word told in ways that are right, or are not.
func TestScriptNumbers(t *testing.T) {
	right := []string{"0", "7", "-7", "10", "100001", "-100001", "1000000000000000", "9999999999999999", "-1000000000000000", "-9999999999999999"}
	wrong := []string{
		"00", "07", "-07", "000000000000000007", "-0", "-00", "+7", "+0", "--7", "-+7", "-", "+", "7-", "7+",
		"10000000000000000", "-10000000000000000", "99999999999999999", "12345678901234567", "9223372036854775807", "-9223372036854775808",
		// What would be right if it wrapped: 2 to the 64th more than 1 and -1.
		"18446744073709551617", "18446744073709551615", strings.Repeat("9", 400), strings.Repeat("0", 400),
		"x", "7x", "x7", "7.0", "7.", ".7", "7e0", "1e3", "0x7", "0b1", "0o7", "1_0", "1,0", "'7'", "\"7\"", "7;", "NaN", "Inf",
		"\u0667", "\uff17", "\u22127", "7\u00a0", "\u00a07", "7\t", "\t7", "7\r", "7\x00", "\x007", "\xff", "7\xff", "7\v", "\f7",
	}
	for word, count := range wanted() {
		for place := range count {
			numbers := strings.Fields(strings.Repeat("1 ", count))
			for _, x := range right {
				numbers[place] = x
				if got := impl.RunScript(word + " " + strings.Join(numbers, " ") + "\n"); got == "what\n" || strings.Count(got, "\n") != 1 {
					t.Errorf("%s %q: %q", word, numbers, got)
				}
			}
			for _, x := range wrong {
				numbers[place] = x
				saysAll(t, word+" "+strings.Join(numbers, " ")+"\n", "what\n")
			}
		}
	}
}

// Sixteen digits are read, and mean what they are.
func TestScriptOfSixteenDigits(t *testing.T) {
	says(t, [][2]string{
		{"sample 3999999999999990 3999999999999998 3999999999999999 4000000000000000", "offset 3 delay 9"},
		{"sample 3999999999999990 3999999999999998 3999999999999999 4000000000000001", "no"},
		{"sample 03999999999999990 3999999999999998 3999999999999999 4000000000000000", "what"},
		{"best", "best 3 within 6"},
	})
}

func TestScriptBlanks(t *testing.T) {
	says(t, [][2]string{
		{"", ""},
		{" ", ""},
		{"      ", ""},
		{" best", "none"},
		{"    best", "none"},
		{"best ", "none"},
		{"best    ", "none"},
		{"   best   ", "none"},
		{"slew 1 ", "slew 0"},
		{"slew  1", "slew 0"},
		{"  slew   1  ", "slew 0"},
		{"sample 1  2 3 4", "offset 0 delay 2"},
		{"   sample    5   5     5  7 ", "offset -1 delay 2"},
		{"sample 10 10 10  ", "what"},
		{"sample  10 10 10", "what"},
		{"slew  ", "what"},
		{" slew", "what"},
		{"slew - 1", "what"},
		{"slew 1 0", "what"},
		{"be st", "what"},
		{"s lew 1", "what"},
		{"slew1", "what"},
		{"sample 1020 20 20", "what"},
		{"clock ", "clock 0 0 0 4 0"},
		{"", ""},
	})
}

func TestScriptOfNothing(t *testing.T) {
	for _, text := range []string{"", "\n", " \n", "\n\n\n", "   \n\n \n", strings.Repeat("\n", 40), strings.Repeat(strings.Repeat(" ", 99)+"\n", 40)} {
		saysAll(t, text, "")
	}
}

// noWords are lines that are none of those that are asked.
func noWords() []string {
	l := []string{
		"fly", "what", "no", "none", "step", "offset", "delay", "within", "too long", "x", "?", "#", "-", "0", "1", "-5", "clock;", "clock,", "clock.", "(clock)", "\"clock\"",
		"\xff", "\xff\xfe", "\x80", "\x00", "\t", "\r", " \t ", " \r", "\v", "\f", "\u00a0", "\u2003", "\u3000", "\u0085", "\u2028", "\ufeff", "\u00e9", "\u65e5", "\U0001f550",
		"slew\t1", "slew 1\t", "slew\t 1", "slew \t1", "slew\u00a01", "slew\u30001", "slew\r1", "slew\x001", "slew\v1", "slew,1", "slew=1", "slew 1,", "slew 1;slew 1",
		"sample 1\t2 3 4", "sample 1,2,3,4", "sample 1 2 3 4\t", "sample\t1 2 3 4", "sample 1 2 3 4 best",
		"best best", "best clock", "clock 0", "jitter jitter", "best -", "1 slew", "1 2 3 4 sample",
	}
	for word, count := range wanted() {
		numbers := strings.Repeat(" 1", count)
		capital := strings.ToUpper(word[:1]) + word[1:]
		for _, x := range []string{strings.ToUpper(word), capital, word[1:], word[:len(word)-1], word + "s", word + word, word + ":"} {
			l = append(l, x+numbers)
		}
		for _, x := range []string{"\t", "\r", "\v", "\f", "\x00", "\xff", "\xc2", "\u00a0", "\u2003", "\ufeff", "\u0085"} {
			l = append(l, x+word+numbers, word+x+numbers, word+numbers+x)
			l = append(l, x+" "+word+numbers, word+" "+x+numbers, word+numbers+" "+x)
		}
	}
	return l
}

func TestScriptOfNoWords(t *testing.T) {
	for _, line := range noWords() {
		says(t, [][2]string{{"sample 1 2 2 1", "offset 1 delay 0"}, {line, "what"}, {"best", "best 1 within 1"}, {"clock", "clock 0 0 0 4 0"}})
	}
	saysAll(t, "best\r\nclock\r\n\r\n", "what\nwhat\nwhat\n")
}

func TestScriptOfManyLines(t *testing.T) {
	for _, x := range [][2]string{{"clock", "clock 0 0 0 4 0\n"}, {"", ""}, {"   ", ""}, {"?", "what\n"}, {"slew 3", "slew 0\n"}} {
		for count := range 50 {
			want := strings.Repeat(x[1], count)
			if count > 40 {
				want = tooLong
			}
			saysAll(t, strings.Repeat(x[0]+"\n", count), want)
		}
	}
	// Lines that say nothing count with the others.
	saysAll(t, strings.Repeat("\n", 39)+"best\n", "none\n")
	saysAll(t, strings.Repeat("\n", 40)+"best\n", tooLong)
	saysAll(t, "best\n"+strings.Repeat(" \n", 39), "none\n")
	saysAll(t, "best\n"+strings.Repeat(" \n", 40), tooLong)
	saysAll(t, strings.Repeat("best\n\n", 20), strings.Repeat("none\n", 20))
	saysAll(t, strings.Repeat("best\n\n", 20)+"\n", tooLong)
	saysAll(t, strings.Repeat("\n", 4000), tooLong)
}

func TestScriptOfManyBytes(t *testing.T) {
	for _, x := range []struct{ first, line, last string }{
		{"", "best", ""},
		{"best\n", "", ""},
		{"", "", "best\n"},
		{"", " best ", ""},
		{"\n\n", "best", " \n"},
	} {
		room := 4000 - len(x.first) - len(x.line) - len(x.last) - 1
		for _, more := range []int{-1, 0, 1, 2, 1000, 200000} {
			want := "none\n"
			if more > 0 {
				want = tooLong
			}
			blanks := strings.Repeat(" ", room+more)
			saysAll(t, x.first+blanks+x.line+"\n"+x.last, want)
			saysAll(t, x.first+x.line+blanks+"\n"+x.last, want)
		}
	}
	each := strings.Repeat(" ", 95) + "best\n"
	saysAll(t, strings.Repeat(each, 40), strings.Repeat("none\n", 40))
	saysAll(t, " "+strings.Repeat(each, 40), tooLong)
	// Bytes are counted, not letters.
	saysAll(t, strings.Repeat("\u00e9", 1999)+" \n", "what\n")
	saysAll(t, strings.Repeat("\u00e9", 2000)+"\n", tooLong)
	saysAll(t, strings.Repeat("\xff", 3999)+"\n", "what\n")
	saysAll(t, strings.Repeat("\xff", 4000)+"\n", tooLong)
}

func TestScriptThatIsNotEnded(t *testing.T) {
	start := "sample 1 2 2 1\nbest\n"
	said := "offset 1 delay 0\nbest 1 within 1\n"
	saysAll(t, start, said)
	for _, last := range []string{"best", "b", "best ", " ", "   ", "\t", "\r", "\x00", "\xff", "best\r", "fly", "slew 1", strings.Repeat(" ", 4000-len(start))} {
		saysAll(t, last, tooLong)
		saysAll(t, start+last, tooLong)
		saysAll(t, "\n"+last, tooLong)
	}
	saysAll(t, strings.Repeat("\n", 39)+"best", tooLong)
	saysAll(t, strings.Repeat("\n", 40)+"best", tooLong)
	saysAll(t, strings.Repeat("\n", 40)+" ", tooLong)
}

const decimalForm = "(?: (?:0|-?[1-9][0-9]{0,15}))"

var lineForm = regexp.MustCompile("^(?:best|jitter|clock|(?:adjust|slew)" + decimalForm + "|sample" + decimalForm + "{4})$")

// teller is what chapter 15 says a script does, told without the program.
type teller struct {
	samples []impl.Sample
	clock   impl.Clock
}

// tells says one line, or "" where the line has but blanks.
func (s *teller) tells(line string) string {
	words := slices.DeleteFunc(strings.Split(line, " "), func(word string) bool { return word == "" })
	if len(words) == 0 {
		return ""
	}
	if !lineForm.MatchString(strings.Join(words, " ")) {
		return "what"
	}
	var n [4]int64
	for i, word := range words[1:] {
		n[i], _ = strconv.ParseInt(word, 10, 64)
	}
	switch words[0] {
	case "sample":
		return s.addsOne(n)
	case "adjust":
		return s.adjusts(n[0])
	case "slew":
		return s.slews(n[0])
	case "clock":
		return fmt.Sprintf("clock %d %d %d %d %d", s.clock.State, s.clock.Offset, s.clock.Freq, s.clock.Poll, s.clock.Calm)
	case "jitter":
		if len(s.samples) == 0 {
			return "jitter 0"
		}
		return fmt.Sprint("jitter ", jitter(s.samples))
	}
	best, ok := s.bestOne()
	if !ok {
		return "none"
	}
	return fmt.Sprintf("best %d within %d", best.Offset, reach(impl.Peer{S: best}))
}

func (s *teller) addsOne(ways [4]int64) string {
	x, ok := sample(ways)
	if !ok || len(s.samples) > 0 && x.At <= s.samples[len(s.samples)-1].At {
		return "no"
	}
	s.samples = append(s.samples, x)
	s.samples = s.samples[max(0, len(s.samples)-8):]
	return fmt.Sprintf("offset %d delay %d", x.Offset, x.Delay)
}

func (s *teller) bestOne() (impl.Sample, bool) {
	best, found := impl.Sample{}, false
	for _, x := range slices.Backward(s.samples) {
		if !found || x.Delay < best.Delay {
			best, found = x, true
		}
	}
	return best, found
}

func (s *teller) adjusts(gap int64) string {
	best, ok := s.bestOne()
	if !ok {
		return "none"
	}
	if gap < 1 || gap > maxGap {
		return "no"
	}
	next, step := adjusted(s.clock, best.Offset, gap)
	s.clock = next
	return fmt.Sprint("step ", step)
}

func (s *teller) slews(gap int64) string {
	if gap < 0 || gap > maxGap {
		return "no"
	}
	nearer := max(-500*gap, min(500*gap, s.clock.Offset))
	s.clock.Offset -= nearer
	return fmt.Sprint("slew ", nearer+s.clock.Freq*gap)
}

func tellsAll(lines []string) string {
	s := teller{clock: impl.Clock{Poll: 4}}
	said := ""
	for _, line := range lines {
		if one := s.tells(line); one != "" {
			said += one + "\n"
		}
	}
	return said
}

// someSample is mostly a later one, of few delays, whose offset is small, great or past its bound.
func someSample(r *rand.Rand, at *int64) string {
	delay := r.Int63n(4)
	*at += r.Int63n(8) + delay
	offset := []int64{r.Int63n(200) - 100, r.Int63n(40000) - 20000, someOffset(r), r.Int63n(4) - 2}[r.Intn(4)]
	t1, kept := *at-delay, r.Int63n(3)
	if r.Intn(12) == 0 {
		kept = 900 + r.Int63n(3)
	}
	t2 := t1 + offset + delay/2
	return fmt.Sprintf("sample %d %d %d %d", t1, t2, t2+kept, *at+kept)
}

func someLine(r *rand.Rand, at *int64) string {
	switch r.Intn(16) {
	case 0, 1, 2, 3:
		return someSample(r, at)
	case 4, 5, 6, 7:
		return fmt.Sprint("adjust ", someGap(r)-int64(r.Intn(20)/19))
	case 8, 9:
		return fmt.Sprint("slew ", r.Int63n(maxGap+2)>>r.Intn(17)-int64(r.Intn(20)/19))
	case 10:
		return strings.Repeat(" ", r.Intn(4))
	case 11:
		words := noWords()
		return words[r.Intn(len(words))]
	}
	return []string{"best", "jitter", "clock", "clock"}[r.Intn(4)]
}

// worn has blanks put where they do no harm, or a letter that is another one.
func worn(r *rand.Rand, line string) string {
	if r.Intn(4) == 0 {
		line = strings.ReplaceAll(line, " ", strings.Repeat(" ", 1+r.Intn(3)))
	}
	if r.Intn(6) == 0 {
		line = strings.Repeat(" ", r.Intn(3)) + line + strings.Repeat(" ", r.Intn(3))
	}
	if r.Intn(12) == 0 && line != "" {
		place, letters := r.Intn(len(line)), " 0123456789-+abejlt\t\x00\xff"
		line = line[:place] + string(letters[r.Intn(len(letters))]) + line[place+1:]
	}
	return line
}

func someScript(r *rand.Rand, count int) []string {
	at := int64(1 << r.Intn(42))
	var lines []string
	for range count {
		lines = append(lines, worn(r, someLine(r, &at)))
	}
	return lines
}

func ended(lines []string) string {
	return strings.Join(append(slices.Clone(lines), ""), "\n")
}

func TestScripts(t *testing.T) {
	r := rand.New(rand.NewSource(150))
	counts := map[string]int{}
	for range 6000 {
		lines := someScript(r, r.Intn(impl.MaxScript+1))
		want := tellsAll(lines)
		if len(ended(lines)) > impl.MaxLines {
			want = tooLong
		}
		saysAll(t, ended(lines), want)
		for _, x := range []string{"offset ", "best ", "jitter ", "jitter 0\n", "step ", "step 0\n", "step -", "slew ", "slew -", "clock 0 ", "clock 1 ", "clock 2 ", "none\n", "no\n", "what\n"} {
			counts[x] += strings.Count(want, x)
		}
	}
	for x, count := range counts {
		if count < 300 {
			t.Errorf("%q is said too seldom: %d", x, count)
		}
	}
}

// saidBy has what each line of a script says, as the program alone tells it; "" where that is nothing.
func saidBy(t *testing.T, lines []string) []string {
	t.Helper()
	got := impl.RunScript(ended(lines))
	rest := strings.SplitAfter(got, "\n")
	var said []string
	for _, line := range lines {
		if strings.Trim(line, " ") == "" {
			said = append(said, "")
			continue
		}
		if len(rest) < 2 {
			t.Fatalf("%q: a line says nothing: %q", lines, got)
		}
		said = append(said, rest[0])
		rest = rest[1:]
	}
	if len(rest) != 1 || rest[0] != "" {
		t.Fatalf("%q: a line says more than one: %q", lines, got)
	}
	return said
}

// Promise 15, asked of the program alone: what was said stays said, whatever stands behind it.
func TestWhatWasSaidStays(t *testing.T) {
	r := rand.New(rand.NewSource(151))
	for range 500 {
		lines := someScript(r, 20)
		said := saidBy(t, lines)
		for count := range lines {
			if got := saidBy(t, lines[:count]); !slices.Equal(got, said[:count]) {
				t.Fatalf("%q: %q, and %q of the first %d", lines, said, got, count)
			}
			other := append(slices.Clone(lines[:count]), someScript(r, 40-count)...)
			if len(ended(other)) > impl.MaxLines {
				continue
			}
			if got := saidBy(t, other); !slices.Equal(got[:count], said[:count]) {
				t.Fatalf("%q: %q, and %q with others behind %d", lines, said, got, count)
			}
		}
	}
}

// As many lines and bytes as there may be behind a script leave what it said; one more line, or byte, says too long alone.
func TestWhatWasSaidStaysAtTheLimits(t *testing.T) {
	r := rand.New(rand.NewSource(152))
	for range 500 {
		lines := someScript(r, 1+r.Intn(20))
		text := ended(lines)
		said := impl.RunScript(text)
		few := strings.Repeat("\n", impl.MaxScript-len(lines))
		saysAll(t, text+few, said)
		saysAll(t, text+few+"\n", tooLong)
		long := strings.Repeat(" ", impl.MaxLines-len(text)-1) + "\n"
		saysAll(t, text+long, said)
		saysAll(t, text+" "+long, tooLong)
		saysAll(t, text+"clock", tooLong)
	}
}

// asks has lines put between those of a script, and tells which lines were there ahead of that.
func asks(r *rand.Rand, lines []string, more []string) ([]string, []bool) {
	var all []string
	var old []bool
	for _, line := range append(slices.Clone(lines), "") {
		for range r.Intn(3) {
			all, old = append(all, more[r.Intn(len(more))]), append(old, false)
		}
		all, old = append(all, line), append(old, true)
	}
	return all[:min(len(all), impl.MaxScript)], old
}

// Lines that ask, those that say nothing and those that are none change nothing that the others say.
func TestLinesThatAskChangeNothing(t *testing.T) {
	r := rand.New(rand.NewSource(153))
	for range 2000 {
		lines := someScript(r, 1+r.Intn(30))
		more := []string{"best", "jitter", "clock", " clock  ", "  best", "jitter ", "", "   ", "fly", "best 1", "slew", "slew -1", "slew 100001", "sample 5 5 5 4", "sample 1 1 1"}
		if r.Intn(2) == 0 {
			more = more[:3]
		}
		all, old := asks(r, lines, more)
		if len(ended(all)) > impl.MaxLines {
			continue
		}
		var left []string
		for i, one := range saidBy(t, all) {
			if old[i] {
				left = append(left, one)
			}
		}
		said := append(saidBy(t, lines), "")
		if !slices.Equal(left, said[:len(left)]) {
			t.Fatalf("%q: %q, but %q of %q", lines, said, left, all)
		}
	}
}

// Who asks twice is told the same twice.
func TestAskedTwice(t *testing.T) {
	r := rand.New(rand.NewSource(154))
	for range 1000 {
		lines := append(someScript(r, r.Intn(30)), "best", "jitter", "clock", "clock", "jitter", "best")
		if len(ended(lines)) > impl.MaxLines {
			continue
		}
		said := saidBy(t, lines)
		last := said[len(said)-6:]
		if last[0] != last[5] || last[1] != last[4] || last[2] != last[3] {
			t.Fatalf("%q: %q", lines, last)
		}
	}
}
