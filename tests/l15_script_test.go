package tests

import (
	"fmt"
	"math"
	"regexp"
	"slices"
	"strconv"
	"strings"
	"testing"

	"loop.example/g00216/impl"
)

const mostBytes = 1500
const mostLines = 60
const topNumber = 999999999

// formsByHand: how a line of each Kind has to look, from the first one on.
var formsByHand = func() []*regexp.Regexp {
	var out []*regexp.Regexp
	for _, form := range []string{"begin", "get N N", "scan N", "put N N N", "drop N N", "commit N", "abort N"} {
		text := strings.ReplaceAll(strings.ReplaceAll(form, " ", " +"), "N", "([0-9]{1,9})")
		out = append(out, regexp.MustCompile(`\A *`+text+` *\z`))
	}
	return out
}()

func parseByHand(line string) impl.ActResult {
	for i, form := range formsByHand {
		found := form.FindStringSubmatch(line)
		if found == nil {
			continue
		}
		numbers := make([]int64, 3)
		for place, digits := range found[1:] {
			numbers[place], _ = strconv.ParseInt(digits, 10, 64)
		}
		return impl.ActResult{Act: impl.Act{Kind: int64(i) + 1, Txn: numbers[0], Key: numbers[1], Value: numbers[2]}}
	}
	return impl.ActResult{Code: impl.ErrText}
}

// lineByHand writes an act whatever its numbers are; of no Kind: a word that is none.
func lineByHand(a impl.Act) string {
	switch a.Kind {
	case 1:
		return "begin"
	case 2:
		return fmt.Sprintf("get %d %d", a.Txn, a.Key)
	case 3:
		return fmt.Sprintf("scan %d", a.Txn)
	case 4:
		return fmt.Sprintf("put %d %d %d", a.Txn, a.Key, a.Value)
	case 5:
		return fmt.Sprintf("drop %d %d", a.Txn, a.Key)
	case 6:
		return fmt.Sprintf("commit %d", a.Txn)
	case 7:
		return fmt.Sprintf("abort %d", a.Txn)
	}
	return "wink"
}

// neededOf: the act with 0 in all that a line of its Kind does not write.
func neededOf(a impl.Act) impl.Act {
	needs := map[int64]string{1: "", 2: "tk", 3: "t", 4: "tkv", 5: "tk", 6: "t", 7: "t"}[a.Kind]
	out := impl.Act{Kind: a.Kind}
	if strings.Contains(needs, "t") {
		out.Txn = a.Txn
	}
	if strings.Contains(needs, "k") {
		out.Key = a.Key
	}
	if strings.Contains(needs, "v") {
		out.Value = a.Value
	}
	return out
}

func formatByHand(a impl.Act) impl.TextResult {
	needed := neededOf(a)
	if a.Kind < 1 || a.Kind > 7 || min(needed.Txn, needed.Key, needed.Value) < 0 || max(needed.Txn, needed.Key, needed.Value) > topNumber {
		return impl.TextResult{Code: impl.ErrRange}
	}
	return impl.TextResult{Text: lineByHand(a)}
}

// replyTextByHand writes a reply whatever its numbers are; one that is below 0 is seen by its sign.
func replyTextByHand(r impl.Reply) impl.TextResult {
	numbers := fmt.Sprint(r.Code, r.Value)
	text := fmt.Sprintf("ok %d", r.Value)
	for _, cell := range r.Cells {
		numbers += fmt.Sprint(" ", cell.Key, cell.Value)
		text += fmt.Sprintf(" %d=%d", cell.Key, cell.Value)
	}
	switch {
	case strings.Contains(numbers, "-"):
		return impl.TextResult{Code: impl.ErrRange}
	case r.Code > 0:
		return impl.TextResult{Text: fmt.Sprintf("! %d", r.Code)}
	}
	return impl.TextResult{Text: text}
}

func stepByHand(e impl.Engine, line string) impl.ScriptResult {
	if code := engineFaultByHand(e); code != impl.OK {
		return impl.ScriptResult{Code: code}
	}
	switch strings.Trim(line, " ") {
	case "":
		return impl.ScriptResult{Engine: e}
	case "purge":
		purged := purgeEngineByHand(e)
		return impl.ScriptResult{Engine: purged.Engine, Said: fmt.Sprintf("purged %d", purged.Value)}
	case "show":
		return impl.ScriptResult{Engine: e, Said: textByHand(e)}
	}
	read := parseByHand(line)
	if read.Code != impl.OK {
		return impl.ScriptResult{Code: read.Code}
	}
	done := doEngineByHand(e, read.Act)
	return impl.ScriptResult{Engine: done.Engine, Said: replyTextByHand(done.Reply).Text}
}

func runScriptByHand(e impl.Engine, text string) impl.ScriptResult {
	if code := engineFaultByHand(e); code != impl.OK {
		return impl.ScriptResult{Code: code}
	}
	count := strings.Count(text, "\n")
	if text != "" && text[len(text)-1] != '\n' {
		count++
	}
	if len(text) > mostBytes || count > mostLines {
		return impl.ScriptResult{Code: impl.ErrMany}
	}
	out := impl.ScriptResult{Engine: e}
	for rest := text; rest != ""; {
		var line string
		line, rest, _ = strings.Cut(rest, "\n")
		step := stepByHand(out.Engine, line)
		if step.Code != impl.OK {
			out.Said += fmt.Sprintf("!! %d\n", step.Code)
			continue
		}
		out.Engine = step.Engine
		out.Said += step.Said
		if step.Said != "" && step.Said[len(step.Said)-1] != '\n' {
			out.Said += "\n"
		}
	}
	return out
}

func sameScript(a, b impl.ScriptResult) bool {
	return a.Code == b.Code && a.Said == b.Said && sameEngine(a.Engine, b.Engine)
}

// wantRun: a script says and does what it does by hand; answers that.
func wantRun(t *testing.T, name string, e impl.Engine, text string) impl.ScriptResult {
	t.Helper()
	got, want := impl.RunScript(e, text), runScriptByHand(e, text)
	if !sameScript(got, want) {
		t.Fatalf("%s: RunScript of %q to %+v:\n%+v, want\n%+v", name, text, e, got, want)
	}
	return got
}

func wantStep(t *testing.T, name string, e impl.Engine, line string) impl.ScriptResult {
	t.Helper()
	got, want := impl.StepScript(e, line), stepByHand(e, line)
	if !sameScript(got, want) {
		t.Fatalf("%s: StepScript of %q to %+v:\n%+v, want\n%+v", name, line, e, got, want)
	}
	return got
}

func wantSaid(t *testing.T, name string, e impl.Engine, text, said string) impl.Engine {
	t.Helper()
	got := impl.RunScript(e, text)
	if got.Code != impl.OK || got.Said != said {
		t.Errorf("%s: RunScript of %q has the code %d and says %q, want %q", name, text, got.Code, got.Said, said)
	}
	return got.Engine
}

func TestConstantsOfScripts(t *testing.T) {
	if impl.MaxScript != mostBytes || impl.MaxLines != mostLines {
		t.Error("a constant is not as told")
	}
}

// The example that the document tells.
func TestExampleOfScripts(t *testing.T) {
	wantSaid(t, "begin, put, get", newEngine(), "begin\nput 2 1 5\nget 2 1", "ok 2\nok 0\nok 5\n")
	e := newEngine()
	for _, c := range [][2]string{{"begin", "ok 2"}, {"put 2 1 5", "ok 0"}, {"get 2 1", "ok 5"}} {
		got := impl.StepScript(e, c[0])
		if got.Code != impl.OK || got.Said != c[1] {
			t.Errorf("%q: %+v, want %q", c[0], got, c[1])
		}
		e = got.Engine
	}
}

// An act is read back from its line.
func TestActsAreReadBack(t *testing.T) {
	numbers := []int64{0, 1, topNumber, 9, 10, 99999999, 100000000, 123456789}
	for kind := range int64(7) {
		for i := range 512 {
			a := impl.Act{Kind: kind + 1, Txn: numbers[i%8], Key: numbers[i/8%8], Value: numbers[i/64]}
			line := impl.FormatAct(a)
			if line.Code != impl.OK || line.Text != lineByHand(a) {
				t.Fatalf("FormatAct(%+v) = %+v, want %q", a, line, lineByHand(a))
			}
			if got := impl.ParseAct(line.Text); got != (impl.ActResult{Act: neededOf(a)}) {
				t.Fatalf("%+v is read back from %q as %+v", a, line.Text, got)
			}
			if again := impl.FormatAct(neededOf(a)); again != line {
				t.Fatalf("%+v is written %+v, and once it was read %+v", a, line, again)
			}
		}
	}
}

func TestThrownActsAreReadBack(t *testing.T) {
	d := dice(150)
	for range 20000 {
		pick := func() int64 { return d.upTo([]int64{1, 9, 99, 9999, topNumber}[d.upTo(4)]) }
		a := neededOf(impl.Act{Kind: 1 + d.upTo(6), Txn: pick(), Key: pick(), Value: pick()})
		line := impl.FormatAct(a)
		wide := strings.Repeat(" ", int(d.upTo(3))) + strings.ReplaceAll(line.Text, " ", strings.Repeat(" ", 1+int(d.upTo(3)))) + strings.Repeat(" ", int(d.upTo(3)))
		for _, text := range []string{line.Text, wide} {
			if got := impl.ParseAct(text); got != (impl.ActResult{Act: a}) {
				t.Fatalf("%+v is read back from %q as %+v", a, text, got)
			}
		}
	}
}

func TestFormatActAsTold(t *testing.T) {
	for _, c := range []struct {
		act  impl.Act
		text string
	}{
		{actBegin(), "begin"}, {impl.Act{Kind: 1, Txn: 5, Key: 6, Value: 7}, "begin"}, {actGet(2, 31), "get 2 31"}, {actScan(17), "scan 17"}, {actPut(2, 1, 5), "put 2 1 5"}, {actDrop(998, 0), "drop 998 0"}, {actCommit(3), "commit 3"}, {actAbort(4), "abort 4"},
		{actGet(0, 0), "get 0 0"}, {actScan(0), "scan 0"}, {actPut(0, 0, 0), "put 0 0 0"}, {actDrop(0, 0), "drop 0 0"}, {actCommit(0), "commit 0"}, {actAbort(0), "abort 0"},
		{actPut(topNumber, topNumber, topNumber), "put 999999999 999999999 999999999"}, {actPut(10, 200, 3000), "put 10 200 3000"}, {actPut(32, 1000, 10000), "put 32 1000 10000"},
	} {
		if got := impl.FormatAct(c.act); got != (impl.TextResult{Text: c.text}) {
			t.Errorf("FormatAct(%+v) = %+v, want %q", c.act, got, c.text)
		}
		if strings.Contains(c.text, "  ") || strings.Trim(c.text, " ") != c.text {
			t.Errorf("%q has blanks that it may not have", c.text)
		}
	}
}

// Each number that is written at its edges; those that are not written may be anything.
func TestNumbersOfFormatAct(t *testing.T) {
	edges := []int64{math.MinInt64, -topNumber, -1, 0, 1, topNumber, topNumber + 1, 2 * topNumber, math.MaxInt64}
	codes := map[int64]int{}
	for kind := int64(-1); kind <= 9; kind++ {
		for _, txn := range edges {
			for _, key := range edges {
				for _, value := range edges {
					a := impl.Act{Kind: kind, Txn: txn, Key: key, Value: value}
					got := impl.FormatAct(a)
					if want := formatByHand(a); got != want {
						t.Fatalf("FormatAct(%+v) = %+v, want %+v", a, got, want)
					}
					codes[got.Code]++
				}
			}
		}
	}
	if len(codes) != 2 || codes[impl.OK] < 1000 {
		t.Errorf("so often each code was met: %v", codes)
	}
	for _, kind := range []int64{math.MinInt64, -7, -1, 0, 8, 9, 1 << 32, 1<<32 + 1, math.MaxInt64} {
		wantCode(t, fmt.Sprint("Kind ", kind), impl.FormatAct(impl.Act{Kind: kind}), impl.ErrRange)
		wantCode(t, fmt.Sprint("Kind ", kind), impl.FormatAct(impl.Act{Kind: kind, Txn: 2, Key: 1, Value: 5}), impl.ErrRange)
	}
	for _, a := range []impl.Act{{Kind: 1, Txn: -1, Key: -1, Value: -1}, {Kind: 2, Value: -1}, {Kind: 2, Value: topNumber + 1}, {Kind: 3, Key: -1, Value: -1}, {Kind: 5, Value: math.MinInt64}, {Kind: 6, Key: -1}, {Kind: 6, Value: -1}, {Kind: 6, Key: topNumber + 1, Value: topNumber + 1}, {Kind: 7, Key: math.MaxInt64, Value: math.MinInt64}} {
		wantCode(t, told(a), impl.FormatAct(a), impl.OK)
	}
	for _, a := range []impl.Act{actGet(-1, 0), actGet(0, -1), actScan(-1), actPut(-1, 0, 0), actPut(0, -1, 0), actPut(0, 0, -1), actPut(topNumber+1, 0, 0), actPut(0, topNumber+1, 0), actPut(0, 0, topNumber+1), actDrop(-1, 0), actDrop(0, topNumber+1), actCommit(-1), actCommit(topNumber + 1), actAbort(-1), actAbort(topNumber + 1)} {
		wantCode(t, told(a), impl.FormatAct(a), impl.ErrRange)
	}
}

func wantParsed(t *testing.T, line string, want impl.ActResult) {
	t.Helper()
	if got, by := impl.ParseAct(line), parseByHand(line); got != want || by != want {
		t.Errorf("ParseAct(%q) = %+v, by hand %+v, want %+v", line, got, by, want)
	}
}

func wantNoAct(t *testing.T, line string) {
	t.Helper()
	wantParsed(t, line, impl.ActResult{Code: impl.ErrText})
}

// soundLines: a line of each Kind, and the act that it tells.
func soundLines() map[string]impl.Act {
	return map[string]impl.Act{"begin": actBegin(), "get 2 31": actGet(2, 31), "scan 17": actScan(17), "put 2 1 5": actPut(2, 1, 5), "drop 998 0": actDrop(998, 0), "commit 3": actCommit(3), "abort 4": actAbort(4)}
}

func TestBlanksOfParseAct(t *testing.T) {
	for line, a := range soundLines() {
		for _, ahead := range []string{"", " ", "   "} {
			for _, between := range []string{" ", "  ", "      "} {
				for _, end := range []string{"", " ", "    "} {
					wantParsed(t, ahead+strings.ReplaceAll(line, " ", between)+end, impl.ActResult{Act: a})
				}
			}
		}
		for place, b := range line { // without one of its blanks two words are one
			if b == ' ' {
				wantNoAct(t, line[:place]+line[place+1:])
			}
		}
		for place := range line { // a blank too many within a word parts it, beside one it does not count
			wantParsed(t, line[:place]+" "+line[place:], parseByHand(line[:place]+" "+line[place:]))
		}
	}
	for _, line := range []string{"", " ", "  ", "     ", strings.Repeat(" ", 5000)} {
		wantNoAct(t, line)
	}
	wantParsed(t, strings.Repeat(" ", 3000)+"put"+strings.Repeat(" ", 3000)+"2 1"+strings.Repeat(" ", 3000)+"5", impl.ActResult{Act: actPut(2, 1, 5)})
}

// A byte 10 is never right, wherever it stands.
func TestLineFeedsInActs(t *testing.T) {
	for line := range soundLines() {
		for _, feeds := range []string{"\n", "\n\n", " \n", "\n ", " \n ", "\r\n"} {
			for place := range len(line) + 1 {
				wantNoAct(t, line[:place]+feeds+line[place:])
			}
		}
		for place, b := range line {
			if b == ' ' {
				wantNoAct(t, line[:place]+"\n"+line[place+1:])
			}
		}
		wantNoAct(t, line+"\n"+line)
	}
	wantNoAct(t, "\n")
	wantNoAct(t, " \n ")
}

// Each byte at each place of each form, put in and in place of the one that stands there.
func TestEachByteInActs(t *testing.T) {
	met := map[int64]int{}
	for line := range soundLines() {
		for place := range len(line) + 1 {
			for b := range 256 {
				turned := []string{line[:place] + string([]byte{byte(b)}) + line[place:]}
				if place < len(line) {
					turned = append(turned, line[:place]+string([]byte{byte(b)})+line[place+1:])
				}
				for _, text := range turned {
					got := impl.ParseAct(text)
					if want := parseByHand(text); got != want {
						t.Fatalf("ParseAct(%q) = %+v, want %+v", text, got, want)
					}
					met[got.Code]++
					if b == '\t' && got.Code == impl.OK {
						t.Fatalf("a tab is taken in %q", text)
					}
				}
			}
		}
	}
	if met[impl.OK] < 100 || met[impl.ErrText] < 1000 {
		t.Errorf("so often each code was met: %v", met)
	}
	for _, other := range []string{"\t", "\r", "\v", "\f", "\x00", "\x1f", "!", "\x7f", "\x80", "\x85", "\xa0", "\xff", "\u00a0", "\u2003", "\u3000", "\ufeff"} {
		for line := range soundLines() {
			wantNoAct(t, line+other)
			wantNoAct(t, other+line)
			wantNoAct(t, line+" "+other)
			wantNoAct(t, other+" "+line)
			if strings.Contains(line, " ") {
				wantNoAct(t, strings.Replace(line, " ", other, 1))
			}
		}
		wantNoAct(t, other)
	}
}

func TestWordsTooFewAndTooMany(t *testing.T) {
	for line := range soundLines() {
		words := strings.Split(line, " ")
		for count := range len(words) {
			wantNoAct(t, strings.Join(words[:count], " "))
		}
		for _, more := range []string{" 1", " 0", " x", " begin", " 1 2", " 1 2 3 4 5 6 7 8 9", " purge", " #"} {
			wantParsed(t, line+more, parseByHand(line+more))
			if parseByHand(line+more).Code == impl.OK {
				t.Errorf("%q is of a form by hand", line+more)
			}
		}
		wantNoAct(t, strings.Join(words[1:], " "))
		wantNoAct(t, "1 "+line)
		wantNoAct(t, line+strings.Repeat(" 1", 5000))
	}
}

func TestWordsOfCommands(t *testing.T) {
	for line := range soundLines() {
		word, rest, _ := strings.Cut(line, " ")
		for _, other := range []string{strings.ToUpper(word), strings.ToUpper(word[:1]) + word[1:], word[:len(word)-1], word[1:], word + "s", "x" + word, word + word, word + ".", "\"" + word + "\"", word + "\x00", "wink", "purge", "show", "roll", "0", "1"} {
			wantNoAct(t, strings.TrimRight(other+" "+rest, " "))
		}
	}
	for _, line := range []string{"purge", "show", " purge ", "wink", "Begin", "BEGIN", "begins", "begi", "b", "0", "2", "begin begin", "2 begin", "begin2", "put2 1 5", "beg in"} {
		wantNoAct(t, line)
	}
}

// Each number of each form, written in each way that is right and in each that is not.
func TestNumbersOfParseAct(t *testing.T) {
	right := map[string]int64{"0": 0, "1": 1, "9": 9, "00": 0, "07": 7, "10": 10, "31": 31, "000000000": 0, "000000001": 1, "012345678": 12345678, "100000000": 100000000, "123456789": 123456789, "999999999": topNumber, "00000009": 9}
	wrong := []string{"0000000000", "0000000001", "0999999999", "1000000000", "9999999999", "1234567890", "10000000000", "18446744073709551617", strings.Repeat("0", 400), strings.Repeat("1", 400),
		"-1", "+1", "-0", "+0", "-", "+", "1-", "1+", "--1", "a", "1a", "a1", "1a1", "0x1", "1e3", "1.0", "1.", ".1", "1_0", "1,0", "0b1", "0o7", "x", "N", "\t1", "1\t", "1\x00", "/", ":", "/1", "1:", "\u0661", "\uff11", "1\u0661", "²", "\xb2", "\xb1", "$1", "'1'", "=1", "begin", "put"}
	for line, a := range soundLines() {
		words := strings.Split(line, " ")
		for place := 1; place < len(words); place++ {
			with := func(word string) string {
				out := slices.Clone(words)
				out[place] = word
				return strings.Join(out, " ")
			}
			for word, number := range right {
				want := a
				*[]*int64{nil, &want.Txn, &want.Key, &want.Value}[place] = number
				wantParsed(t, with(word), impl.ActResult{Act: want})
			}
			for _, word := range wrong {
				wantNoAct(t, with(word))
				wantNoAct(t, with(" "+word+" "))
			}
			wantNoAct(t, with("")) // no digits: a word too few
		}
	}
}

// All lines of up to five words that are taken from a few.
func TestAllShortLines(t *testing.T) {
	first := []string{"begin", "get", "scan", "put", "drop", "commit", "abort", "purge", "show", "wink", "7", "Get"}
	more := []string{"7", "00", "1000000000", "x", "get", "show"}
	e := baseEngine()
	var lines []string
	for _, word := range first {
		lines = append(lines, word)
	}
	for from, count := 0, 1; count < 5; count++ {
		to := len(lines)
		for _, line := range lines[from:to] {
			for _, word := range more {
				lines = append(lines, line+" "+word)
			}
		}
		from = to
	}
	met := map[int64]int{}
	for _, line := range lines {
		got := impl.ParseAct(line)
		if want := parseByHand(line); got != want {
			t.Fatalf("ParseAct(%q) = %+v, want %+v", line, got, want)
		}
		met[got.Act.Kind]++
		if got.Code == impl.OK || strings.Count(line, " ") < 2 {
			wantStep(t, "short lines", e, line)
		}
	}
	if want := map[int64]int{0: len(lines) - 23, 1: 1, 2: 4, 3: 2, 4: 8, 5: 4, 6: 2, 7: 2}; told(met) != told(want) {
		t.Errorf("so many of each Kind: %v, want %v", met, want)
	}
}

func TestReplyTextAsTold(t *testing.T) {
	for _, c := range []struct {
		reply impl.Reply
		text  string
	}{
		{impl.Reply{}, "ok 0"}, {impl.Reply{Value: 1}, "ok 1"}, {impl.Reply{Value: 9999}, "ok 9999"}, {impl.Reply{Value: topAt}, "ok 1000000"}, {impl.Reply{Value: math.MaxInt64}, "ok 9223372036854775807"},
		{impl.Reply{Cells: []impl.Cell{}}, "ok 0"}, {impl.Reply{Value: 7, Cells: []impl.Cell{}}, "ok 7"},
		{impl.Reply{Cells: cellList(1, 5)}, "ok 0 1=5"}, {impl.Reply{Cells: cellList(0, 0)}, "ok 0 0=0"}, {impl.Reply{Value: 3, Cells: cellList(31, 9999)}, "ok 3 31=9999"},
		{impl.Reply{Cells: cellList(1, 10, 2, 20, 31, 0)}, "ok 0 1=10 2=20 31=0"}, {impl.Reply{Value: 2, Cells: cellList(5, 1, 5, 1, 3, 2)}, "ok 2 5=1 5=1 3=2"}, {impl.Reply{Cells: cellList(32, 10000, math.MaxInt64, math.MaxInt64)}, "ok 0 32=10000 9223372036854775807=9223372036854775807"},
		{impl.Reply{Code: 1}, "! 1"}, {impl.Reply{Code: 4}, "! 4"}, {impl.Reply{Code: 9}, "! 9"}, {impl.Reply{Code: 10}, "! 10"}, {impl.Reply{Code: 77}, "! 77"}, {impl.Reply{Code: math.MaxInt64}, "! 9223372036854775807"},
		{impl.Reply{Code: 9, Value: 5}, "! 9"}, {impl.Reply{Code: 9, Cells: cellList(1, 5)}, "! 9"}, {impl.Reply{Code: 10, Value: 5, Cells: cellList(1, 5, 2, 6)}, "! 10"},
		{impl.Reply{Code: 4, Value: 5, Cells: cellList(1, 2)}, "! 4"}, {impl.Reply{Code: 1, Value: math.MaxInt64, Cells: cellList(math.MaxInt64, math.MaxInt64, 0, 0)}, "! 1"}, {impl.Reply{Code: math.MaxInt64, Value: 5, Cells: cellList(3, 1, 2, 9)}, "! 9223372036854775807"}, {impl.Reply{Code: 10, Cells: []impl.Cell{}}, "! 10"},
	} {
		if got, by := impl.ReplyText(c.reply), replyTextByHand(c.reply); got != (impl.TextResult{Text: c.text}) || by != got {
			t.Errorf("ReplyText(%+v) = %+v, by hand %+v, want %q", c.reply, got, by, c.text)
		}
	}
}

// One number below 0 is enough, whichever it is, and whether or not it would be written.
func TestReplyTextBelowZero(t *testing.T) {
	refused := func(r impl.Reply) {
		t.Helper()
		wantCode(t, told(r), impl.ReplyText(r), impl.ErrRange)
		if by := replyTextByHand(r); by != (impl.TextResult{Code: impl.ErrRange}) {
			t.Errorf("%+v by hand: %+v", r, by)
		}
	}
	for _, low := range []int64{-1, -2, -10, -4294967296, math.MinInt64} {
		for _, cells := range [][]impl.Cell{nil, {}, cellList(1, 2), cellList(0, 0, 31, 9999), cellList(math.MaxInt64, math.MaxInt64)} {
			for _, value := range []int64{0, 5, math.MaxInt64, low} {
				refused(impl.Reply{Code: low, Value: value, Cells: cells})
			}
		}
		for _, code := range []int64{0, 1, 3, 4, 10, 77, math.MaxInt64} {
			for _, cells := range [][]impl.Cell{nil, {}, cellList(1, 5), cellList(low, low)} {
				refused(impl.Reply{Code: code, Value: low, Cells: cells})
			}
			for _, value := range []int64{0, 5, math.MaxInt64} {
				refused(impl.Reply{Code: code, Value: value, Cells: cellList(low, low)})
				for place := range 3 {
					keys, values := cellList(1, 1, 2, 2, 3, 3), cellList(1, 1, 2, 2, 3, 3)
					keys[place].Key, values[place].Value = low, low
					for _, cells := range [][]impl.Cell{keys, values} {
						refused(impl.Reply{Code: code, Value: value, Cells: cells})
						refused(impl.Reply{Code: code, Value: value, Cells: cells[place : place+1]})
					}
				}
			}
		}
	}
}

func TestReplyTextAsByHand(t *testing.T) {
	d := dice(151)
	numbers := []int64{0, 1, 5, 9, 10, 31, 9999, topAt, math.MaxInt64, 0, 3, -1, -10, math.MinInt64}
	met := map[string]int{}
	for range 20000 {
		good := int64(10 + d.upTo(3)) // now and then none is below 0
		pick := func() int64 { return numbers[d.upTo(good)] }
		r := impl.Reply{Value: pick()}
		if d.upTo(3) == 0 {
			r.Code = pick()
		}
		for range d.upTo(4) {
			r.Cells = append(r.Cells, impl.Cell{Key: pick(), Value: pick()})
		}
		got := impl.ReplyText(r)
		if want := replyTextByHand(r); got != want {
			t.Fatalf("ReplyText(%+v) = %+v, want %+v", r, got, want)
		}
		word, _, _ := strings.Cut(got.Text, " ")
		met[word]++
	}
	if met["ok"] < 500 || met["!"] < 500 || met[""] < 500 {
		t.Errorf("so often each was met: %v", met)
	}
}

// someLines: of all forms, and of none.
func someLines() []string {
	return []string{"", " ", "    ", "purge", " purge", "purge  ", "show", "  show ", "begin", " begin ", "get 5 2", "get 8 4", "get  5  31", "scan 5", "scan 8", "scan 3", "put 5 2 7", "put 8 2 7", "put 8 0 9999", "put 8 3 10000", "put 8 32 0", "put 5 3 0", "drop 5 2", "drop 5 6", "drop 8 31", "drop 8 30", "commit 5", "commit 8", "commit 3", "commit 4", "abort 5", "abort 9", "abort 6", "abort 999999999", "commit 0",
		"purge 1", "purge purge", "purge x", "show 1", "show show", "1 purge", "1 show", "Purge", "PURGE", "Show", "SHOW", "purged", "shows", "purge\t", "\tpurge", "show\n", "\nshow", "purge\n", "\n", " \n", "\t", "\r", "begin\n", "begin\r", "begin 1", "get 5", "get 5 2 1", "put 5 2", "put 5 2 7 1", "put 5 2 1000000000", "put 5 2 -1", "put 5 2 0000000001", "put 5 2 000000001", "commit", "commit five", "wink", "begin begin", "BEGIN"}
}

func TestStepsAsByHand(t *testing.T) {
	engines := enginesToAsk()
	lines := someLines()
	met := map[string]int{}
	for n, e := range engines {
		for i, line := range lines {
			if (n+i)%3 > 0 && n < len(engines)-1 {
				continue
			}
			got := wantStep(t, fmt.Sprint("engine ", n), e, line)
			word, _, _ := strings.Cut(got.Said, " ")
			met[fmt.Sprint(got.Code, word)]++
			if got.Code == impl.OK && impl.EngineFault(got.Engine) != impl.OK {
				t.Fatalf("engine %d: behind %q there is a fault in %+v", n, line, got.Engine)
			}
		}
		for _, id := range idsNear(e) {
			for _, a := range actsNear([]int64{id}) {
				if line := impl.FormatAct(a); line.Code == impl.OK {
					wantStep(t, fmt.Sprint("engine ", n), e, line.Text)
				}
			}
		}
	}
	for _, kind := range []string{"0", "0ok", "0!", "0purged", "0clock", "5", "1", "2", "3"} {
		if met[kind] < 20 {
			t.Errorf("%q was met only %d times", kind, met[kind])
		}
	}
}

// What a line leaves and says, told by one engine.
func TestStepScriptAsTold(t *testing.T) {
	e := baseEngine()
	show := textByHand(e)
	for _, c := range []struct{ line, said string }{
		{"", ""}, {" ", ""}, {"        ", ""}, {"show", show}, {" show", show}, {"show ", show}, {"   show    ", show},
		{"get 5 2", "ok 22"}, {"get 8 31", "ok 31"}, {"get 9 20", "ok 0"}, {"get 5 4", "! 4"}, {"get 5 32", "! 3"}, {"get 4 2", "! 4"}, {"get 3 2", "! 10"}, {"get 999999999 999999999", "! 4"}, {"scan 5", "ok 0 2=22 31=31"}, {"scan 8", "ok 0 2=20 20=200 31=31"}, {"scan 7", "! 4"}, {"scan 6", "! 10"},
		{"put 8 2 7", "! 9"}, {"put 5 20 7", "! 9"}, {"put 8 31 10000", "! 3"}, {"put 8 32 1", "! 3"}, {"put 4 1 1", "! 4"}, {"put 11 1 1", "! 10"}, {"put 8 31 999999999", "! 3"}, {"drop 8 2", "! 9"}, {"drop 8 4", "! 4"}, {"drop 5 20", "! 4"}, {"drop 8 999999999", "! 3"}, {"commit 3", "! 10"}, {"commit 12", "! 4"}, {"abort 6", "! 10"}, {"abort 0", "! 4"},
	} {
		// All of these leave the engine as it was: with no code of their own, whatever the reply says.
		if got := impl.StepScript(e, c.line); got.Code != impl.OK || got.Said != c.said || !sameEngine(got.Engine, baseEngine()) {
			t.Errorf("StepScript of %q = %+v, want %q", c.line, got, c.said)
		}
	}
	for _, c := range []struct {
		line, said string
		then       impl.EngineResult
	}{
		{"begin", "ok 12", impl.BeginTxn(e)}, {" begin  ", "ok 12", impl.BeginTxn(e)}, {"put 5 2 7", "ok 0", impl.PutKey(e, 5, 2, 7)}, {"put 8 0 9999", "ok 0", impl.PutKey(e, 8, 0, 9999)}, {"put 008 000000000 000009999", "ok 0", impl.PutKey(e, 8, 0, 9999)}, {"drop 5 31", "ok 0", impl.DropKey(e, 5, 31)}, {"commit 5", "ok 7", impl.CommitTxn(e, 5)}, {"commit 8", "ok 0", impl.CommitTxn(e, 8)}, {"abort 5", "ok 0", impl.AbortTxn(e, 5)},
		{"purge", "purged 3", impl.PurgeEngine(e)}, {" purge", "purged 3", impl.PurgeEngine(e)}, {"purge ", "purged 3", impl.PurgeEngine(e)}, {"     purge   ", "purged 3", impl.PurgeEngine(e)},
	} {
		if got := impl.StepScript(e, c.line); c.then.Code != impl.OK || got.Code != impl.OK || got.Said != c.said || !sameEngine(got.Engine, c.then.Engine) || sameEngine(got.Engine, e) {
			t.Errorf("StepScript of %q = %+v, want %q and %+v", c.line, got, c.said, c.then)
		}
	}
	for _, line := range []string{"purge 1", "purge purge", "purge show", "show 1", "show show", "show purge", "purge x", "x purge", "1 show", "Purge", "PURGE", "Show", "purged", "sho", "shows", "pur ge", "purge\t", "\tshow", "\t", "\r", "purge\n", "\npurge", "show\n", "purge \n", "\n", " \n ", "begin\n", "begin 1", "get 5", "put 5 2 1000000000", "commit -1", "wink"} {
		wantCode(t, fmt.Sprintf("StepScript of %q", line), impl.StepScript(e, line), impl.ErrText)
	}
}

// An engine's own fault comes ahead of whatever the line or the text is.
func TestScriptCodesAreTheFault(t *testing.T) {
	met := map[int64]int{}
	for _, f := range append(engineFaults(), chainFaultsInRows()...) {
		if f.code == impl.OK {
			continue
		}
		met[f.code]++
		for _, line := range []string{"", " ", "purge", "show", "begin", "get 5 2", "commit 5", "wink", "begin\n", "\n"} {
			wantCode(t, fmt.Sprintf("%s: StepScript of %q", f.name, line), impl.StepScript(f.engine, line), f.code)
			wantCode(t, fmt.Sprintf("%s: RunScript of %q", f.name, line), impl.RunScript(f.engine, line), f.code)
		}
		for _, text := range []string{strings.Repeat(" ", mostBytes+1), strings.Repeat("\n", mostLines+1), strings.Repeat("\n", mostBytes+1), "begin\nwink\nshow\n"} {
			wantCode(t, f.name+": RunScript", impl.RunScript(f.engine, text), f.code)
		}
	}
	if len(met) != 3 {
		t.Errorf("not all codes were met: %v", met)
	}
	wantCode(t, "StepScript of a zero engine", impl.StepScript(impl.Engine{}, ""), impl.ErrRange)
	wantCode(t, "RunScript of a zero engine", impl.RunScript(impl.Engine{}, ""), impl.ErrRange)
	wantCode(t, "too many bytes to a zero engine", impl.RunScript(impl.Engine{}, strings.Repeat("x", 2000)), impl.ErrRange)
}

func TestScriptsUpToTheirBytes(t *testing.T) {
	e := baseEngine()
	for _, c := range []struct {
		text string
		code int64
		said string
	}{
		{strings.Repeat(" ", mostBytes), impl.OK, ""}, {strings.Repeat(" ", mostBytes+1), impl.ErrMany, ""}, {strings.Repeat(" ", mostBytes-1) + "\n", impl.OK, ""}, {strings.Repeat(" ", mostBytes) + "\n", impl.ErrMany, ""},
		{strings.Repeat("x", mostBytes), impl.OK, "!! 5\n"}, {strings.Repeat("x", mostBytes+1), impl.ErrMany, ""}, {strings.Repeat("x", 100000), impl.ErrMany, ""},
		{strings.Repeat(" ", mostBytes-7) + "get 5 2", impl.OK, "ok 22\n"}, {strings.Repeat(" ", mostBytes-6) + "get 5 2", impl.ErrMany, ""}, {"get 5 2" + strings.Repeat(" ", mostBytes-7), impl.OK, "ok 22\n"}, {"get 5 2" + strings.Repeat(" ", mostBytes-6), impl.ErrMany, ""}, {"get 5 2\n" + strings.Repeat(" ", mostBytes-8), impl.OK, "ok 22\n"},
		{strings.Repeat("\u00e9", mostBytes/2), impl.OK, "!! 5\n"}, {strings.Repeat("\u00e9", mostBytes/2) + " ", impl.ErrMany, ""}, {strings.Repeat("\u00e9", mostBytes), impl.ErrMany, ""}, {strings.Repeat("\xff", mostBytes), impl.OK, "!! 5\n"}, {strings.Repeat("\xff", mostBytes+1), impl.ErrMany, ""},
		{strings.Repeat(strings.Repeat(" ", 24)+"\n", mostLines), impl.OK, ""}, {strings.Repeat(strings.Repeat(" ", 24)+"\n", mostLines-1) + strings.Repeat(" ", 25), impl.OK, ""}, {strings.Repeat(strings.Repeat(" ", 24)+"\n", mostLines-1) + strings.Repeat(" ", 26), impl.ErrMany, ""}, {strings.Repeat("\n", mostBytes+1), impl.ErrMany, ""},
	} {
		got := wantRun(t, "bytes", e, c.text)
		wantCode(t, fmt.Sprintf("RunScript of %d bytes", len(c.text)), got, c.code)
		if got.Said != c.said {
			t.Errorf("%d bytes: said is %q, want %q", len(c.text), got.Said, c.said)
		}
		if c.code == impl.OK && !sameEngine(got.Engine, e) {
			t.Errorf("%d bytes: the engine is %+v", len(c.text), got.Engine)
		}
	}
}

func TestScriptsUpToTheirLines(t *testing.T) {
	e := baseEngine()
	for _, line := range []string{"", " ", "show", "wink", "get 5 2", "commit 5"} {
		for _, c := range []struct {
			text string
			code int64
		}{
			{strings.Repeat(line+"\n", mostLines-1), impl.OK}, {strings.Repeat(line+"\n", mostLines), impl.OK}, {strings.Repeat(line+"\n", mostLines+1), impl.ErrMany},
			{strings.Repeat(line+"\n", mostLines-1) + "x", impl.OK}, {strings.Repeat(line+"\n", mostLines) + "x", impl.ErrMany}, {strings.Repeat(line+"\n", mostLines-1) + " ", impl.OK}, {strings.Repeat(line+"\n", mostLines) + " ", impl.ErrMany}, {strings.Repeat(line+"\n", mostLines) + "\n", impl.ErrMany}, {strings.Repeat(line+"\n", mostLines-1) + "\n", impl.OK},
			{strings.Repeat(line+"\n", mostLines-1) + "purge\n", impl.OK}, {strings.Repeat(line+"\n", mostLines-1) + "purge", impl.OK}, {strings.Repeat(line+"\n", mostLines) + "purge\n", impl.ErrMany},
		} {
			if len(c.text) > mostBytes {
				t.Fatalf("%q is too long to be asked for its lines", c.text)
			}
			wantCode(t, fmt.Sprintf("RunScript of %d lines %q", strings.Count(c.text, "\n"), line), wantRun(t, "lines", e, c.text), c.code)
		}
	}
	// All lines are done, the first and the last one, too.
	puts := ""
	for key := range mostLines {
		puts += fmt.Sprintf("put 2 %d 7\n", key%32)
	}
	whole := impl.RunScript(impl.BeginTxn(newEngine()).Engine, puts)
	if whole.Code != impl.OK || whole.Said != strings.Repeat("ok 0\n", mostLines) || len(whole.Engine.Txns[0].Undos) != mostLines {
		t.Errorf("%d puts: %+v", mostLines, whole)
	}
}

func TestRunScriptAsTold(t *testing.T) {
	e := newEngine(cellList(1, 10, 2, 20)...)
	show := "clock 1 2\nrow 1 1:1=10\nrow 2 1:1=20\n"
	for _, c := range []struct{ name, text, said string }{
		{"no bytes", "", ""}, {"a line feed", "\n", ""}, {"line feeds", "\n\n\n", ""}, {"blanks", "   ", ""}, {"lines of blanks", " \n   \n\n  ", ""}, {"blanks and a line feed", "  \n", ""},
		{"one line", "begin\n", "ok 2\n"}, {"one line without a line feed", "begin", "ok 2\n"}, {"line feeds around it", "\n\nbegin\n\n", "ok 2\n"}, {"blanks around it", "  begin  \n", "ok 2\n"}, {"a line of blanks behind it", "begin\n  ", "ok 2\n"},
		{"show", "show", show}, {"show and a line feed", "show\n", show}, {"show twice", "show\nshow\n", show + show}, {"show between", "begin\nshow\nbegin", "ok 2\nclock 1 3\ntxn 2 1 1 0 0\nrow 1 1:1=10\nrow 2 1:1=20\nok 3\n"},
		{"purge", "purge", "purged 0\n"}, {"purge twice", "purge\npurge\n", "purged 0\npurged 0\n"}, {"what is purged", "begin\nput 2 1 11\ncommit 2\npurge\npurge\nshow\n", "ok 2\nok 0\nok 2\npurged 1\npurged 0\nclock 2 3\nrow 1 2:2=11\nrow 2 1:1=20\n"}, {"ended ones are not there any more", "begin\ncommit 2\nget 2 1\npurge\nget 2 1\n", "ok 2\nok 0\n! 10\npurged 0\n! 4\n"},
		{"no line", "wink", "!! 5\n"}, {"no line, and a line feed", "wink\n", "!! 5\n"}, {"no line first", "wink\nbegin\n", "!! 5\nok 2\n"}, {"no line between", "begin\nwink\nbegin\n", "ok 2\n!! 5\nok 3\n"}, {"no line last", "begin\nwink", "ok 2\n!! 5\n"}, {"no lines", "wink\n\nget\n7\n", "!! 5\n!! 5\n!! 5\n"}, {"carriage returns", "begin\r\nbegin\r", "!! 5\n!! 5\n"}, {"a tab", "begin\n\t\nbegin", "ok 2\n!! 5\nok 3\n"},
		{"no line between writes", "begin\nput 2 1 11\nput 2 1\nget 2 1\nput 2 1 1000000000\nget 2 1\nabort 2\n", "ok 2\nok 0\n!! 5\nok 11\n!! 5\nok 11\nok 0\n"},
		{"a reply with a code", "begin\nbegin\nput 2 1 5\nput 3 1 6\nget 3 1\ncommit 2\nput 3 1 6\nget 3 1\ncommit 3\n", "ok 2\nok 3\nok 0\n! 9\nok 10\nok 2\n! 9\nok 10\nok 0\n"}, {"codes of two digits", "begin\nabort 2\nabort 2\nget 2 1", "ok 2\nok 0\n! 10\n! 10\n"},
		{"scans", "begin\nscan 2\ndrop 2 1\nscan 2\ndrop 2 2\nscan 2\nscan 3", "ok 2\nok 0 1=10 2=20\nok 0\nok 0 2=20\nok 0\nok 0\n! 4\n"},
	} {
		wantSaid(t, c.name, e, c.text, c.said)
		wantRun(t, c.name, e, c.text)
	}
	for _, text := range []string{"", "\n", "\n\n", "  ", " \n ", "show", "show\nshow", "wink", "wink\nwink\n", "put 2 1 5\n", "get 2 1"} {
		if got := impl.RunScript(e, text); !sameEngine(got.Engine, newEngine(cellList(1, 10, 2, 20)...)) {
			t.Errorf("%q turns the engine to %+v", text, got.Engine)
		}
	}
}

// A line with a code in the middle: the engine is as it was, and the lines behind it are done.
func TestLinesWithACodeAmongOthers(t *testing.T) {
	e := newEngine(firstCells()...)
	good := []string{"begin", "put 2 1 5", "begin", "put 3 2 6", "get 2 1", "", "scan 3", "commit 2", "show", "purge", "drop 3 31", "commit 3", "show"}
	plain := impl.RunScript(e, strings.Join(good, "\n"))
	if plain.Code != impl.OK || strings.Contains(plain.Said, "!") {
		t.Fatalf("%+v", plain)
	}
	for _, bad := range []string{"wink", "put 2 1", "put 2 1 0000000009", "commit  2 2", "purge 1", "show 1", "begin 2", "Begin", "\t", "abort two"} {
		for place := range len(good) + 1 {
			with := slices.Insert(slices.Clone(good), place, bad)
			got := wantRun(t, "with "+bad, e, strings.Join(with, "\n"))
			ahead := impl.RunScript(e, strings.Join(good[:place], "\n"))
			want := ahead.Said + "!! 5\n" + strings.TrimPrefix(plain.Said, ahead.Said)
			if got.Said != want || !sameEngine(got.Engine, plain.Engine) || !strings.HasPrefix(plain.Said, ahead.Said) {
				t.Fatalf("%q in place %d: %+v, want %q and %+v", bad, place, got, want, plain.Engine)
			}
		}
	}
}

// thrownLine is mostly an act that can be done.
func thrownLine(e impl.Engine, d *dice, keys int64) string {
	lines := someLines()
	switch d.upTo(24) {
	case 0:
		return ""
	case 1:
		return strings.Repeat(" ", 1+int(d.upTo(4)))
	case 2, 3:
		return strings.Repeat(" ", int(d.upTo(2))) + "purge" + strings.Repeat(" ", int(d.upTo(2)))
	case 4:
		return strings.Repeat(" ", int(d.upTo(2))) + "show" + strings.Repeat(" ", int(d.upTo(2)))
	case 5, 6:
		return strings.ReplaceAll(lines[d.upTo(int64(len(lines)-1))], "\n", "\t")
	}
	c := impl.Copies{Next: e.Next}
	for _, id := range openByHand(e).List {
		c.Txns = append(c.Txns, impl.Copied{Id: id, State: impl.StateOpen})
	}
	line := lineByHand(thrownAct(c, d, keys))
	if d.upTo(3) == 0 {
		line = strings.ReplaceAll(line, " ", strings.Repeat(" ", int(1+d.upTo(2)))+strings.Repeat("0", int(d.upTo(3))))
	}
	return strings.Repeat(" ", int(d.upTo(9)/8)) + line + strings.Repeat(" ", int(d.upTo(9)/8))
}

// thrownScript: lines that follow one another, up to as many as there may be.
func thrownScript(e impl.Engine, d *dice, keys int64) string {
	text, wide := "", strings.Repeat(" ", []int{0, 0, 0, 30}[d.upTo(3)]) // blanks fill a script up to its last byte
	for range 1 + d.upTo(mostLines-1) + d.upTo(20) {
		line := thrownLine(e, d, keys) + wide
		if len(text)+len(line)+1 > mostBytes || strings.Count(text, "\n") == mostLines {
			break
		}
		if step := stepByHand(e, line); step.Code == impl.OK {
			e = step.Engine
		}
		text += line + "\n"
	}
	if d.upTo(2) == 0 {
		text = strings.TrimSuffix(text, "\n")
	}
	return text
}

// eachScript tells of many thrown scripts, and of the engines that they are told to.
func eachScript(seed dice, runs int, tell func(run int, e impl.Engine, text string)) {
	d := seed
	engines := someEngines()
	for run := range runs {
		keys := []int64{1, 2, 3, 5, 8, 32}[run%6]
		e := newEngine(cellsFrom(0, 1, []int64{0, 1, 2, 4, 20}[d.upTo(4)], 50)...)
		if d.upTo(3) == 0 {
			e = engines[d.upTo(int64(len(engines)-1))]
		}
		tell(run, e, thrownScript(e, &d, keys))
	}
}

// wantCut: both parts, one behind the other, do and say what the whole does and says.
func wantCut(t *testing.T, run int, e impl.Engine, whole impl.ScriptResult, first, second string) {
	t.Helper()
	one := impl.RunScript(e, first)
	two := impl.RunScript(one.Engine, second)
	if one.Code != impl.OK || two.Code != impl.OK {
		t.Fatalf("run %d: %q has the code %d, %q the code %d", run, first, one.Code, second, two.Code)
	}
	if one.Said+two.Said != whole.Said {
		t.Fatalf("run %d: %q and %q say\n%s\nand\n%s\nand together\n%s", run, first, second, one.Said, two.Said, whole.Said)
	}
	if !sameEngine(two.Engine, whole.Engine) {
		t.Fatalf("run %d: behind %q and %q there is\n%+v\nand behind both together\n%+v", run, first, second, two.Engine, whole.Engine)
	}
}

// countSaid counts what the lines that were said begin with, and the lines that say nothing.
func countSaid(met map[string]int, text, said string) {
	for line := range strings.Lines(said) {
		words := strings.Fields(line)
		met[words[0]]++
		if words[0] == "purged" && words[1] != "0" {
			met["purged some"]++
		}
	}
	for line := range strings.Lines(text) {
		switch {
		case line == "\n":
			met["empty"]++
		case strings.Trim(line, " \n") == "":
			met["blanks"]++
		}
	}
}

// A script that is cut behind a line feed does in two parts what it does in one.
func TestScriptsCutBehindEachLineFeed(t *testing.T) {
	met := map[string]int{}
	eachScript(152, 240, func(run int, e impl.Engine, text string) {
		whole := wantRun(t, fmt.Sprint("run ", run), e, text)
		if whole.Code != impl.OK || impl.EngineFault(whole.Engine) != impl.OK {
			t.Fatalf("run %d: %q has the code %d, and the engine behind it the fault %d", run, text, whole.Code, impl.EngineFault(whole.Engine))
		}
		countSaid(met, text, whole.Said)
		if len(text) > mostBytes-60 {
			met["full"]++
		}
		if strings.Count(text, "\n") >= mostLines-1 {
			met["long"]++
		}
		for place := range len(text) {
			if text[place] == '\n' {
				wantCut(t, run, e, whole, text[:place+1], text[place+1:])
				met["cuts"]++
			}
		}
	})
	for _, kind := range []string{"ok", "!", "!!", "purged", "purged some", "clock", "txn", "row", "empty", "blanks", "full", "long", "cuts"} {
		if met[kind] < 15 {
			t.Errorf("%q was met only %d times", kind, met[kind])
		}
	}
	if met["ok"] < 2000 || met["!"] < 300 || met["!!"] < 300 || met["cuts"] < 3000 {
		t.Errorf("so much was met: %v", met)
	}
}

// Line by line a script does what it does in one, by RunScript and by StepScript.
func TestScriptsLineByLine(t *testing.T) {
	eachScript(153, 80, func(run int, e impl.Engine, text string) {
		whole := impl.RunScript(e, text)
		parts, steps, said, stepped := e, e, "", ""
		for line := range strings.Lines(text) {
			part := impl.RunScript(parts, line)
			parts, said = part.Engine, said+part.Said
			step := impl.StepScript(steps, strings.TrimSuffix(line, "\n"))
			if step.Code == impl.OK {
				steps = step.Engine
				stepped += step.Said
			} else {
				wantCode(t, line, step, impl.ErrText)
				stepped += "!! 5"
			}
			if stepped != "" && !strings.HasSuffix(stepped, "\n") {
				stepped += "\n"
			}
		}
		if said != whole.Said || stepped != whole.Said || !sameEngine(parts, whole.Engine) || !sameEngine(steps, whole.Engine) {
			t.Fatalf("run %d: %q in one says\n%s\nline by line\n%s\nstep by step\n%s", run, text, whole.Said, said, stepped)
		}
	})
}

// A script has the replies that an engine gives to its acts.
func TestScriptsSayWhatEnginesReply(t *testing.T) {
	d := dice(154)
	for run := range 60 {
		cells, acts := thrownTalk(run, &d)
		acts = acts[:50]
		replies := impl.RunEngine(cells, acts).Replies
		text, want := "", ""
		for i, a := range acts {
			line := impl.FormatAct(a)
			if line.Code != impl.OK {
				continue // it did nothing: no number that is below 0 is right
			}
			text += line.Text + "\n"
			want += replyTextByHand(replies[i]).Text + "\n"
		}
		if got := impl.RunScript(newEngine(cells...), text); got.Code != impl.OK || got.Said != want {
			t.Fatalf("run %d: %q says\n%s, want\n%s", run, text, got.Said, want)
		}
	}
}

func TestScriptsOfThrownBytes(t *testing.T) {
	d := dice(155)
	pieces := []string{"begin", "get", "scan", "put", "drop", "commit", "abort", "purge", "show", " ", " ", " ", " ", "\n", "\n", "\n", "2", "3", "1", "0", "12", "\t", "\r", "x", "-", "\x00", "\xff", "\u00e9", "1000000000", "  ", "begin\n", "get 2 1\n"}
	met := map[int64]int{}
	for range 4000 {
		text := ""
		for range d.upTo([]int64{3, 12, 60, 900}[d.upTo(3)]) {
			text += pieces[d.upTo(int64(len(pieces)-1))]
		}
		met[wantRun(t, "thrown bytes", baseEngine(), text).Code]++
		wantStep(t, "thrown bytes", baseEngine(), text)
		if got, want := impl.ParseAct(text), parseByHand(text); got != want {
			t.Fatalf("ParseAct(%q) = %+v, want %+v", text, got, want)
		}
	}
	if met[impl.OK] < 1000 || met[impl.ErrMany] < 100 {
		t.Errorf("so often each code was met: %v", met)
	}
}

func TestEnginesThatWereTurnedAndScripts(t *testing.T) {
	d := dice(156)
	met := map[int64]int{}
	for range 1500 {
		e := thrownEngineTurn(baseEngine(), &d)
		text := thrownScript(baseEngine(), &d, 8)
		met[wantRun(t, "turned", e, text).Code]++
		wantStep(t, "turned", e, thrownLine(baseEngine(), &d, 8))
	}
	for _, code := range []int64{impl.OK, impl.ErrForm, impl.ErrRange} {
		if met[code] < 20 {
			t.Errorf("code %d was met only %d times", code, met[code])
		}
	}
}

// someTexts: scripts that turn much and nothing, and some that have a code.
func someTexts() []string {
	return []string{"", "\n", "   ", "show", "purge", "wink", "begin\nput 12 3 5\ncommit 12\npurge\nshow", "purge\ndrop 5 31\ncommit 5\npurge\nabort 9\npurge\nbegin\n", "put 5 2 1\nput 5 2 2\ndrop 5 2\nabort 5\n", "get 5 2\nscan 8\nget 4 4", "put 8 2 1\nput 3 1 1\n", strings.Repeat("\n", 61), strings.Repeat("x", 1501)}
}

// tellScripts asks the functions that take an engine for all lines and texts.
func tellScripts(e impl.Engine) string {
	var out []any
	for _, line := range someLines() {
		out = append(out, impl.StepScript(e, line))
	}
	for _, text := range someTexts() {
		out = append(out, impl.RunScript(e, text))
	}
	return told(out)
}

func TestScriptArgumentsStay(t *testing.T) {
	for n, e := range enginesToAsk() {
		if n%2 > 0 && engineFaultByHand(e) == impl.OK {
			continue
		}
		with := engineWithRoom(e)
		before := engineRoom(with)
		tellScripts(with)
		if engineRoom(with) != before || !sameEngine(with, e) {
			t.Fatalf("engine %d was changed from %+v to %+v", n, e, with)
		}
	}
	for count := range int64(5) {
		cells := append(make([]impl.Cell, 0, 9), cellsFrom(0, 1, count, 5)...)
		before := wholeRoom(cells)
		impl.ReplyText(impl.Reply{Cells: cells})
		impl.ReplyText(impl.Reply{Code: 4, Cells: cells})
		impl.ReplyText(impl.Reply{Code: -1, Cells: cells})
		impl.ReplyText(impl.Reply{Value: -1, Cells: cells})
		if !slices.Equal(wholeRoom(cells), before) {
			t.Errorf("cells were %v, and are %v", before, wholeRoom(cells))
		}
	}
}

// Lists of one engine may be pieces of one list.
func TestScriptsToAnEngineOfPieces(t *testing.T) {
	undos := []impl.Undo{firstOf(2), hadOf(2, 21), firstOf(4), firstOf(6), hadGoneOf(6)}
	versions := chainOf(wrote(5, 22), done(1, 2, 2), done(1, 1, 1), wrote(8, 44), doneGone(1, 2), wroteGone(8), done(1, 3, 8), done(1, 1, 8), doneGone(1, 3), done(1, 2, 9))
	e := impl.Engine{Next: 12, Clock: 3, Txns: []impl.Txn{openAt(5, 3, undos[:2]...), doneAt(6, 0, 0), openAt(8, 3, undos[2:]...), openAt(9, 3)}, Rows: []impl.Row{rowOf(2, versions[:3]...), rowOf(4, versions[3:5]...), rowOf(6, versions[5:6]...), rowOf(8, versions[6:8]...), rowOf(9, versions[8:]...)}}
	before := copyEngine(e)
	for _, line := range someLines() {
		got := impl.StepScript(e, line)
		if want := stepByHand(before, line); !sameScript(got, want) || !sameEngine(e, before) {
			t.Fatalf("%q: %+v, want %+v, of %+v", line, got, want, e)
		}
		checkOwnListsOfEngine(t, 0, got.Engine)
	}
	for _, text := range someTexts() {
		got := impl.RunScript(e, text)
		if want := runScriptByHand(before, text); !sameScript(got, want) || !sameEngine(e, before) {
			t.Fatalf("%q: %+v, want %+v, of %+v", text, got, want, e)
		}
		checkOwnListsOfEngine(t, 0, got.Engine)
	}
	if !sameEngine(e, before) {
		t.Errorf("an answer shares memory with what it was of: %+v", e)
	}
}

// scriptAnswers: the engine of each line and text.
func scriptAnswers(e impl.Engine) []impl.Engine {
	var out []impl.Engine
	for _, line := range someLines() {
		out = append(out, impl.StepScript(e, line).Engine)
	}
	for _, text := range someTexts() {
		out = append(out, impl.RunScript(e, text).Engine)
	}
	return out
}

func TestScriptAnswersAreNewMemory(t *testing.T) {
	for n, e := range append(someEngines(), baseEngine()) {
		if n%3 > 0 {
			continue
		}
		with := engineWithRoom(e)
		before := engineRoom(with)
		spoilt, other := scriptAnswers(with), scriptAnswers(with)
		want := told(other)
		for _, answer := range spoilt {
			spoilEngine(answer)
		}
		if told(other) != want {
			t.Fatalf("engine %d: two answers share memory", n)
		}
		if engineRoom(with) != before {
			t.Fatalf("engine %d: an answer shares memory with its argument", n)
		}
		spoilEngine(with)
		if told(other) != want {
			t.Fatalf("engine %d: an answer hangs on what its argument became", n)
		}
		for _, answer := range other {
			checkOwnListsOfEngine(t, n, answer)
		}
	}
}

// Whatever is behind a text or a line in the bytes that it was cut from is not looked at.
func TestLinesThatArePieces(t *testing.T) {
	long := "put 2 1 5 6\nwink begin\n"
	for from := range len(long) {
		for to := from; to <= len(long); to++ {
			piece, alone := long[from:to], string([]byte(long[from:to]))
			if a, b := impl.ParseAct(piece), impl.ParseAct(alone); a != b || a != parseByHand(alone) {
				t.Fatalf("%q is read as %+v, and alone as %+v", piece, a, b)
			}
			wantRun(t, "pieces", baseEngine(), piece)
		}
	}
}

func TestNilAndEmptyListsOfScriptsAreAlike(t *testing.T) {
	for n, e := range enginesToAsk() {
		if a, b := tellScripts(withNilLists(e)), tellScripts(withEmptyLists(e)); a != b {
			t.Fatalf("engine %d: with nil %s, with empty lists %s", n, a, b)
		}
	}
	for _, r := range []impl.Reply{{}, {Code: 4}, {Code: -4}, {Code: 4, Value: -7}, {Value: 7}, {Value: -7}} {
		nothing := r
		nothing.Cells = []impl.Cell{}
		if a, b := impl.ReplyText(r), impl.ReplyText(nothing); a != b {
			t.Errorf("with nil %+v, with an empty list %+v", a, b)
		}
	}
}

func TestScriptsKeepNothing(t *testing.T) {
	wantSameAgain(t, append(enginesToAsk(), baseEngine()), tellScripts)
	wantSameAgain(t, someLines(), func(line string) string { return told(impl.ParseAct(line)) })
	wantSameAgain(t, someActs(), func(a impl.Act) string {
		return told([]any{impl.FormatAct(a), impl.ReplyText(impl.Reply{Value: a.Value, Cells: cellList(a.Key, a.Txn)})})
	})
}

func TestScriptsNeverPanic(t *testing.T) {
	numbers := []int64{math.MinInt64, -1, 0, 1, 2, 3, 7, 8, 31, 32, 999, 1000, 9999, 10000, topAt, topNumber, topNumber + 1, math.MaxInt64}
	d := dice(157)
	pick := func() int64 { return numbers[d.upTo(int64(len(numbers)-1))] }
	for range 4000 {
		var bytes []byte
		for range d.upTo(40) {
			bytes = append(bytes, byte(d.upTo(255)))
		}
		e, text := thrownEngineTurn(baseEngine(), &d), string(bytes)
		if d.upTo(2) == 0 {
			e.Next, e.Clock = pick(), pick()
		}
		a := impl.Act{Kind: pick(), Txn: pick(), Key: pick(), Value: pick()}
		mustPanicNever(t, told([]any{e, text, a}), func() {
			for _, line := range []string{text, lineByHand(a), lineByHand(a) + "\n" + text} {
				impl.StepScript(e, line)
				impl.RunScript(e, line)
				impl.ParseAct(line)
			}
			impl.FormatAct(a)
			impl.ReplyText(impl.Reply{Code: pick(), Value: pick(), Cells: cellList(pick(), pick())})
		})
	}
	mustPanicNever(t, "zero values", func() {
		impl.StepScript(impl.Engine{}, "")
		impl.RunScript(impl.Engine{}, "")
		impl.ParseAct("")
		impl.FormatAct(impl.Act{})
		impl.ReplyText(impl.Reply{})
	})
}
