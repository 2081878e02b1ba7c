package tests

import (
	"fmt"
	"math"
	"slices"
	"strconv"
	"strings"
	"testing"

	"loop.example/g00216/impl"
)

const mostSessions = 5
const mostPicks = 80
const mostOfSession = 12

// actIn reads an act of a session: g1, s, p1=5, d1, c or a.
func actIn(word string) impl.Act {
	kind := int64(strings.Index("..gspdca", word[:1]))
	key, value, _ := strings.Cut(word[1:], "=")
	a := impl.Act{Kind: kind}
	a.Key, _ = strconv.ParseInt(key, 10, 64)
	a.Value, _ = strconv.ParseInt(value, 10, 64)
	return a
}

// sessionsIn reads sessions: acts with blanks between, and a stroke between sessions.
func sessionsIn(text string) [][]impl.Act {
	var out [][]impl.Act
	for part := range strings.SplitSeq(text, "|") {
		var acts []impl.Act
		for word := range strings.FieldsSeq(part) {
			acts = append(acts, actIn(word))
		}
		out = append(out, acts)
	}
	return out
}

// picksIn reads picks, a digit each.
func picksIn(digits string) []int64 {
	var out []int64
	for _, digit := range digits {
		out = append(out, int64(digit-'0'))
	}
	return out
}

// mergeText tells each act with who does it ahead and its Txn behind.
func mergeText(m impl.MergeResult) string {
	var words []string
	for i, a := range m.Acts {
		word := fmt.Sprintf("%d%c", m.Who[i], ".bgspdca"[a.Kind])
		switch a.Kind {
		case 2, 5:
			word += fmt.Sprint(a.Key)
		case 4:
			word += fmt.Sprintf("%d=%d", a.Key, a.Value)
		}
		words = append(words, fmt.Sprintf("%s/%d", word, a.Txn))
	}
	return strings.Join(words, " ")
}

// talkText tells the replies to one session.
func talkText(talk []impl.Reply) string {
	var words []string
	for _, reply := range talk {
		words = append(words, replyTextByHand(reply).Text)
	}
	return strings.Join(words, ", ")
}

func copySessions(sessions [][]impl.Act) [][]impl.Act {
	out := slices.Clone(sessions)
	for i := range out {
		out[i] = slices.Clone(out[i])
	}
	return out
}

func sessionsFaultByHand(sessions [][]impl.Act) int64 {
	all := slices.Concat(sessions...)
	switch {
	case len(sessions) == 0, len(sessions) > mostSessions:
		return impl.ErrMany
	case slices.ContainsFunc(sessions, func(acts []impl.Act) bool { return len(acts) > mostOfSession }):
		return impl.ErrMany
	}
	for _, a := range all {
		if a.Kind < 2 || a.Kind > 7 {
			return impl.ErrRange
		}
		if a.Txn != 0 {
			return impl.ErrForm
		}
	}
	return impl.OK
}

func mergeFaultByHand(sessions [][]impl.Act, picks []int64) int64 {
	if code := sessionsFaultByHand(sessions); code != impl.OK {
		return code
	}
	if len(picks) > mostPicks {
		return impl.ErrMany
	}
	if len(picks) > 0 && (slices.Min(picks) < 0 || slices.Max(picks) >= int64(len(sessions))) {
		return impl.ErrRange
	}
	return impl.OK
}

func countOf(picks []int64, who int64) int {
	count := 0
	for _, pick := range picks {
		if pick == who {
			count++
		}
	}
	return count
}

// beginners: who is among the picks, each once, in the order of the first ones.
func beginners(picks []int64) []int64 {
	var out []int64
	for _, pick := range picks {
		if !slices.Contains(out, pick) {
			out = append(out, pick)
		}
	}
	return out
}

// mergeByHand works out each pick by itself: how often its session was picked ahead of it tells what is done.
func mergeByHand(sessions [][]impl.Act, picks []int64) impl.MergeResult {
	if code := mergeFaultByHand(sessions, picks); code != impl.OK {
		return impl.MergeResult{Code: code}
	}
	var out impl.MergeResult
	began := beginners(picks)
	for i, who := range picks {
		ahead, acts := countOf(picks[:i], who), sessions[who]
		if ahead > len(acts) {
			continue
		}
		a := impl.Act{Kind: 1}
		if ahead > 0 {
			a = impl.Act{Kind: acts[ahead-1].Kind, Txn: int64(slices.Index(began, who)) + 2, Key: acts[ahead-1].Key, Value: acts[ahead-1].Value}
		}
		out.Acts, out.Who = append(out.Acts, a), append(out.Who, who)
	}
	return out
}

// talksByHand has an engine by hand reply, and each session hear its own replies.
func talksByHand(cells []impl.Cell, sessions [][]impl.Act, picks []int64) impl.TalksResult {
	merged := mergeByHand(sessions, picks)
	if merged.Code != impl.OK {
		return impl.TalksResult{Code: merged.Code}
	}
	if made := newCopiesByHand(cells); made.Code != impl.OK {
		return impl.TalksResult{Code: made.Code}
	}
	e := impl.NewEngine(cells).Engine
	out := impl.TalksResult{Talks: make([][]impl.Reply, len(sessions))}
	for i, a := range merged.Acts {
		done := doEngineByHand(e, a)
		e = done.Engine
		out.Talks[merged.Who[i]] = append(out.Talks[merged.Who[i]], done.Reply)
	}
	return out
}

// earlyByHand tells all picks of who in place of its first one.
func earlyByHand(sessions [][]impl.Act, picks []int64, who int64) impl.IntsResult {
	if code := mergeFaultByHand(sessions, picks); code != impl.OK {
		return impl.IntsResult{Code: code}
	}
	if who < 0 || who >= int64(len(sessions)) {
		return impl.IntsResult{Code: impl.ErrRange}
	}
	var out []int64
	for i, pick := range picks {
		switch {
		case pick != who:
			out = append(out, pick)
		case countOf(picks[:i], who) == 0:
			out = append(out, slices.Repeat([]int64{who}, countOf(picks, who))...)
		}
	}
	return impl.IntsResult{List: out}
}

func onlyReadsByHand(sessions [][]impl.Act, who int64) bool {
	if sessionsFaultByHand(sessions) != impl.OK || who < 0 || who >= int64(len(sessions)) {
		return false
	}
	reads := 0
	for _, a := range sessions[who] {
		if a.Kind == 2 || a.Kind == 3 {
			reads++
		}
	}
	return reads == len(sessions[who])
}

// whosNear: each session, and places that are none.
func whosNear(sessions [][]impl.Act) []int64 {
	out := []int64{math.MinInt64, -2, -1, int64(len(sessions)), int64(len(sessions)) + 1, 99, math.MaxInt64}
	for who := range sessions {
		out = append(out, int64(who))
	}
	return out
}

// wantSessionsTold: all functions answer what they answer by hand; answers the code of MergeActs.
func wantSessionsTold(t *testing.T, name string, cells []impl.Cell, sessions [][]impl.Act, picks []int64) int64 {
	t.Helper()
	if got, want := impl.SessionsFault(sessions), sessionsFaultByHand(sessions); got != want {
		t.Fatalf("%s: SessionsFault(%v) = %d, want %d", name, sessions, got, want)
	}
	merged := impl.MergeActs(sessions, picks)
	if want := mergeByHand(sessions, picks); told(merged) != told(want) {
		t.Fatalf("%s: MergeActs(%v, %v) = %+v, want %+v", name, sessions, picks, merged, want)
	}
	if got, want := impl.RunSessions(cells, sessions, picks), talksByHand(cells, sessions, picks); told(got) != told(want) {
		t.Fatalf("%s: RunSessions(%v, %v, %v) = %+v, want %+v", name, cells, sessions, picks, got, want)
	}
	for _, who := range whosNear(sessions) {
		if got, want := impl.EarlyPicks(sessions, picks, who), earlyByHand(sessions, picks, who); told(got) != told(want) {
			t.Fatalf("%s: EarlyPicks(%v, %v, %d) = %+v, want %+v", name, sessions, picks, who, got, want)
		}
		if got, want := impl.OnlyReads(sessions, who), onlyReadsByHand(sessions, who); got != want {
			t.Fatalf("%s: OnlyReads(%v, %d) = %t, want %t", name, sessions, who, got, want)
		}
	}
	return merged.Code
}

// thrownSession: of all Kinds, or just reads, or writes with an end; some have no acts, and some as many as there may be.
func thrownSession(d *dice, keys int64) []impl.Act {
	kinds := [][]int64{{2, 3, 4, 5, 6, 7}, {2, 2, 2, 3}, {4, 4, 4, 5}, {2, 3, 4, 4, 5}}[d.upTo(3)]
	var acts []impl.Act
	for range []int64{0, 1, 2, 3, 5, 8, 11, 12, d.upTo(12)}[d.upTo(8)] {
		a := impl.Act{Kind: kinds[d.upTo(int64(len(kinds)-1))], Key: d.upTo(keys - 1), Value: d.upTo(99)}
		switch d.upTo(60) {
		case 0:
			a.Key = []int64{-1, 32, 31, math.MinInt64, math.MaxInt64}[d.upTo(4)]
		case 1:
			a.Value = []int64{-1, 10000, 9999, math.MinInt64, math.MaxInt64}[d.upTo(4)]
		}
		acts = append(acts, a)
	}
	if len(acts) > 0 && kinds[0] == 4 {
		acts[len(acts)-1].Kind = []int64{6, 6, 6, 7}[d.upTo(3)]
	}
	return acts
}

// thrownPicks: of all sessions, or of some alone; more than there are acts left, and fewer.
func thrownPicks(d *dice, count int64) []int64 {
	low, high := int64(0), count-1
	if d.upTo(3) == 0 {
		low = d.upTo(high)
		high = low + d.upTo(high-low)
	}
	var picks []int64
	most := []int64{3, 20, 50, mostPicks}[d.upTo(3)]
	for most = d.upTo(most/2) + most - most/2; most > 0; {
		who := low + d.upTo(high-low)
		for range min(most, 1+d.upTo([]int64{0, 0, 1, 6}[d.upTo(3)])) {
			picks = append(picks, who)
			most--
		}
	}
	return picks
}

func thrownMeeting(run int, d *dice) ([]impl.Cell, [][]impl.Act, []int64) {
	keys := []int64{1, 2, 3, 5, 32}[run%5]
	var sessions [][]impl.Act
	for range 1 + d.upTo(mostSessions-1) {
		sessions = append(sessions, thrownSession(d, keys))
	}
	cells := cellsFrom(0, 1, []int64{0, 1, 2, 4, 20}[d.upTo(4)], 50)
	return cells, sessions, thrownPicks(d, int64(len(sessions)))
}

func TestConstantsOfSessions(t *testing.T) {
	if impl.MaxSessions != mostSessions || impl.MaxPicks != mostPicks {
		t.Error("a constant is not as told")
	}
}

// What RunSessions tells of a session is what RunEngine replies to the acts of MergeActs, taken where Who names it.
func TestEachSessionHasTheRepliesOfItsOwnActs(t *testing.T) {
	d := dice(160)
	met := map[string]int{}
	for run := range 4000 {
		cells, sessions, picks := thrownMeeting(run, &d)
		merged, told := impl.MergeActs(sessions, picks), impl.RunSessions(cells, sessions, picks)
		replies := impl.RunEngine(cells, merged.Acts)
		if merged.Code != impl.OK || told.Code != impl.OK || replies.Code != impl.OK || len(told.Talks) != len(sessions) || len(merged.Who) != len(merged.Acts) {
			t.Fatalf("run %d: %+v, %+v and %+v", run, merged, told, replies)
		}
		for who, talk := range told.Talks {
			var own []impl.Reply
			for i, place := range merged.Who {
				if place == int64(who) {
					own = append(own, replies.Replies[i])
				}
			}
			if !sameRepliesByHand(talk, own) {
				t.Fatalf("run %d: session %d of %v, by %v, is told %v, want %v", run, who, sessions, picks, talk, own)
			}
			wantTalkFits(t, run, sessions[who], countOf(picks, int64(who)), talk, met)
		}
	}
	for _, kind := range []string{"never picked", "without acts", "some acts left", "no acts left", "picked too often", "full", "code 3", "code 4", "code 9", "code 10", "code 0"} {
		if met[kind] < 100 {
			t.Errorf("%q was met only %d times", kind, met[kind])
		}
	}
}

// wantTalkFits: one reply to each act that was done, and the first one tells the number.
func wantTalkFits(t *testing.T, run int, acts []impl.Act, picked int, talk []impl.Reply, met map[string]int) {
	t.Helper()
	if want := min(picked, 1+len(acts)); len(talk) != want {
		t.Fatalf("run %d: %d replies to %v, picked %d times, want %d", run, len(talk), acts, picked, want)
	}
	if len(talk) > 0 && (talk[0].Code != impl.OK || talk[0].Value < 2 || talk[0].Value > 6) {
		t.Fatalf("run %d: the beginning is told %+v", run, talk[0])
	}
	for _, reply := range talk {
		met[fmt.Sprint("code ", reply.Code)]++
	}
	for kind, is := range map[string]bool{"never picked": picked == 0, "without acts": len(acts) == 0, "some acts left": picked > 0 && picked <= len(acts), "no acts left": picked == len(acts)+1, "picked too often": picked > len(acts)+1, "full": len(acts) == mostOfSession && picked > mostOfSession} {
		if is {
			met[kind]++
		}
	}
}

// Copies reply to each session what an engine replies to it: five sessions have room for their versions.
func TestSessionsByCopies(t *testing.T) {
	d := dice(161)
	for run := range 1500 {
		cells, sessions, picks := thrownMeeting(run, &d)
		merged, told := impl.MergeActs(sessions, picks), impl.RunSessions(cells, sessions, picks)
		replies := impl.RunCopies(cells, merged.Acts).Replies
		heard := make([]int, len(sessions))
		for i, who := range merged.Who {
			if got := told.Talks[who][heard[who]]; !sameRepliesByHand([]impl.Reply{got}, replies[i:i+1]) {
				t.Fatalf("run %d: %+v is told %+v, and by copies %+v", run, merged.Acts[i], got, replies[i])
			}
			heard[who]++
		}
	}
}

// Who only reads has the replies that it would have, had it read all at once when it began.
func TestWhoOnlyReadsMightHaveReadAtOnce(t *testing.T) {
	d := dice(162)
	met := map[string]int{}
	for run := range 4000 {
		cells, sessions, picks := thrownMeeting(run, &d)
		plain := impl.RunSessions(cells, sessions, picks)
		for who := range int64(len(sessions)) {
			early := impl.EarlyPicks(sessions, picks, who)
			at := impl.RunSessions(cells, sessions, early.List)
			if plain.Code != impl.OK || early.Code != impl.OK || at.Code != impl.OK {
				t.Fatalf("run %d: the codes %d, %d, %d", run, plain.Code, early.Code, at.Code)
			}
			same := sameRepliesByHand(plain.Talks[who], at.Talks[who])
			if !impl.OnlyReads(sessions, who) {
				if !same {
					met["one that writes is told otherwise"]++
				}
				continue
			}
			if told(plain.Talks) != told(at.Talks) { // the others cannot tell when somebody reads
				t.Fatalf("run %d: %v are told by %v\n%+v\nand by %v\n%+v", run, sessions, picks, plain.Talks, early.List, at.Talks)
			}
			countReads(cells, sessions, picks, who, plain.Talks[who], met)
		}
	}
	for _, kind := range []string{"reads", "reads what was then turned", "reads apart", "one that writes is told otherwise"} {
		if met[kind] < 100 {
			t.Errorf("%q was met only %d times", kind, met[kind])
		}
	}
}

// countReads counts who reads apart from its beginning, and would be told otherwise if it began then.
func countReads(cells []impl.Cell, sessions [][]impl.Act, picks []int64, who int64, talk []impl.Reply, met map[string]int) {
	if len(talk) < 2 {
		return
	}
	met["reads"]++
	if slices.Equal(impl.EarlyPicks(sessions, picks, who).List, picks) {
		return
	}
	met["reads apart"]++
	late := slices.DeleteFunc(slices.Clone(picks), func(pick int64) bool { return pick == who })
	late = append(late, slices.Repeat([]int64{who}, countOf(picks, who))...)
	if told(impl.RunSessions(cells, sessions, late).Talks[who][1:]) != told(talk[1:]) {
		met["reads what was then turned"]++
	}
}

func TestThrownSessionsAsByHand(t *testing.T) {
	d := dice(163)
	for run := range 1200 {
		cells, sessions, picks := thrownMeeting(run, &d)
		if code := wantSessionsTold(t, fmt.Sprint("run ", run), cells, sessions, picks); code != impl.OK {
			t.Fatalf("run %d has the code %d", run, code)
		}
	}
}

// eachPicks tells of all picks of so many sessions up to a number of them.
func eachPicks(sessions int64, most int, tell func(picks []int64)) {
	var walk func(picks []int64)
	walk = func(picks []int64) {
		tell(picks)
		for who := int64(0); who < sessions && len(picks) < most; who++ {
			walk(append(slices.Clone(picks), who))
		}
	}
	walk(nil)
}

func TestAllShortPicks(t *testing.T) {
	for _, text := range []string{"g1 g1|p1=5 c|", "p1=5 c|p1=6 c|g1 s", "|p2=7 a g2|s"} {
		sessions := sessionsIn(text)
		eachPicks(3, 6, func(picks []int64) {
			wantSessionsTold(t, text, firstCells(), sessions, picks)
		})
	}
	eachPicks(1, 16, func(picks []int64) {
		wantSessionsTold(t, "alone", firstCells(), sessionsIn("p1=1 g1 p1=2 g1 p1=3 g1 p1=4 g1 p1=5 g1 p1=6 s"), picks)
	})
}

func TestMergeActsAsTold(t *testing.T) {
	for _, c := range []struct{ name, sessions, picks, merged string }{
		{"no picks", "g1|s", "", ""}, {"a beginning alone", "g1|s", "1", "1b/0"}, {"both begin", "g1|s", "10", "1b/0 0b/0"}, {"one behind the other", "g1 g2|s c", "000111", "0b/0 0g1/2 0g2/2 1b/0 1s/3 1c/3"}, {"one between the other", "g1 g2|s c", "010101", "0b/0 1b/0 0g1/2 1s/3 0g2/2 1c/3"}, {"the second one first", "g1 g2|s c", "110010", "1b/0 1s/2 0b/0 0g1/3 1c/2 0g2/3"},
		{"numbers as they begin", "g0|g1|g2|g3|g4", "4203142031", "4b/0 2b/0 0b/0 3b/0 1b/0 4g4/2 2g2/3 0g0/4 3g3/5 1g1/6"}, {"numbers from behind", "c|c|c|c|c", "4433221100", "4b/0 4c/2 3b/0 3c/3 2b/0 2c/4 1b/0 1c/5 0b/0 0c/6"}, {"a number long behind its beginning", "a|g1 g2 g3", "011110", "0b/0 1b/0 1g1/3 1g2/3 1g3/3 0a/2"},
		{"never picked", "g1|p1=5|s", "0022", "0b/0 0g1/2 2b/0 2s/3"}, {"the first one never picked", "g1|p1=5|s", "1212", "1b/0 2b/0 1p1=5/2 2s/3"}, {"some left", "g1 g2 g3|s s", "0011", "0b/0 0g1/2 1b/0 1s/3"},
		{"nothing left once", "g1|s s", "000111", "0b/0 0g1/2 1b/0 1s/3 1s/3"}, {"nothing left many times", "g1|s", "0000000011", "0b/0 0g1/2 1b/0 1s/3"}, {"nothing left ahead of others", "g1|s s", "000101010101", "0b/0 0g1/2 1b/0 1s/3 1s/3"}, {"nothing left at the end", "g1|s", "1100000", "1b/0 1s/2 0b/0 0g1/3"}, {"nothing left of both", "c|c", "0101010101", "0b/0 1b/0 0c/2 1c/3"},
		{"without acts", "", "0", "0b/0"}, {"without acts, many times", "", "00000", "0b/0"}, {"without acts among others", "|g1|", "2211002", "2b/0 1b/0 1g1/3 0b/0"}, {"acts behind the end", "c g1 c a p1=5|a s", "000000011111", "0b/0 0c/2 0g1/2 0c/2 0a/2 0p1=5/2 1b/0 1a/3 1s/3"},
		{"all Kinds", "g1 s p1=5 d1 c a", "0000000", "0b/0 0g1/2 0s/2 0p1=5/2 0d1/2 0c/2 0a/2"}, {"one act many times", "g1 g1 g1", "0000", "0b/0 0g1/2 0g1/2 0g1/2"}, {"as many as there may be", "g1 g2 g3 g4 g5 g6 g7 g8 g9 g10 g11 g12", "0000000000000000", "0b/0 0g1/2 0g2/2 0g3/2 0g4/2 0g5/2 0g6/2 0g7/2 0g8/2 0g9/2 0g10/2 0g11/2 0g12/2"},
	} {
		got := impl.MergeActs(sessionsIn(c.sessions), picksIn(c.picks))
		if got.Code != impl.OK || len(got.Who) != len(got.Acts) || mergeText(got) != c.merged {
			t.Errorf("%s: MergeActs of %q by %s = %q, want %q: %+v", c.name, c.sessions, c.picks, mergeText(got), c.merged, got)
		}
		wantSessionsTold(t, c.name, firstCells(), sessionsIn(c.sessions), picksIn(c.picks))
	}
}

// Five sessions of as many acts as there may be are more than there may be picks.
func TestFullSessions(t *testing.T) {
	full := slices.Repeat(sessionsIn("g1 s p1=5 d1 g1 g2 g3 g4 g5 g6 g7 c"), mostSessions)
	picks := make([]int64, mostPicks)
	for i := range picks {
		picks[i] = int64(i % mostSessions)
	}
	wantSessionsTold(t, "in turn", firstCells(), full, picks)
	if got := impl.MergeActs(full, picks); got.Code != impl.OK || len(got.Acts) != mostSessions*(1+mostOfSession) {
		t.Errorf("in turn there are %d acts: %+v", len(got.Acts), got)
	}
	slices.Sort(picks)
	wantSessionsTold(t, "one behind the other", firstCells(), full, picks)
	if got := impl.MergeActs(full, picks); len(got.Acts) != mostSessions*(1+mostOfSession) {
		t.Errorf("one behind the other there are %d acts", len(got.Acts))
	}
}

// Key and Value of an act are as they were, needed or not; of a beginning all but the Kind is 0.
func TestNumbersOfMergedActs(t *testing.T) {
	numbers := []int64{math.MinInt64, -1, 0, 1, 31, 32, 9999, 10000, math.MaxInt64}
	for kind := int64(2); kind <= 7; kind++ {
		for _, key := range numbers {
			for _, value := range numbers {
				sessions := [][]impl.Act{{{Kind: kind, Key: key, Value: value}}, {{Kind: kind, Key: value, Value: key}, {Kind: 9 - kind, Key: key, Value: key}}}
				got := impl.MergeActs(sessions, picksIn("10110"))
				want := []impl.Act{{Kind: 1}, {Kind: 1}, {Kind: kind, Txn: 2, Key: value, Value: key}, {Kind: 9 - kind, Txn: 2, Key: key, Value: key}, {Kind: kind, Txn: 3, Key: key, Value: value}}
				if got.Code != impl.OK || !slices.Equal(got.Acts, want) || !slices.Equal(got.Who, picksIn("10110")) {
					t.Fatalf("MergeActs(%v) = %+v, want %+v", sessions, got, want)
				}
				wantSessionsTold(t, "numbers", firstCells(), sessions, picksIn("10110"))
			}
		}
	}
}

type faultySessions struct {
	name     string
	sessions [][]impl.Act
	code     int64
}

func ofKind(kind int64) impl.Act          { return impl.Act{Kind: kind, Key: 1, Value: 1} }
func ofTxn(kind, txn int64) impl.Act      { return impl.Act{Kind: kind, Txn: txn, Key: 1, Value: 1} }
func alone(acts ...impl.Act) [][]impl.Act { return [][]impl.Act{acts} }

func countFaultsOfSessions() []faultySessions {
	get, wrong, owned := ofKind(2), ofKind(1), ofTxn(2, 7)
	many := func(count int, a impl.Act) []impl.Act { return slices.Repeat([]impl.Act{a}, count) }
	return []faultySessions{
		{"nothing", nil, impl.ErrMany}, {"an empty list", [][]impl.Act{}, impl.ErrMany}, {"1 session", make([][]impl.Act, 1), impl.OK}, {"5 sessions", make([][]impl.Act, 5), impl.OK}, {"6 sessions", make([][]impl.Act, 6), impl.ErrMany}, {"7 sessions", make([][]impl.Act, 7), impl.ErrMany}, {"1000 sessions", make([][]impl.Act, 1000), impl.ErrMany},
		{"0 acts", alone(), impl.OK}, {"1 act", alone(get), impl.OK}, {"11 acts", alone(many(11, get)...), impl.OK}, {"12 acts", alone(many(12, get)...), impl.OK}, {"13 acts", alone(many(13, get)...), impl.ErrMany}, {"14 acts", alone(many(14, get)...), impl.ErrMany}, {"1000 acts", alone(many(1000, get)...), impl.ErrMany},
		{"five of 12 acts", slices.Repeat(alone(many(12, get)...), 5), impl.OK}, {"six of 12 acts", slices.Repeat(alone(many(12, get)...), 6), impl.ErrMany}, {"13 acts first", [][]impl.Act{many(13, get), {get}, nil}, impl.ErrMany}, {"13 acts between", [][]impl.Act{{get}, many(13, get), nil}, impl.ErrMany}, {"13 acts last", [][]impl.Act{{get}, nil, nil, nil, many(13, get)}, impl.ErrMany},
		{"13 acts behind a wrong Kind", [][]impl.Act{{wrong}, many(13, get)}, impl.ErrMany}, {"13 acts ahead of a wrong Kind", [][]impl.Act{many(13, get), {wrong}}, impl.ErrMany}, {"13 acts of a wrong Kind", alone(many(13, wrong)...), impl.ErrMany}, {"13 acts behind a Txn", [][]impl.Act{{owned}, many(13, get)}, impl.ErrMany}, {"13 acts of a Txn", alone(many(13, owned)...), impl.ErrMany}, {"6 sessions of a wrong Kind", slices.Repeat(alone(wrong), 6), impl.ErrMany}, {"6 sessions of a Txn", slices.Repeat(alone(owned), 6), impl.ErrMany}, {"12 acts of a wrong Kind", alone(many(12, wrong)...), impl.ErrRange}, {"12 acts of a Txn", alone(many(12, owned)...), impl.ErrForm},
	}
}

func orderFaultsOfSessions() []faultySessions {
	get, wrong, owned, both := ofKind(2), ofKind(8), ofTxn(2, 7), ofTxn(8, 7)
	return []faultySessions{
		{"a Kind and a Txn in one act", alone(both), impl.ErrRange}, {"a beginning of a Txn", alone(ofTxn(1, 2)), impl.ErrRange}, {"a Txn ahead of a Kind", alone(owned, wrong), impl.ErrForm}, {"a Kind ahead of a Txn", alone(wrong, owned), impl.ErrRange}, {"a Txn ahead of both", alone(owned, both), impl.ErrForm}, {"right ones ahead of a Txn and a Kind", alone(get, get, owned, get, wrong), impl.ErrForm}, {"right ones ahead of a Kind and a Txn", alone(get, get, wrong, get, owned), impl.ErrRange},
		{"a Txn in the session ahead of a Kind", [][]impl.Act{{owned}, {wrong}}, impl.ErrForm}, {"a Kind in the session ahead of a Txn", [][]impl.Act{{wrong}, {owned}}, impl.ErrRange}, {"a Txn late in the session ahead of a Kind", [][]impl.Act{{get, get, owned}, {wrong}}, impl.ErrForm}, {"a Kind late in the session ahead of a Txn", [][]impl.Act{{get, get, wrong}, {owned}}, impl.ErrRange}, {"sessions between a Txn and a Kind", [][]impl.Act{nil, {owned}, nil, {get}, {wrong}}, impl.ErrForm}, {"sessions between a Kind and a Txn", [][]impl.Act{{get}, {wrong}, nil, nil, {owned}}, impl.ErrRange},
		{"a Kind in the last act", [][]impl.Act{{get}, {get}, {get}, {get}, append(slices.Repeat([]impl.Act{get}, 11), wrong)}, impl.ErrRange}, {"a Txn in the last act", [][]impl.Act{{get}, {get}, {get}, {get}, append(slices.Repeat([]impl.Act{get}, 11), owned)}, impl.ErrForm},
	}
}

// numberFaultsOfSessions: each Kind and Txn at its edges, alone and behind acts and sessions that are right.
func numberFaultsOfSessions() []faultySessions {
	var out []faultySessions
	tell := func(name string, a impl.Act, code int64) {
		get := ofKind(2)
		for i, sessions := range [][][]impl.Act{{{a}}, {{get, a, get}}, {{get}, nil, {get, get, a}}, {{a}, {get}}} {
			out = append(out, faultySessions{fmt.Sprint(name, ", in form ", i), sessions, code})
		}
	}
	for kind := int64(2); kind <= 7; kind++ {
		tell(fmt.Sprint("Kind ", kind), ofKind(kind), impl.OK)
		for _, txn := range []int64{math.MinInt64, -999, -1, 1, 2, 999, 1000, 1 << 32, math.MaxInt64} {
			tell(fmt.Sprintf("Kind %d of Txn %d", kind, txn), ofTxn(kind, txn), impl.ErrForm)
		}
	}
	for _, kind := range []int64{math.MinInt64, -100, -7, -2, -1, 0, 1, 8, 9, 100, 1 << 32, 1<<32 + 2, math.MaxInt64} {
		tell(fmt.Sprint("Kind ", kind), ofKind(kind), impl.ErrRange)
		tell(fmt.Sprintf("Kind %d of Txn 2", kind), ofTxn(kind, 2), impl.ErrRange)
	}
	for _, number := range []int64{math.MinInt64, -1, 32, 10000, math.MaxInt64} {
		tell(fmt.Sprint("Key and Value ", number), impl.Act{Kind: 4, Key: number, Value: number}, impl.OK)
	}
	return out
}

func sessionsFaults() []faultySessions {
	return slices.Concat(countFaultsOfSessions(), orderFaultsOfSessions(), numberFaultsOfSessions())
}

func TestSessionsFault(t *testing.T) {
	met := map[int64]int{}
	for _, f := range sessionsFaults() {
		met[f.code]++
		if got, by := impl.SessionsFault(f.sessions), sessionsFaultByHand(f.sessions); got != f.code || by != f.code {
			t.Errorf("%s: SessionsFault = %d, by hand %d, want %d", f.name, got, by, f.code)
		}
	}
	if len(met) != 4 {
		t.Errorf("not all codes were met: %v", met)
	}
}

// A fault of the sessions comes ahead of whatever the picks, the cells and who are.
func TestSessionsFaultComesFirst(t *testing.T) {
	for _, f := range sessionsFaults() {
		if f.code == impl.OK {
			continue
		}
		for _, picks := range [][]int64{nil, {0}, {0, 0, 0}, {-1}, {6}, {1000}, make([]int64, mostPicks), make([]int64, mostPicks+1), slices.Repeat([]int64{-1}, mostPicks+1)} {
			wantCode(t, f.name+": MergeActs", impl.MergeActs(f.sessions, picks), f.code)
			for _, cells := range [][]impl.Cell{nil, firstCells(), cellList(5, 10000), cellList(5, 0, 4, 0), cellsFrom(0, 1, 21, 0)} {
				wantCode(t, f.name+": RunSessions", impl.RunSessions(cells, f.sessions, picks), f.code)
			}
			for _, who := range whosNear(nil) {
				wantCode(t, f.name+": EarlyPicks", impl.EarlyPicks(f.sessions, picks, who), f.code)
			}
		}
		for _, who := range whosNear(f.sessions) {
			if impl.OnlyReads(f.sessions, who) {
				t.Errorf("%s: OnlyReads of %d is true", f.name, who)
			}
		}
	}
}

type faultyPicks struct {
	name  string
	picks []int64
	code  int64
}

// picksFaults: for sessions of which there are so many.
func picksFaults(count int64) []faultyPicks {
	many := func(count int, who int64) []int64 { return slices.Repeat([]int64{who}, count) }
	last := count - 1
	out := []faultyPicks{
		{"no picks", nil, impl.OK}, {"1 pick", many(1, 0), impl.OK}, {"79 picks", many(79, last), impl.OK}, {"80 picks", many(80, last), impl.OK}, {"81 picks", many(81, last), impl.ErrMany}, {"82 picks", many(82, 0), impl.ErrMany}, {"1000 picks", many(1000, 0), impl.ErrMany},
		{"81 picks, the first one of none", append(many(1, -1), many(80, 0)...), impl.ErrMany}, {"81 picks, the last one of none", append(many(80, 0), count), impl.ErrMany}, {"81 picks of none", many(81, count), impl.ErrMany}, {"80 picks, the first one of none", append(many(1, -1), many(79, 0)...), impl.ErrRange}, {"80 picks, the last one of none", append(many(79, 0), count), impl.ErrRange}, {"80 picks, one between of none", slices.Insert(many(79, 0), 40, count), impl.ErrRange},
		{"a pick of the last one", []int64{0, last, 0}, impl.OK}, {"a pick of none behind what has nothing left", append(many(30, 0), -1), impl.ErrRange},
	}
	for _, who := range []int64{math.MinInt64, -1000, -2, -1, count, count + 1, 5, 6, 1000, 1 << 32, math.MaxInt64} {
		out = append(out, faultyPicks{fmt.Sprint("a pick of ", who), []int64{who}, impl.ErrRange}, faultyPicks{fmt.Sprint("a pick of ", who, " among others"), []int64{0, last, who, 0}, impl.ErrRange})
	}
	return out
}

func TestPicksAtTheirEdges(t *testing.T) {
	for count := 1; count <= mostSessions; count++ {
		sessions := slices.Repeat(sessionsIn("g1 p2=5 c"), count)
		for _, f := range picksFaults(int64(count)) {
			name := fmt.Sprintf("%d sessions, %s", count, f.name)
			wantSessionsTold(t, name, firstCells(), sessions, f.picks)
			wantCode(t, name+": MergeActs", impl.MergeActs(sessions, f.picks), f.code)
			wantCode(t, name+": RunSessions", impl.RunSessions(firstCells(), sessions, f.picks), f.code)
			wantCode(t, name+": EarlyPicks", impl.EarlyPicks(sessions, f.picks, 0), f.code)
			for _, who := range []int64{-1, int64(count), math.MinInt64, math.MaxInt64} { // the codes of MergeActs come ahead of who
				code := f.code
				if code == impl.OK {
					code = impl.ErrRange
				}
				wantCode(t, name+": EarlyPicks of none", impl.EarlyPicks(sessions, f.picks, who), code)
			}
			for _, cells := range newCellFaults() { // and ahead of the cells
				code := f.code
				if code == impl.OK {
					code = cells.code
				}
				wantCode(t, name+": RunSessions of "+cells.name, impl.RunSessions(cells.cells, sessions, f.picks), code)
			}
		}
	}
}

// The codes of cells are told though nobody is picked.
func TestCellsOfRunSessions(t *testing.T) {
	for _, f := range newCellFaults() {
		for _, picks := range []string{"", "0", "0101", "000000"} {
			got := impl.RunSessions(f.cells, sessionsIn("g1 s|p1=5 c"), picksIn(picks))
			wantCode(t, "RunSessions of "+f.name, got, f.code)
			if f.code == impl.OK && len(got.Talks) != 2 {
				t.Errorf("%s: %+v", f.name, got)
			}
		}
	}
}

func TestRunSessionsAsTold(t *testing.T) {
	for _, c := range []struct {
		name, sessions, picks string
		talks                 []string
	}{
		{"no picks", "g1|s", "", []string{"", ""}}, {"nobody but one", "g1|s|c", "1", []string{"", "ok 2", ""}}, {"without acts", "|", "1100", []string{"ok 3", "ok 2"}}, {"five", "c|c|c|c|c", "43210", []string{"ok 6", "ok 5", "ok 4", "ok 3", "ok 2"}}, {"never picked", "g1|p1=5|s", "0022", []string{"ok 2, ok 10", "", "ok 3, ok 0 1=10 2=20 31=0"}},
		{"a read ahead of and behind a commit", "g1 g1|p1=5 c", "0110100", []string{"ok 2, ok 10, ok 10", "ok 3, ok 0, ok 2"}}, {"who begins behind it", "g1 g1|p1=5 c", "111000", []string{"ok 3, ok 5, ok 5", "ok 2, ok 0, ok 2"}}, {"who begins between", "g1 s|p1=5 c", "110001", []string{"ok 3, ok 10, ok 0 1=10 2=20 31=0", "ok 2, ok 0, ok 2"}},
		{"two want one key", "p1=5 c g1|p1=6 c g1", "0101010", []string{"ok 2, ok 0, ok 2, ! 10", "ok 3, ! 9, ok 0"}}, {"two want one key, the second one first", "p1=5 c|p1=6 c", "100101", []string{"ok 3, ok 0, ok 2", "ok 2, ! 9, ok 0"}}, {"one drops, the other reads", "d1 c|g1 g1 s", "01010101", []string{"ok 2, ok 0, ok 2", "ok 3, ok 10, ok 10, ok 0 1=10 2=20 31=0"}}, {"what one writes one sees", "p5=50 g5 d5 g5 s|g5 s", "0010100000101", []string{"ok 2, ok 0, ok 50, ok 0, ! 4, ok 0 1=10 2=20 31=0", "ok 3, ! 4, ok 0 1=10 2=20 31=0"}},
		{"behind an end", "a g1 a c s p1=5 d1|c c", "0000000011111", []string{"ok 2, ok 0, ! 10, ! 10, ! 10, ! 10, ! 10, ! 10", "ok 3, ok 0, ! 10"}}, {"replies with a code", "g32 g-1 g7 p1=10000 p32=1 d7 d99 p1=-1", "000000000", []string{"ok 2, ! 3, ! 3, ! 4, ! 3, ! 3, ! 4, ! 3, ! 3"}}, {"nothing left is not told", "g1|p1=5", "000001111110000", []string{"ok 2, ok 10", "ok 3, ok 0"}}, {"a rolled back write", "p1=5 a|g1 p1=6 c g1", "0110101111", []string{"ok 2, ok 0, ok 0", "ok 3, ok 10, ! 9, ok 0, ! 10"}},
	} {
		sessions, picks := sessionsIn(c.sessions), picksIn(c.picks)
		got := impl.RunSessions(firstCells(), sessions, picks)
		if got.Code != impl.OK || len(got.Talks) != len(c.talks) {
			t.Errorf("%s: %+v, want %d talks", c.name, got, len(c.talks))
			continue
		}
		for who, talk := range got.Talks {
			if talkText(talk) != c.talks[who] {
				t.Errorf("%s: session %d of %q by %s is told %q, want %q", c.name, who, c.sessions, c.picks, talkText(talk), c.talks[who])
			}
		}
		wantSessionsTold(t, c.name, firstCells(), sessions, picks)
	}
}

func TestEarlyPicksAsTold(t *testing.T) {
	for _, c := range []struct {
		name, picks string
		who         int64
		early       string
	}{
		{"no picks", "", 0, ""}, {"not among the picks", "11221", 0, "11221"}, {"not among the picks, the last one", "0110", 2, "0110"}, {"once", "120", 0, "120"}, {"once, at the beginning", "01212", 0, "01212"}, {"once, between", "12012", 0, "12012"}, {"once, at the end", "12120", 0, "12120"}, {"the one pick", "2", 2, "2"}, {"all the time", "1111", 1, "1111"},
		{"the example", "0110100", 0, "0000111"}, {"the other one of it", "0110100", 1, "0111000"}, {"at the beginning and at the end", "0121210", 0, "0012121"}, {"twice at the end", "1212100", 0, "1212100"}, {"twice at the beginning", "0012121", 0, "0012121"}, {"begun late", "12120120", 0, "12120012"}, {"the others in their order", "2101202112", 0, "2100122112"}, {"of three", "012012012", 1, "011120202"}, {"of three, the last one", "012012012", 2, "012220101"}, {"of three, the first one", "012012012", 0, "000121212"}, {"each second one", "10101010", 0, "10000111"},
		{"more than it has acts", "10101010101010", 0, "10000000111111"}, {"far too many", "1" + strings.Repeat("0", 30) + "1" + strings.Repeat("0", 30), 0, "1" + strings.Repeat("0", 60) + "1"},
	} {
		got := impl.EarlyPicks(sessionsIn("g1|g2 c|s s"), picksIn(c.picks), c.who)
		if got.Code != impl.OK || !slices.Equal(got.List, picksIn(c.early)) {
			t.Errorf("%s: EarlyPicks of %s and %d = %+v, want %s", c.name, c.picks, c.who, got, c.early)
		}
	}
}

// What EarlyPicks answers has as many picks, is early already, and has those of the others as they were.
func TestThrownEarlyPicks(t *testing.T) {
	d := dice(164)
	for run := range 6000 {
		count := 1 + d.upTo(mostSessions-1)
		sessions, picks := make([][]impl.Act, count), thrownPicks(&d, count)
		for who := range count {
			early := impl.EarlyPicks(sessions, picks, who).List
			others := func(list []int64) []int64 {
				return slices.DeleteFunc(slices.Clone(list), func(pick int64) bool { return pick == who })
			}
			if len(early) != len(picks) || !slices.Equal(others(early), others(picks)) || slices.Index(early, who) != slices.Index(picks, who) {
				t.Fatalf("run %d: EarlyPicks of %v and %d = %v", run, picks, who, early)
			}
			if first := slices.Index(early, who); first >= 0 && slices.Contains(early[first+countOf(picks, who):], who) {
				t.Fatalf("run %d: EarlyPicks of %v and %d = %v: they do not stand together", run, picks, who, early)
			}
			if again := impl.EarlyPicks(sessions, early, who).List; !slices.Equal(again, early) {
				t.Fatalf("run %d: early picks %v become %v", run, early, again)
			}
		}
	}
}

func TestOnlyReadsAsTold(t *testing.T) {
	for _, c := range []struct {
		session string
		only    bool
	}{
		{"", true}, {"g1", true}, {"s", true}, {"g1 s g2 s", true}, {"g-1 g32 g99 g7", true}, {strings.Repeat("g1 ", mostOfSession), true}, {strings.Repeat("s ", mostOfSession), true},
		{"p1=5", false}, {"d1", false}, {"c", false}, {"a", false}, {"g1 p1=5", false}, {"g1 d1", false}, {"g1 c", false}, {"g1 a", false}, {"s p1=5", false}, {"s d1", false}, {"s c", false}, {"s a", false}, {"p1=5 g1", false}, {"d1 s", false}, {"c g1 g1", false}, {"a s s", false}, {"g1 s p1=5 g1 s", false}, {"s s d7 s", false}, {"g1 c g1", false}, {strings.Repeat("g1 ", mostOfSession-1) + "c", false}, {strings.Repeat("s ", mostOfSession-1) + "a", false}, {"p99=-5", false},
	} {
		for _, other := range []string{"", "g1 s", "p1=5 c", "a"} {
			for _, sessions := range []string{c.session, c.session + "|" + other, c.session + "|" + other + "|" + other} {
				if got := impl.OnlyReads(sessionsIn(sessions), 0); got != c.only {
					t.Errorf("OnlyReads of %q and 0 = %t", sessions, got)
				}
			}
			for _, sessions := range []string{other + "|" + c.session, other + "|" + c.session + "|" + other} {
				if got := impl.OnlyReads(sessionsIn(sessions), 1); got != c.only {
					t.Errorf("OnlyReads of %q and 1 = %t", sessions, got)
				}
			}
		}
	}
	for count := 1; count <= mostSessions; count++ {
		for _, who := range []int64{math.MinInt64, -5, -1, int64(count), int64(count) + 1, 1 << 32, math.MaxInt64} {
			if impl.OnlyReads(slices.Repeat(sessionsIn("g1"), count), who) {
				t.Errorf("OnlyReads of %d sessions and %d is true", count, who)
			}
		}
	}
}

// thrownSessionsTurn: sessions that mostly have no fault, with one thing turned.
func thrownSessionsTurn(sessions [][]impl.Act, d *dice) [][]impl.Act {
	numbers := []int64{math.MinInt64, -1, 0, 1, 2, 3, 6, 7, 8, 999, math.MaxInt64}
	out := copySessions(sessions)
	who := d.upTo(int64(len(out) - 1))
	if len(out[who]) == 0 {
		out[who] = []impl.Act{ofKind(2)}
	}
	a := &out[who][d.upTo(int64(len(out[who])-1))]
	pick := numbers[d.upTo(int64(len(numbers)-1))]
	switch d.upTo(7) {
	case 0, 1:
		a.Kind = pick
	case 2, 3:
		a.Txn = pick
	case 4:
		a.Kind, a.Txn = pick, numbers[d.upTo(int64(len(numbers)-1))]
	case 5:
		out[who] = slices.Repeat(out[who], 1+int(d.upTo(5)))
	case 6:
		out = slices.Repeat(out, 1+int(d.upTo(2)))
	case 7:
		out = nil
	}
	return out
}

func TestSessionsThatWereTurned(t *testing.T) {
	d := dice(165)
	met := map[int64]int{}
	for run := range 3000 {
		cells, sessions, picks := thrownMeeting(run, &d)
		for range 1 + d.upTo(1) {
			if len(sessions) > 0 {
				sessions = thrownSessionsTurn(sessions, &d)
			}
		}
		if d.upTo(3) == 0 {
			picks = append(picks, []int64{-1, 5, int64(len(sessions)), math.MaxInt64}[d.upTo(3)])
		}
		met[wantSessionsTold(t, fmt.Sprint("run ", run), cells, sessions, picks)]++
	}
	for _, code := range []int64{impl.OK, impl.ErrForm, impl.ErrMany, impl.ErrRange} {
		if met[code] < 100 {
			t.Errorf("code %d was met only %d times", code, met[code])
		}
	}
}

// sessionsWithRoom lays each list ahead of room that is not its own to be written.
func sessionsWithRoom(sessions [][]impl.Act) [][]impl.Act {
	out := roomy(sessions)
	for i := range out {
		out[i] = roomy(out[i])
	}
	return out
}

// sessionsRoom tells all that stands in sessions and behind their lists.
func sessionsRoom(sessions [][]impl.Act) string {
	var out []any
	for _, acts := range wholeRoom(sessions) {
		out = append(out, acts, wholeRoom(acts))
	}
	return told(out)
}

func spoilSessions(sessions [][]impl.Act) {
	for _, acts := range sessions {
		spoil(acts, impl.Act{Kind: -5})
	}
	spoil(sessions, nil)
}

// meeting is what the functions of sessions are asked with.
type meeting struct {
	cells    []impl.Cell
	sessions [][]impl.Act
	picks    []int64
}

// meetingsToAsk: thrown ones, some of them with a fault, and those of the faults.
func meetingsToAsk() []meeting {
	d := dice(166)
	var out []meeting
	for run := range 60 {
		cells, sessions, picks := thrownMeeting(run, &d)
		if run%4 == 0 {
			sessions = thrownSessionsTurn(sessions, &d)
		}
		out = append(out, meeting{cells, sessions, picks})
	}
	for _, f := range slices.Concat(countFaultsOfSessions(), orderFaultsOfSessions()) {
		out = append(out, meeting{firstCells(), f.sessions, []int64{0, 0, 0}})
	}
	for _, f := range picksFaults(2) {
		out = append(out, meeting{firstCells(), sessionsIn("g1 s|p1=5 c"), f.picks})
	}
	for _, f := range newCellFaults() {
		out = append(out, meeting{f.cells, sessionsIn("g1 s|p1=5 c"), picksIn("001011")})
	}
	return out
}

// askSessions asks all functions; the answers of each call stand by themselves.
func askSessions(m meeting) (merged impl.MergeResult, talks impl.TalksResult, early []impl.IntsResult, rest string) {
	merged, talks = impl.MergeActs(m.sessions, m.picks), impl.RunSessions(m.cells, m.sessions, m.picks)
	var only []bool
	for _, who := range whosNear(m.sessions[:min(len(m.sessions), mostSessions)]) {
		early = append(early, impl.EarlyPicks(m.sessions, m.picks, who))
		only = append(only, impl.OnlyReads(m.sessions, who))
	}
	return merged, talks, early, told([]any{impl.SessionsFault(m.sessions), only})
}

func tellSessions(m meeting) string {
	merged, talks, early, rest := askSessions(m)
	return told([]any{merged, talks, early, rest})
}

func TestSessionArgumentsStay(t *testing.T) {
	for n, m := range meetingsToAsk() {
		with := meeting{roomy(m.cells), sessionsWithRoom(m.sessions), roomy(m.picks)}
		room := func() string {
			return told([]any{wholeRoom(with.cells), sessionsRoom(with.sessions), wholeRoom(with.picks)})
		}
		before := room()
		tellSessions(with)
		if room() != before || told(with) != told(m) {
			t.Fatalf("meeting %d was changed from %+v to %+v", n, m, with)
		}
	}
}

// Sessions may be pieces of one list, and picks and cells may have more behind them.
func TestSessionsOfPiecesStay(t *testing.T) {
	acts := slices.Concat(sessionsIn("g1 p1=5 c|s|g1 d2 a|p2=7 c")...)
	sessions := [][]impl.Act{acts[:3], acts[3:4], acts[4:4], acts[4:7], acts[7:]}
	picks, cells := picksIn("0123401234012340123401234"), cellList(1, 10, 2, 20, 31, 0, 5, 5)
	was := [][]impl.Act{slices.Clone(acts[:3]), slices.Clone(acts[3:4]), nil, slices.Clone(acts[4:7]), slices.Clone(acts[7:])}
	for count := range len(picks) {
		m := meeting{cells[:3], sessions, picks[:count]}
		if got, want := tellSessions(m), tellSessions(meeting{firstCells(), was, slices.Clone(picks[:count])}); got != want || told(sessions) != told(was) {
			t.Fatalf("%d picks: %s, want %s", count, got, want)
		}
		wantSessionsTold(t, "pieces", cells[:3], sessions, picks[:count])
	}
}

// listsOfTalks: each list of cells in an answer of RunSessions.
func listsOfTalks(talks [][]impl.Reply) [][]impl.Cell {
	var out [][]impl.Cell
	for _, talk := range talks {
		for _, reply := range talk {
			out = append(out, reply.Cells)
		}
	}
	return out
}

func spoilSessionAnswers(merged impl.MergeResult, talks impl.TalksResult, early []impl.IntsResult) {
	spoil(merged.Acts, impl.Act{Kind: -5})
	spoil(merged.Who, -5)
	for _, list := range listsOfTalks(talks.Talks) {
		spoil(list, impl.Cell{Key: -5})
	}
	for _, talk := range talks.Talks {
		spoil(talk, impl.Reply{Code: -5})
	}
	spoil(talks.Talks, nil)
	for _, one := range early {
		spoil(one.List, -5)
	}
}

// wantOwnTalks: each list of an answer is spoilt in its own way with all the room behind it, and must stay so.
func wantOwnTalks(t *testing.T, name string, talks [][]impl.Reply) {
	t.Helper()
	wantOwnCells(t, name, listsOfTalks(talks))
	for i, talk := range talks {
		spoil(talk, impl.Reply{Code: -100 - int64(i)})
	}
	for i, talk := range talks {
		if slices.ContainsFunc(wholeRoom(talk), func(r impl.Reply) bool { return r.Code != -100-int64(i) }) {
			t.Fatalf("%s: two talks share memory", name)
		}
	}
}

func TestSessionAnswersAreNewMemory(t *testing.T) {
	for n, m := range meetingsToAsk() {
		name := fmt.Sprint("meeting ", n)
		with := meeting{roomy(m.cells), sessionsWithRoom(m.sessions), roomy(m.picks)}
		room := func() string {
			return told([]any{wholeRoom(with.cells), sessionsRoom(with.sessions), wholeRoom(with.picks)})
		}
		before := room()
		merged, talks, early, _ := askSessions(with)
		otherMerged, otherTalks, otherEarly, _ := askSessions(with)
		tell := func() string { return told([]any{otherMerged, otherTalks, otherEarly}) }
		want := tell()
		spoilSessionAnswers(merged, talks, early)
		if tell() != want || room() != before {
			t.Fatalf("%s: an answer shares memory with another one, or with its argument", name)
		}
		spoilSessions(with.sessions)
		spoil(with.cells, impl.Cell{Key: -5})
		spoil(with.picks, -5)
		if tell() != want {
			t.Fatalf("%s: an answer hangs on what its arguments became", name)
		}
		lists := [][]int64{otherMerged.Who}
		for _, one := range otherEarly {
			lists = append(lists, one.List)
		}
		wantOwnNumbers(t, name, lists)
		wantOwnTalks(t, name, otherTalks.Talks)
	}
}

// emptyOrNil has an empty list, or nil, wherever there is nothing.
func emptyOrNil(m meeting, nils bool) meeting {
	out := meeting{emptyFor(m.cells, nils), emptyFor(m.sessions, nils), emptyFor(m.picks, nils)}
	for i := range out.sessions {
		out.sessions[i] = emptyFor(out.sessions[i], nils)
	}
	return out
}

func TestNilAndEmptyListsOfSessionsAreAlike(t *testing.T) {
	for n, m := range append(meetingsToAsk(), meeting{}, meeting{nil, make([][]impl.Act, 3), nil}, meeting{nil, make([][]impl.Act, 3), picksIn("012012")}) {
		if a, b := tellSessions(emptyOrNil(m, true)), tellSessions(emptyOrNil(m, false)); a != b {
			t.Fatalf("meeting %d: with nil %s, with empty lists %s", n, a, b)
		}
	}
}

func TestSessionsKeepNothing(t *testing.T) {
	wantSameAgain(t, meetingsToAsk(), tellSessions)
}

func TestSessionsNeverPanic(t *testing.T) {
	numbers := []int64{math.MinInt64, -1, 0, 1, 2, 3, 4, 5, 6, 7, 8, 31, 32, 999, 9999, 10000, math.MaxInt64}
	d := dice(167)
	pick := func() int64 { return numbers[d.upTo(int64(len(numbers)-1))] }
	for range 4000 {
		m := meeting{cells: cellList(pick(), pick(), pick(), pick())[:d.upTo(2)]}
		for range d.upTo(6) {
			var acts []impl.Act
			for range d.upTo([]int64{0, 2, 12, 14}[d.upTo(3)]) {
				a := impl.Act{Kind: 2 + d.upTo(5), Key: pick(), Value: pick()}
				if d.upTo(60) == 0 {
					a.Kind, a.Txn = pick(), pick()
				}
				acts = append(acts, a)
			}
			m.sessions = append(m.sessions, acts)
		}
		for range d.upTo([]int64{5, 30, 90}[d.upTo(2)]) {
			m.picks = append(m.picks, d.upTo(max(1, int64(len(m.sessions)))-1))
			if d.upTo(150) == 0 {
				m.picks[0] = pick()
			}
		}
		mustPanicNever(t, told(m), func() { tellSessions(m) })
	}
	mustPanicNever(t, "zero values", func() {
		tellSessions(meeting{})
		impl.EarlyPicks(nil, nil, 0)
		impl.OnlyReads(nil, 0)
	})
}

// The example that the given test of this stage tells.
func TestExampleOfSessions(t *testing.T) {
	sessions, picks := sessionsIn("g1 g1|p1=5 c"), picksIn("0110100")
	if got := mergeText(impl.MergeActs(sessions, picks)); got != "0b/0 1b/0 1p1=5/3 0g1/2 1c/3 0g1/2" {
		t.Errorf("merged: %s", got)
	}
	for _, p := range [][]int64{picks, impl.EarlyPicks(sessions, picks, 0).List} {
		got := impl.RunSessions(cellList(1, 9), sessions, p).Talks
		if talkText(got[0]) != "ok 2, ok 9, ok 9" || talkText(got[1]) != "ok 3, ok 0, ok 2" {
			t.Errorf("by %v: %+v", p, got)
		}
	}
	if !impl.OnlyReads(sessions, 0) || impl.OnlyReads(sessions, 1) {
		t.Error("0 only reads, and 1 does not")
	}
}
