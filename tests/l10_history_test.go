package tests

import (
	"fmt"
	"math"
	"slices"
	"strings"
	"testing"

	"loop.example/g00216/impl"
)

const mostHops = 400

func hopBegin(txn int64) impl.Hop { return impl.Hop{Kind: impl.HopBegin, Txn: txn} }
func hopRead(txn, key, of int64) impl.Hop {
	return impl.Hop{Kind: impl.HopRead, Txn: txn, Key: key, Of: of}
}
func hopWrite(txn, key int64) impl.Hop                     { return impl.Hop{Kind: impl.HopWrite, Txn: txn, Key: key} }
func hopCommit(txn int64) impl.Hop                         { return impl.Hop{Kind: impl.HopCommit, Txn: txn} }
func hopAbort(txn int64) impl.Hop                          { return impl.Hop{Kind: impl.HopAbort, Txn: txn} }
func numbersOf(numbers ...int64) []int64                   { return numbers }
func hopsBehind(h []impl.Hop, more ...impl.Hop) []impl.Hop { return slices.Concat(h, more) }

// hopsIn reads words: b2, r2.1.0 (of key 1, Of 0), w2.1, c2, a2.
func hopsIn(text string) []impl.Hop {
	var out []impl.Hop
	for _, word := range strings.Fields(text) {
		hop := impl.Hop{Kind: int64(strings.Index(".brwca", word[:1]))}
		fmt.Sscanf(word[1:], "%d.%d.%d", &hop.Txn, &hop.Key, &hop.Of)
		out = append(out, hop)
	}
	return out
}

// hasHopAhead: whether one has a hop of such a kind ahead of a place.
func hasHopAhead(h []impl.Hop, place int, txn int64, kinds ...int64) bool {
	for _, hop := range h[:place] {
		if hop.Txn == txn && slices.Contains(kinds, hop.Kind) {
			return true
		}
	}
	return false
}

func historyFaultByHand(h []impl.Hop) int64 {
	if len(h) > mostHops {
		return impl.ErrMany
	}
	for place, hop := range h {
		switch {
		case hop.Kind < 1 || hop.Kind > 5 || hop.Txn < 2 || hop.Txn > 999 || hop.Key < 0 || hop.Key > 31 || hop.Of < 0 || hop.Of > 999:
			return impl.ErrRange
		case hop.Kind != 2 && hop.Of != 0, hop.Kind != 2 && hop.Kind != 3 && hop.Key != 0:
			return impl.ErrForm
		case hop.Kind == 1 && hasHopAhead(h, place, hop.Txn, 1):
			return impl.ErrState
		case hop.Kind != 1 && (!hasHopAhead(h, place, hop.Txn, 1) || hasHopAhead(h, place, hop.Txn, 4, 5)):
			return impl.ErrState
		}
	}
	return impl.OK
}

// seer: who wrote what one sees of each key: at first as it was when it began, then oneself.
type seer struct {
	of    map[int64]int64
	wrote []int64
}

// hopsByHand: what an act that was done leaves, and who sees what behind it.
func hopsByHand(now map[int64]int64, open map[int64]*seer, a impl.Act, reply impl.Reply) []impl.Hop {
	one := open[a.Txn]
	switch a.Kind {
	case 1:
		began := &seer{of: map[int64]int64{}}
		for key, who := range now {
			began.of[key] = who
		}
		open[reply.Value] = began
		return []impl.Hop{hopBegin(reply.Value)}
	case 2:
		return []impl.Hop{hopRead(a.Txn, a.Key, one.of[a.Key])}
	case 3:
		var out []impl.Hop
		for key := range int64(mostRows) {
			if one.of[key] > 0 {
				out = append(out, hopRead(a.Txn, key, one.of[key]))
			}
		}
		return out
	case 4, 5:
		one.of[a.Key] = a.Txn
		one.wrote = append(one.wrote, a.Key)
		return []impl.Hop{hopWrite(a.Txn, a.Key)}
	case 6:
		for _, key := range one.wrote {
			now[key] = a.Txn
		}
		delete(open, a.Txn)
		return []impl.Hop{hopCommit(a.Txn)}
	}
	delete(open, a.Txn)
	return []impl.Hop{hopAbort(a.Txn)}
}

// runHistoryByHand knows of no versions: each one has a copy of who wrote what.
func runHistoryByHand(cells []impl.Cell, acts []impl.Act) impl.HistoryResult {
	if made := newCopiesByHand(cells); made.Code != impl.OK {
		return impl.HistoryResult{Code: made.Code}
	}
	if len(acts) > mostActs {
		return impl.HistoryResult{Code: impl.ErrMany}
	}
	now, open := map[int64]int64{}, map[int64]*seer{}
	for _, c := range cells {
		now[c.Key] = 1
	}
	e := newEngine(cells...)
	var out []impl.Hop
	for _, a := range acts {
		done := doEngineByHand(e, a)
		if done.Code != impl.OK {
			continue
		}
		e = done.Engine
		if done.Reply.Code == impl.OK || a.Kind == 2 && done.Reply.Code == impl.ErrNone && open[a.Txn] != nil {
			out = append(out, hopsByHand(now, open, a, done.Reply)...)
		}
	}
	if len(out) > mostHops {
		return impl.HistoryResult{Code: impl.ErrMany}
	}
	return impl.HistoryResult{History: out}
}

func committedByHand(h []impl.Hop) []int64 {
	var out []int64
	for _, hop := range h {
		if hop.Kind == 4 {
			out = append(out, hop.Txn)
		}
	}
	return out
}

func writersByHand(h []impl.Hop, key int64) impl.IntsResult {
	if key < 0 || key > 31 {
		return impl.IntsResult{Code: impl.ErrRange}
	}
	wrote := map[int64]int{}
	for _, hop := range h {
		if hop.Kind == 3 && hop.Key == key {
			wrote[hop.Txn]++
		}
	}
	var out []int64
	for _, txn := range committedByHand(h) {
		if wrote[txn] > 0 {
			out = append(out, txn)
		}
	}
	return impl.IntsResult{List: out}
}

func overlapByHand(h []impl.Hop, a, b int64) bool {
	began, ended := map[int64]int{}, map[int64]int{}
	for place, hop := range h {
		switch hop.Kind {
		case 1:
			began[hop.Txn] = place + 1
		case 4:
			ended[hop.Txn] = place + 1
		}
	}
	return a != b && ended[a] > 0 && ended[b] > 0 && began[a] < ended[b] && began[b] < ended[a]
}

func hopsTextByHand(h []impl.Hop) string {
	out := ""
	for _, hop := range h {
		switch hop.Kind {
		case 1:
			out += fmt.Sprintf("b%d\n", hop.Txn)
		case 2:
			out += fmt.Sprintf("r%d %d:%d\n", hop.Txn, hop.Key, hop.Of)
		case 3:
			out += fmt.Sprintf("w%d %d\n", hop.Txn, hop.Key)
		case 4:
			out += fmt.Sprintf("c%d\n", hop.Txn)
		case 5:
			out += fmt.Sprintf("a%d\n", hop.Txn)
		}
	}
	return out
}

// tellHistory asks all functions of the chapter that are told a history.
func tellHistory(h []impl.Hop, key, a, b int64) string {
	return told([]any{impl.HistoryFault(h), impl.CommittedOf(h), impl.WritersOf(h, key), impl.Overlap(h, a, b), impl.TextOfHops(h)})
}

func tellHistoryByHand(h []impl.Hop, key, a, b int64) string {
	if code := historyFaultByHand(h); code != impl.OK {
		return told([]any{code, impl.IntsResult{Code: code}, impl.IntsResult{Code: code}, false, impl.TextResult{Code: code}})
	}
	return told([]any{int64(0), impl.IntsResult{List: committedByHand(h)}, writersByHand(h, key), overlapByHand(h, a, b), impl.TextResult{Text: hopsTextByHand(h)}})
}

// thrownScans: a talk in which more is read; in some of them so much that no history has room for it.
func thrownScans(run int, d *dice) ([]impl.Cell, []impl.Act) {
	cells, acts := thrownTalk(run, d)
	for i := range acts {
		if one := &acts[i]; run%4 == 3 && one.Kind > impl.ActBegin && d.upTo(9) < 3+int64(run/4)%7 {
			one.Kind = impl.ActScan - d.upTo(3)/3
		}
	}
	return cells, acts
}

// wantCommittedBegun: no fault, and what was committed was begun ahead of it.
func wantCommittedBegun(t *testing.T, name string, h []impl.Hop) {
	t.Helper()
	if fault := impl.HistoryFault(h); fault != impl.OK {
		t.Fatalf("%s: %v has the fault %d", name, h, fault)
	}
	for _, txn := range impl.CommittedOf(h).List {
		began, ended := slices.Index(h, hopBegin(txn)), slices.Index(h, hopCommit(txn))
		if began < 0 || ended < began {
			t.Fatalf("%s: in %v %d began at %d, and was committed at %d", name, h, txn, began, ended)
		}
	}
}

// A run has a history without a fault, in which what was committed was begun.
func TestRunsHaveHistoriesWithoutFault(t *testing.T) {
	d := dice(110)
	kinds, codes, overlaps := map[int64]int{}, map[int64]int{}, map[bool]int{}
	gone, own, long, committed := 0, 0, 0, 0
	for run := range 480 {
		cells, acts := thrownScans(run, &d)
		got := impl.RunHistory(cells, acts)
		if want := runHistoryByHand(cells, acts); told(got) != told(want) {
			t.Fatalf("run %d: RunHistory of %+v and %+v = %+v, want %+v", run, cells, acts, got, want)
		}
		codes[got.Code]++
		if got.Code != impl.OK {
			continue
		}
		h := got.History
		wantCommittedBegun(t, fmt.Sprint("run ", run), h)
		long = max(long, len(h))
		committed += len(impl.CommittedOf(h).List)
		for key := int64(-1); key <= mostRows; key++ {
			a, b := d.upTo(21), d.upTo(21)
			overlaps[overlapByHand(h, a, b)]++
			if one, two := tellHistory(h, key, a, b), tellHistoryByHand(h, key, a, b); one != two {
				t.Fatalf("run %d: of %v, key %d, %d and %d:\n%s, want\n%s", run, h, key, a, b, one, two)
			}
		}
		for _, hop := range h {
			kinds[hop.Kind]++
			if hop.Kind == impl.HopRead && hop.Of == 0 {
				gone++
			}
			if hop.Of == hop.Txn {
				own++
			}
		}
	}
	for kind := range int64(5) {
		if kinds[kind+1] < 500 {
			t.Errorf("kind %d was met only %d times", kind+1, kinds[kind+1])
		}
	}
	if codes[impl.OK] < 400 || codes[impl.ErrMany] < 15 || overlaps[true] < 200 || gone < 100 || own < 200 || long < 300 || committed < 2000 {
		t.Errorf("codes %v, overlaps %v, %d of nothing, %d of oneself, %d hops, %d committed", codes, overlaps, gone, own, long, committed)
	}
}

// leftBy: the hops that are in the history of one act more, and were not in the one ahead.
func leftBy(t *testing.T, name string, cells []impl.Cell, acts []impl.Act) []impl.Hop {
	t.Helper()
	ahead, now := impl.RunHistory(cells, acts[:len(acts)-1]), impl.RunHistory(cells, acts)
	count := len(ahead.History)
	if ahead.Code != impl.OK || now.Code != impl.OK || len(now.History) < count || !slices.Equal(now.History[:count], ahead.History) {
		t.Fatalf("%s: behind %+v there is %+v, and was %+v", name, acts[len(acts)-1], now, ahead)
	}
	return now.History[count:]
}

// wantReadsLeft: one hop each for what a scan was told, and all others are of keys that are gone; a get of each key hears of the same writer.
func wantReadsLeft(t *testing.T, name string, cells []impl.Cell, acts []impl.Act, left []impl.Hop, replies []impl.Reply) {
	t.Helper()
	scan, has, of := acts[len(acts)-1], mapOfCells(replies[len(acts)-1].Cells), map[int64]int64{}
	for i, hop := range left {
		if hop.Kind != impl.HopRead || hop.Txn != scan.Txn || hop.Of == 0 || i > 0 && hop.Key <= left[i-1].Key {
			t.Fatalf("%s: the scan %+v has left %v", name, scan, left)
		}
		of[hop.Key] = hop.Of
	}
	for key := range int64(mostRows) {
		asked := append(slices.Clone(acts[:len(acts)-1]), actGet(scan.Txn, key))
		if one := leftBy(t, name, cells, asked); len(one) != 1 || one[0] != hopRead(scan.Txn, key, of[key]) {
			t.Fatalf("%s: a get of key %d has left %v, and a scan %v", name, key, one, left)
		}
		if _, there := has[key]; there && of[key] == 0 {
			t.Fatalf("%s: key %d was seen, and the scan has left %v", name, key, left)
		}
	}
}

// An act that has a code leaves no hop, but a get that finds nothing; an act that has none leaves its own.
func TestEachActLeavesItsHops(t *testing.T) {
	d := dice(111)
	met, scans := map[[2]int64]int{}, 0
	for run := range 60 {
		cells, acts := thrownTalk(run, &d)
		replies := impl.RunEngine(cells, acts).Replies
		var open []int64
		for n, a := range acts {
			reply, name := replies[n], fmt.Sprintf("run %d, act %d", run, n)
			isOpen := slices.Contains(open, a.Txn)
			left := leftBy(t, name, cells, acts[:n+1])
			nothing := a.Kind == impl.ActGet && reply.Code == impl.ErrNone && isOpen
			met[[2]int64{a.Kind, reply.Code}]++
			if nothing {
				met[[2]int64{a.Kind, -1}]++
			}
			var want []impl.Hop
			switch {
			case reply.Code != impl.OK && !nothing:
			case a.Kind == impl.ActBegin:
				want, open = []impl.Hop{hopBegin(reply.Value)}, append(open, reply.Value)
			case a.Kind == impl.ActGet:
				if len(left) == 0 || left[0].Of == 0 && !nothing {
					t.Fatalf("%s: %+v was told %+v, and has left %v", name, a, reply, left)
				}
				want = []impl.Hop{hopRead(a.Txn, a.Key, left[0].Of)}
			case a.Kind == impl.ActScan:
				if scans++; scans%4 == 0 {
					wantReadsLeft(t, name, cells, acts[:n+1], left, replies)
				}
				want = left
			case a.Kind == impl.ActPut || a.Kind == impl.ActDrop:
				want = []impl.Hop{hopWrite(a.Txn, a.Key)}
			case a.Kind == impl.ActCommit:
				want = []impl.Hop{hopCommit(a.Txn)}
			case a.Kind == impl.ActAbort:
				want = []impl.Hop{hopAbort(a.Txn)}
			}
			if !slices.Equal(left, want) {
				t.Fatalf("%s: %+v was told %+v, and has left %v, want %v", name, a, reply, left, want)
			}
			if reply.Code == impl.OK && (a.Kind == impl.ActCommit || a.Kind == impl.ActAbort) {
				open = slices.DeleteFunc(open, func(id int64) bool { return id == a.Txn })
			}
		}
	}
	for _, c := range [][2]int64{
		{impl.ActBegin, impl.OK}, {impl.ActBegin, impl.ErrMany}, {impl.ActGet, impl.OK}, {impl.ActGet, impl.ErrNone}, {impl.ActGet, -1}, {impl.ActGet, impl.ErrState}, {impl.ActGet, impl.ErrRange}, {impl.ActScan, impl.OK}, {impl.ActScan, impl.ErrNone}, {impl.ActScan, impl.ErrState},
		{impl.ActPut, impl.OK}, {impl.ActPut, impl.ErrNone}, {impl.ActPut, impl.ErrState}, {impl.ActPut, impl.ErrRange}, {impl.ActPut, impl.ErrConflict}, {impl.ActDrop, impl.OK}, {impl.ActDrop, impl.ErrNone}, {impl.ActDrop, impl.ErrState}, {impl.ActDrop, impl.ErrConflict},
		{impl.ActCommit, impl.OK}, {impl.ActCommit, impl.ErrNone}, {impl.ActCommit, impl.ErrState}, {impl.ActAbort, impl.OK}, {impl.ActAbort, impl.ErrNone}, {impl.ActAbort, impl.ErrState}, {0, impl.ErrRange},
	} {
		if met[c] < 2 {
			t.Errorf("kind %d was told code %d only %d times", c[0], c[1], met[c])
		}
	}
	if scans < 100 || met[[2]int64{impl.ActGet, impl.ErrNone}] <= met[[2]int64{impl.ActGet, -1}] {
		t.Errorf("only %d scans, and of gets that find nothing %v", scans, met)
	}
}

// wantHops: the lines have these replies, and their acts these hops; and so has each beginning of them.
func wantHops(t *testing.T, name string, cells []impl.Cell, talk []line, text string) {
	t.Helper()
	var acts []impl.Act
	var want []impl.Reply
	for _, l := range talk {
		acts, want = append(acts, l.act), append(want, l.reply)
	}
	if got := impl.RunEngine(cells, acts); told(got) != told(impl.RepliesResult{Replies: want}) {
		t.Errorf("%s: RunEngine = %+v, want %+v", name, got, want)
	}
	h := hopsIn(text)
	if got := impl.RunHistory(cells, acts); got.Code != impl.OK || !slices.Equal(got.History, h) {
		t.Errorf("%s: RunHistory = %+v, want %+v", name, got, h)
	}
	wantCommittedBegun(t, name, h)
	for n := range acts {
		if got := impl.RunHistory(cells, acts[:n]); told(got) != told(runHistoryByHand(cells, acts[:n])) || len(got.History) > len(h) || !slices.Equal(got.History, h[:len(got.History)]) {
			t.Errorf("%s: RunHistory of %d acts = %+v, want the beginning of %+v", name, n, got, h)
		}
	}
}

func TestReadsOfWhatIsGone(t *testing.T) {
	cells := firstCells() // 1, 2 and 31
	for _, c := range []struct {
		name string
		talk []line
		hops string
	}{
		{"dropped and committed ahead of one's begin", lines(begun(2), drops(2, 1), commits(2, 2), begun(3), readsNone(3, 1), reads(3, 2, 20)), "b2 w2.1 c2 b3 r3.1.2 r3.2.1"},
		{"dropped and committed behind one's begin", lines(begun(2), begun(3), drops(2, 1), commits(2, 2), reads(3, 1, 10)), "b2 b3 w2.1 c2 r3.1.1"},
		{"dropped ahead of one's begin, committed behind it", lines(begun(2), drops(2, 1), begun(3), commits(2, 2), reads(3, 1, 10), begun(4), readsNone(4, 1)), "b2 w2.1 b3 c2 r3.1.1 b4 r4.1.2"},
		{"dropped oneself", lines(begun(2), drops(2, 1), readsNone(2, 1), reads(2, 2, 20)), "b2 w2.1 r2.1.2 r2.2.1"},
		{"put and dropped oneself", lines(begun(2), puts(2, 5, 50), reads(2, 5, 50), drops(2, 5), readsNone(2, 5)), "b2 w2.5 r2.5.2 w2.5 r2.5.2"},
		{"dropped and put oneself", lines(begun(2), drops(2, 1), puts(2, 1, 11), reads(2, 1, 11)), "b2 w2.1 w2.1 r2.1.2"},
		{"another dropped it and did not commit", lines(begun(2), begun(3), drops(2, 1), reads(3, 1, 10), readsNone(2, 1), begun(4), reads(4, 1, 10)), "b2 b3 w2.1 r3.1.1 r2.1.2 b4 r4.1.1"},
		{"another dropped it and aborted", lines(begun(2), begun(3), drops(2, 1), aborts(2), reads(3, 1, 10), begun(4), reads(4, 1, 10)), "b2 b3 w2.1 a2 r3.1.1 b4 r4.1.1"},
		{"another put and dropped a new one, and did not commit", lines(begun(2), begun(3), puts(2, 5, 50), drops(2, 5), readsNone(3, 5), begun(4), readsNone(4, 5)), "b2 b3 w2.5 w2.5 r3.5.0 b4 r4.5.0"},
		{"another put and dropped a new one, and aborted", lines(begun(2), begun(3), puts(2, 5, 50), drops(2, 5), aborts(2), readsNone(3, 5), begun(4), readsNone(4, 5)), "b2 b3 w2.5 w2.5 a2 r3.5.0 b4 r4.5.0"},
		{"another put and dropped a new one, and committed", lines(begun(2), begun(3), puts(2, 5, 50), drops(2, 5), commits(2, 2), readsNone(3, 5), begun(4), readsNone(4, 5)), "b2 b3 w2.5 w2.5 c2 r3.5.0 b4 r4.5.2"},
		{"there never was anything", lines(begun(2), readsNone(2, 0), readsNone(2, 5), readsNone(2, 30), reads(2, 31, 0)), "b2 r2.0.0 r2.5.0 r2.30.0 r2.31.1"},
		{"another put a new one", lines(begun(2), begun(3), puts(2, 5, 50), readsNone(3, 5), commits(2, 2), readsNone(3, 5), begun(4), reads(4, 5, 50)), "b2 b3 w2.5 r3.5.0 c2 r3.5.0 b4 r4.5.2"},
		{"another put a new one and aborted", lines(begun(2), begun(3), puts(2, 5, 50), aborts(2), readsNone(3, 5), begun(4), readsNone(4, 5)), "b2 b3 w2.5 a2 r3.5.0 b4 r4.5.0"},
		{"dropped, and put by a third one", lines(begun(2), drops(2, 1), commits(2, 2), begun(3), begun(4), puts(4, 1, 14), readsNone(3, 1), commits(4, 3), readsNone(3, 1), begun(5), reads(5, 1, 14)), "b2 w2.1 c2 b3 b4 w4.1 r3.1.2 c4 r3.1.2 b5 r5.1.4"},
		{"dropped, put by a third one, dropped by a fourth one", lines(begun(2), drops(2, 1), commits(2, 2), begun(3), puts(3, 1, 13), commits(3, 3), begun(4), drops(4, 1), readsNone(4, 1), begun(5), reads(5, 1, 13), commits(4, 4), reads(5, 1, 13), begun(6), readsNone(6, 1)), "b2 w2.1 c2 b3 w3.1 c3 b4 w4.1 r4.1.4 b5 r5.1.3 c4 r5.1.3 b6 r6.1.4"},
		{"what is gone is dropped again", lines(begun(2), drops(2, 1), refuses(actDrop(2, 1), impl.ErrNone), commits(2, 2), begun(3), refuses(actDrop(3, 1), impl.ErrNone), readsNone(3, 1)), "b2 w2.1 c2 b3 r3.1.2"},
		{"a write that is refused is read by nobody", lines(begun(2), begun(3), puts(2, 1, 11), refuses(actDrop(3, 1), impl.ErrConflict), refuses(actPut(3, 1, 13), impl.ErrConflict), reads(3, 1, 10), reads(2, 1, 11)), "b2 b3 w2.1 r3.1.1 r2.1.2"},
		{"one who was committed", lines(begun(2), drops(2, 1), commits(2, 2), refuses(actGet(2, 1), impl.ErrState), refuses(actGet(2, 5), impl.ErrState), refuses(actScan(2), impl.ErrState)), "b2 w2.1 c2"},
		{"one who aborted", lines(begun(2), drops(2, 1), aborts(2), refuses(actGet(2, 1), impl.ErrState), refuses(actGet(2, 5), impl.ErrState), refuses(actScan(2), impl.ErrState)), "b2 w2.1 a2"},
		{"one who is not there", lines(readsNone(2, 1), readsNone(2, 5), refuses(actScan(2), impl.ErrNone), begun(2), readsNone(3, 1), readsNone(1, 1), readsNone(0, 5), readsNone(-1, 5), refuses(actScan(3), impl.ErrNone), refuses(actScan(1), impl.ErrNone)), "b2"},
		{"no key", lines(begun(2), refuses(actGet(2, -1), impl.ErrRange), refuses(actGet(2, 32), impl.ErrRange), reads(2, 31, 0)), "b2 r2.31.1"},
		{"no key of one who is not there", lines(begun(2), readsNone(3, 32), aborts(2), refuses(actGet(2, 32), impl.ErrState)), "b2 a2"},
	} {
		wantHops(t, c.name, cells, c.talk, c.hops)
	}
	wantHops(t, "no cells", nil, lines(begun(2), readsNone(2, 0), readsNone(2, 1), readsNone(2, 31)), "b2 r2.0.0 r2.1.0 r2.31.0")
}

// A write for which there is no room, of versions or of undos, leaves no hop, and nobody reads it.
func TestWritesWithoutRoomLeaveNoHop(t *testing.T) {
	talk, hops := []line(nil), ""
	for id := int64(2); id < 13; id++ { // 11 and the first one
		talk = behind(talk, begun(id), puts(id, 1, id), commits(id, id))
		hops += fmt.Sprintf("b%d w%d.1 c%d ", id, id, id)
	}
	full := []line{refuses(actPut(13, 1, 5), impl.ErrMany), reads(13, 1, 12), refuses(actDrop(13, 1), impl.ErrMany), reads(13, 1, 12), puts(13, 2, 5), commits(13, 13), begun(14), reads(14, 1, 12)}
	wantHops(t, "no room for versions", cellList(1, 10), behind(behind(talk, begun(13)), full...), hops+"b13 r13.1.12 r13.1.12 w13.2 c13 b14 r14.1.12")
	talk, hops = lines(begun(2)), "b2 "
	for n := range int64(mostUndos) {
		talk, hops = behind(talk, puts(2, n%3, n)), hops+fmt.Sprintf("w2.%d ", n%3)
	}
	talk = behind(talk, refuses(actPut(2, 3, 5), impl.ErrMany), refuses(actDrop(2, 1), impl.ErrMany), readsNone(2, 3), reads(2, 1, 58), sees(2, 0, 57, 1, 58, 2, 59))
	wantHops(t, "no room for undos", nil, talk, hops+"r2.3.0 r2.1.2 r2.0.2 r2.1.2 r2.2.2")
}

func TestHopsOfScans(t *testing.T) {
	cells := firstCells() // 1, 2 and 31
	for _, c := range []struct {
		name string
		talk []line
		hops string
	}{
		{"as there was at first", lines(begun(2), sees(2, 1, 10, 2, 20, 31, 0)), "b2 r2.1.1 r2.2.1 r2.31.1"},
		{"of oneself", lines(begun(2), puts(2, 2, 22), puts(2, 0, 5), puts(2, 5, 50), drops(2, 1), sees(2, 0, 5, 2, 22, 5, 50, 31, 0)), "b2 w2.2 w2.0 w2.5 w2.1 r2.0.2 r2.1.2 r2.2.2 r2.5.2 r2.31.1"},
		{"all of oneself, and all gone", lines(begun(2), drops(2, 31), drops(2, 2), drops(2, 1), sees(2)), "b2 w2.31 w2.2 w2.1 r2.1.2 r2.2.2 r2.31.2"},
		{"of others ahead of one's begin", lines(begun(2), puts(2, 2, 22), puts(2, 0, 5), commits(2, 2), begun(3), drops(3, 1), puts(3, 4, 40), commits(3, 3), begun(4), sees(4, 0, 5, 2, 22, 4, 40, 31, 0)), "b2 w2.2 w2.0 c2 b3 w3.1 w3.4 c3 b4 r4.0.2 r4.1.3 r4.2.2 r4.4.3 r4.31.1"},
		{"of others behind one's begin", lines(begun(2), begun(3), puts(2, 2, 22), puts(2, 0, 5), drops(2, 1), sees(3, 1, 10, 2, 20, 31, 0), commits(2, 2), sees(3, 1, 10, 2, 20, 31, 0), puts(3, 4, 40), sees(3, 1, 10, 2, 20, 4, 40, 31, 0)), "b2 b3 w2.2 w2.0 w2.1 r3.1.1 r3.2.1 r3.31.1 c2 r3.1.1 r3.2.1 r3.31.1 w3.4 r3.1.1 r3.2.1 r3.4.3 r3.31.1"},
		{"of others that aborted", lines(begun(2), begun(3), puts(2, 2, 22), puts(2, 0, 5), drops(2, 1), aborts(2), sees(3, 1, 10, 2, 20, 31, 0), begun(4), sees(4, 1, 10, 2, 20, 31, 0)), "b2 b3 w2.2 w2.0 w2.1 a2 r3.1.1 r3.2.1 r3.31.1 b4 r4.1.1 r4.2.1 r4.31.1"},
		{"of a new one that was put and dropped", lines(begun(2), begun(3), puts(2, 30, 1), drops(2, 30), sees(2, 1, 10, 2, 20, 31, 0), commits(2, 2), sees(3, 1, 10, 2, 20, 31, 0), begun(4), sees(4, 1, 10, 2, 20, 31, 0)), "b2 b3 w2.30 w2.30 r2.1.1 r2.2.1 r2.30.2 r2.31.1 c2 r3.1.1 r3.2.1 r3.31.1 b4 r4.1.1 r4.2.1 r4.30.2 r4.31.1"},
		{"a get of nothing and a scan", lines(begun(2), readsNone(2, 5), sees(2, 1, 10, 2, 20, 31, 0), readsNone(2, 5)), "b2 r2.5.0 r2.1.1 r2.2.1 r2.31.1 r2.5.0"},
		{"two scans", lines(begun(2), begun(3), sees(2, 1, 10, 2, 20, 31, 0), sees(3, 1, 10, 2, 20, 31, 0)), "b2 b3 r2.1.1 r2.2.1 r2.31.1 r3.1.1 r3.2.1 r3.31.1"},
		{"what a scan does not need", lines(begun(2), line{impl.Act{Kind: impl.ActScan, Txn: 2, Key: 99, Value: -1}, impl.Reply{Cells: cells}}), "b2 r2.1.1 r2.2.1 r2.31.1"},
	} {
		wantHops(t, c.name, cells, c.talk, c.hops)
	}
	wantHops(t, "no cells", nil, lines(begun(2), sees(2), begun(3), puts(3, 31, 1), puts(3, 0, 1), sees(2), sees(3, 0, 1, 31, 1), commits(3, 1), sees(2), begun(4), sees(4, 0, 1, 31, 1)), "b2 b3 w3.31 w3.0 r3.0.3 r3.31.3 c3 b4 r4.0.3 r4.31.3")
	wantHops(t, "0 and 31", cellList(0, 0, 31, 9999), lines(begun(2), sees(2, 0, 0, 31, 9999)), "b2 r2.0.1 r2.31.1")
}

// What an act does not need is not asked for, and leaves nothing in a hop.
func TestHopsOfWhatAnActDoesNotNeed(t *testing.T) {
	for _, n := range []int64{math.MinInt64, -1, 0, 3, 31, 32, 1000, math.MaxInt64} {
		acts := []impl.Act{{Kind: impl.ActBegin, Txn: n, Key: n, Value: n}, {Kind: impl.ActBegin, Txn: n}, {Kind: impl.ActGet, Txn: 2, Key: 1, Value: n}, {Kind: impl.ActScan, Txn: 2, Key: n, Value: n}, {Kind: impl.ActDrop, Txn: 2, Key: 1, Value: n}, {Kind: impl.ActCommit, Txn: 2, Key: n, Value: n}, {Kind: impl.ActAbort, Txn: 3, Key: n, Value: n}}
		if got, want := impl.RunHistory(cellList(1, 10), acts), hopsIn("b2 b3 r2.1.1 r2.1.1 w2.1 c2 a3"); got.Code != impl.OK || !slices.Equal(got.History, want) {
			t.Errorf("RunHistory of %+v = %+v, want %+v", acts, got, want)
		}
	}
}

// manyScans: 20 keys are there, so each scan leaves 20 hops; gets leave one each.
func manyScans(begins, scans, gets int) []impl.Act {
	return slices.Concat(slices.Repeat([]impl.Act{actBegin()}, begins), slices.Repeat([]impl.Act{actScan(2)}, scans), slices.Repeat([]impl.Act{actGet(2, 31)}, gets))
}

func TestHistoriesUpToTheirNumber(t *testing.T) {
	cells := cellsFrom(5, 1, 20, 0)
	refused := []impl.Act{{}, actScan(3), actGet(4, 5), actGet(2, 32), actCommit(9), actDrop(2, 31)}
	for _, c := range []struct {
		name                string
		begins, scans, gets int
		more                []impl.Act
		hops                int
	}{
		{"a few", 1, 2, 3, nil, 44}, {"399", 1, 19, 18, nil, 399}, {"400 by a get", 1, 19, 19, nil, 400}, {"401 by a get", 1, 19, 20, nil, 401}, {"400 by a scan", 20, 19, 0, nil, 400}, {"401 by a get behind begins and scans", 20, 19, 1, nil, 401}, {"400 by begins and a scan", 19, 19, 1, nil, 400}, {"401 by a scan", 1, 18, 20, []impl.Act{actScan(2)}, 401}, {"400 by a scan at the end", 1, 18, 19, []impl.Act{actScan(2)}, 400}, {"419 by a scan", 1, 19, 19, []impl.Act{actScan(2)}, 420},
		{"1961", 1, 98, 0, nil, 1961}, {"400, and refusals", 1, 19, 19, refused, 400}, {"400, and a begin", 1, 19, 19, []impl.Act{actBegin()}, 401}, {"400, and a write", 1, 19, 19, []impl.Act{actPut(2, 1, 1)}, 401}, {"400 with a write", 1, 19, 18, []impl.Act{actPut(2, 1, 1)}, 400}, {"400, and a commit", 1, 19, 19, []impl.Act{actCommit(2)}, 401}, {"400 with a commit", 1, 19, 18, []impl.Act{actCommit(2)}, 400}, {"400, and an abort", 1, 19, 19, []impl.Act{actAbort(2)}, 401}, {"400 with an abort", 1, 19, 18, []impl.Act{actAbort(2)}, 400}, {"too many, and an abort", 1, 30, 0, []impl.Act{actAbort(2)}, 602}, {"400 with a commit, and refusals", 1, 19, 18, append([]impl.Act{actCommit(2), actScan(2), actGet(2, 5)}, refused[:4]...), 400},
	} {
		acts := append(manyScans(c.begins, c.scans, c.gets), c.more...)
		got := impl.RunHistory(cells, acts)
		if want := runHistoryByHand(cells, acts); told(got) != told(want) {
			t.Errorf("%s: RunHistory = %+v, want %+v", c.name, got, want)
		}
		if c.hops > mostHops {
			wantCode(t, c.name, got, impl.ErrMany)
		} else if got.Code != impl.OK || len(got.History) != c.hops || impl.HistoryFault(got.History) != impl.OK {
			t.Errorf("%s: RunHistory has code %d and %d hops, want %d", c.name, got.Code, len(got.History), c.hops)
		}
	}
	// All 32 keys: 20 that were there, and 12 that are written.
	acts := []impl.Act{actBegin()}
	for key := range int64(12) {
		acts = append(acts, actPut(2, (key+25)%32, key))
	}
	acts = append(acts, slices.Repeat([]impl.Act{actScan(2)}, 12)...) // 13 and 384
	acts = append(acts, slices.Repeat([]impl.Act{actGet(2, 0)}, 3)...)
	if got := impl.RunHistory(cells, acts); got.Code != impl.OK || len(got.History) != mostHops {
		t.Errorf("of all keys: code %d and %d hops", got.Code, len(got.History))
	}
	wantCode(t, "of all keys, and one more", impl.RunHistory(cells, append(acts, actGet(2, 31))), impl.ErrMany)
}

func TestCodesOfRunHistory(t *testing.T) {
	for _, f := range newCellFaults() {
		for _, count := range []int{0, 1, 20, 100, 101, 102, 1000} {
			name := fmt.Sprintf("RunHistory of %s and %d acts", f.name, count)
			for _, acts := range [][]impl.Act{make([]impl.Act, count), slices.Repeat([]impl.Act{actBegin()}, count)} {
				got := impl.RunHistory(f.cells, acts)
				code := impl.RunEngine(f.cells, acts).Code
				wantCode(t, name, got, code)
				if want := runHistoryByHand(f.cells, acts); told(got) != told(want) {
					t.Errorf("%s = %+v, want %+v", name, got, want)
				}
				if f.code != impl.OK && got.Code != f.code || f.code == impl.OK && (got.Code == impl.ErrMany) != (count > mostActs) {
					t.Errorf("%s has the code %d", name, got.Code)
				}
			}
		}
	}
	wantCode(t, "no acts", impl.RunHistory(firstCells(), nil), impl.OK)
	if got := impl.RunHistory(firstCells(), nil); len(got.History) > 0 {
		t.Errorf("RunHistory of no acts = %+v", got)
	}
	if got := impl.RunHistory(nil, []impl.Act{{}, {Kind: 8}, {Kind: -1, Txn: 2}, actGet(2, 1), actCommit(2)}); got.Code != impl.OK || len(got.History) > 0 {
		t.Errorf("RunHistory of what cannot be done = %+v", got)
	}
	// A code of a reply is no code of the run.
	full := slices.Repeat([]impl.Act{actBegin()}, 22)
	if got := impl.RunHistory(nil, full); got.Code != impl.OK || len(got.History) != mostTxns || got.History[19] != hopBegin(21) {
		t.Errorf("RunHistory of too many begins = %+v", got)
	}
}

// Who wrote the cells that were there at the start.
func TestWritersOfTheFirstCells(t *testing.T) {
	for count := range int64(21) {
		cells := cellsFrom(11, 1, count, 9980)
		acts := []impl.Act{actBegin(), actScan(2)}
		var gets []impl.Hop
		for key := range int64(mostRows) {
			of := int64(0)
			if key >= 11 && key < 11+count {
				of = 1
			}
			acts, gets = append(acts, actGet(2, key)), append(gets, hopRead(2, key, of))
		}
		want := []impl.Hop{hopBegin(2)}
		for _, hop := range gets {
			if hop.Of > 0 {
				want = append(want, hop)
			}
		}
		if got := impl.RunHistory(cells, acts); got.Code != impl.OK || !slices.Equal(got.History, append(want, gets...)) {
			t.Errorf("of %d cells: RunHistory = %+v, want %+v", count, got, want)
		}
	}
}

type faultyHistory struct {
	name string
	hops []impl.Hop
	code int64
}

// hopsInRow: so many without a fault.
func hopsInRow(count int) []impl.Hop {
	var out []impl.Hop
	for i := range int64(count) {
		out = append(out, []impl.Hop{hopBegin(i/4 + 2), hopRead(i/4+2, i%32, i%1000), hopWrite(i/4+2, i%32), hopCommit(i/4 + 2)}[i%4])
	}
	return out
}

func countFaultsOfHistories() []faultyHistory {
	wrong := func(count, place int, hop impl.Hop) []impl.Hop {
		h := hopsInRow(count)
		h[place] = hop
		return h
	}
	return []faultyHistory{
		{"no hops", nil, impl.OK}, {"one", hopsInRow(1), impl.OK}, {"399", hopsInRow(399), impl.OK}, {"400", hopsInRow(400), impl.OK}, {"401", hopsInRow(401), impl.ErrMany}, {"402", hopsInRow(402), impl.ErrMany}, {"1000", hopsInRow(1000), impl.ErrMany}, {"400 reads", append([]impl.Hop{hopBegin(2)}, slices.Repeat([]impl.Hop{hopRead(2, 1, 1)}, 399)...), impl.OK}, {"401 reads", append([]impl.Hop{hopBegin(2)}, slices.Repeat([]impl.Hop{hopRead(2, 1, 1)}, 400)...), impl.ErrMany},
		{"401, the first of no Kind", wrong(401, 0, impl.Hop{}), impl.ErrMany}, {"401, the first of a wrong form", wrong(401, 0, impl.Hop{Kind: 1, Txn: 2, Key: 1}), impl.ErrMany}, {"401, the first without a begin", wrong(401, 0, hopCommit(2)), impl.ErrMany}, {"401 zeros", make([]impl.Hop, 401), impl.ErrMany}, {"400 zeros", make([]impl.Hop, 400), impl.ErrRange},
		{"400, the last of no Kind", wrong(400, 399, impl.Hop{Kind: 6, Txn: 101}), impl.ErrRange}, {"400, the last of a wrong form", wrong(400, 399, impl.Hop{Kind: 4, Txn: 101, Of: 1}), impl.ErrForm}, {"400, the last behind the end", wrong(400, 399, hopRead(100, 1, 1)), impl.ErrState}, {"400, one that aborts in the middle", wrong(400, 201, hopAbort(52)), impl.ErrState},
	}
}

func numberFaultsOfHistories() []faultyHistory {
	var out []faultyHistory
	add := func(name string, code int64, h ...impl.Hop) { out = append(out, faultyHistory{name, h, code}) }
	for _, kind := range []int64{math.MinInt64, -1, 0, 6, 7, math.MaxInt64} {
		add(fmt.Sprint("Kind ", kind), impl.ErrRange, hopBegin(2), impl.Hop{Kind: kind, Txn: 2})
		add(fmt.Sprint("Kind first ", kind), impl.ErrRange, impl.Hop{Kind: kind, Txn: 2})
	}
	for kind := range int64(5) {
		h := []impl.Hop{hopBegin(2), {Kind: kind + 1, Txn: 2}}
		if kind == 0 {
			h = h[1:]
		}
		add(fmt.Sprint("Kind ", kind+1), impl.OK, h...)
	}
	for _, n := range []int64{math.MinInt64, -1, 0, 1, 2, 3, 998, 999, 1000, 1001, math.MaxInt64} {
		code := int64(impl.OK)
		if n < 2 || n > 999 {
			code = impl.ErrRange
		}
		add(fmt.Sprint("Txn ", n), code, hopBegin(n))
		for _, hop := range []impl.Hop{hopRead(n, 1, 1), hopWrite(n, 1), hopCommit(n), hopAbort(n)} {
			add(fmt.Sprintf("Txn %d of %+v", n, hop), code, hopBegin(n), hop)
			if code != impl.OK {
				add(fmt.Sprintf("Txn %d of %+v behind another begin", n, hop), code, hopBegin(2), hop)
			}
		}
		code = impl.OK
		if n < 0 || n > 999 {
			code = impl.ErrRange
		}
		add(fmt.Sprint("Of ", n), code, hopBegin(5), hopRead(5, 1, n))
	}
	for _, n := range []int64{math.MinInt64, -32, -1, 0, 1, 30, 31, 32, 33, 999, math.MaxInt64} {
		code := int64(impl.OK)
		if n < 0 || n > 31 {
			code = impl.ErrRange
		}
		add(fmt.Sprint("Key of a read ", n), code, hopBegin(5), hopRead(5, n, 0))
		add(fmt.Sprint("Key of a write ", n), code, hopBegin(5), hopWrite(5, n))
	}
	add("Of oneself", impl.OK, hopBegin(5), hopRead(5, 1, 5))
	add("Of one who never began", impl.OK, hopBegin(5), hopRead(5, 1, 77))
	return out
}

func formFaultsOfHistories() []faultyHistory {
	var out []faultyHistory
	add := func(name string, code int64, h ...impl.Hop) { out = append(out, faultyHistory{name, h, code}) }
	for _, n := range []int64{1, 2, 5, 31, 32, 500, 999, 1000, -1, math.MaxInt64, math.MinInt64} {
		of, key := int64(impl.ErrForm), int64(impl.ErrForm)
		if n < 0 || n > 999 {
			of = impl.ErrRange
		}
		if n < 0 || n > 31 {
			key = impl.ErrRange
		}
		add(fmt.Sprint("a write with Of ", n), of, hopBegin(5), impl.Hop{Kind: 3, Txn: 5, Key: 1, Of: n})
		add(fmt.Sprint("a write of key 0 with Of ", n), of, hopBegin(5), impl.Hop{Kind: 3, Txn: 5, Of: n})
		add(fmt.Sprint("a begin with Of ", n), of, impl.Hop{Kind: 1, Txn: 5, Of: n})
		add(fmt.Sprint("a begin with Key ", n), key, impl.Hop{Kind: 1, Txn: 5, Key: n})
		for _, kind := range []int64{4, 5} {
			add(fmt.Sprintf("an end %d with Of %d", kind, n), of, hopBegin(5), impl.Hop{Kind: kind, Txn: 5, Of: n})
			add(fmt.Sprintf("an end %d with Key %d", kind, n), key, hopBegin(5), impl.Hop{Kind: kind, Txn: 5, Key: n})
		}
	}
	for _, kind := range []int64{1, 4, 5} {
		add(fmt.Sprintf("Kind %d with Key and Of", kind), impl.ErrForm, hopBegin(2), impl.Hop{Kind: kind, Txn: 5, Key: 1, Of: 1})
	}
	return out
}

func stateFaultsOfHistories() []faultyHistory {
	var out []faultyHistory
	for _, c := range []struct {
		hops string
		code int64
	}{
		{"b2 b2", impl.ErrState}, {"b2 b3", impl.OK}, {"b2 b3 b2", impl.ErrState}, {"b2 r2.1.0 b2", impl.ErrState}, {"b2 w2.1 b2", impl.ErrState}, {"b2 c2 b2", impl.ErrState}, {"b2 a2 b2", impl.ErrState}, {"b3 b2", impl.OK}, {"b999 b2 b500", impl.OK},
		{"r2.1.0", impl.ErrState}, {"w2.1", impl.ErrState}, {"c2", impl.ErrState}, {"a2", impl.ErrState}, {"b3 r2.1.0", impl.ErrState}, {"b3 w2.1", impl.ErrState}, {"b3 c2", impl.ErrState}, {"b3 a2", impl.ErrState}, {"r2.1.0 b2", impl.ErrState}, {"w2.1 b2", impl.ErrState}, {"c2 b2", impl.ErrState}, {"a2 b2", impl.ErrState},
		{"b2 c2 r2.1.0", impl.ErrState}, {"b2 c2 w2.1", impl.ErrState}, {"b2 c2 c2", impl.ErrState}, {"b2 c2 a2", impl.ErrState}, {"b2 a2 r2.1.0", impl.ErrState}, {"b2 a2 w2.1", impl.ErrState}, {"b2 a2 c2", impl.ErrState}, {"b2 a2 a2", impl.ErrState},
		{"b2 r2.1.0 r2.1.0", impl.OK}, {"b2 w2.1 w2.1", impl.OK}, {"b2 r2.1.0 w2.1 r2.1.2 c2", impl.OK}, {"b2 w2.1 r2.1.2 a2", impl.OK}, {"b2 r2.1.0", impl.OK}, {"b2 c2", impl.OK}, {"b2 a2", impl.OK}, {"b2", impl.OK},
		{"b2 b3 c2 r3.1.0 w3.1 c3", impl.OK}, {"b2 b3 c3 r2.1.3 a2", impl.OK}, {"b2 c2 b3 c3", impl.OK}, {"b2 c2 b3 r2.1.0", impl.ErrState}, {"b2 b3 c2 c3 b4 w4.1 w3.1", impl.ErrState}, {"b2 b3 a2 w3.1 w2.1", impl.ErrState}, {"b2 c2 b3 c3 b2", impl.ErrState},
		{"b2 r2.1.3", impl.OK}, {"b2 b3 r2.1.3 c3", impl.OK}, {"b2 b3 a3 r2.1.3", impl.OK}, // who wrote it is not asked for
	} {
		out = append(out, faultyHistory{c.hops, hopsIn(c.hops), c.code})
	}
	return out
}

func twoFaultsOfHistories() []faultyHistory {
	noKind, noTxn, noKey, noOf := impl.Hop{Kind: 6, Txn: 2}, hopBegin(1), hopRead(2, 32, 0), hopRead(2, 1, 1000)
	form, state := impl.Hop{Kind: 3, Txn: 2, Of: 1}, hopBegin(2)
	b2 := []impl.Hop{hopBegin(2)}
	return []faultyHistory{
		{"no Kind, and a Key", hopsBehind(b2, impl.Hop{Kind: 6, Txn: 2, Key: 1}), impl.ErrRange}, {"no Kind, and an Of", hopsBehind(b2, impl.Hop{Kind: 0, Txn: 2, Of: 1}), impl.ErrRange}, {"no Kind, and no begin", []impl.Hop{noKind}, impl.ErrRange}, {"no Txn, and a Key", []impl.Hop{{Kind: 1, Txn: 1, Key: 1}}, impl.ErrRange}, {"no Txn, and no begin", []impl.Hop{hopCommit(1)}, impl.ErrRange}, {"no Key, and no begin", []impl.Hop{noKey}, impl.ErrRange}, {"no Of, and no begin", []impl.Hop{noOf}, impl.ErrRange}, {"no Key of a write with an Of", hopsBehind(b2, impl.Hop{Kind: 3, Txn: 2, Key: 32, Of: 1}), impl.ErrRange}, {"no Key of a second begin", hopsBehind(b2, impl.Hop{Kind: 1, Txn: 2, Key: -1}), impl.ErrRange}, {"no Key, and a begin with it", []impl.Hop{{Kind: 1, Txn: 2, Key: 32}}, impl.ErrRange}, {"no Of, and a commit with it", hopsBehind(b2, impl.Hop{Kind: 4, Txn: 2, Of: 1000}), impl.ErrRange},
		{"a form, and no begin", []impl.Hop{form}, impl.ErrForm}, {"a form of a second begin", hopsBehind(b2, impl.Hop{Kind: 1, Txn: 2, Key: 1}), impl.ErrForm}, {"a form behind the commit", hopsBehind(b2, hopCommit(2), impl.Hop{Kind: 5, Txn: 2, Of: 3}), impl.ErrForm}, {"a form behind the abort", hopsBehind(b2, hopAbort(2), form), impl.ErrForm},
		{"range, then form", hopsBehind(b2, noKind, form), impl.ErrRange}, {"range, then state", hopsBehind(b2, noKey, state), impl.ErrRange}, {"form, then range", hopsBehind(b2, form, noKind), impl.ErrForm}, {"form, then no Txn", hopsBehind(b2, form, noTxn), impl.ErrForm}, {"form, then state", hopsBehind(b2, form, state), impl.ErrForm}, {"state, then range", hopsBehind(b2, state, noOf), impl.ErrState}, {"state, then form", hopsBehind(b2, state, form), impl.ErrState}, {"no begin, then range", []impl.Hop{hopCommit(2), noTxn}, impl.ErrState}, {"no begin, then form", []impl.Hop{hopRead(2, 1, 1), form}, impl.ErrState}, {"behind the end, then range", hopsBehind(b2, hopAbort(2), hopWrite(2, 1), noKind), impl.ErrState}, {"form, then range far behind", hopsBehind(hopsBehind(b2, form), append(hopsInRow(300)[4:], noKind)...), impl.ErrForm},
	}
}

func historyFaults() []faultyHistory {
	return slices.Concat(countFaultsOfHistories(), numberFaultsOfHistories(), formFaultsOfHistories(), stateFaultsOfHistories(), twoFaultsOfHistories())
}

func TestHistoryFault(t *testing.T) {
	met := map[int64]int{}
	for _, f := range historyFaults() {
		if got, by := impl.HistoryFault(f.hops), historyFaultByHand(f.hops); got != f.code || by != f.code {
			t.Errorf("%s: HistoryFault = %d, by hand %d, want %d", f.name, got, by, f.code)
		}
		met[f.code]++
	}
	for _, code := range []int64{impl.OK, impl.ErrForm, impl.ErrMany, impl.ErrRange, impl.ErrState} {
		if met[code] < 5 {
			t.Errorf("code %d was met only %d times", code, met[code])
		}
	}
	if impl.HopBegin != 1 || impl.HopRead != 2 || impl.HopWrite != 3 || impl.HopCommit != 4 || impl.HopAbort != 5 {
		t.Error("a constant is not as told")
	}
}

// The fault comes ahead of a key out of its bounds, and of who overlaps whom.
func TestHistoryFaultComesFirst(t *testing.T) {
	for _, f := range historyFaults() {
		ended := append(hopsIn("b996 b997 c996 c997"), f.hops...)
		for _, h := range [][]impl.Hop{f.hops, ended} {
			code := historyFaultByHand(h)
			if code != f.code && len(h) <= mostHops {
				t.Errorf("%s: behind %d more the fault is %d by hand", f.name, len(h)-len(f.hops), code)
			}
			for _, key := range []int64{math.MinInt64, -1, 0, 1, 31, 32, math.MaxInt64} {
				want := code
				if code == impl.OK && (key < 0 || key > 31) {
					want = impl.ErrRange
				}
				wantCode(t, fmt.Sprintf("%s: WritersOf key %d", f.name, key), impl.WritersOf(h, key), want)
			}
			wantCode(t, f.name+": CommittedOf", impl.CommittedOf(h), code)
			wantCode(t, f.name+": TextOfHops", impl.TextOfHops(h), code)
			for _, pair := range [][2]int64{{996, 997}, {997, 996}, {2, 3}, {2, 2}, {0, 0}} {
				if got, want := impl.Overlap(h, pair[0], pair[1]), code == impl.OK && overlapByHand(h, pair[0], pair[1]); got != want {
					t.Errorf("%s: Overlap of %v = %v, want %v", f.name, pair, got, want)
				}
			}
		}
	}
	sound, faulty := hopsIn("b2 b3 w2.1 c2 c3"), hopsIn("b2 b3 w2.1 c2 c3 b2")
	if !impl.Overlap(sound, 2, 3) || impl.Overlap(faulty, 2, 3) || impl.Overlap(hopsIn("b2 b3 c2 c3 c3"), 3, 2) || impl.Overlap(append(sound, impl.Hop{}), 2, 3) {
		t.Error("a fault does not take the overlap away")
	}
}

// eachHistory tells of all histories of up to so many of the hops.
func eachHistory(hops []impl.Hop, most int, tell func(h []impl.Hop)) {
	var grow func(h []impl.Hop)
	grow = func(h []impl.Hop) {
		tell(h)
		if len(h) < most {
			for _, hop := range hops {
				grow(append(h, hop))
			}
		}
	}
	grow(make([]impl.Hop, 0, most))
}

func TestAllShortHistories(t *testing.T) {
	met, overlaps := map[int64]int{}, 0
	compare := func(h []impl.Hop) {
		code := historyFaultByHand(h)
		met[code]++
		key := int64(len(h) % 2)
		if got, want := tellHistory(h, key, 2, 3), tellHistoryByHand(h, key, 2, 3); got != want {
			t.Fatalf("of %v: %s, want %s", h, got, want)
		}
		if code == impl.OK && overlapByHand(h, 3, 2) {
			overlaps++
			if !impl.Overlap(h, 3, 2) || impl.Overlap(h, 2, 2) || impl.Overlap(h, 3, 4) != overlapByHand(h, 3, 4) {
				t.Fatalf("of %v: the overlap is not as told", h)
			}
		}
	}
	eachHistory(hopsIn("b2 r2.1.3 w2.1 c2 a2 b3 w3.1 c3"), 5, compare)
	eachHistory(hopsIn("b2 c2 b3 c3 b4 c4"), 6, compare)
	eachHistory([]impl.Hop{hopBegin(2), hopWrite(2, 0), hopCommit(2), {}, {Kind: 6, Txn: 2}, {Kind: 1, Txn: 2, Key: 1}, {Kind: 3, Txn: 2, Of: 2}, hopRead(2, 32, 0), hopRead(1, 1, 0)}, 4, compare)
	if met[impl.OK] < 300 || met[impl.ErrRange] < 1000 || met[impl.ErrForm] < 500 || met[impl.ErrState] < 10000 || overlaps < 20 {
		t.Errorf("codes %v, %d overlaps", met, overlaps)
	}
}

// thrownHopTurn: the history with one number, or the order, turned.
func thrownHopTurn(h []impl.Hop, d *dice) []impl.Hop {
	h = slices.Clone(h)
	if len(h) == 0 {
		return append(h, hopBegin(d.upTo(3)))
	}
	place, other := d.upTo(int64(len(h)-1)), d.upTo(int64(len(h)-1))
	hop := &h[place]
	switch d.upTo(9) {
	case 0:
		hop.Kind = d.upTo(6)
	case 1:
		hop.Txn = d.upTo(25)
	case 2:
		hop.Txn = []int64{1, 2, 999, 1000, -1}[d.upTo(4)]
	case 3:
		hop.Key = d.upTo(33) - 1
	case 4:
		hop.Of = []int64{-1, 0, 1, 2, 999, 1000}[d.upTo(5)]
	case 5:
		h[place], h[other] = h[other], h[place]
	case 6:
		h = slices.Delete(h, int(place), int(place)+1)
	case 7:
		h = slices.Insert(h, int(place), h[other])
	case 8:
		h = h[:place]
	case 9:
		h = append(h, h[other:]...)
	}
	return h
}

func TestHistoriesThatWereTurned(t *testing.T) {
	d := dice(112)
	met := map[int64]int{}
	histories := someHistories()
	for range 6000 {
		h := thrownHopTurn(histories[d.upTo(int64(len(histories)-1))], &d)
		for d.upTo(2) == 0 {
			h = thrownHopTurn(h, &d)
		}
		met[historyFaultByHand(h)]++
		key, a, b := d.upTo(34)-1, d.upTo(22), d.upTo(22)
		if got, want := tellHistory(h, key, a, b), tellHistoryByHand(h, key, a, b); got != want {
			t.Fatalf("of %v, key %d, %d and %d:\n%s, want\n%s", h, key, a, b, got, want)
		}
	}
	for _, code := range []int64{impl.OK, impl.ErrForm, impl.ErrMany, impl.ErrRange, impl.ErrState} {
		if met[code] < 30 {
			t.Errorf("code %d was met only %d times", code, met[code])
		}
	}
}

// someHistories: of runs, and ones that no run has.
func someHistories() [][]impl.Hop {
	d := dice(113)
	out := [][]impl.Hop{nil, hopsInRow(1), hopsInRow(40), hopsInRow(398), hopsInRow(400)}
	for run := range 60 {
		cells, acts := thrownScans(run, &d)
		if got := runHistoryByHand(cells, acts); got.Code == impl.OK {
			out = append(out, got.History)
		}
	}
	for _, f := range stateFaultsOfHistories() {
		if f.code == impl.OK {
			out = append(out, f.hops)
		}
	}
	return out
}

func TestWritersAndCommittedAsTold(t *testing.T) {
	for _, c := range []struct {
		hops      string
		committed []int64
		writers   []int64 // of key 1
	}{
		{"", nil, nil}, {"b2", nil, nil}, {"b2 w2.1", nil, nil}, {"b2 w2.1 c2", numbersOf(2), numbersOf(2)}, {"b2 w2.1 a2", nil, nil}, {"b2 c2", numbersOf(2), nil}, {"b2 r2.1.1 c2", numbersOf(2), nil}, {"b2 r2.1.2 w2.2 c2", numbersOf(2), nil},
		{"b2 w2.1 w2.1 c2", numbersOf(2), numbersOf(2)}, {"b2 w2.1 w2.2 w2.1 r2.1.2 w2.1 c2", numbersOf(2), numbersOf(2)}, {"b2 w2.1 w2.1 a2", nil, nil}, {"b2 w2.1 w2.1", nil, nil},
		{"b2 b3 w2.1 w3.1 c2 c3", numbersOf(2, 3), numbersOf(2, 3)}, {"b2 b3 w2.1 w3.1 c3 c2", numbersOf(3, 2), numbersOf(3, 2)}, {"b3 b2 w3.1 w2.1 c2 c3", numbersOf(2, 3), numbersOf(2, 3)}, {"b3 b2 w2.1 w3.1 c3 c2", numbersOf(3, 2), numbersOf(3, 2)}, {"b3 w3.1 c3 b2 w2.1 c2", numbersOf(3, 2), numbersOf(3, 2)},
		{"b2 b3 b4 w2.1 w3.1 w4.1 c4 a3 c2", numbersOf(4, 2), numbersOf(4, 2)}, {"b2 b3 b4 w4.1 w3.2 w2.1 c3 c4 c2", numbersOf(3, 4, 2), numbersOf(4, 2)}, {"b2 b3 b4 b5 w5.1 w3.1 r2.1.5 c5 c2 a4 c3", numbersOf(5, 2, 3), numbersOf(5, 3)}, {"b2 b3 w2.1 w3.1 c3", numbersOf(3), numbersOf(3)}, {"b2 b3 w2.1 c3 a2", numbersOf(3), nil},
		{"b999 b2 w999.1 w2.1 c999 c2", numbersOf(999, 2), numbersOf(999, 2)}, {"b2 w2.0 w2.2 w2.11 w2.31 c2", numbersOf(2), nil}, {"b21 w21.1 c21 b2 c2 b12 w12.1 c12", numbersOf(21, 2, 12), numbersOf(21, 12)},
	} {
		h := hopsIn(c.hops)
		if got := impl.CommittedOf(h); told(got) != told(impl.IntsResult{List: c.committed}) {
			t.Errorf("%s: CommittedOf = %+v, want %v", c.hops, got, c.committed)
		}
		if got := impl.WritersOf(h, 1); told(got) != told(impl.IntsResult{List: c.writers}) {
			t.Errorf("%s: WritersOf = %+v, want %v", c.hops, got, c.writers)
		}
	}
}

// Each key has its own writers, those at the bounds, too.
func TestWritersOfEachKey(t *testing.T) {
	var h []impl.Hop
	for key := range int64(mostRows) {
		h = append(h, hopBegin(key+100), hopWrite(key+100, key), hopRead(key+100, (key+1)%32, key+100))
	}
	for key := range int64(mostRows) {
		h = append(h, hopCommit(131-key))
	}
	h = append(h, hopsIn("b900 w900.0 w900.31 c900 b901 w901.0 w901.31 a901")...)
	for key := int64(-3); key < 36; key++ {
		want := impl.IntsResult{List: numbersOf(key + 100)}
		switch {
		case key < 0 || key > 31:
			want = impl.IntsResult{Code: impl.ErrRange}
		case key == 0 || key == 31:
			want.List = append(want.List, 900)
		}
		if got := impl.WritersOf(h, key); told(got) != told(want) {
			t.Errorf("WritersOf key %d = %+v, want %+v", key, got, want)
		}
		if key < 0 || key > 31 {
			wantCode(t, fmt.Sprint("of nothing, key ", key), impl.WritersOf(nil, key), impl.ErrRange)
			wantCode(t, fmt.Sprint("of a fault, key ", key), impl.WritersOf(hopsIn("b2 b2"), key), impl.ErrState)
			wantCode(t, fmt.Sprint("of a form, key ", key), impl.WritersOf([]impl.Hop{{Kind: 1, Txn: 2, Of: 1}}, key), impl.ErrForm)
			wantCode(t, fmt.Sprint("of too many, key ", key), impl.WritersOf(hopsInRow(401), key), impl.ErrMany)
		}
	}
}

func TestOverlapAsTold(t *testing.T) {
	for _, c := range []struct {
		hops string
		a, b int64
		so   bool
	}{
		{"b2 b3 c2 c3", 2, 3, true}, {"b2 b3 c3 c2", 2, 3, true}, {"b3 b2 c2 c3", 2, 3, true}, {"b3 b2 c3 c2", 2, 3, true}, {"b2 c2 b3 c3", 2, 3, false}, {"b3 c3 b2 c2", 2, 3, false},
		{"b2 w2.1 b3 c2 w3.2 c3", 2, 3, true}, {"b2 w2.1 c2 b3 w3.2 c3", 2, 3, false}, {"b2 w2.1 r2.1.2 b3 r3.1.0 c2 c3", 2, 3, true}, {"b2 b4 c2 b3 c3 c4", 2, 3, false}, {"b2 b4 c2 b3 c3 c4", 2, 4, true}, {"b2 b4 c2 b3 c3 c4", 3, 4, true},
		{"b2 b3 c2", 2, 3, false}, {"b2 b3 c3", 2, 3, false}, {"b2 b3", 2, 3, false}, {"b2 b3 c2 a3", 2, 3, false}, {"b2 b3 a2 c3", 2, 3, false}, {"b2 b3 a2 a3", 2, 3, false}, {"b2 b3 a3 c2", 2, 3, false}, {"b2 a2 b3 c3", 2, 3, false}, {"b2 c2 b3", 2, 3, false}, {"b2 b3 w2.1 w3.2 c2 r3.1.1", 2, 3, false},
		{"b2 c2", 2, 2, false}, {"b2 b3 c2 c3", 2, 2, false}, {"b2 b3 c2 c3", 3, 3, false}, {"b2 b3 c2 c3", 2, 4, false}, {"b2 b3 c2 c3", 0, 2, false}, {"b2 b3 c2 c3", 2, 1, false}, {"b2 b3 c2 c3", 2, -2, false}, {"b2 b3 c2 c3", math.MinInt64, math.MaxInt64, false}, {"b2 b3 c2 c3", 0, 0, false}, {"b2 b3 c2 c3", 1000, 2, false}, {"b2 b3 c2 c3", 7, 8, false}, {"", 2, 3, false}, {"", 0, 0, false},
		{"b999 b2 c2 c999", 999, 2, true}, {"b999 c999 b2 c2", 999, 2, false}, {"b2 b3 c2 b4 c3 b5 c4 c5", 2, 3, true}, {"b2 b3 c2 b4 c3 b5 c4 c5", 2, 4, false}, {"b2 b3 c2 b4 c3 b5 c4 c5", 3, 4, true}, {"b2 b3 c2 b4 c3 b5 c4 c5", 3, 5, false}, {"b2 b3 c2 b4 c3 b5 c4 c5", 4, 5, true}, {"b2 b3 c2 b4 c3 b5 c4 c5", 2, 5, false},
		{"b2 b3 c2 c3 b2", 2, 3, false}, {"b2 b3 c2 c3 w3.1", 2, 3, false}, {"c2 b2 b3 c3", 2, 3, false}, {"b2 b3 c2 c3 b1", 2, 3, false}, {"b2 b3 r2.32.0 c2 c3", 2, 3, false}, {"b2 b3.1 c2 c3", 2, 3, false},
	} {
		h := hopsIn(c.hops)
		if one, two := impl.Overlap(h, c.a, c.b), impl.Overlap(h, c.b, c.a); one != c.so || two != c.so {
			t.Errorf("%s: Overlap of %d and %d = %v, the other way %v, want %v", c.hops, c.a, c.b, one, two, c.so)
		}
	}
	full := hopsBehind(hopsIn("b997 b998"), append(hopsInRow(396), hopsIn("c998 c997")...)...)
	if !impl.Overlap(full, 997, 998) || !impl.Overlap(full, 998, 2) || impl.Overlap(append(full, hopBegin(900)), 997, 998) {
		t.Error("400 hops are not told from 401")
	}
}

func TestTextOfHopsAsTold(t *testing.T) {
	for hops, want := range map[string]string{
		"": "", "b2": "b2\n", "b9": "b9\n", "b10": "b10\n", "b100": "b100\n", "b999": "b999\n", "b2 c2": "b2\nc2\n", "b2 a2": "b2\na2\n", "b100 c100": "b100\nc100\n", "b999 a999": "b999\na999\n",
		"b2 w2.0": "b2\nw2 0\n", "b2 w2.5": "b2\nw2 5\n", "b2 w2.31": "b2\nw2 31\n", "b123 w123.10": "b123\nw123 10\n", "b2 r2.0.0": "b2\nr2 0:0\n", "b2 r2.5.0": "b2\nr2 5:0\n", "b2 r2.5.1": "b2\nr2 5:1\n", "b2 r2.5.2": "b2\nr2 5:2\n", "b2 r2.31.999": "b2\nr2 31:999\n", "b999 r999.31.100": "b999\nr999 31:100\n", "b12 r12.0.34": "b12\nr12 0:34\n",
		"b2 w2.1 r2.1.2 c2 b3 r3.1.2 a3": "b2\nw2 1\nr2 1:2\nc2\nb3\nr3 1:2\na3\n", "b3 b2 c3 a2": "b3\nb2\nc3\na2\n", "b2 r2.1.0 r2.1.0": "b2\nr2 1:0\nr2 1:0\n",
	} {
		if got := impl.TextOfHops(hopsIn(hops)); got != (impl.TextResult{Text: want}) {
			t.Errorf("%s: TextOfHops = %+v, want %q", hops, got, want)
		}
	}
	for _, f := range historyFaults() {
		want := impl.TextResult{Code: f.code}
		if f.code == impl.OK {
			want.Text = hopsTextByHand(f.hops)
		}
		if got := impl.TextOfHops(f.hops); got != want {
			t.Errorf("%s: TextOfHops = %+v, want %+v", f.name, got, want)
		}
	}
	if got := impl.TextOfHops(hopsInRow(400)); strings.Count(got.Text, "\n") != 400 || !strings.HasPrefix(got.Text, "b2\nr2 1:1\nw2 2\nc2\nb3\n") || !strings.HasSuffix(got.Text, "\nb101\nr101 13:397\nw101 14\nc101\n") {
		t.Errorf("of 400 hops: %+v", got)
	}
}

// The examples that the document tells, and such as its stages ask for.
func TestExamplesOfHistories(t *testing.T) {
	wantHops(t, "two want one key", nil, lines(begun(2), begun(3), puts(2, 1, 5), refuses(actPut(3, 1, 6), impl.ErrConflict)), "b2 b3 w2.1")
	wantHops(t, "each reads what the other writes", cellList(1, 10, 2, 20), lines(begun(2), begun(3), reads(2, 1, 10), reads(3, 2, 20), puts(2, 2, 21), puts(3, 1, 11), commits(2, 2), commits(3, 3)), "b2 b3 r2.1.1 r3.2.1 w2.2 w3.1 c2 c3")
	wantHops(t, "begin, put, get", nil, lines(begun(2), puts(2, 1, 5), reads(2, 1, 5)), "b2 w2.1 r2.1.2")
	wantHops(t, "one who wrote nothing", firstCells(), lines(begun(2), commits(2, 0), begun(3), aborts(3)), "b2 c2 b3 a3")
}

// historiesToAsk: sound ones, and ones that have a fault.
func historiesToAsk() [][]impl.Hop {
	out := someHistories()
	for _, f := range historyFaults() {
		out = append(out, f.hops)
	}
	return out
}

func TestHistoryArgumentsStay(t *testing.T) {
	for n, h := range historiesToAsk() {
		with := roomy(h)
		before := slices.Clone(wholeRoom(with))
		for _, key := range []int64{-1, 0, 1, 31, 32} {
			tellHistory(with, key, key, 2)
		}
		if !slices.Equal(wholeRoom(with), before) || !slices.Equal(with, h) {
			t.Fatalf("history %d was changed from %v to %v", n, h, with)
		}
		whole := slices.Concat(h, []impl.Hop{hopBegin(999), hopCommit(999)})
		piece := whole[:len(h)]
		if got, want := tellHistory(piece, 1, 2, 3), tellHistory(h, 1, 2, 3); got != want || !slices.Equal(whole[len(h):], hopsIn("b999 c999")) {
			t.Fatalf("history %d as a piece: %s, want %s", n, got, want)
		}
	}
	d := dice(114)
	for run := range 80 {
		cells, acts := thrownScans(run, &d)
		cellRoom, actRoom := roomy(cells), roomy(acts)
		wereCells, wereActs := slices.Clone(wholeRoom(cellRoom)), slices.Clone(wholeRoom(actRoom))
		got := impl.RunHistory(cellRoom, actRoom)
		if !slices.Equal(wholeRoom(cellRoom), wereCells) || !slices.Equal(wholeRoom(actRoom), wereActs) {
			t.Fatalf("run %d: an argument was changed", run)
		}
		spoil(cellRoom, impl.Cell{Key: -5})
		spoil(actRoom, impl.Act{Kind: -5})
		if told(got) != told(runHistoryByHand(cells, acts)) {
			t.Fatalf("run %d: the history hangs on what the arguments became", run)
		}
	}
}

func TestHistoryAnswersAreNewMemory(t *testing.T) {
	for n, h := range someHistories() {
		with := roomy(h)
		before := slices.Clone(wholeRoom(with))
		ask := func() [][]int64 {
			return [][]int64{impl.CommittedOf(with).List, impl.WritersOf(with, 1).List, impl.WritersOf(with, 0).List, impl.CommittedOf(with).List, impl.WritersOf(with, 1).List}
		}
		spoilt, other := ask(), ask()
		text := impl.TextOfHops(with)
		want := told(other)
		wantOwnNumbers(t, fmt.Sprint("history ", n), spoilt)
		if told(other) != want || !slices.Equal(wholeRoom(with), before) {
			t.Fatalf("history %d: an answer shares memory with another one, or with its argument", n)
		}
		spoil(with, impl.Hop{Kind: -5})
		if told(other) != want || text.Text != hopsTextByHand(h) {
			t.Fatalf("history %d: an answer hangs on what its argument became", n)
		}
	}
	d := dice(115)
	for run := range 40 {
		cells, acts := thrownScans(run, &d)
		one, two := impl.RunHistory(cells, acts), impl.RunHistory(cells, acts)
		spoil(one.History, impl.Hop{Kind: -5})
		if want := runHistoryByHand(cells, acts); told(two) != told(want) || told(impl.RunHistory(cells, acts)) != told(want) {
			t.Fatalf("run %d: two histories share memory", run)
		}
	}
}

func TestNilAndEmptyListsOfHistoriesAreAlike(t *testing.T) {
	for _, key := range []int64{-1, 0, 31, 32} {
		if one, two := tellHistory(nil, key, 2, 3), tellHistory([]impl.Hop{}, key, 2, 3); one != two || one != tellHistoryByHand(nil, key, 2, 3) {
			t.Errorf("key %d: with nil %s, with an empty list %s", key, one, two)
		}
	}
	acts := []impl.Act{actBegin(), actScan(2), actGet(2, 1)}
	for n, pair := range [][2]impl.HistoryResult{
		{impl.RunHistory(nil, acts), impl.RunHistory([]impl.Cell{}, acts)}, {impl.RunHistory(firstCells(), nil), impl.RunHistory(firstCells(), []impl.Act{})}, {impl.RunHistory(nil, nil), impl.RunHistory([]impl.Cell{}, []impl.Act{})},
	} {
		if told(pair[0]) != told(pair[1]) || pair[0].Code != impl.OK {
			t.Errorf("%d: with nil %+v, with an empty list %+v", n, pair[0], pair[1])
		}
	}
}

func TestHistoriesKeepNothing(t *testing.T) {
	wantSameAgain(t, historiesToAsk(), func(h []impl.Hop) string { return tellHistory(h, 1, 2, 3) })
	d := dice(116)
	var talks [][]impl.Act
	for run := range 60 {
		_, acts := thrownScans(run, &d)
		talks = append(talks, acts)
	}
	wantSameAgain(t, talks, func(acts []impl.Act) string {
		return told([]any{impl.RunHistory(firstCells(), acts), impl.RunHistory(nil, acts), impl.RunEngine(firstCells(), acts)})
	})
}

func TestHistoriesNeverPanic(t *testing.T) {
	numbers := []int64{math.MinInt64, -1, 0, 1, 2, 3, 4, 5, 6, 7, 31, 32, 999, 1000, 9999, 10000, math.MaxInt64}
	d := dice(117)
	pick := func() int64 { return numbers[d.upTo(int64(len(numbers)-1))] }
	histories := someHistories()
	for range 4000 {
		h := thrownHopTurn(histories[d.upTo(int64(len(histories)-1))], &d)
		if d.upTo(2) == 0 {
			h = append(h, impl.Hop{Kind: pick(), Txn: pick(), Key: pick(), Of: pick()})
		}
		key, a, b := pick(), pick(), pick()
		act := impl.Act{Kind: pick(), Txn: pick(), Key: pick(), Value: pick()}
		acts := []impl.Act{actBegin(), act, {Kind: 1 + d.upTo(6), Txn: 2, Key: pick(), Value: pick()}, act, actScan(2)}
		cells := cellList(pick(), pick())
		mustPanicNever(t, told([]any{h, key, a, b, acts, cells}), func() {
			if got, want := tellHistory(h, key, a, b), tellHistoryByHand(h, key, a, b); got != want {
				t.Fatalf("of %v, key %d, %d and %d:\n%s, want\n%s", h, key, a, b, got, want)
			}
			for _, with := range [][]impl.Cell{cells, nil} {
				if got, want := impl.RunHistory(with, acts), runHistoryByHand(with, acts); told(got) != told(want) {
					t.Fatalf("RunHistory of %+v and %+v = %+v, want %+v", with, acts, got, want)
				}
			}
		})
	}
}
