package tests

import (
	"fmt"
	"maps"
	"math"
	"slices"
	"testing"

	"loop.example/g00216/impl"
)

func floorByHand(e impl.Engine) int64 {
	ats := []int64{}
	for _, txn := range e.Txns {
		if txn.State == 1 {
			ats = append(ats, txn.At)
		}
	}
	if len(ats) == 0 {
		return e.Clock
	}
	slices.Sort(ats)
	return ats[0]
}

func countByHand(e impl.Engine) int64 {
	count := int64(0)
	for _, row := range e.Rows {
		for range row.Chain {
			count++
		}
	}
	return count
}

func purgeEngineByHand(e impl.Engine) impl.EngineResult {
	out := impl.Engine{Next: e.Next, Clock: e.Clock}
	for _, txn := range copyEngine(e).Txns {
		if txn.State == 1 {
			out.Txns = append(out.Txns, txn)
		}
	}
	chains := map[int64][]impl.Version{}
	for _, row := range e.Rows {
		chains[row.Key] = purgeByHand(row.Chain, floorByHand(e))
	}
	out.Rows = rowsByHand(chains)
	return impl.EngineResult{Value: countByHand(e) - countByHand(out), Engine: out}
}

func garbageByHand(e impl.Engine) impl.GarbageResult {
	left := purgeEngineByHand(e)
	return impl.GarbageResult{Versions: left.Value, Rows: int64(len(e.Rows) - len(left.Engine.Rows)), Txns: int64(len(e.Txns) - len(left.Engine.Txns))}
}

// mayWritesByHand: the keys that an open transaction may write.
func mayWritesByHand(e impl.Engine, id int64) []int64 {
	place, _ := txnByHand(e, id)
	chains := chainsByHand(e)
	var out []int64
	for key := range int64(mostRows) {
		if mayWriteByHand(chains[key], impl.View{At: e.Txns[place].At, Own: id}) == impl.OK {
			out = append(out, key)
		}
	}
	return out
}

func sameAnswersByHand(a, b impl.Engine) bool {
	if engineFaultByHand(a) != impl.OK || engineFaultByHand(b) != impl.OK {
		return false
	}
	tell := func(e impl.Engine) string {
		out := []any{e.Clock, e.Next}
		for _, id := range openByHand(e).List {
			out = append(out, id, scanByHand(e, id, 0, lastKey), mayWritesByHand(e, id))
		}
		return told(out)
	}
	return tell(a) == tell(b)
}

func historyByHand(e impl.Engine, key int64) impl.ChainResult {
	if key < 0 || key > lastKey {
		return impl.ChainResult{Code: impl.ErrRange}
	}
	return impl.ChainResult{Chain: chainsByHand(e)[key]}
}

func textByHand(e impl.Engine) string {
	out := fmt.Sprintf("clock %d %d\n", e.Clock, e.Next)
	for _, txn := range e.Txns {
		out += fmt.Sprintf("txn %d %d %d %d %d\n", txn.Id, txn.At, txn.State, txn.Done, len(txn.Undos))
	}
	for _, row := range e.Rows {
		out += fmt.Sprintf("row %d", row.Key)
		for _, v := range row.Chain {
			out += fmt.Sprintf(" %d:%d", v.Txn, v.At)
			if v.Gone {
				out += "-"
			} else {
				out += fmt.Sprintf("=%d", v.Value)
			}
		}
		out += "\n"
	}
	return out
}

// tellPurge asks all functions of the chapter.
func tellPurge(e, other impl.Engine, key int64) string {
	return told([]any{impl.FloorOf(e), impl.PurgeEngine(e), impl.GarbageOf(e), impl.SameAnswers(e, other), impl.SameAnswers(other, e), impl.HistoryOf(e, key), impl.TextOf(e)})
}

func tellPurgeByHand(e, other impl.Engine, key int64) string {
	if code := engineFaultByHand(e); code != impl.OK {
		return told([]any{impl.IntResult{Code: code}, impl.EngineResult{Code: code}, impl.GarbageResult{Code: code}, false, false, impl.ChainResult{Code: code}, impl.TextResult{Code: code}})
	}
	same := sameAnswersByHand(e, other)
	return told([]any{impl.IntResult{Value: floorByHand(e)}, purgeEngineByHand(e), garbageByHand(e), same, same, historyByHand(e, key), impl.TextResult{Text: textByHand(e)}})
}

func TestPurgesAsByHand(t *testing.T) {
	engines := someEngines()
	keys := []int64{3, 0, 31, 4, -1, 32, 8, 2, math.MinInt64, math.MaxInt64}
	for n, e := range engines {
		for i, other := range []impl.Engine{e, engines[(n+1)%len(engines)], impl.BeginTxn(e).Engine, purgeEngineByHand(e).Engine} {
			key := keys[(n+3*i)%len(keys)]
			if got, want := tellPurge(e, other, key), tellPurgeByHand(e, other, key); got != want {
				t.Fatalf("engine %d, key %d: of %+v and %+v\n%s, want\n%s", n, key, e, other, got, want)
			}
		}
	}
}

func TestPurgesOfTurnedEngines(t *testing.T) {
	d := dice(70)
	engines := append(someEngines(), slices.Repeat([]impl.Engine{baseEngine()}, 200)...)
	met, same := map[int64]int{}, map[bool]int{}
	for range 5000 {
		e := engines[d.upTo(int64(len(engines)-1))]
		turned := thrownEngineTurn(e, &d)
		for d.upTo(2) == 0 {
			turned = thrownEngineTurn(turned, &d)
		}
		code := engineFaultByHand(turned)
		met[code]++
		if code == impl.OK {
			same[sameAnswersByHand(e, turned)]++
		}
		key := d.upTo(34) - 1
		if got, want := tellPurge(turned, e, key), tellPurgeByHand(turned, e, key); got != want {
			t.Fatalf("key %d of %+v, turned from %+v:\n%s, want\n%s", key, turned, e, got, want)
		}
	}
	for _, code := range []int64{impl.OK, impl.ErrForm, impl.ErrMany, impl.ErrRange} {
		if met[code] < 20 {
			t.Errorf("code %d was met only %d times", code, met[code])
		}
	}
	if same[true] < 200 || same[false] < 200 {
		t.Errorf("of sound ones that were turned so many had the same answers: %v", same)
	}
}

// eachPurgedRun does one thing after the other to an engine that is purged now and then and to one that never is, and tells of both behind each step that was done.
func eachPurgedRun(t *testing.T, seed dice, runs int, tell func(run int, plain, purged impl.Engine)) {
	d := seed
	for run := range runs {
		keys := []int64{2, 3, 5, 8, 32}[run%5]
		plain := newEngine(cellsFrom(0, 1, []int64{0, 1, 2, 4, 20}[d.upTo(4)], 50)...)
		if d.upTo(5) == 0 {
			plain.Clock = topAt - d.upTo(9)
		}
		purged := copyEngine(plain)
		for range 30 + d.upTo(60) {
			if d.upTo(4) == 0 {
				purged = impl.PurgeEngine(purged).Engine
			}
			s := thrownStep(plain, &d, keys)
			if _, code := txnByHand(plain, s.txn); s.kind != stepBegin && code == impl.ErrState {
				continue // it has ended, and may be purged: that alone may be told
			}
			one, two := doStep(plain, s), doStep(purged, s)
			if one.Code == impl.ErrMany {
				break // there is no room where nothing goes
			}
			if one.Code != two.Code || one.Value != two.Value {
				t.Fatalf("run %d: %+v is answered %+v, and purged %+v", run, s, one, two)
			}
			if one.Code == impl.OK {
				plain, purged = one.Engine, two.Engine
				tell(run, plain, purged)
			}
		}
	}
}

// purgedOf: the engine purged, asked for all that is promised of it.
func purgedOf(t *testing.T, name string, e impl.Engine) impl.Engine {
	t.Helper()
	purged := impl.PurgeEngine(e)
	if want := purgeEngineByHand(e); told(purged) != told(want) {
		t.Fatalf("%s: PurgeEngine(%+v) = %+v, want %+v", name, e, purged, want)
	}
	left := purged.Engine
	if fault := impl.EngineFault(left); fault != impl.OK {
		t.Fatalf("%s: purged of %+v has the fault %d", name, e, fault)
	}
	if !impl.SameAnswers(e, left) || !impl.SameAnswers(left, e) || impl.FloorOf(e) != impl.FloorOf(left) {
		t.Fatalf("%s: %+v and purged %+v do not answer the same", name, e, left)
	}
	want := impl.GarbageResult{Versions: countByHand(e) - countByHand(left), Rows: int64(len(e.Rows) - len(left.Rows)), Txns: int64(len(e.Txns) - len(left.Txns))}
	if got := impl.GarbageOf(e); got != want || purged.Value != want.Versions {
		t.Fatalf("%s: GarbageOf(%+v) = %+v, and %+v went", name, e, got, want)
	}
	if again := impl.PurgeEngine(left); again.Code != impl.OK || again.Value != 0 || !sameEngine(again.Engine, left) {
		t.Fatalf("%s: purged again of %+v is %+v", name, left, again)
	}
	if got := impl.GarbageOf(left); got != (impl.GarbageResult{}) {
		t.Fatalf("%s: in purged %+v there is still %+v", name, left, got)
	}
	return left
}

// wantSameSeen: each open transaction reads and scans the same of both engines, and may write the same keys.
func wantSameSeen(t *testing.T, name string, a, b impl.Engine) {
	t.Helper()
	open := impl.OpenTxns(a).List
	if !slices.Equal(open, impl.OpenTxns(b).List) {
		t.Fatalf("%s: not the same are open in %+v and %+v", name, a, b)
	}
	for _, id := range open {
		if one, two := impl.ScanKeys(a, id, 0, lastKey), impl.ScanKeys(b, id, 0, lastKey); told(one) != told(two) {
			t.Fatalf("%s: %d scans %+v in %+v and %+v in %+v", name, id, one, a, two, b)
		}
		for key := range int64(mostRows) {
			if one, two := impl.ReadKey(a, id, key), impl.ReadKey(b, id, key); one != two {
				t.Fatalf("%s: %d reads of key %d %+v in %+v and %+v in %+v", name, id, key, one, a, two, b)
			}
			one, two := impl.PutKey(a, id, key, 7).Code == impl.ErrConflict, impl.PutKey(b, id, key, 7).Code == impl.ErrConflict
			if one != two {
				t.Fatalf("%s: %d is told a conflict at key %d in one alone of %+v and %+v", name, id, key, a, b)
			}
		}
	}
}

// Nobody can tell whether an engine was purged: right behind it, and behind many more steps that are done to both.
func TestNobodyCanTellOfAPurge(t *testing.T) {
	steps, went := 0, impl.GarbageResult{}
	eachPurgedRun(t, 71, 120, func(run int, plain, purged impl.Engine) {
		name := fmt.Sprintf("run %d", run)
		if fault := impl.EngineFault(purged); fault != impl.OK {
			t.Fatalf("%s: %+v has the fault %d", name, purged, fault)
		}
		if !impl.SameAnswers(plain, purged) || !impl.SameAnswers(purged, plain) {
			t.Fatalf("%s: %+v and %+v do not answer the same", name, plain, purged)
		}
		garbage := impl.GarbageOf(plain)
		went.Versions, went.Rows, went.Txns = went.Versions+garbage.Versions, went.Rows+garbage.Rows, went.Txns+garbage.Txns
		left := purgedOf(t, name, plain)
		if steps++; steps%7 == 0 {
			wantSameSeen(t, name, plain, left)
			wantSameSeen(t, name, plain, purged)
		}
		if end := purgedOf(t, name, purged); !sameEngine(end, left) {
			t.Fatalf("%s: purged all along, and then, there is %+v, and purged once %+v", name, end, left)
		}
	})
	if steps < 2000 || went.Versions < 1000 || went.Rows < 100 || went.Txns < 1000 {
		t.Errorf("only %d steps, and only so much went: %+v", steps, went)
	}
}

// forget: copies know no more of ended transactions, and of as many versions as a purge left.
func (c *copied) forget(e impl.Engine) {
	maps.DeleteFunc(c.txns, func(id int64, txn *copiedTxn) bool { return txn.state != impl.StateOpen })
	c.turns = map[int64]int{}
	for _, row := range e.Rows {
		for _, v := range row.Chain {
			c.turns[row.Key] += int(min(v.At, 1))
		}
	}
}

// An engine that is purged again and again goes on for longer than there is room without, has no fault, and replies what copies reply.
func TestRunsWithPurges(t *testing.T) {
	d := dice(73)
	purges, begins, rooms := 0, int64(0), 0
	for run := range 25 {
		keys := []int64{1, 2, 3, 5, 32}[run%5]
		cells := cellsFrom(0, 1, d.upTo(keys%21), 50)
		e := newEngine(cells...)
		c := copiedOf(e, cells)
		for range 250 {
			if d.upTo(5+4*int64(run)) == 0 { // seldom enough in the end that there is no room at times
				e = purgedOf(t, fmt.Sprint("run ", run), e)
				c.forget(e)
				checkCopied(t, run, e, c)
				purges++
			}
			s := thrownStep(e, &d, keys)
			answer, want := doStep(e, s), doStepByHand(e, s)
			if code, value := c.do(s); told(answer) != told(want) || answer.Code != code || answer.Value != value {
				t.Fatalf("run %d: %+v of %+v: %+v, by hand %+v, with copies %d and %d", run, s, e, answer, want, code, value)
			}
			if answer.Code == impl.OK {
				e = answer.Engine
				begins = max(begins, e.Next)
			}
			if answer.Code == impl.ErrMany {
				rooms++
			}
			if fault := impl.EngineFault(e); fault != impl.OK {
				t.Fatalf("run %d: %+v has the fault %d", run, e, fault)
			}
		}
	}
	if purges < 150 || begins < 3*mostTxns || rooms < 20 {
		t.Errorf("only %d purges, at most %d began, and %d times there was no room", purges, begins, rooms)
	}
}

func TestPurgesOfSomeEngines(t *testing.T) {
	for n, e := range someEngines() {
		left := purgedOf(t, fmt.Sprint("engine ", n), e)
		if n%4 == 0 {
			wantSameSeen(t, fmt.Sprint("engine ", n), e, left)
		}
	}
}

func TestFloorAsTold(t *testing.T) {
	for _, c := range []struct {
		name  string
		clock int64
		txns  []impl.Txn
		floor int64
	}{
		{"nothing", 0, nil, 0}, {"none, a clock", 7, nil, 7}, {"none, the last clock", topAt, nil, topAt},
		{"one at 0", 7, []impl.Txn{openAt(2, 0)}, 0}, {"one", 7, []impl.Txn{openAt(2, 4)}, 4}, {"one at Clock", 7, []impl.Txn{openAt(2, 7)}, 7}, {"one at the last clock", topAt, []impl.Txn{openAt(2, topAt)}, topAt},
		{"the first is the least", 7, []impl.Txn{openAt(2, 3), openAt(3, 4), openAt(4, 5)}, 3},
		{"the second is the least", 7, []impl.Txn{openAt(2, 4), openAt(3, 3), openAt(4, 5)}, 3},
		{"the last is the least", 7, []impl.Txn{openAt(2, 5), openAt(3, 4), openAt(4, 3)}, 3},
		{"the last is at 0", 7, []impl.Txn{openAt(2, 5), openAt(3, 4), openAt(4, 0)}, 0}, {"two are the least", 7, []impl.Txn{openAt(2, 4), openAt(3, 4), openAt(4, 5)}, 4},
		{"all have ended", 7, []impl.Txn{doneAt(2, 1, 3), abortedAt(3, 2), doneAt(4, 3, 0)}, 7},
		{"one that is done is below", 7, []impl.Txn{doneAt(2, 1, 3), openAt(3, 4)}, 4}, {"one that is aborted is below", 7, []impl.Txn{openAt(3, 4), abortedAt(4, 0)}, 4}, {"one that wrote nothing and is done is below", 7, []impl.Txn{openAt(3, 6), doneAt(4, 2, 0)}, 6},
		{"ended ones above and below", 9, []impl.Txn{doneAt(2, 0, 1), openAt(3, 8), abortedAt(4, 9), openAt(5, 6), doneAt(6, 5, 9)}, 6},
	} {
		e := impl.Engine{Next: 9, Clock: c.clock, Txns: c.txns}
		if got := impl.FloorOf(e); got != (impl.IntResult{Value: c.floor}) {
			t.Errorf("%s: FloorOf = %+v, want %d", c.name, got, c.floor)
		}
		e.Rows = []impl.Row{rowOf(3, done(1, max(c.clock, 1), 5))} // rows do not count
		if c.clock > 0 && impl.FloorOf(e) != (impl.IntResult{Value: c.floor}) {
			t.Errorf("%s: with a row FloorOf = %+v, want %d", c.name, impl.FloorOf(e), c.floor)
		}
	}
}

// The floor is 5: one began at it, one just above it, and the clock is at 9.
func TestPurgeOfRowsAsTold(t *testing.T) {
	full := fallingChain(mostVersions, 9, 1, 0)[:9] // at 9 to 1
	for _, c := range []struct {
		name string
		was  []impl.Version
		left []impl.Version
	}{
		{"one below the floor", chainOf(done(1, 1, 10)), chainOf(done(1, 1, 10))}, {"one at the floor", chainOf(done(2, 5, 0)), chainOf(done(2, 5, 0))}, {"one above the floor", chainOf(done(3, 6, 1)), chainOf(done(3, 6, 1))},
		{"gone below the floor", chainOf(doneGone(1, 1)), nil}, {"gone just below the floor", chainOf(doneGone(1, 4)), nil}, {"gone at the floor", chainOf(doneGone(1, 5)), nil}, {"gone just above the floor", chainOf(doneGone(1, 6)), chainOf(doneGone(1, 6))}, {"gone at the clock", chainOf(doneGone(1, 9)), chainOf(doneGone(1, 9))},
		{"gone at the floor, and one", chainOf(doneGone(2, 5), done(1, 1, 10)), nil}, {"gone just above the floor, and one", chainOf(doneGone(2, 6), done(1, 1, 10)), chainOf(doneGone(2, 6), done(1, 1, 10))},
		{"two below", chainOf(done(2, 4, 20), done(1, 1, 10)), chainOf(done(2, 4, 20))}, {"at the floor and just below", chainOf(done(2, 5, 20), done(1, 4, 10)), chainOf(done(2, 5, 20))}, {"just above and at the floor", chainOf(done(2, 6, 20), done(1, 5, 10)), chainOf(done(2, 6, 20), done(1, 5, 10))},
		{"two above", chainOf(done(2, 9, 20), done(1, 6, 10)), chainOf(done(2, 9, 20), done(1, 6, 10))}, {"above, and gone below", chainOf(done(2, 6, 20), doneGone(1, 4)), chainOf(done(2, 6, 20))}, {"above, gone below, and one", chainOf(done(3, 6, 20), doneGone(2, 4), done(1, 1, 10)), chainOf(done(3, 6, 20))},
		{"above, below, and gone", chainOf(done(3, 6, 20), done(2, 4, 15), doneGone(1, 1)), chainOf(done(3, 6, 20), done(2, 4, 15))}, {"gone above, and gone below", chainOf(doneGone(2, 6), doneGone(1, 4)), chainOf(doneGone(2, 6))},
		{"one at each clock", full, full[:5]}, {"all below", full[5:], full[5:6]}, {"all gone", chainOf(doneGone(4, 4), doneGone(3, 3), doneGone(2, 2)), nil},
		{"open alone", chainOf(wrote(5, 7)), chainOf(wrote(5, 7))}, {"open, and one", chainOf(wrote(5, 7), done(1, 1, 10)), chainOf(wrote(5, 7), done(1, 1, 10))}, {"open, and two", chainOf(wrote(5, 7), done(2, 5, 20), done(1, 1, 10)), chainOf(wrote(5, 7), done(2, 5, 20))}, {"open, and gone", chainOf(wrote(5, 7), doneGone(1, 5)), chainOf(wrote(5, 7))},
		{"open and gone, and gone", chainOf(wroteGone(5), doneGone(1, 5)), chainOf(wroteGone(5))}, {"open and gone alone", chainOf(wroteGone(5)), chainOf(wroteGone(5))}, {"open, gone, and one", chainOf(wrote(5, 7), doneGone(3, 4), done(1, 1, 10)), chainOf(wrote(5, 7))},
	} {
		at := func(key int64, chain []impl.Version, ahead, behind int) impl.Engine {
			e := impl.Engine{Next: 12, Clock: 9, Txns: []impl.Txn{openAt(5, 6), openAt(8, 5), openAt(9, 9)}}
			if len(chain) > 0 && chain[0].At == 0 {
				e.Txns[0].Undos = []impl.Undo{firstOf(key)}
			}
			e.Rows = manyRows(ahead)
			if len(chain) > 0 {
				e.Rows = append(e.Rows, rowOf(key, chain...))
			}
			for i := range behind {
				e.Rows = append(e.Rows, rowOf(30+int64(i), done(1, 1, 5)))
			}
			return e
		}
		for _, place := range [][3]int{{0, 0, 0}, {20, 3, 2}, {31, 31, 0}, {4, 0, 1}} {
			key, ahead, behind := int64(place[0]), place[1], place[2]
			e, want := at(key, c.was, ahead, behind), at(key, c.left, ahead, behind)
			went := int64(len(c.was) - len(c.left))
			if got := impl.PurgeEngine(e); got.Code != impl.OK || got.Value != went || !sameEngine(got.Engine, want) {
				t.Errorf("%s: PurgeEngine(%+v) = %+v, want %d and %+v", c.name, e, got, went, want)
			}
			rows := int64(len(e.Rows) - len(want.Rows))
			if got := impl.GarbageOf(e); got != (impl.GarbageResult{Versions: went, Rows: rows}) {
				t.Errorf("%s: GarbageOf = %+v, want %d and %d", c.name, got, went, rows)
			}
			purgedOf(t, c.name, e)
		}
	}
}

func TestPurgeOfTxnsAsTold(t *testing.T) {
	for _, c := range []struct {
		name string
		was  []impl.Txn
		left []impl.Txn
	}{
		{"none", nil, nil}, {"one that is open", []impl.Txn{openAt(2, 3)}, []impl.Txn{openAt(2, 3)}}, {"one that is done", []impl.Txn{doneAt(2, 3, 4)}, nil}, {"one that is done and wrote nothing", []impl.Txn{doneAt(2, 3, 0)}, nil}, {"one that is aborted", []impl.Txn{abortedAt(2, 3)}, nil},
		{"all kinds", []impl.Txn{doneAt(2, 0, 1), openAt(3, 3), abortedAt(5, 2), openAt(6, 1), doneAt(7, 2, 0), openAt(9, 0), abortedAt(11, 4)}, []impl.Txn{openAt(3, 3), openAt(6, 1), openAt(9, 0)}},
		{"20 that are open", manyTxns(20), manyTxns(20)}, {"open at the ends", []impl.Txn{openAt(2, 3), doneAt(3, 0, 4), openAt(20, 4)}, []impl.Txn{openAt(2, 3), openAt(20, 4)}},
	} {
		e, want := impl.Engine{Next: 21, Clock: 4, Txns: c.was}, impl.Engine{Next: 21, Clock: 4, Txns: c.left}
		if got := impl.PurgeEngine(e); got.Code != impl.OK || got.Value != 0 || !sameEngine(got.Engine, want) {
			t.Errorf("%s: PurgeEngine = %+v, want %+v", c.name, got, want)
		}
		if got := impl.GarbageOf(e); got != (impl.GarbageResult{Txns: int64(len(c.was) - len(c.left))}) {
			t.Errorf("%s: GarbageOf = %+v", c.name, got)
		}
	}
	// An open one keeps its undos, and can take them back as ahead of the purge.
	e := baseEngine()
	left := purgedOf(t, "undos", e)
	want := impl.Engine{Next: 12, Clock: 6, Txns: []impl.Txn{e.Txns[1], e.Txns[3], e.Txns[4]}, Rows: []impl.Row{rowOf(2, wrote(5, 22), done(3, 4, 20)), e.Rows[2], e.Rows[3], e.Rows[4]}}
	if !sameEngine(left, want) {
		t.Errorf("purged: %+v, want %+v", left, want)
	}
	if got := impl.GarbageOf(e); got != (impl.GarbageResult{Versions: 3, Rows: 1, Txns: 3}) {
		t.Errorf("GarbageOf = %+v", got)
	}
	for save := range int64(6) {
		if !impl.SameAnswers(impl.RollTo(e, 5, save).Engine, impl.RollTo(left, 5, save).Engine) {
			t.Errorf("rolled to %d the purged one answers otherwise", save)
		}
	}
	// A purge makes room where ended transactions and old versions took it.
	full := someOpen(mostTxns, 30, 5)
	for i := range full.Txns {
		full.Txns[i].State = impl.StateDone + int64(i%2)
	}
	wantCode(t, "BeginTxn behind a purge", impl.BeginTxn(impl.PurgeEngine(full).Engine), impl.OK)
}

func TestPurgeOfNothing(t *testing.T) {
	for _, e := range []impl.Engine{{Next: 1}, {Next: topTxn, Clock: topAt}, {Next: 2, Clock: 7}, newEngine(), newEngine(cellsFrom(0, 1, 20, 5)...)} {
		if got := impl.PurgeEngine(e); got.Code != impl.OK || got.Value != 0 || !sameEngine(got.Engine, e) || impl.GarbageOf(e) != (impl.GarbageResult{}) {
			t.Errorf("PurgeEngine(%+v) = %+v", e, got)
		}
	}
	// All of it may go.
	e := impl.Engine{Next: 5, Clock: 4, Txns: []impl.Txn{doneAt(2, 1, 3), abortedAt(4, 0)}, Rows: []impl.Row{rowOf(0, doneGone(2, 3), done(1, 1, 5)), rowOf(31, doneGone(3, 4))}}
	if got := impl.PurgeEngine(e); got.Code != impl.OK || got.Value != 3 || !sameEngine(got.Engine, impl.Engine{Next: 5, Clock: 4}) || impl.GarbageOf(e) != (impl.GarbageResult{Versions: 3, Rows: 2, Txns: 2}) {
		t.Errorf("PurgeEngine(%+v) = %+v, GarbageOf %+v", e, got, impl.GarbageOf(e))
	}
}

type pairCase struct {
	name string
	turn func(e *impl.Engine)
	same bool
}

// answersBase: 5 began at 5 and wrote keys 2 and 6, 8 began at 6; 3 and 7 have ended.
func answersBase() impl.Engine {
	return impl.Engine{Next: 12, Clock: 8,
		Txns: []impl.Txn{doneAt(3, 2, 4), openAt(5, 5, firstOf(2), hadOf(2, 21), firstOf(6)), abortedAt(7, 6), openAt(8, 6)},
		Rows: []impl.Row{rowOf(2, wrote(5, 22), done(3, 4, 20), done(1, 1, 2)), rowOf(4, done(7, 6, 44), done(3, 4, 40), doneGone(2, 2), done(1, 1, 4)), rowOf(6, wroteGone(5), done(1, 1, 60)), rowOf(9, done(3, 7, 90), done(1, 1, 9)), rowOf(12, doneGone(1, 4)), rowOf(31, done(1, 1, 31))}}
}

func pairsOfAnswers() []pairCase {
	return []pairCase{
		{"as they are", func(e *impl.Engine) {}, true},
		{"Clock", func(e *impl.Engine) { e.Clock = 9 }, false}, {"Next", func(e *impl.Engine) { e.Next = 13 }, false}, {"the last Next", func(e *impl.Engine) { e.Next = 999 }, false},
		{"one more is open", func(e *impl.Engine) { e.Txns = append(e.Txns, openAt(9, 6)) }, false}, {"one more is open ahead", func(e *impl.Engine) { e.Txns = slices.Insert(e.Txns, 0, openAt(1, 6)) }, false}, {"one that is open has ended", func(e *impl.Engine) { e.Txns[3].State = impl.StateDone }, false}, {"one that is open is not there", func(e *impl.Engine) { e.Txns = e.Txns[:3] }, false}, {"one that has ended is open", func(e *impl.Engine) { e.Txns[2].State = impl.StateOpen }, false},
		{"another one is open", func(e *impl.Engine) { e.Txns[3].Id = 9 }, false},
		{"ended ones are gone", func(e *impl.Engine) { e.Txns = []impl.Txn{e.Txns[1], e.Txns[3]} }, true}, {"ended ones have ended otherwise", func(e *impl.Engine) { e.Txns[0], e.Txns[2] = abortedAt(4, 1), doneAt(6, 0, 8) }, true}, {"more have ended", func(e *impl.Engine) { e.Txns = append(e.Txns, doneAt(9, 0, 0), abortedAt(11, 8)) }, true},
		{"the first reads another value", func(e *impl.Engine) { e.Rows[0].Chain[0].Value = 23 }, false}, {"the last reads another value", func(e *impl.Engine) { e.Rows[0].Chain[1].Value = 19 }, false}, {"both read another value", func(e *impl.Engine) { e.Rows[5].Chain[0].Value = 30 }, false}, {"both read one less", func(e *impl.Engine) { e.Rows = e.Rows[:5] }, false}, {"both read another key", func(e *impl.Engine) { e.Rows[5].Key = 30 }, false}, {"both read one more", func(e *impl.Engine) { e.Rows[4].Chain[0] = done(1, 4, 0) }, false},
		{"the last alone reads what is gone", func(e *impl.Engine) { e.Rows[1].Chain[0] = doneGone(7, 6) }, false}, {"both read what is gone", func(e *impl.Engine) { e.Rows[5].Chain[0] = doneGone(1, 1) }, false},
		{"versions that nobody sees are others", func(e *impl.Engine) { e.Rows[0].Chain[2].Value, e.Rows[1].Chain[3] = 3, doneGone(9, 1) }, true}, {"versions that nobody sees are not there", func(e *impl.Engine) { e.Rows[0].Chain, e.Rows[1].Chain = e.Rows[0].Chain[:2], e.Rows[1].Chain[:2] }, true},
		{"what is seen is by another", func(e *impl.Engine) { e.Rows[0].Chain[1].Txn, e.Rows[5].Chain[0].Txn = 9, 998 }, true}, {"what is seen was committed otherwise", func(e *impl.Engine) { e.Rows[0].Chain[1].At, e.Rows[5].Chain[0].At = 3, 5 }, true},
		{"what nobody sees yet has another value", func(e *impl.Engine) { e.Rows[3].Chain[0].Value = 91 }, true}, {"what nobody sees yet is gone", func(e *impl.Engine) { e.Rows[3].Chain[0] = doneGone(3, 8) }, true},
		{"a row that nobody reads is not there", func(e *impl.Engine) { e.Rows = slices.Delete(e.Rows, 4, 5) }, true}, {"one more row that nobody reads", func(e *impl.Engine) { e.Rows = slices.Insert(e.Rows, 0, rowOf(0, doneGone(3, 5), done(1, 1, 5))) }, true}, {"what is gone for both was committed otherwise", func(e *impl.Engine) { e.Rows[4].Chain[0].At = 5 }, true},
		{"one may not write what has no row in the other", func(e *impl.Engine) { e.Rows = slices.Insert(e.Rows, 0, rowOf(0, doneGone(3, 6))) }, false}, {"none may write what has no row in the other", func(e *impl.Engine) { e.Rows = slices.Insert(e.Rows, 5, rowOf(30, done(3, 7, 5))) }, false}, {"one may not write what is gone for both", func(e *impl.Engine) { e.Rows[4].Chain[0].At = 6 }, false}, {"none may write what is gone for both", func(e *impl.Engine) { e.Rows[4].Chain[0].At = 7 }, false},
		{"both may write the key that none could", func(e *impl.Engine) { e.Rows[3].Chain = e.Rows[3].Chain[1:] }, false}, {"the last may write the key that none could", func(e *impl.Engine) { e.Rows[3].Chain = chainOf(done(3, 6, 9), done(1, 1, 9)) }, false},
		{"the last wrote what none could read", func(e *impl.Engine) {
			e.Txns[3].Undos, e.Rows[4].Chain = []impl.Undo{firstOf(12)}, chainOf(wroteGone(8), doneGone(1, 4))
		}, false}, // 5 may not write it any more
		{"5 took the undo of key 6 back", func(e *impl.Engine) {
			e.Txns[1].Undos, e.Rows[2].Chain = e.Txns[1].Undos[:2], e.Rows[2].Chain[1:]
		}, false},
		{"the first began otherwise, and sees the same", func(e *impl.Engine) { e.Txns[1].At = 4 }, true}, {"the last began otherwise, and sees the same", func(e *impl.Engine) { e.Txns[3].At = 5 }, false}, {"5 wrote more often", func(e *impl.Engine) { e.Txns[1].Undos = append(e.Txns[1].Undos, hadOf(2, 5)) }, true},
		{"5 wrote other values on the way", func(e *impl.Engine) { e.Txns[1].Undos[1].Value = 5 }, true},
	}
}

func TestSameAnswersAsTold(t *testing.T) {
	for _, c := range pairsOfAnswers() {
		a, b := answersBase(), answersBase()
		c.turn(&b)
		if fa, fb := impl.EngineFault(a), impl.EngineFault(b); fa != impl.OK || fb != impl.OK {
			t.Fatalf("%s: faults %d and %d", c.name, fa, fb)
		}
		if by := sameAnswersByHand(a, b); by != c.same {
			t.Errorf("%s: by hand %v", c.name, by)
		}
		if one, two := impl.SameAnswers(a, b), impl.SameAnswers(b, a); one != c.same || two != c.same {
			t.Errorf("%s: SameAnswers is %v and %v, want %v", c.name, one, two, c.same)
		}
		if !impl.SameAnswers(b, b) {
			t.Errorf("%s: it does not answer the same as itself", c.name)
		}
	}
	// What one may write hangs on when it began in each engine: here nobody reads anything.
	early := impl.Engine{Next: 5, Clock: 8, Txns: []impl.Txn{openAt(2, 5)}, Rows: []impl.Row{rowOf(3, doneGone(1, 6))}}
	late := copyEngine(early)
	late.Txns[0].At = 6
	if impl.SameAnswers(early, late) || impl.SameAnswers(late, early) {
		t.Error("one who began ahead of a commit may write as one who began behind it")
	}
	late.Txns[0].At, early.Rows[0].Chain[0].At, late.Rows[0].Chain[0].At = 7, 4, 7
	if !impl.SameAnswers(early, late) || !impl.SameAnswers(late, early) {
		t.Error("when one began is told apart by itself")
	}
	// Where nobody is open nobody reads: the clock and Next alone part them.
	a, b := impl.Engine{Next: 5, Clock: 4, Rows: manyRows(9)}, impl.Engine{Next: 5, Clock: 4, Txns: []impl.Txn{doneAt(2, 0, 0)}}
	if !impl.SameAnswers(a, b) || !impl.SameAnswers(b, a) {
		t.Error("engines in which nobody is open do not answer the same")
	}
	b.Clock = 3
	if impl.SameAnswers(a, b) || impl.SameAnswers(b, a) {
		t.Error("engines of two clocks answer the same")
	}
}

// What one of two engines alone may write or reads is heard of at each key.
func TestSameAnswersAtEachKey(t *testing.T) {
	plain := impl.Engine{Next: 5, Clock: 4, Txns: []impl.Txn{openAt(2, 4), openAt(3, 2)}}
	for key := range int64(mostRows) {
		for name, c := range map[string]struct {
			chain []impl.Version
			same  bool
		}{
			"both read it": {chainOf(done(1, 2, 0)), false}, "one reads it": {chainOf(done(1, 3, 0)), false}, "gone for both": {chainOf(doneGone(1, 2)), true}, "one may not write it": {chainOf(doneGone(1, 3)), false}, "gone for both, and one": {chainOf(doneGone(1, 2), done(1, 1, 7)), true},
		} {
			e := copyEngine(plain)
			e.Rows = []impl.Row{rowOf(key, c.chain...)}
			if one, two := impl.SameAnswers(plain, e), impl.SameAnswers(e, plain); one != c.same || two != c.same {
				t.Errorf("key %d: %s: SameAnswers is %v and %v", key, name, one, two)
			}
		}
	}
}

func TestSameAnswersOfFaults(t *testing.T) {
	for _, f := range append(engineFaults(), chainFaultsInRows()...) {
		same := f.code == impl.OK
		if got := impl.SameAnswers(f.engine, copyEngine(f.engine)); got != same {
			t.Errorf("%s: SameAnswers of it and itself is %v", f.name, got)
		}
		if same {
			continue
		}
		if impl.SameAnswers(f.engine, baseEngine()) || impl.SameAnswers(baseEngine(), f.engine) || impl.SameAnswers(f.engine, impl.Engine{}) {
			t.Errorf("%s: SameAnswers is true", f.name)
		}
	}
	if impl.SameAnswers(impl.Engine{}, impl.Engine{}) || !impl.SameAnswers(impl.Engine{Next: 1}, impl.Engine{Next: 1}) {
		t.Error("SameAnswers of engines with nothing in them")
	}
}

func TestHistoryAsTold(t *testing.T) {
	e := impl.Engine{Next: 12, Clock: 6, Txns: []impl.Txn{openAt(5, 5, firstOf(0), firstOf(8))}, Rows: []impl.Row{
		rowOf(0, wrote(5, 22), done(3, 4, 20), doneGone(2, 2), done(1, 1, 2)), rowOf(4, doneGone(3, 4), done(1, 1, 4)), rowOf(8, wroteGone(5)), rowOf(9, fallingChain(6, 6, 1, 0)...), rowOf(31, done(1, 1, 31))}}
	for key, c := range map[int64]impl.ChainResult{
		0: {Chain: e.Rows[0].Chain}, 4: {Chain: e.Rows[1].Chain}, 8: {Chain: e.Rows[2].Chain}, 9: {Chain: e.Rows[3].Chain}, 31: {Chain: e.Rows[4].Chain}, 1: {}, 3: {}, 5: {}, 30: {},
		-1: {Code: impl.ErrRange}, 32: {Code: impl.ErrRange}, math.MinInt64: {Code: impl.ErrRange}, math.MaxInt64: {Code: impl.ErrRange},
	} {
		if got := impl.HistoryOf(e, key); !sameChainResult(got, c) {
			t.Errorf("HistoryOf key %d: %+v, want %+v", key, got, c)
		}
	}
	bare := impl.Engine{Next: 1}
	for key, code := range map[int64]int64{-1: impl.ErrRange, 0: impl.OK, 31: impl.OK, 32: impl.ErrRange} {
		got := impl.HistoryOf(bare, key)
		wantCode(t, fmt.Sprintf("HistoryOf key %d of nothing", key), got, code)
		if len(got.Chain) > 0 {
			t.Errorf("HistoryOf key %d of nothing: %+v", key, got)
		}
	}
	full := impl.Engine{Next: 12, Clock: 100, Rows: []impl.Row{rowOf(17, fallingChain(mostVersions, 100, 7, 1)...)}}
	if got := impl.HistoryOf(full, 17); got.Code != impl.OK || !slices.Equal(got.Chain, full.Rows[0].Chain) {
		t.Errorf("HistoryOf a full chain: %+v", got)
	}
}

func TestTextAsTold(t *testing.T) {
	for _, c := range []struct {
		engine impl.Engine
		text   string
	}{
		{impl.Engine{Next: 1}, "clock 0 1\n"},
		{impl.Engine{Next: topTxn, Clock: topAt}, "clock 1000000 999\n"},
		{newEngine(impl.Cell{Key: 0, Value: 0}, impl.Cell{Key: 31, Value: 9999}), "clock 1 2\nrow 0 1:1=0\nrow 31 1:1=9999\n"},
		{impl.Engine{Next: 5, Clock: 7, Txns: []impl.Txn{openAt(4, 0)}}, "clock 7 5\ntxn 4 0 1 0 0\n"},
		{impl.Engine{Next: 12, Clock: 7, Txns: []impl.Txn{doneAt(2, 3, 7), doneAt(3, 5, 0), abortedAt(4, 6), openAt(11, 7)}}, "clock 7 12\ntxn 2 3 2 7 0\ntxn 3 5 2 0 0\ntxn 4 6 3 0 0\ntxn 11 7 1 0 0\n"},
		{baseEngine(), "clock 6 12\ntxn 3 2 2 4 0\ntxn 5 5 1 0 5\ntxn 6 5 3 0 0\ntxn 8 6 1 0 0\ntxn 9 6 1 0 1\ntxn 11 6 2 0 0\nrow 2 5:0=22 3:4=20 1:1=2\nrow 4 3:4- 1:1=4\nrow 6 5:0-\nrow 20 9:0=0 2:6=200\nrow 31 1:1=31\n"},
		{impl.Engine{Next: 3, Clock: topAt, Rows: []impl.Row{rowOf(7, done(998, topAt, 9999), doneGone(1, 999999), done(10, 10, 10), doneGone(100, 9))}}, "clock 1000000 3\nrow 7 998:1000000=9999 1:999999- 10:10=10 100:9-\n"},
		{writerEngine(100, 50, 60, nil, 3), "clock 100 9\ntxn 2 0 2 0 0\ntxn 5 50 1 0 60\ntxn 6 50 3 0 0\ntxn 7 100 1 0 0\nrow 3 5:0=1059\n"},
	} {
		if got := impl.TextOf(c.engine); got != (impl.TextResult{Text: c.text}) || textByHand(c.engine) != c.text {
			t.Errorf("TextOf(%+v) = %q, want %q", c.engine, got.Text, c.text)
		}
	}
}

// An engine's own fault comes ahead of a wrong key.
func TestPurgeCodesAreTheFault(t *testing.T) {
	met := map[int64]int{}
	for _, f := range append(engineFaults(), chainFaultsInRows()...) {
		met[f.code]++
		for name, answer := range map[string]any{"FloorOf": impl.FloorOf(f.engine), "PurgeEngine": impl.PurgeEngine(f.engine), "GarbageOf": impl.GarbageOf(f.engine), "TextOf": impl.TextOf(f.engine), "HistoryOf": impl.HistoryOf(f.engine, 2), "HistoryOf key 7": impl.HistoryOf(f.engine, 7)} {
			wantCode(t, f.name+": "+name, answer, f.code)
		}
		for _, key := range []int64{-1, 32} {
			code := f.code
			if code == impl.OK {
				code = impl.ErrRange
			}
			wantCode(t, f.name+": HistoryOf a wrong key", impl.HistoryOf(f.engine, key), code)
		}
	}
	if len(met) != 4 {
		t.Errorf("not all codes were met: %v", met)
	}
	wantCode(t, "HistoryOf key -1 of a zero engine", impl.HistoryOf(impl.Engine{}, -1), impl.ErrRange)
}

func TestPurgeArgumentsStay(t *testing.T) {
	other := engineWithRoom(baseEngine())
	before := engineRoom(other)
	for n, e := range enginesToAsk() {
		with := engineWithRoom(e)
		was := engineRoom(with)
		for _, key := range []int64{-1, 2, 3, 20, 31, 32} {
			tellPurge(with, other, key)
		}
		tellPurge(with, with, 4)
		if engineRoom(with) != was || !sameEngine(with, e) {
			t.Fatalf("engine %d was changed from %+v to %+v", n, e, with)
		}
		if engineRoom(other) != before {
			t.Fatalf("engine %d: the other one was changed to %+v", n, other)
		}
	}
}

// Lists of one engine may be pieces of one list.
func TestPurgeOfPiecesStays(t *testing.T) {
	undos := []impl.Undo{firstOf(2), hadOf(2, 21), firstOf(4), firstOf(6), hadGoneOf(6)}
	versions := chainOf(wrote(5, 22), done(1, 2, 2), done(1, 1, 1), wrote(7, 44), doneGone(1, 2), wroteGone(7), done(1, 3, 8), done(1, 1, 8), doneGone(1, 3), done(1, 2, 9))
	e := impl.Engine{Next: 9, Clock: 3, Txns: []impl.Txn{openAt(5, 3, undos[:2]...), doneAt(6, 0, 0), openAt(7, 3, undos[2:]...), openAt(8, 3)}, Rows: []impl.Row{rowOf(2, versions[:3]...), rowOf(4, versions[3:5]...), rowOf(6, versions[5:6]...), rowOf(8, versions[6:8]...), rowOf(9, versions[8:]...)}}
	before := copyEngine(e)
	for key := range int64(10) {
		if got, want := tellPurge(e, before, key), tellPurgeByHand(before, before, key); got != want || !sameEngine(e, before) {
			t.Fatalf("key %d: %s, want %s, of %+v", key, got, want, e)
		}
	}
	checkOwnListsOfEngine(t, 0, impl.PurgeEngine(e).Engine)
	if !sameEngine(e, before) {
		t.Errorf("a purged one shares memory with what it was of: %+v", e)
	}
}

func TestPurgeAnswersAreNewMemory(t *testing.T) {
	for n, e := range someEngines() {
		with := engineWithRoom(e)
		before := engineRoom(with)
		one, two := impl.PurgeEngine(with).Engine, impl.PurgeEngine(with).Engine
		want := told(two)
		spoilEngine(one)
		if told(two) != want || engineRoom(with) != before {
			t.Fatalf("engine %d: what is purged shares memory", n)
		}
		var chains, others [][]impl.Version
		for key := range int64(mostRows) {
			chains, others = append(chains, impl.HistoryOf(with, key).Chain), append(others, impl.HistoryOf(with, key).Chain)
		}
		history := told(others)
		for _, chain := range chains {
			spoil(chain, done(-5, -5, -5))
		}
		if told(others) != history || told(two) != want || engineRoom(with) != before {
			t.Fatalf("engine %d: a history shares memory", n)
		}
		spoilEngine(with)
		if told(others) != history || told(two) != want {
			t.Fatalf("engine %d: an answer hangs on what its argument became", n)
		}
		checkOwnListsOfEngine(t, n, two)
	}
}

func TestNilAndEmptyListsOfPurgesAreAlike(t *testing.T) {
	for n, e := range enginesToAsk() {
		nils, empties := withNilLists(e), withEmptyLists(e)
		for _, key := range []int64{2, 3, 31} {
			if a, b := tellPurge(nils, e, key), tellPurge(empties, e, key); a != b {
				t.Fatalf("engine %d: with nil %s, with empty lists %s", n, a, b)
			}
		}
		if sound := engineFaultByHand(e) == impl.OK; impl.SameAnswers(nils, empties) != sound || impl.SameAnswers(empties, nils) != sound {
			t.Fatalf("engine %d: with nil and with empty lists it does not answer the same", n)
		}
	}
}

// What is told out of a map has the same order at every call.
func TestPurgedIsTheSameAtEveryCall(t *testing.T) {
	wide := impl.Engine{Next: 30, Clock: 9, Rows: manyRows(mostRows), Txns: manyTxns(mostTxns)}
	wide.Rows[3].Chain, wide.Rows[17].Chain, wide.Txns[4].State, wide.Txns[9].State = chainOf(doneGone(1, 9)), chainOf(doneGone(2, 2), done(1, 1, 1)), impl.StateDone, impl.StateGone
	for i := range wide.Txns {
		wide.Txns[i].At = 5
	}
	for n, e := range []impl.Engine{fullEngine(), wide, baseEngine(), newEngine(cellsFrom(0, 1, 20, 5)...)} {
		want := tellPurgeByHand(e, e, 3)
		for range 60 {
			if got := tellPurge(e, e, 3); got != want {
				t.Fatalf("engine %d: %s, want %s", n, got, want)
			}
		}
	}
}

func TestPurgesKeepNothing(t *testing.T) {
	wantSameAgain(t, enginesToAsk(), func(e impl.Engine) string {
		return tellPurge(e, baseEngine(), 3) + tellPurge(e, e, 32)
	})
}

func TestPurgesNeverPanic(t *testing.T) {
	numbers := []int64{math.MinInt64, -1, 0, 1, 2, 3, 5, 31, 32, 60, 61, 999, 1000, 9999, 10000, topAt, topAt + 1, math.MaxInt64}
	d := dice(72)
	pick := func() int64 { return numbers[d.upTo(int64(len(numbers)-1))] }
	for range 4000 {
		e := thrownEngineTurn(baseEngine(), &d)
		switch d.upTo(4) {
		case 0:
			e.Next, e.Clock = pick(), pick()
		case 1:
			e.Rows = append(e.Rows, rowOf(pick(), impl.Version{Txn: pick(), At: pick(), Gone: d.upTo(1) == 0, Value: pick()}))
		case 2:
			e.Txns = append(e.Txns, impl.Txn{Id: pick(), At: pick(), State: pick(), Done: pick(), Undos: []impl.Undo{{Key: pick(), Had: d.upTo(1) == 0, Value: pick()}}})
		}
		key := pick()
		mustPanicNever(t, told(e), func() { tellPurge(e, baseEngine(), key) })
	}
	mustPanicNever(t, "a zero engine", func() { tellPurge(impl.Engine{}, impl.Engine{}, 0) })
}
