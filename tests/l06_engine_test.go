package tests

import (
	"fmt"
	"maps"
	"math"

	"slices"
	"testing"

	"loop.example/g00216/impl"
)

const mostTxns = 20
const mostUndos = 60
const mostRows = 32
const lastKey = 31

func openAt(id, at int64, undos ...impl.Undo) impl.Txn {
	return impl.Txn{Id: id, At: at, State: impl.StateOpen, Undos: undos}
}
func doneAt(id, at, done int64) impl.Txn {
	return impl.Txn{Id: id, At: at, State: impl.StateDone, Done: done}
}
func abortedAt(id, at int64) impl.Txn { return impl.Txn{Id: id, At: at, State: impl.StateGone} }

func firstOf(key int64) impl.Undo      { return impl.Undo{Key: key} }
func hadOf(key, value int64) impl.Undo { return impl.Undo{Key: key, Had: true, Value: value} }
func hadGoneOf(key int64) impl.Undo    { return impl.Undo{Key: key, Had: true, Gone: true} }
func rowOf(key int64, versions ...impl.Version) impl.Row {
	return impl.Row{Key: key, Chain: versions}
}

func copyEngine(e impl.Engine) impl.Engine {
	e.Txns, e.Rows = slices.Clone(e.Txns), slices.Clone(e.Rows)
	for i := range e.Txns {
		e.Txns[i].Undos = slices.Clone(e.Txns[i].Undos)
	}
	for i := range e.Rows {
		e.Rows[i].Chain = slices.Clone(e.Rows[i].Chain)
	}
	return e
}

// told is the same for nil and for an empty list.
func told(answer any) string { return fmt.Sprintf("%+v", answer) }

func sameEngine(a, b impl.Engine) bool { return told(a) == told(b) }

func newEngine(cells ...impl.Cell) impl.Engine { return impl.NewEngine(cells).Engine }

// chainsByHand: the chain of each key that has a row.
func chainsByHand(e impl.Engine) map[int64][]impl.Version {
	out := map[int64][]impl.Version{}
	for _, row := range e.Rows {
		out[row.Key] = slices.Clone(row.Chain)
	}
	return out
}

func rowsByHand(chains map[int64][]impl.Version) []impl.Row {
	var out []impl.Row
	for _, key := range slices.Sorted(maps.Keys(chains)) {
		if len(chains[key]) > 0 {
			out = append(out, impl.Row{Key: key, Chain: chains[key]})
		}
	}
	return out
}

func txnByHand(e impl.Engine, id int64) (place int, code int64) {
	for i, txn := range e.Txns {
		if txn.Id == id && txn.State == 1 {
			return i, impl.OK
		}
		if txn.Id == id {
			return 0, impl.ErrState
		}
	}
	return 0, impl.ErrNone
}

func txnFaultByHand(e impl.Engine, ahead int64, txn impl.Txn) int64 {
	switch {
	case txn.Id < 1 || txn.Id >= e.Next, txn.At < 0 || txn.At > e.Clock, txn.State < 1 || txn.State > 3, txn.Done < 0 || txn.Done > e.Clock:
		return impl.ErrRange
	case txn.Id <= ahead, txn.Done > 0 && txn.State != 2, txn.Done > 0 && txn.Done <= txn.At, txn.State > 1 && len(txn.Undos) > 0:
		return impl.ErrForm
	case len(txn.Undos) > mostUndos:
		return impl.ErrMany
	}
	for _, undo := range txn.Undos {
		switch {
		case undo.Key < 0 || undo.Key > lastKey, undo.Value < 0 || undo.Value > 9999:
			return impl.ErrRange
		case !undo.Had && undo != (impl.Undo{Key: undo.Key}), undo.Gone && undo.Value > 0:
			return impl.ErrForm
		}
	}
	return impl.OK
}

// writtenByHand: how often each open transaction wrote each key, by its undos.
func writtenByHand(e impl.Engine) map[[2]int64]int {
	out := map[[2]int64]int{}
	for _, txn := range e.Txns {
		for _, undo := range txn.Undos {
			out[[2]int64{txn.Id, undo.Key}]++
		}
	}
	return out
}

func rowFaultByHand(e impl.Engine, ahead int64, row impl.Row) int64 {
	if row.Key < 0 || row.Key > lastKey {
		return impl.ErrRange
	}
	if row.Key <= ahead || len(row.Chain) == 0 {
		return impl.ErrForm
	}
	if code := chainFaultByHand(row.Chain); code != impl.OK {
		return code
	}
	for _, v := range row.Chain {
		if v.At > e.Clock || v.At == 0 && writtenByHand(e)[[2]int64{v.Txn, row.Key}] == 0 {
			return impl.ErrForm
		}
	}
	return impl.OK
}

func engineFaultByHand(e impl.Engine) int64 {
	if e.Next < 1 || e.Next > topTxn || e.Clock < 0 || e.Clock > topAt {
		return impl.ErrRange
	}
	if len(e.Txns) > mostTxns || len(e.Rows) > mostRows {
		return impl.ErrMany
	}
	ahead := int64(0)
	for _, txn := range e.Txns {
		if code := txnFaultByHand(e, ahead, txn); code != impl.OK {
			return code
		}
		ahead = txn.Id
	}
	ahead = -1
	for _, row := range e.Rows {
		if code := rowFaultByHand(e, ahead, row); code != impl.OK {
			return code
		}
		ahead = row.Key
	}
	chains := chainsByHand(e)
	for _, txn := range e.Txns {
		met := map[int64]bool{}
		for _, undo := range txn.Undos {
			if !isWriterByHand(chains[undo.Key], txn.Id) || undo.Had != met[undo.Key] {
				return impl.ErrForm
			}
			met[undo.Key] = true
		}
	}
	return impl.OK
}

func readEngineByHand(e impl.Engine, id, key int64) impl.IntResult {
	i, code := txnByHand(e, id)
	if code == impl.OK && (key < 0 || key > lastKey) {
		code = impl.ErrRange
	}
	if code != impl.OK {
		return impl.IntResult{Code: code}
	}
	return seenByHand(chainsByHand(e)[key], impl.View{At: e.Txns[i].At, Own: id})
}

// scanByHand reads key by key.
func scanByHand(e impl.Engine, id, low, high int64) impl.CellsResult {
	if _, code := txnByHand(e, id); code != impl.OK {
		return impl.CellsResult{Code: code}
	}
	var out impl.CellsResult
	for key := range int64(mostRows) {
		if read := readEngineByHand(e, id, key); key >= low && key <= high && read.Code == impl.OK {
			out.Cells = append(out.Cells, impl.Cell{Key: key, Value: read.Value})
		}
	}
	return out
}

// writeEngineByHand: a put, or with gone a drop, whose value is 0.
func writeEngineByHand(e impl.Engine, id, key int64, gone bool, value int64) impl.EngineResult {
	i, code := txnByHand(e, id)
	if code == impl.OK && (key < 0 || key > lastKey || value < 0 || value > 9999) {
		code = impl.ErrRange
	}
	if code == impl.OK && gone {
		code = readEngineByHand(e, id, key).Code
	}
	if code != impl.OK {
		return impl.EngineResult{Code: code}
	}
	chains, view := chainsByHand(e), impl.View{At: e.Txns[i].At, Own: id}
	undo := firstOf(key)
	if isWriterByHand(chains[key], id) {
		undo = impl.Undo{Key: key, Had: true, Gone: chains[key][0].Gone, Value: chains[key][0].Value}
	}
	pushed := pushByHand(chains[key], view, gone, value)
	switch {
	case pushed.Code == impl.ErrConflict:
		return impl.EngineResult{Code: impl.ErrConflict}
	case len(e.Txns[i].Undos) >= mostUndos || pushed.Code != impl.OK:
		return impl.EngineResult{Code: impl.ErrMany}
	}
	chains[key] = pushed.Chain
	out := copyEngine(e)
	out.Txns[i].Undos = append(out.Txns[i].Undos, undo)
	out.Rows = rowsByHand(chains)
	return impl.EngineResult{Engine: out}
}

func beginEngineByHand(e impl.Engine) impl.EngineResult {
	if len(e.Txns) >= mostTxns || e.Next >= topTxn {
		return impl.EngineResult{Code: impl.ErrMany}
	}
	out := copyEngine(e)
	out.Txns = append(out.Txns, openAt(e.Next, e.Clock))
	out.Next = e.Next + 1
	return impl.EngineResult{Value: e.Next, Engine: out}
}

func commitEngineByHand(e impl.Engine, id int64) impl.EngineResult {
	i, code := txnByHand(e, id)
	if code != impl.OK {
		return impl.EngineResult{Code: code}
	}
	out := copyEngine(e)
	undos := out.Txns[i].Undos
	out.Txns[i].State, out.Txns[i].Undos = 2, nil
	if len(undos) == 0 {
		return impl.EngineResult{Engine: out}
	}
	if e.Clock == topAt {
		return impl.EngineResult{Code: impl.ErrRange}
	}
	out.Clock++
	out.Txns[i].Done = out.Clock
	chains := chainsByHand(e)
	for _, undo := range undos {
		chains[undo.Key][0].At = out.Clock
	}
	out.Rows = rowsByHand(chains)
	return impl.EngineResult{Value: out.Clock, Engine: out}
}

// rollEngineByHand goes forwards: of the undos of a key that go, the first one alone tells what is there then.
func rollEngineByHand(e impl.Engine, id, save int64) impl.EngineResult {
	i, code := txnByHand(e, id)
	if code == impl.OK && (save < 0 || save > int64(len(e.Txns[i].Undos))) {
		code = impl.ErrRange
	}
	if code != impl.OK {
		return impl.EngineResult{Code: code}
	}
	out, chains, met := copyEngine(e), chainsByHand(e), map[int64]bool{}
	for _, undo := range e.Txns[i].Undos[save:] {
		if met[undo.Key] {
			continue
		}
		met[undo.Key] = true
		rest := chains[undo.Key][1:]
		if undo.Had {
			rest = append(chainOf(impl.Version{Txn: id, Gone: undo.Gone, Value: undo.Value}), rest...)
		}
		chains[undo.Key] = rest
	}
	out.Txns[i].Undos = out.Txns[i].Undos[:save]
	out.Rows = rowsByHand(chains)
	return impl.EngineResult{Value: save, Engine: out}
}

func abortEngineByHand(e impl.Engine, id int64) impl.EngineResult {
	out := rollEngineByHand(e, id, 0)
	if i, code := txnByHand(e, id); code == impl.OK {
		out.Engine.Txns[i].State = 3
	}
	return out
}

func openByHand(e impl.Engine) impl.IntsResult {
	var out impl.IntsResult
	for _, txn := range e.Txns {
		if txn.State == 1 {
			out.List = append(out.List, txn.Id)
		}
	}
	return out
}

// tellEngine asks all functions of an engine.
func tellEngine(e impl.Engine, id, key, value int64) string {
	return told([]any{impl.EngineFault(e), impl.BeginTxn(e), impl.ReadKey(e, id, key), impl.ScanKeys(e, id, key, value), impl.ScanKeys(e, id, 0, lastKey), impl.PutKey(e, id, key, value), impl.DropKey(e, id, key),
		impl.CommitTxn(e, id), impl.AbortTxn(e, id), impl.RollTo(e, id, value), impl.OpenTxns(e)})
}

func tellEngineByHand(e impl.Engine, id, key, value int64) string {
	if code := engineFaultByHand(e); code != impl.OK {
		whole, cells := impl.EngineResult{Code: code}, impl.CellsResult{Code: code}
		return told([]any{code, whole, impl.IntResult{Code: code}, cells, cells, whole, whole, whole, whole, whole, impl.IntsResult{Code: code}})
	}
	return told([]any{int64(impl.OK), beginEngineByHand(e), readEngineByHand(e, id, key), scanByHand(e, id, key, value), scanByHand(e, id, 0, lastKey), writeEngineByHand(e, id, key, false, value), writeEngineByHand(e, id, key, true, 0),
		commitEngineByHand(e, id), abortEngineByHand(e, id), rollEngineByHand(e, id, value), openByHand(e)})
}

// undosOf: so many undos of a transaction that writes the keys in turn, and what it wrote of each in the end.
func undosOf(count int, keys ...int64) ([]impl.Undo, map[int64]int64) {
	var undos []impl.Undo
	has := map[int64]int64{}
	for i := range count {
		key := keys[i%len(keys)]
		undo := firstOf(key)
		if value, met := has[key]; met {
			undo = hadOf(key, value)
		}
		undos = append(undos, undo)
		has[key] = 1000 + int64(i)
	}
	return undos, has
}

// writerEngine: transaction 5 began at At and has so many undos, and each key has the versions told behind what 5 wrote.
func writerEngine(clock, at int64, count int, behind []impl.Version, keys ...int64) impl.Engine {
	undos, has := undosOf(count, keys...)
	e := impl.Engine{Next: 9, Clock: clock, Txns: []impl.Txn{doneAt(2, 0, 0), openAt(5, at, undos...), abortedAt(6, at), openAt(7, clock)}}
	for _, key := range slices.Sorted(slices.Values(keys)) {
		chain := slices.Clone(behind)
		if value, wrote5 := has[key]; wrote5 {
			chain = slices.Insert(chain, 0, wrote(5, value))
		}
		if len(chain) > 0 {
			e.Rows = append(e.Rows, rowOf(key, chain...))
		}
	}
	return e
}

// fullEngine has as much of all as there may be.
func fullEngine() impl.Engine {
	e := impl.Engine{Next: topTxn, Clock: topAt}
	chains := map[int64][]impl.Version{}
	for key := range int64(mostRows) {
		chains[key] = fallingChain(mostVersions-1, topAt, 3, int(key%3))
	}
	for i := range int64(mostTxns) {
		keys := []int64{i}
		if i+mostTxns <= lastKey {
			keys = append(keys, i+mostTxns)
		}
		undos, has := undosOf(mostUndos, keys...)
		id := 900 + i
		e.Txns = append(e.Txns, openAt(id, topAt-i, undos...))
		for key, value := range has {
			chains[key] = slices.Insert(chains[key], 0, wrote(id, value))
		}
	}
	e.Rows = rowsByHand(chains)
	return e
}

func someOpen(count int, next, clock int64) impl.Engine {
	e := impl.Engine{Next: next, Clock: clock}
	for i := range count {
		e.Txns = append(e.Txns, openAt(next-int64(count-i), clock-clock%int64(i+1)))
	}
	return e
}

func edgeEngines() []impl.Engine {
	out := []impl.Engine{{Next: 1}, {Next: topTxn, Clock: topAt}, newEngine(), newEngine(impl.Cell{Key: 31, Value: 9999}), newEngine(cellsFrom(0, 1, 20, 100)...), newEngine(cellsFrom(12, 1, 20, 0)...), fullEngine()}
	for _, next := range []int64{2, 21, 997, 998, 999} {
		for _, count := range []int{1, 2, 18, 19, 20} {
			if int64(count) < next {
				out = append(out, someOpen(count, next, 0), someOpen(count, next, 7), someOpen(count, next, topAt))
			}
		}
	}
	full := fallingChain(mostVersions, 100, 7, 1)
	for _, clock := range []int64{100, topAt - 1, topAt} {
		for _, at := range []int64{0, 99, 100, clock} {
			for _, count := range []int{0, 1, 3, 59, 60} {
				out = append(out, writerEngine(clock, at, count, nil, 3), writerEngine(clock, at, count, full[1:], 3), writerEngine(clock, at, count, full[:1], 0, 31, 8), writerEngine(clock, at, count, full[:5], 4, 2))
			}
			out = append(out, writerEngine(clock, at, 0, full, 3), writerEngine(clock, at, 0, full[:11], 3, 4))
		}
	}
	odd := writerEngine(100, 50, 3, nil, 3, 4)
	odd.Rows[1].Chain = append(odd.Rows[1].Chain, done(5, 80, 8), doneGone(998, 20)) // 5 is open, and 998 was not begun
	odd.Rows = append(odd.Rows, rowOf(9, doneGone(7, 100)), rowOf(10, doneGone(7, 1)), rowOf(11, done(1, 1, 0)))
	return append(out, odd)
}

// A step of a run: what is done to an engine.
const (
	stepBegin = iota
	stepPut
	stepDrop
	stepCommit
	stepAbort
	stepRoll
)

type step struct {
	kind, txn, key, value int64 // value: of a roll, its save
}

func doStep(e impl.Engine, s step) impl.EngineResult {
	switch s.kind {
	case stepBegin:
		return impl.BeginTxn(e)
	case stepPut:
		return impl.PutKey(e, s.txn, s.key, s.value)
	case stepDrop:
		return impl.DropKey(e, s.txn, s.key)
	case stepCommit:
		return impl.CommitTxn(e, s.txn)
	case stepAbort:
		return impl.AbortTxn(e, s.txn)
	}
	return impl.RollTo(e, s.txn, s.value)
}

func doStepByHand(e impl.Engine, s step) impl.EngineResult {
	switch s.kind {
	case stepBegin:
		return beginEngineByHand(e)
	case stepPut:
		return writeEngineByHand(e, s.txn, s.key, false, s.value)
	case stepDrop:
		return writeEngineByHand(e, s.txn, s.key, true, 0)
	case stepCommit:
		return commitEngineByHand(e, s.txn)
	case stepAbort:
		return abortEngineByHand(e, s.txn)
	}
	return rollEngineByHand(e, s.txn, s.value)
}

// thrownStep is mostly one that can be done.
func thrownStep(e impl.Engine, d *dice, keys int64) step {
	kinds := []int64{stepBegin, stepPut, stepPut, stepPut, stepPut, stepPut, stepDrop, stepDrop, stepRoll, stepCommit, stepAbort}
	if keys == 1 { // nearly one behind the other
		kinds = []int64{stepPut, stepPut, stepPut, stepCommit, stepCommit, stepDrop}
	}
	s := step{kind: kinds[d.upTo(int64(len(kinds)-1))], key: d.upTo(keys - 1), value: d.upTo(99)}
	open := openByHand(e).List
	if len(open) == 0 {
		s.kind = stepBegin
		return s
	}
	s.txn = open[d.upTo(int64(len(open)-1))]
	place, _ := txnByHand(e, s.txn)
	if s.kind == stepRoll {
		s.value = d.upTo(int64(len(e.Txns[place].Undos)))
	}
	if d.upTo(30) == 0 {
		s.txn = d.upTo(e.Next)
	}
	if d.upTo(50) == 0 {
		s.value, s.key = d.upTo(3)*5000-5000, d.upTo(34)-1
	}
	return s
}

// eachRun tells of every step of many runs: the engine ahead of it, the step, and its answer. Few keys make many conflicts, one key a full chain.
func eachRun(seed dice, runs int, tell func(run int, e impl.Engine, s step, answer impl.EngineResult)) {
	d := seed
	for run := range runs {
		keys := []int64{1, 2, 3, 5, 32}[run%5]
		e := newEngine(cellsFrom(0, 1, []int64{0, 1, 2, 4, 20}[d.upTo(4)], 50)...)
		switch d.upTo(5) {
		case 0:
			e.Next = topTxn - d.upTo(9)
		case 1:
			e.Clock = topAt - d.upTo(5)
		}
		for range 30 + d.upTo(90) {
			s := thrownStep(e, &d, keys)
			answer := doStep(e, s)
			tell(run, e, s, answer)
			if answer.Code == impl.OK {
				e = answer.Engine
			}
		}
	}
}

// someEngines: the edges, and where some runs led.
func someEngines() []impl.Engine {
	out := edgeEngines()
	count := 0
	eachRun(60, 40, func(run int, e impl.Engine, s step, answer impl.EngineResult) {
		if count++; count%17 == 0 {
			out = append(out, e)
		}
	})
	return out
}

func idsNear(e impl.Engine) []int64 {
	ids := []int64{-1, 0, 1, e.Next - 1, e.Next, topTxn}
	for _, txn := range e.Txns {
		ids = append(ids, txn.Id)
	}
	slices.Sort(ids)
	return slices.Compact(ids)
}

func TestSoundEngines(t *testing.T) {
	for n, e := range someEngines() {
		if got, by := impl.EngineFault(e), engineFaultByHand(e); got != impl.OK || by != impl.OK {
			t.Errorf("engine %d: EngineFault(%+v) = %d, by hand %d", n, e, got, by)
		}
	}
	if impl.MaxTxns != mostTxns || impl.MaxUndos != mostUndos || impl.StateOpen != 1 || impl.StateDone != 2 || impl.StateGone != 3 {
		t.Error("a constant is not as told")
	}
}

// What each function answers of each engine, for each transaction, at keys and values of which each is also low, high and save.
func TestEnginesAsByHand(t *testing.T) {
	asked := [][2]int64{{3, 5}, {0, 0}, {31, 31}, {4, 1}, {-1, 60}, {32, -1}, {8, 9999}, {9, 10000}, {2, 59}, {11, 61}}
	for n, e := range someEngines() {
		for i, id := range idsNear(e) {
			for _, c := range slices.Repeat(asked, 2)[(n+i)%10:][:4] { // all of them are asked of some engine like it
				if got, want := tellEngine(e, id, c[0], c[1]), tellEngineByHand(e, id, c[0], c[1]); got != want {
					t.Fatalf("engine %d, %d, %v: of %+v\n%s, want\n%s", n, id, c, e, got, want)
				}
			}
		}
	}
}

func TestRunsAsByHand(t *testing.T) {
	met := map[[2]int64]int{}
	eachRun(61, 300, func(run int, e impl.Engine, s step, answer impl.EngineResult) {
		want := doStepByHand(e, s)
		met[[2]int64{s.kind, want.Code}]++
		if told(answer) != told(want) {
			t.Fatalf("run %d: %+v of %+v: %+v, want %+v", run, s, e, answer, want)
		}
	})
	for _, c := range [][2]int64{
		{stepBegin, impl.OK}, {stepBegin, impl.ErrMany}, {stepPut, impl.OK}, {stepPut, impl.ErrNone}, {stepPut, impl.ErrState}, {stepPut, impl.ErrRange}, {stepPut, impl.ErrConflict}, {stepPut, impl.ErrMany},
		{stepDrop, impl.OK}, {stepDrop, impl.ErrNone}, {stepDrop, impl.ErrState}, {stepDrop, impl.ErrRange}, {stepDrop, impl.ErrConflict}, {stepCommit, impl.OK}, {stepCommit, impl.ErrRange}, {stepCommit, impl.ErrState},
		{stepAbort, impl.OK}, {stepAbort, impl.ErrState}, {stepRoll, impl.OK}, {stepRoll, impl.ErrState}, {stepRoll, impl.ErrRange},
	} {
		if met[c] < 3 {
			t.Errorf("step %d was told code %d only %d times", c[0], c[1], met[c])
		}
	}
}

// copied tells the same simply: each transaction has a copy of all there was when it began, and keeps one of what it had ahead of each of its writes.
type copied struct {
	next, clock int64
	now         map[int64]int64
	last        map[int64]int64 // when a key was turned
	turns       map[int64]int   // how often
	txns        map[int64]*copiedTxn
}

type copiedTxn struct {
	at, state int64
	now       map[int64]int64
	wrote     map[int64]bool
	saves     []copiedTxn
}

func copiedOf(e impl.Engine, cells []impl.Cell) *copied {
	c := &copied{next: e.Next, clock: e.Clock, now: map[int64]int64{}, last: map[int64]int64{}, turns: map[int64]int{}, txns: map[int64]*copiedTxn{}}
	for _, cell := range cells {
		c.now[cell.Key], c.last[cell.Key], c.turns[cell.Key] = cell.Value, 1, 1
	}
	return c
}

func (c *copied) begin() (int64, int64) {
	if len(c.txns) == mostTxns || c.next == topTxn {
		return impl.ErrMany, 0
	}
	c.txns[c.next] = &copiedTxn{at: c.clock, state: impl.StateOpen, now: maps.Clone(c.now), wrote: map[int64]bool{}}
	c.next++
	return impl.OK, c.next - 1
}

func (c *copied) conflict(id, key int64) bool {
	for other, txn := range c.txns {
		if other != id && txn.state == impl.StateOpen && txn.wrote[key] {
			return true
		}
	}
	return c.last[key] > c.txns[id].at
}

func (c *copied) write(s step) int64 {
	txn := c.txns[s.txn]
	drop := s.kind == stepDrop
	if s.key < 0 || s.key > lastKey || !drop && (s.value < 0 || s.value > 9999) {
		return impl.ErrRange
	}
	if _, has := txn.now[s.key]; drop && !has {
		return impl.ErrNone
	}
	if c.conflict(s.txn, s.key) {
		return impl.ErrConflict
	}
	if len(txn.saves) == mostUndos || !txn.wrote[s.key] && c.turns[s.key] == mostVersions {
		return impl.ErrMany
	}
	txn.saves = append(txn.saves, copiedTxn{now: maps.Clone(txn.now), wrote: maps.Clone(txn.wrote)})
	txn.wrote[s.key] = true
	if drop {
		delete(txn.now, s.key)
	} else {
		txn.now[s.key] = s.value
	}
	return impl.OK
}

func (c *copied) commit(txn *copiedTxn) (int64, int64) {
	if len(txn.wrote) == 0 {
		txn.state = impl.StateDone
		return impl.OK, 0
	}
	if c.clock == topAt {
		return impl.ErrRange, 0
	}
	c.clock++
	txn.state = impl.StateDone
	for key := range txn.wrote {
		c.last[key] = c.clock
		c.turns[key]++
		if value, has := txn.now[key]; has {
			c.now[key] = value
		} else {
			delete(c.now, key)
		}
	}
	return impl.OK, c.clock
}

func (c *copied) roll(txn *copiedTxn, save int64) (int64, int64) {
	if save < 0 || save > int64(len(txn.saves)) {
		return impl.ErrRange, 0
	}
	if save < int64(len(txn.saves)) {
		back := txn.saves[save]
		txn.now, txn.wrote, txn.saves = back.now, back.wrote, txn.saves[:save]
	}
	return impl.OK, save
}

func (c *copied) do(s step) (code int64, value int64) {
	if s.kind == stepBegin {
		return c.begin()
	}
	txn := c.txns[s.txn]
	if txn == nil {
		return impl.ErrNone, 0
	}
	if txn.state != impl.StateOpen {
		return impl.ErrState, 0
	}
	switch s.kind {
	case stepPut, stepDrop:
		return c.write(s), 0
	case stepCommit:
		return c.commit(txn)
	case stepAbort:
		txn.state = impl.StateGone
		txn.wrote = nil
		return impl.OK, 0
	}
	return c.roll(txn, s.value)
}

func (c *copied) scan(id int64) []impl.Cell {
	var out []impl.Cell
	for _, key := range slices.Sorted(maps.Keys(c.txns[id].now)) {
		out = append(out, impl.Cell{Key: key, Value: c.txns[id].now[key]})
	}
	return out
}

func checkCopied(t *testing.T, run int, e impl.Engine, c *copied) {
	t.Helper()
	for id, txn := range c.txns {
		if txn.state != impl.StateOpen {
			wantCode(t, "ScanKeys of an ended one", impl.ScanKeys(e, id, 0, lastKey), impl.ErrState)
			continue
		}
		if got := impl.ScanKeys(e, id, 0, lastKey); got.Code != impl.OK || !slices.Equal(got.Cells, c.scan(id)) {
			t.Fatalf("run %d: %d scans %+v in %+v, and a copy has %v", run, id, got, e, c.scan(id))
		}
		for key := range int64(mostRows) {
			want := impl.IntResult{Code: impl.ErrNone}
			if value, has := txn.now[key]; has {
				want = impl.IntResult{Value: value}
			}
			if got := impl.ReadKey(e, id, key); got != want {
				t.Fatalf("run %d: %d reads %+v of key %d in %+v, want %+v", run, id, got, key, e, want)
			}
		}
	}
}

// Whatever is done an engine has no fault, and it replies what copies reply.
func TestRunsAreAsWithCopies(t *testing.T) {
	var c *copied
	last := -1
	steps := 0
	eachRun(62, 120, func(run int, e impl.Engine, s step, answer impl.EngineResult) {
		if run != last {
			last = run
			var cells []impl.Cell
			for _, row := range e.Rows {
				cells = append(cells, impl.Cell{Key: row.Key, Value: row.Chain[0].Value})
			}
			c = copiedOf(e, cells)
		}
		code, value := c.do(s)
		if answer.Code != code || answer.Value != value {
			t.Fatalf("run %d: %+v of %+v: code %d and %d, with copies %d and %d", run, s, e, answer.Code, answer.Value, code, value)
		}
		if code != impl.OK {
			wantCode(t, "a step", answer, code)
			return
		}
		if fault := impl.EngineFault(answer.Engine); fault != impl.OK {
			t.Fatalf("run %d: %+v of %+v has the fault %d", run, s, e, fault)
		}
		if steps++; steps%3 == 0 {
			checkCopied(t, run, answer.Engine, c)
		}
	})
	if steps < 3000 {
		t.Errorf("only %d steps were done", steps)
	}
}

// scans: what each open transaction but one reads of all keys.
func scans(e impl.Engine, but int64) string {
	var out []any
	for _, id := range impl.OpenTxns(e).List {
		if id != but {
			out = append(out, id, impl.ScanKeys(e, id, 0, lastKey))
		}
	}
	return told(out)
}

// Whatever another transaction does, what one reads stays.
func TestWhatOneReadsStays(t *testing.T) {
	eachRun(63, 200, func(run int, e impl.Engine, s step, answer impl.EngineResult) {
		if answer.Code != impl.OK {
			return
		}
		but := s.txn
		if s.kind == stepBegin {
			but = answer.Value
		}
		if before, after := scans(e, but), scans(answer.Engine, but); before != after {
			t.Fatalf("run %d: %+v of %+v: others read %s, and then %s", run, s, e, before, after)
		}
	})
}

// withNewcomer: the engine without all that is open, and one that begins in it: in the whole one there may be no room.
func withNewcomer(t *testing.T, e impl.Engine) (impl.Engine, int64) {
	t.Helper()
	bare := impl.Engine{Next: min(e.Next, topTxn-1), Clock: e.Clock}
	for _, row := range e.Rows {
		if row.Chain[0].At == 0 {
			row.Chain = row.Chain[1:]
		}
		if len(row.Chain) > 0 {
			bare.Rows = append(bare.Rows, row)
		}
	}
	began := impl.BeginTxn(bare)
	if began.Code != impl.OK {
		t.Fatalf("none can begin in %+v: %+v", bare, began)
	}
	return began.Engine, began.Value
}

// What is committed is read by who begins then, and nothing else that is done turns what such a one reads.
func TestWhatIsCommittedIsReadByWhoBeginsThen(t *testing.T) {
	commits := 0
	eachRun(64, 150, func(run int, e impl.Engine, s step, answer impl.EngineResult) {
		if answer.Code != impl.OK {
			return
		}
		ahead, early := withNewcomer(t, e)
		behind, late := withNewcomer(t, answer.Engine)
		turned := map[int64]bool{}
		if place, code := txnByHand(e, s.txn); s.kind == stepCommit && code == impl.OK {
			for _, undo := range e.Txns[place].Undos {
				turned[undo.Key] = true
				commits++
			}
		}
		for key := range int64(mostRows) {
			want := impl.ReadKey(ahead, early, key)
			if turned[key] {
				want = impl.ReadKey(e, s.txn, key)
			}
			if got := impl.ReadKey(behind, late, key); got != want {
				t.Fatalf("run %d: %+v of %+v: who begins then reads %+v of key %d, want %+v", run, s, e, got, key, want)
			}
		}
	})
	if commits < 100 {
		t.Errorf("only %d writes were committed", commits)
	}
}

// Of two that are open and want one key the second one is told ErrConflict once the first one wrote it, also behind its commit; behind its abort it may write.
func TestOfTwoTheFirstWins(t *testing.T) {
	cells := []impl.Cell{{Key: 1, Value: 10}, {Key: 2, Value: 20}}
	for key, there := range []bool{false, true, true, false} {
		key := int64(key)
		for name, first := range map[string]func(e impl.Engine) impl.EngineResult{
			"put":          func(e impl.Engine) impl.EngineResult { return impl.PutKey(e, 2, key, 5) },
			"put twice":    func(e impl.Engine) impl.EngineResult { return impl.PutKey(impl.PutKey(e, 2, key, 5).Engine, 2, key, 6) },
			"put and drop": func(e impl.Engine) impl.EngineResult { return impl.DropKey(impl.PutKey(e, 2, key, 5).Engine, 2, key) },
		} {
			e := impl.BeginTxn(impl.BeginTxn(newEngine(cells...)).Engine).Engine
			won := first(e)
			if won.Code != impl.OK {
				t.Fatalf("%s of key %d: %+v", name, key, won)
			}
			lost := func(where string, e impl.Engine) {
				t.Helper()
				wantCode(t, where+": PutKey", impl.PutKey(e, 3, key, 7), impl.ErrConflict)
				if there {
					wantCode(t, where+": DropKey", impl.DropKey(e, 3, key), impl.ErrConflict)
				} else {
					wantCode(t, where+": DropKey of what it cannot read", impl.DropKey(e, 3, key), impl.ErrNone)
				}
				wantCode(t, where+": PutKey of another key", impl.PutKey(e, 3, 9, 7), impl.OK)
			}
			lost(name+", open", won.Engine)
			lost(name+", committed", impl.CommitTxn(won.Engine, 2).Engine)
			aborted, rolled := impl.AbortTxn(won.Engine, 2).Engine, impl.RollTo(won.Engine, 2, 0).Engine
			wantCode(t, name+", aborted: PutKey", impl.PutKey(aborted, 3, key, 7), impl.OK)
			wantCode(t, name+", rolled back: PutKey", impl.PutKey(rolled, 3, key, 7), impl.OK)
			wantCode(t, name+", rolled back, and lost then", impl.PutKey(impl.PutKey(rolled, 3, key, 7).Engine, 2, key, 8), impl.ErrConflict)
			// One that begins behind the commit is not ahead of it.
			later := impl.BeginTxn(impl.CommitTxn(won.Engine, 2).Engine)
			wantCode(t, name+", committed: PutKey by a later one", impl.PutKey(later.Engine, later.Value, key, 7), impl.OK)
			// One that wrote nothing and committed takes nothing away.
			idle := impl.CommitTxn(impl.RollTo(won.Engine, 2, 0).Engine, 2).Engine
			wantCode(t, name+", rolled back and committed: PutKey", impl.PutKey(idle, 3, key, 7), impl.OK)
		}
	}
}

// RollTo gives back just the engine that there was at that many undos, and AbortTxn the rows ahead of all writes, where nobody else did anything in between.
func TestWhatIsRolledBackIsAsIfNotDone(t *testing.T) {
	d := dice(65)
	rolls := 0
	for n, start := range someEngines() {
		if n%3 > 0 {
			continue
		}
		began := impl.BeginTxn(start)
		if began.Code != impl.OK {
			began = impl.BeginTxn(newEngine(cellsFrom(1, 1, 3, 30)...))
		}
		id, base := began.Value, began.Engine
		were := []impl.Engine{base}
		for range d.upTo(70) {
			e := were[len(were)-1]
			key := d.upTo(3) + d.upTo(1)*28
			made := impl.PutKey(e, id, key, d.upTo(9999))
			if d.upTo(2) == 0 {
				made = impl.DropKey(e, id, key)
			}
			if made.Code == impl.OK {
				were = append(were, made.Engine)
			}
		}
		e := were[len(were)-1]
		for save, was := range were {
			rolls++
			got := impl.RollTo(e, id, int64(save))
			if got.Code != impl.OK || got.Value != int64(save) || !sameEngine(got.Engine, was) {
				t.Fatalf("engine %d: rolled to %d: %+v, want %+v", n, save, got, was)
			}
		}
		aborted := impl.AbortTxn(e, id)
		if aborted.Code != impl.OK || aborted.Value != 0 || told(aborted.Engine.Rows) != told(base.Rows) || aborted.Engine.Clock != base.Clock {
			t.Fatalf("engine %d: aborted: %+v, want the rows of %+v", n, aborted, base)
		}
	}
	if rolls < 1000 {
		t.Errorf("only %d rolls", rolls)
	}
}

// What is rolled back is as if it had not been done whatever others do between: all the same is done without it.
func TestRolledBackAmongOthers(t *testing.T) {
	d := dice(66)
	for run := range 60 {
		plain := impl.BeginTxn(impl.BeginTxn(newEngine(cellsFrom(0, 1, 6, 60)...)).Engine).Engine
		mixed := plain
		for range 40 {
			if d.upTo(1) == 0 { // 2 has the even keys, 3 the odd ones
				key, value := 2*d.upTo(3), d.upTo(99)
				made := impl.PutKey(mixed, 2, key, value)
				if d.upTo(3) == 0 {
					made = impl.DropKey(mixed, 2, key)
				}
				if made.Code == impl.OK {
					mixed = made.Engine
				}
				continue
			}
			s := step{kind: stepPut + d.upTo(1), txn: 3, key: 1 + 2*d.upTo(3), value: d.upTo(99)}
			one, two := doStep(plain, s), doStep(mixed, s)
			if one.Code != two.Code {
				t.Fatalf("run %d: %+v is told %d and %d", run, s, one.Code, two.Code)
			}
			if one.Code == impl.OK {
				plain, mixed = one.Engine, two.Engine
			}
		}
		if d.upTo(1) == 0 {
			plain, mixed = impl.CommitTxn(plain, 3).Engine, impl.CommitTxn(mixed, 3).Engine
		}
		if got := impl.RollTo(mixed, 2, 0); !sameEngine(got.Engine, plain) {
			t.Fatalf("run %d: %+v, want %+v", run, got, plain)
		}
		if got, want := impl.AbortTxn(mixed, 2), impl.AbortTxn(plain, 2); told(got) != told(want) {
			t.Fatalf("run %d: aborted %+v, want %+v", run, got, want)
		}
	}
}

func TestNewEngine(t *testing.T) {
	for count := range int64(21) {
		cells := cellsFrom(11, 1, count, 9980)
		want := impl.Engine{Next: 2, Clock: min(count, 1)}
		for _, c := range cells {
			want.Rows = append(want.Rows, rowOf(c.Key, done(1, 1, c.Value)))
		}
		if got := impl.NewEngine(cells); got.Code != impl.OK || got.Value != 0 || !sameEngine(got.Engine, want) {
			t.Errorf("NewEngine(%v) = %+v, want %+v", cells, got, want)
		}
	}
	many := cellsFrom(0, 1, 21, 0)
	wrong := slices.Clone(many)
	wrong[0].Key = -1
	for _, c := range []struct {
		name  string
		cells []impl.Cell
		code  int64
	}{
		{"21 cells", many, impl.ErrMany}, {"32 cells", cellsFrom(0, 1, 32, 0), impl.ErrMany}, {"21 cells, one of a wrong Key", wrong, impl.ErrMany}, {"20 cells", many[:20], impl.OK}, {"20 cells, one of a wrong Key", wrong[:20], impl.ErrRange},
		{"Key -1", []impl.Cell{{Key: -1}}, impl.ErrRange}, {"Key 32", []impl.Cell{{Key: 5}, {Key: 32}}, impl.ErrRange}, {"Key 31", []impl.Cell{{Key: 0}, {Key: 31}}, impl.OK},
		{"Value -1", []impl.Cell{{Key: 5, Value: -1}}, impl.ErrRange}, {"Value 10000", []impl.Cell{{Key: 5, Value: 10000}}, impl.ErrRange}, {"Value 9999", []impl.Cell{{Key: 5, Value: 9999}}, impl.OK},
		{"one Key twice", []impl.Cell{{Key: 5}, {Key: 5}}, impl.ErrForm}, {"Keys that fall", []impl.Cell{{Key: 5}, {Key: 4}}, impl.ErrForm},
		{"form ahead of range", []impl.Cell{{Key: 5}, {Key: 4}, {Key: 32}}, impl.ErrForm}, {"range ahead of form", []impl.Cell{{Key: 5, Value: 10000}, {Key: 4}}, impl.ErrRange}, {"range and form", []impl.Cell{{Key: 5}, {Key: 4, Value: -1}}, impl.ErrRange},
	} {
		wantCode(t, "NewEngine of "+c.name, impl.NewEngine(c.cells), c.code)
	}
}

func TestBeginTxnAsTold(t *testing.T) {
	for _, next := range []int64{1, 2, 21, 500, 997, 998, 999} {
		for count := range int64(mostTxns + 1) {
			for _, clock := range []int64{0, 1, topAt} {
				if count >= next {
					continue
				}
				e := someOpen(int(count), next, clock)
				got := impl.BeginTxn(e)
				if count == mostTxns || next == topTxn {
					wantCode(t, fmt.Sprintf("BeginTxn of %d, Next %d", count, next), got, impl.ErrMany)
					continue
				}
				want := impl.Engine{Next: next + 1, Clock: clock, Txns: append(slices.Clone(e.Txns), openAt(next, clock))}
				if got.Code != impl.OK || got.Value != next || !sameEngine(got.Engine, want) {
					t.Errorf("BeginTxn of %d, Next %d: %+v, want %+v", count, next, got, want)
				}
			}
		}
	}
	// Ended ones take room as open ones do.
	full := someOpen(mostTxns, 30, 5)
	for i := range full.Txns {
		full.Txns[i].State = impl.StateDone + int64(i%2)
	}
	wantCode(t, "BeginTxn behind 20 that have ended", impl.BeginTxn(full), impl.ErrMany)
}

// 5 writes, one write behind the other.
func TestWritesAsTold(t *testing.T) {
	e := impl.Engine{Next: 9, Clock: 4, Txns: []impl.Txn{doneAt(2, 1, 4), openAt(5, 3), openAt(7, 4)}, Rows: []impl.Row{rowOf(1, done(1, 1, 10)), rowOf(4, done(2, 4, 40), done(1, 1, 4)), rowOf(6, doneGone(3, 2), done(1, 1, 60))}}
	var undos []impl.Undo
	for n, c := range []struct {
		drop       bool
		key, value int64
		code       int64
		undo       impl.Undo
		chain      []impl.Version
	}{
		{false, 1, 11, impl.OK, firstOf(1), chainOf(wrote(5, 11), done(1, 1, 10))},
		{false, 1, 0, impl.OK, hadOf(1, 11), chainOf(wrote(5, 0), done(1, 1, 10))},
		{true, 1, 0, impl.OK, hadOf(1, 0), chainOf(wroteGone(5), done(1, 1, 10))},
		{true, 1, 0, impl.ErrNone, impl.Undo{}, chainOf(wroteGone(5), done(1, 1, 10))},
		{false, 1, 9999, impl.OK, hadGoneOf(1), chainOf(wrote(5, 9999), done(1, 1, 10))},
		{false, 4, 41, impl.ErrConflict, impl.Undo{}, chainOf(done(2, 4, 40), done(1, 1, 4))},
		{true, 4, 0, impl.ErrConflict, impl.Undo{}, chainOf(done(2, 4, 40), done(1, 1, 4))},
		{true, 6, 0, impl.ErrNone, impl.Undo{}, chainOf(doneGone(3, 2), done(1, 1, 60))},
		{false, 6, 61, impl.OK, firstOf(6), chainOf(wrote(5, 61), doneGone(3, 2), done(1, 1, 60))},
		{true, 31, 0, impl.ErrNone, impl.Undo{}, nil},
		{false, 31, 3, impl.OK, firstOf(31), chainOf(wrote(5, 3))},
		{false, 0, 2, impl.OK, firstOf(0), chainOf(wrote(5, 2))},
		{true, 0, 0, impl.OK, hadOf(0, 2), chainOf(wroteGone(5))},
		{false, 5, 7, impl.OK, firstOf(5), chainOf(wrote(5, 7))},
	} {
		made := impl.PutKey(e, 5, c.key, c.value)
		if c.drop {
			made = impl.DropKey(e, 5, c.key)
		}
		wantCode(t, fmt.Sprintf("write %d", n), made, c.code)
		if made.Code == impl.OK {
			e, undos = made.Engine, append(undos, c.undo)
		}
		if chain := chainsByHand(e)[c.key]; !slices.Equal(chain, c.chain) || made.Value != 0 {
			t.Errorf("write %d: the chain is %+v, want %+v", n, chain, c.chain)
		}
		if !slices.Equal(e.Txns[1].Undos, undos) || len(e.Txns[0].Undos)+len(e.Txns[2].Undos) > 0 {
			t.Errorf("write %d: %+v, want the undos %+v", n, e.Txns, undos)
		}
	}
	var keys []int64
	for _, row := range e.Rows {
		keys = append(keys, row.Key)
	}
	if !slices.Equal(keys, []int64{0, 1, 4, 5, 6, 31}) || e.Next != 9 || e.Clock != 4 {
		t.Errorf("%+v", e)
	}
	checkEndsAsTold(t, e)
}

// checkEndsAsTold: the engine at the end of TestWritesAsTold, rolled back, committed and aborted.
func checkEndsAsTold(t *testing.T, e impl.Engine) {
	t.Helper()
	first := []impl.Row{rowOf(1, done(1, 1, 10)), rowOf(4, done(2, 4, 40), done(1, 1, 4)), rowOf(6, doneGone(3, 2), done(1, 1, 60))}
	if got := impl.RollTo(e, 5, 3); got.Value != 3 || told(got.Engine.Rows[0]) != told(rowOf(1, wroteGone(5), done(1, 1, 10))) || told(got.Engine.Rows[1:]) != told(first[1:]) || len(got.Engine.Txns[1].Undos) != 3 {
		t.Errorf("RollTo 3: %+v", got)
	}
	if got := impl.RollTo(e, 5, 7); got.Value != 7 || told(got.Engine.Rows[0]) != told(rowOf(0, wrote(5, 2))) || len(got.Engine.Rows) != 5 {
		t.Errorf("RollTo 7: %+v", got)
	}
	if got := impl.AbortTxn(e, 5); got.Value != 0 || told(got.Engine) != told(impl.Engine{Next: 9, Clock: 4, Txns: []impl.Txn{doneAt(2, 1, 4), abortedAt(5, 3), openAt(7, 4)}, Rows: first}) {
		t.Errorf("AbortTxn: %+v", got)
	}
	want := impl.Engine{Next: 9, Clock: 5, Txns: []impl.Txn{doneAt(2, 1, 4), doneAt(5, 3, 5), openAt(7, 4)}, Rows: []impl.Row{
		rowOf(0, doneGone(5, 5)), rowOf(1, done(5, 5, 9999), done(1, 1, 10)), first[1], rowOf(5, done(5, 5, 7)), rowOf(6, done(5, 5, 61), doneGone(3, 2), done(1, 1, 60)), rowOf(31, done(5, 5, 3))}}
	if got := impl.CommitTxn(e, 5); got.Value != 5 || !sameEngine(got.Engine, want) {
		t.Errorf("CommitTxn: %+v, want %+v", got, want)
	}
}

// A transaction that wrote nothing, or took all of it back, is done at no number, also where the clock cannot go on.
func TestCommitOfWhoWroteNothing(t *testing.T) {
	for _, clock := range []int64{0, 1, topAt - 1, topAt} {
		e := someOpen(3, 9, clock)
		want := copyEngine(e)
		want.Txns[1] = doneAt(7, e.Txns[1].At, 0)
		if got := impl.CommitTxn(e, 7); got.Code != impl.OK || got.Value != 0 || !sameEngine(got.Engine, want) {
			t.Errorf("clock %d: CommitTxn = %+v, want %+v", clock, got, want)
		}
		put := impl.PutKey(e, 7, 3, 30).Engine
		back := impl.RollTo(put, 7, 0).Engine
		if got := impl.CommitTxn(back, 7); got.Code != impl.OK || got.Value != 0 || !sameEngine(got.Engine, want) {
			t.Errorf("clock %d: rolled back, CommitTxn = %+v, want %+v", clock, got, want)
		}
		got := impl.CommitTxn(put, 7)
		if clock == topAt {
			wantCode(t, "CommitTxn at the last clock", got, impl.ErrRange)
			wantCode(t, "AbortTxn at the last clock", impl.AbortTxn(put, 7), impl.OK)
			continue
		}
		want.Clock, want.Txns[1].Done, want.Rows = clock+1, clock+1, []impl.Row{rowOf(3, done(7, clock+1, 30))}
		if got.Code != impl.OK || got.Value != clock+1 || !sameEngine(got.Engine, want) {
			t.Errorf("clock %d: put, CommitTxn = %+v, want %+v", clock, got, want)
		}
	}
}

func TestScansAsTold(t *testing.T) {
	e := impl.Engine{Next: 9, Clock: 4, Txns: []impl.Txn{openAt(5, 3, firstOf(7), firstOf(9), firstOf(31)), openAt(8, 4)}, Rows: []impl.Row{
		rowOf(0, done(1, 1, 0)), rowOf(3, done(2, 4, 30), done(1, 1, 3)), rowOf(4, done(2, 4, 40)), rowOf(5, doneGone(2, 4), done(1, 1, 5)), rowOf(7, wrote(5, 70), done(1, 3, 7)), rowOf(9, wroteGone(5), done(1, 3, 90)), rowOf(31, wrote(5, 310))}}
	mine := []impl.Cell{{Key: 0}, {Key: 3, Value: 3}, {Key: 5, Value: 5}, {Key: 7, Value: 70}, {Key: 31, Value: 310}}
	other := []impl.Cell{{Key: 0}, {Key: 3, Value: 30}, {Key: 4, Value: 40}, {Key: 7, Value: 7}, {Key: 9, Value: 90}}
	for _, c := range []struct {
		low, high int64
		mine      []impl.Cell
		other     []impl.Cell
	}{
		{0, 31, mine, other}, {-1, 32, mine, other}, {math.MinInt64, math.MaxInt64, mine, other}, {0, 0, mine[:1], other[:1]}, {31, 31, mine[4:], nil}, {1, 30, mine[1:4], other[1:]}, {3, 7, mine[1:4], other[1:4]}, {4, 6, mine[2:3], other[2:3]},
		{7, 7, mine[3:4], other[3:4]}, {8, 8, nil, nil}, {9, 9, nil, other[4:]}, {7, 6, nil, nil}, {31, 0, nil, nil}, {math.MaxInt64, math.MinInt64, nil, nil}, {32, 99, nil, nil}, {-9, -1, nil, nil}, {-9, 0, mine[:1], other[:1]}, {10, 99, mine[4:], nil},
	} {
		if got := impl.ScanKeys(e, 5, c.low, c.high); got.Code != impl.OK || !slices.Equal(got.Cells, c.mine) {
			t.Errorf("5 scans %d to %d: %+v, want %v", c.low, c.high, got, c.mine)
		}
		if got := impl.ScanKeys(e, 8, c.low, c.high); got.Code != impl.OK || !slices.Equal(got.Cells, c.other) {
			t.Errorf("8 scans %d to %d: %+v, want %v", c.low, c.high, got, c.other)
		}
	}
	for _, c := range []struct {
		key         int64
		mine, other impl.IntResult
	}{
		{0, impl.IntResult{}, impl.IntResult{}}, {3, impl.IntResult{Value: 3}, impl.IntResult{Value: 30}}, {4, impl.IntResult{Code: impl.ErrNone}, impl.IntResult{Value: 40}}, {5, impl.IntResult{Value: 5}, impl.IntResult{Code: impl.ErrNone}},
		{7, impl.IntResult{Value: 70}, impl.IntResult{Value: 7}}, {9, impl.IntResult{Code: impl.ErrNone}, impl.IntResult{Value: 90}}, {31, impl.IntResult{Value: 310}, impl.IntResult{Code: impl.ErrNone}}, {1, impl.IntResult{Code: impl.ErrNone}, impl.IntResult{Code: impl.ErrNone}},
	} {
		if mine, other := impl.ReadKey(e, 5, c.key), impl.ReadKey(e, 8, c.key); mine != c.mine || other != c.other {
			t.Errorf("key %d: 5 reads %+v, 8 reads %+v", c.key, mine, other)
		}
	}
}

// A chain that is full takes no other's version more, but goes on to take those of the one whose version is its first.
func TestWritesToFullChains(t *testing.T) {
	e := newEngine(impl.Cell{Key: 3, Value: 30})
	for n := range int64(11) {
		began := impl.BeginTxn(e)
		e = impl.CommitTxn(impl.PutKey(began.Engine, began.Value, 3, n).Engine, began.Value).Engine
	}
	began := impl.BeginTxn(e)
	id := began.Value
	if len(e.Rows[0].Chain) != mostVersions || e.Clock != 12 {
		t.Fatalf("%+v", e)
	}
	wantCode(t, "PutKey to 12 versions", impl.PutKey(began.Engine, id, 3, 5), impl.ErrMany)
	wantCode(t, "DropKey of 12 versions", impl.DropKey(began.Engine, id, 3), impl.ErrMany)
	wantCode(t, "PutKey of another key", impl.PutKey(began.Engine, id, 4, 5), impl.OK)
	short := copyEngine(began.Engine)
	short.Rows[0].Chain = short.Rows[0].Chain[:11]
	own := impl.PutKey(short, id, 3, 5)
	wantCode(t, "PutKey to 11 versions", own, impl.OK)
	again := impl.PutKey(own.Engine, id, 3, 6)
	wantCode(t, "PutKey to 12 versions, the first its own", again, impl.OK)
	wantCode(t, "DropKey of 12 versions, the first its own", impl.DropKey(again.Engine, id, 3), impl.OK)
	if got := impl.RollTo(again.Engine, id, 0); !sameEngine(got.Engine, short) {
		t.Errorf("rolled back: %+v", got)
	}
	committed := impl.CommitTxn(again.Engine, id).Engine
	if chain := committed.Rows[0].Chain; len(chain) != mostVersions || chain[0] != done(id, 13, 6) {
		t.Errorf("committed: %+v", committed)
	}
}

func TestUndosUpToTheirNumber(t *testing.T) {
	e := impl.BeginTxn(newEngine(impl.Cell{Key: 3, Value: 30})).Engine
	were := []impl.Engine{e}
	for n := range int64(mostUndos) {
		made := impl.PutKey(e, 2, n%5, n)
		if n%4 == 3 {
			made = impl.DropKey(e, 2, (n-1)%5)
		}
		if made.Code != impl.OK {
			t.Fatalf("write %d: %+v", n, made)
		}
		e = made.Engine
		were = append(were, e)
	}
	wantCode(t, "PutKey behind 60 writes", impl.PutKey(e, 2, 3, 5), impl.ErrMany)
	wantCode(t, "DropKey behind 60 writes", impl.DropKey(e, 2, 1), impl.ErrMany)
	wantCode(t, "DropKey of nothing behind 60 writes", impl.DropKey(e, 2, 30), impl.ErrNone)
	wantCode(t, "PutKey of a wrong value behind 60 writes", impl.PutKey(e, 2, 3, 10000), impl.ErrRange)
	wantCode(t, "RollTo -1", impl.RollTo(e, 2, -1), impl.ErrRange)
	wantCode(t, "RollTo 61", impl.RollTo(e, 2, 61), impl.ErrRange)
	for save, was := range were {
		got := impl.RollTo(e, 2, int64(save))
		if got.Value != int64(save) || !sameEngine(got.Engine, was) {
			t.Errorf("RollTo %d: %+v, want %+v", save, got, was)
		}
		wantCode(t, "RollTo one more", impl.RollTo(got.Engine, 2, int64(save)+1), impl.ErrRange)
		if save < mostUndos {
			wantCode(t, "PutKey behind a roll", impl.PutKey(got.Engine, 2, 9, 5), impl.OK)
		}
	}
}

type faultyEngine struct {
	name   string
	engine impl.Engine
	code   int64
}

// baseEngine: 3 is done at 4, 5 wrote keys 2 and 6, 8 wrote nothing, 9 wrote key 20.
func baseEngine() impl.Engine {
	return impl.Engine{Next: 12, Clock: 6,
		Txns: []impl.Txn{doneAt(3, 2, 4), openAt(5, 5, firstOf(2), firstOf(6), hadOf(2, 21), hadGoneOf(2), hadOf(6, 0)), abortedAt(6, 5), openAt(8, 6), openAt(9, 6, firstOf(20)), doneAt(11, 6, 0)},
		Rows: []impl.Row{rowOf(2, wrote(5, 22), done(3, 4, 20), done(1, 1, 2)), rowOf(4, doneGone(3, 4), done(1, 1, 4)), rowOf(6, wroteGone(5)), rowOf(20, wrote(9, 0), done(2, 6, 200)), rowOf(31, done(1, 1, 31))}}
}

func turnedEngine(turn func(e *impl.Engine)) impl.Engine {
	e := baseEngine()
	turn(&e)
	return e
}

// engineCase: a turn of the base engine and the fault that it has then.
type engineCase struct {
	name string
	code int64
	turn func(e *impl.Engine)
}

func casesOf(cases ...engineCase) []faultyEngine {
	var out []faultyEngine
	for _, c := range cases {
		out = append(out, faultyEngine{c.name, turnedEngine(c.turn), c.code})
	}
	return out
}

// manyTxns: count transactions that are open, and begin with the ids of none else.
func manyTxns(count int) []impl.Txn {
	var out []impl.Txn
	for i := range count {
		out = append(out, openAt(int64(i)+1, 0))
	}
	return out
}

func manyRows(count int) []impl.Row {
	var out []impl.Row
	for key := range int64(count) {
		out = append(out, rowOf(key, done(1, 1, key)))
	}
	return out
}

func countFaultsOfEngines() []faultyEngine {
	return casesOf(
		engineCase{"as it is", impl.OK, func(e *impl.Engine) {}},
		engineCase{"no transactions and no rows", impl.OK, func(e *impl.Engine) { e.Txns, e.Rows = nil, nil }},
		engineCase{"20 transactions", impl.OK, func(e *impl.Engine) { e.Next, e.Txns, e.Rows = 21, manyTxns(20), nil }},
		engineCase{"21 transactions", impl.ErrMany, func(e *impl.Engine) { e.Next, e.Txns, e.Rows = 22, manyTxns(21), nil }},
		engineCase{"32 rows", impl.OK, func(e *impl.Engine) { e.Txns, e.Rows = nil, manyRows(32) }},
		engineCase{"33 rows", impl.ErrMany, func(e *impl.Engine) { e.Txns, e.Rows = nil, manyRows(33) }},
		engineCase{"33 rows alike", impl.ErrMany, func(e *impl.Engine) { e.Rows = slices.Repeat(e.Rows[4:], 33) }},
		engineCase{"33 rows of zeros", impl.ErrMany, func(e *impl.Engine) { e.Rows = make([]impl.Row, 33) }},
		engineCase{"21 transactions of zeros", impl.ErrMany, func(e *impl.Engine) { e.Txns = make([]impl.Txn, 21) }},
		engineCase{"33 rows, and a wrong transaction", impl.ErrMany, func(e *impl.Engine) { e.Txns[0].Id, e.Rows = 0, manyRows(33) }},
		engineCase{"21 transactions, and Next 0", impl.ErrRange, func(e *impl.Engine) { e.Next, e.Txns = 0, manyTxns(21) }},
		engineCase{"33 rows, and Clock -1", impl.ErrRange, func(e *impl.Engine) { e.Clock, e.Rows = -1, manyRows(33) }},
		engineCase{"59 undos", impl.OK, func(e *impl.Engine) { e.Txns[4].Undos = manyUndos(59) }},
		engineCase{"60 undos", impl.OK, func(e *impl.Engine) { e.Txns[4].Undos = manyUndos(60) }},
		engineCase{"61 undos", impl.ErrMany, func(e *impl.Engine) { e.Txns[4].Undos = manyUndos(61) }},
		engineCase{"61 undos of one that is done", impl.ErrForm, func(e *impl.Engine) { e.Txns[0].Undos = manyUndos(61) }},
		engineCase{"61 undos that are wrong", impl.ErrMany, func(e *impl.Engine) { e.Txns[4].Undos = slices.Repeat([]impl.Undo{{Key: -1}}, 61) }},
		engineCase{"61 undos, At -1", impl.ErrRange, func(e *impl.Engine) { e.Txns[4].At, e.Txns[4].Undos = -1, manyUndos(61) }},
		engineCase{"61 undos, Done 6", impl.ErrForm, func(e *impl.Engine) { e.Txns[4].Done, e.Txns[4].Undos = 6, manyUndos(61) }},
	)
}

func manyUndos(count int) []impl.Undo {
	return append([]impl.Undo{firstOf(20)}, slices.Repeat([]impl.Undo{hadOf(20, 5)}, count-1)...)
}

// numberFaultsOfEngines: each number at the ends of its bounds and just outside them.
func numberFaultsOfEngines() []faultyEngine {
	wide := []int64{math.MinInt64, -1, math.MaxInt64}
	var out []faultyEngine
	add := func(name string, sound, wrong []int64, turn func(e *impl.Engine, number int64)) {
		for _, number := range sound {
			out = append(out, casesOf(engineCase{fmt.Sprintf("%s %d", name, number), impl.OK, func(e *impl.Engine) { turn(e, number) }})...)
		}
		for _, number := range append(slices.Clone(wrong), wide...) {
			out = append(out, casesOf(engineCase{fmt.Sprintf("%s %d", name, number), impl.ErrRange, func(e *impl.Engine) { turn(e, number) }})...)
		}
	}
	add("Next", []int64{12, 13, 998, 999}, []int64{0, 11, 1000}, func(e *impl.Engine, number int64) { e.Next = number })
	add("Next without transactions", []int64{1, 2, 999}, []int64{0, 1000}, func(e *impl.Engine, number int64) { e.Next, e.Txns, e.Rows = number, nil, e.Rows[4:] })
	add("Clock", []int64{6, 7, 999999, 1000000}, []int64{5, 1000001}, func(e *impl.Engine, number int64) { e.Clock = number })
	add("Clock without all", []int64{0, 1, 1000000}, []int64{1000001}, func(e *impl.Engine, number int64) { e.Clock, e.Txns, e.Rows = number, nil, nil })
	add("first Id", []int64{1, 3, 4}, []int64{0, 12, 999}, func(e *impl.Engine, number int64) { e.Txns[0].Id = number })
	add("last Id", []int64{10, 11}, []int64{0, 12, 13}, func(e *impl.Engine, number int64) { e.Txns[5].Id = number })
	add("first At", []int64{0, 2, 3}, []int64{7}, func(e *impl.Engine, number int64) { e.Txns[0].At = number })
	add("At of an open one", []int64{0, 3, 5, 6}, []int64{7}, func(e *impl.Engine, number int64) { e.Txns[1].At = number })
	add("At of an aborted one", []int64{0, 6}, []int64{7}, func(e *impl.Engine, number int64) { e.Txns[2].At = number })
	add("State of one that wrote nothing", []int64{1, 2, 3}, []int64{0, 4}, func(e *impl.Engine, number int64) { e.Txns[3].State = number })
	add("State of the last one", []int64{1, 2, 3}, []int64{0, 4}, func(e *impl.Engine, number int64) { e.Txns[5].State = number })
	add("State of one that has undos", []int64{1}, []int64{0, 4}, func(e *impl.Engine, number int64) { e.Txns[1].State = number })
	add("Done", []int64{0, 3, 4, 6}, []int64{7}, func(e *impl.Engine, number int64) { e.Txns[0].Done = number })
	add("Done of an open one", []int64{0}, []int64{7}, func(e *impl.Engine, number int64) { e.Txns[1].Done = number })
	add("Done of an aborted one", []int64{0}, []int64{7}, func(e *impl.Engine, number int64) { e.Txns[2].Done = number })
	add("Key of the first undo", []int64{2}, []int64{32}, func(e *impl.Engine, number int64) { e.Txns[1].Undos[0].Key = number })
	add("Key of the last undo", []int64{6}, []int64{32}, func(e *impl.Engine, number int64) { e.Txns[1].Undos[4].Key = number })
	add("Value of an undo", []int64{0, 1, 9999}, []int64{10000}, func(e *impl.Engine, number int64) { e.Txns[1].Undos[2].Value = number })
	add("Value of the last undo", []int64{0, 1, 9999}, []int64{10000}, func(e *impl.Engine, number int64) { e.Txns[1].Undos[4].Value = number })
	add("Value of an undo that Had none", []int64{0}, []int64{10000}, func(e *impl.Engine, number int64) { e.Txns[1].Undos[0].Value = number })
	add("Value of an undo that is Gone", []int64{0}, []int64{10000}, func(e *impl.Engine, number int64) { e.Txns[1].Undos[3].Value = number })
	add("Key of the last row", []int64{21, 31}, []int64{32}, func(e *impl.Engine, number int64) { e.Rows[4].Key = number })
	add("Key of a row", []int64{3, 5}, []int64{32}, func(e *impl.Engine, number int64) { e.Rows[1].Key = number })
	add("Key of the first row", []int64{0, 3}, []int64{32}, func(e *impl.Engine, number int64) {
		e.Rows = e.Rows[1:]
		e.Txns, e.Rows[0].Key, e.Rows[1].Chain, e.Rows[2].Chain = nil, number, chainOf(done(1, 1, 1)), chainOf(done(1, 1, 1))
	})
	add("Txn of a version", []int64{1, 999}, []int64{0, 1000}, func(e *impl.Engine, number int64) { e.Rows[1].Chain[1].Txn = number })
	add("Value of a version", []int64{0, 9999}, []int64{10000}, func(e *impl.Engine, number int64) { e.Rows[1].Chain[1].Value = number })
	add("At of a version", []int64{1, 3}, []int64{1000001}, func(e *impl.Engine, number int64) { e.Rows[1].Chain[1].At = number })
	add("Value of what is open", []int64{0, 9999}, []int64{10000}, func(e *impl.Engine, number int64) { e.Rows[0].Chain[0].Value = number })
	return out
}

func formFaultsOfTxns() []faultyEngine {
	return casesOf(
		engineCase{"an Id as the one ahead", impl.ErrForm, func(e *impl.Engine) { e.Txns[3].Id = 6 }},
		engineCase{"an Id below the one ahead", impl.ErrForm, func(e *impl.Engine) { e.Txns[3].Id = 4 }},
		engineCase{"an Id just above the one ahead", impl.OK, func(e *impl.Engine) { e.Txns[3].Id = 7 }},
		engineCase{"an Id as the one behind", impl.ErrForm, func(e *impl.Engine) { e.Txns[3].Id = 9 }},
		engineCase{"Done at At", impl.ErrForm, func(e *impl.Engine) { e.Txns[0].Done = 2 }},
		engineCase{"Done just above At", impl.OK, func(e *impl.Engine) { e.Txns[0].Done = 3 }},
		engineCase{"Done below At", impl.ErrForm, func(e *impl.Engine) { e.Txns[0].Done = 1 }},
		engineCase{"Done at 6, At 6", impl.ErrForm, func(e *impl.Engine) { e.Txns[5].Done = 6 }},
		engineCase{"Done 1, At 0", impl.OK, func(e *impl.Engine) { e.Txns[5].Done, e.Txns[5].At = 1, 0 }},
		engineCase{"Done of one that is open", impl.ErrForm, func(e *impl.Engine) { e.Txns[1].Done = 6 }},
		engineCase{"Done of one that wrote nothing and is open", impl.ErrForm, func(e *impl.Engine) { e.Txns[3].Done, e.Txns[3].At = 6, 2 }},
		engineCase{"Done of one that is aborted", impl.ErrForm, func(e *impl.Engine) { e.Txns[2].Done = 6 }},
		engineCase{"one that has undos is done", impl.ErrForm, func(e *impl.Engine) { e.Txns[1].State = impl.StateDone }},
		engineCase{"one that has undos is done at 6", impl.ErrForm, func(e *impl.Engine) { e.Txns[1].State, e.Txns[1].Done = impl.StateDone, 6 }},
		engineCase{"one that has undos is aborted", impl.ErrForm, func(e *impl.Engine) { e.Txns[1].State = impl.StateGone }},
		engineCase{"an undo of one that is done", impl.ErrForm, func(e *impl.Engine) { e.Txns[5].Undos = []impl.Undo{firstOf(3)} }},
		engineCase{"an undo of one that is aborted", impl.ErrForm, func(e *impl.Engine) { e.Txns[2].Undos = []impl.Undo{firstOf(3)} }},
		engineCase{"an undo that Had none is Gone", impl.ErrForm, func(e *impl.Engine) { e.Txns[1].Undos[0].Gone = true }},
		engineCase{"an undo that Had none has a Value", impl.ErrForm, func(e *impl.Engine) { e.Txns[1].Undos[0].Value = 1 }},
		engineCase{"an undo that Had none has the highest Value", impl.ErrForm, func(e *impl.Engine) { e.Txns[1].Undos[1].Value = 9999 }},
		engineCase{"an undo that is Gone has a Value", impl.ErrForm, func(e *impl.Engine) { e.Txns[1].Undos[3].Value = 1 }},
		engineCase{"the last undo is Gone and has a Value", impl.ErrForm, func(e *impl.Engine) { e.Txns[1].Undos[4] = impl.Undo{Key: 6, Had: true, Gone: true, Value: 9999} }},
		engineCase{"the last undo is Gone", impl.OK, func(e *impl.Engine) { e.Txns[1].Undos[4].Gone = true }},
	)
}

func formFaultsOfRows() []faultyEngine {
	return casesOf(
		engineCase{"a row's Key as the one ahead", impl.ErrForm, func(e *impl.Engine) { e.Rows[1].Key = 2 }},
		engineCase{"a row's Key below the one ahead", impl.ErrForm, func(e *impl.Engine) { e.Rows[1].Key = 1 }},
		engineCase{"a row's Key as the one behind", impl.ErrForm, func(e *impl.Engine) { e.Rows[1].Key = 6 }},
		engineCase{"the last row's Key as the one ahead", impl.ErrForm, func(e *impl.Engine) { e.Rows[4].Key = 20 }},
		engineCase{"an empty chain", impl.ErrForm, func(e *impl.Engine) { e.Rows[4].Chain = nil }},
		engineCase{"an empty first chain", impl.ErrForm, func(e *impl.Engine) { e.Rows[0].Chain = []impl.Version{} }},
		engineCase{"a version at Clock", impl.OK, func(e *impl.Engine) { e.Rows[4].Chain[0].At = 6 }},
		engineCase{"a version above Clock", impl.ErrForm, func(e *impl.Engine) { e.Rows[4].Chain[0].At = 7 }},
		engineCase{"a version at the highest At", impl.ErrForm, func(e *impl.Engine) { e.Rows[4].Chain[0].At = topAt }},
		engineCase{"a version above Clock behind what is open", impl.ErrForm, func(e *impl.Engine) { e.Rows[3].Chain[1].At = 7 }},
		engineCase{"what is open by one that is not there", impl.ErrForm, func(e *impl.Engine) { e.Rows[0].Chain[0].Txn = 4 }},
		engineCase{"what is open by one that was not begun", impl.ErrForm, func(e *impl.Engine) { e.Rows[0].Chain[0].Txn = 12 }},
		engineCase{"what is open by one that is done", impl.ErrForm, func(e *impl.Engine) { e.Rows[0].Chain[0].Txn = 3 }},
		engineCase{"what is open by one that is aborted", impl.ErrForm, func(e *impl.Engine) { e.Rows[0].Chain[0].Txn = 6 }},
		engineCase{"what is open by one that wrote nothing", impl.ErrForm, func(e *impl.Engine) { e.Rows[0].Chain[0].Txn = 8 }},
		engineCase{"what is open by one that wrote another key", impl.ErrForm, func(e *impl.Engine) { e.Rows[0].Chain[0].Txn = 9 }},
		engineCase{"one more that is open, by one that wrote another key", impl.ErrForm, func(e *impl.Engine) { e.Rows[4].Chain = chainOf(wrote(9, 5), done(1, 1, 31)) }},
		engineCase{"one more that is open, and its undo", impl.OK, func(e *impl.Engine) {
			e.Rows[4].Chain, e.Txns[4].Undos = chainOf(wrote(9, 5), done(1, 1, 31)), []impl.Undo{firstOf(20), firstOf(31)}
		}},
	)
}

func formFaultsOfUndos() []faultyEngine {
	return casesOf(
		engineCase{"an undo of a key without a row", impl.ErrForm, func(e *impl.Engine) { e.Txns[3].Undos = []impl.Undo{firstOf(7)} }},
		engineCase{"an undo of a key whose first version is committed", impl.ErrForm, func(e *impl.Engine) { e.Txns[3].Undos = []impl.Undo{firstOf(31)} }},
		engineCase{"an undo of a key whose first version it committed", impl.ErrForm, func(e *impl.Engine) {
			e.Rows[4].Chain[0].Txn, e.Txns[3].Undos = 8, []impl.Undo{firstOf(31)}
		}},
		engineCase{"an undo of a key that another one wrote", impl.ErrForm, func(e *impl.Engine) { e.Txns[3].Undos = []impl.Undo{firstOf(20)} }},
		engineCase{"a later undo of a key that another one wrote", impl.ErrForm, func(e *impl.Engine) { e.Txns[1].Undos = append(e.Txns[1].Undos, firstOf(20)) }},
		engineCase{"a first undo that Had", impl.ErrForm, func(e *impl.Engine) { e.Txns[4].Undos[0] = hadOf(20, 5) }},
		engineCase{"a first undo that Had what is Gone", impl.ErrForm, func(e *impl.Engine) { e.Txns[1].Undos[1] = hadGoneOf(6) }},
		engineCase{"a second undo that Had none", impl.ErrForm, func(e *impl.Engine) { e.Txns[1].Undos[2] = firstOf(2) }},
		engineCase{"a third undo that Had none", impl.ErrForm, func(e *impl.Engine) { e.Txns[1].Undos[3] = firstOf(2) }},
		engineCase{"the last undo Had none", impl.ErrForm, func(e *impl.Engine) { e.Txns[1].Undos[4] = firstOf(6) }},
		engineCase{"the first two undos change places", impl.OK, func(e *impl.Engine) { slices.Reverse(e.Txns[1].Undos[:2]) }},
		engineCase{"the first and a second undo change places", impl.ErrForm, func(e *impl.Engine) { slices.Reverse(e.Txns[1].Undos[:3]) }},
		engineCase{"undos of one key alone, and both open", impl.ErrForm, func(e *impl.Engine) { e.Txns[1].Undos = []impl.Undo{firstOf(2), hadOf(2, 1)} }},
		engineCase{"undos of one key alone, and it alone open", impl.OK, func(e *impl.Engine) {
			e.Txns[1].Undos, e.Rows[2].Chain = []impl.Undo{firstOf(2), hadOf(2, 1)}, chainOf(done(1, 1, 6))
		}},
		engineCase{"no row of a written key", impl.ErrForm, func(e *impl.Engine) { e.Rows = slices.Delete(e.Rows, 2, 3) }},
		engineCase{"a written key's version is gone", impl.ErrForm, func(e *impl.Engine) { e.Rows[0].Chain = e.Rows[0].Chain[1:] }},
	)
}

// twoFaultsOfEngines: what is asked first. A transaction is asked all, its undos too, ahead of the next one; a row as well, and then come the undos of what is not there.
func twoFaultsOfEngines() []faultyEngine {
	return casesOf(
		engineCase{"Next 0, and a form", impl.ErrRange, func(e *impl.Engine) { e.Next, e.Txns[0].Done = 0, 1 }},
		engineCase{"form of the first, range of the second", impl.ErrForm, func(e *impl.Engine) { e.Txns[0].Done, e.Txns[1].At = 1, 7 }},
		engineCase{"range of the first, form of the second", impl.ErrRange, func(e *impl.Engine) { e.Txns[0].At, e.Txns[1].Done = 7, 6 }},
		engineCase{"range and form of one", impl.ErrRange, func(e *impl.Engine) { e.Txns[1].State, e.Txns[1].Done = 4, 6 }},
		engineCase{"many of the second, range of the third", impl.ErrMany, func(e *impl.Engine) { e.Txns[1].Undos, e.Txns[2].At = slices.Repeat(e.Txns[1].Undos, 13), 7 }},
		engineCase{"many of the second, form of the first", impl.ErrForm, func(e *impl.Engine) { e.Txns[1].Undos, e.Txns[0].Done = slices.Repeat(e.Txns[1].Undos, 13), 1 }},
		engineCase{"an undo's form in the second, range of the third", impl.ErrForm, func(e *impl.Engine) { e.Txns[1].Undos[4], e.Txns[2].At = impl.Undo{Key: 6, Gone: true}, 7 }},
		engineCase{"an undo's range in the second, form of the third", impl.ErrRange, func(e *impl.Engine) { e.Txns[1].Undos[0].Key, e.Txns[2].Done = 32, 6 }},
		engineCase{"an undo's range in the second, many of the fifth", impl.ErrRange, func(e *impl.Engine) { e.Txns[1].Undos[0].Key, e.Txns[4].Undos = 32, manyUndos(61) }},
		engineCase{"an undo's range, form of its transaction", impl.ErrForm, func(e *impl.Engine) { e.Txns[1].Undos[0].Key, e.Txns[1].Done = 32, 6 }},
		engineCase{"an undo's form ahead of one's range", impl.ErrForm, func(e *impl.Engine) { e.Txns[1].Undos[0].Gone, e.Txns[1].Undos[1].Key = true, 32 }},
		engineCase{"an undo's range ahead of one's form", impl.ErrRange, func(e *impl.Engine) { e.Txns[1].Undos[0].Key, e.Txns[1].Undos[1].Gone = -1, true }},
		engineCase{"an undo's range and form", impl.ErrRange, func(e *impl.Engine) { e.Txns[1].Undos[0] = impl.Undo{Key: 2, Gone: true, Value: 10000} }},
		engineCase{"an undo's range, a row's form", impl.ErrRange, func(e *impl.Engine) { e.Txns[4].Undos[0].Value, e.Rows[0].Chain = -1, nil }},
		engineCase{"form of the last transaction, range of the first row", impl.ErrForm, func(e *impl.Engine) { e.Txns[5].Id, e.Rows[0].Key = 9, 32 }},
		engineCase{"many undos, range of the first row", impl.ErrMany, func(e *impl.Engine) { e.Txns[4].Undos, e.Rows[0].Key = manyUndos(61), -1 }},
		engineCase{"form of the first row, range of the second", impl.ErrForm, func(e *impl.Engine) { e.Rows[0].Chain, e.Rows[1].Key = nil, 32 }},
		engineCase{"range of the first row, form of the second", impl.ErrRange, func(e *impl.Engine) { e.Rows[0].Key, e.Rows[1].Chain = 32, nil }},
		engineCase{"a row's Key, and no chain", impl.ErrRange, func(e *impl.Engine) { e.Rows[1].Key, e.Rows[1].Chain = 32, nil }},
		engineCase{"a row's Key, and a wrong chain", impl.ErrRange, func(e *impl.Engine) { e.Rows[1].Key, e.Rows[1].Chain = -1, fallingChain(13, 5, 1, 0) }},
		engineCase{"a row's order, and its chain's range", impl.ErrForm, func(e *impl.Engine) { e.Rows[1].Key, e.Rows[1].Chain[0].Txn = 2, 0 }},
		engineCase{"a row's order, and too many versions", impl.ErrForm, func(e *impl.Engine) { e.Rows[1].Key, e.Rows[1].Chain = 2, fallingChain(13, 100, 1, 0) }},
		engineCase{"too many versions, above Clock", impl.ErrMany, func(e *impl.Engine) { e.Rows[1].Chain = fallingChain(13, 100, 1, 0) }},
		engineCase{"a version above Clock, and one's range", impl.ErrRange, func(e *impl.Engine) { e.Rows[1].Chain = chainOf(done(3, 7, 1), done(1000, 1, 1)) }},
		engineCase{"a version above Clock, the next row's range", impl.ErrForm, func(e *impl.Engine) { e.Rows[1].Chain[0].At, e.Rows[2].Key = 7, 32 }},
		engineCase{"open by nobody, the next row's range", impl.ErrForm, func(e *impl.Engine) { e.Rows[0].Chain[0].Txn, e.Rows[1].Chain[0].Txn = 8, 0 }},
		engineCase{"an undo of nothing, the last row's range", impl.ErrRange, func(e *impl.Engine) { e.Txns[3].Undos, e.Rows[4].Key = []impl.Undo{firstOf(7)}, 32 }},
		engineCase{"a first undo that Had, the last row's versions", impl.ErrMany, func(e *impl.Engine) { e.Txns[4].Undos[0], e.Rows[4].Chain = hadOf(20, 5), fallingChain(13, 100, 1, 0) }},
	)
}

// chainFaultsInRows: each fault of a chain, in the middle of rows; the clock is as high as it can be.
func chainFaultsInRows() []faultyEngine {
	var out []faultyEngine
	for _, f := range chainFaults() {
		e := baseEngine()
		e.Clock, e.Rows[1].Chain = topAt, f.chain
		code := f.code
		if code == impl.OK && (len(f.chain) == 0 || f.chain[0].At == 0) {
			code = impl.ErrForm // empty, or open by nobody that has an undo of it
		}
		out = append(out, faultyEngine{"a row's chain: " + f.name, e, code})
	}
	return out
}

func engineFaults() []faultyEngine {
	return slices.Concat(countFaultsOfEngines(), numberFaultsOfEngines(), formFaultsOfTxns(), formFaultsOfRows(), formFaultsOfUndos(), twoFaultsOfEngines())
}

func TestEngineFault(t *testing.T) {
	met := map[int64]int{}
	for _, f := range append(engineFaults(), chainFaultsInRows()...) {
		met[f.code]++
		if got, by := impl.EngineFault(f.engine), engineFaultByHand(f.engine); got != f.code || by != f.code {
			t.Errorf("%s: EngineFault = %d, by hand %d, want %d", f.name, got, by, f.code)
		}
	}
	if len(met) != 4 {
		t.Errorf("not all codes were met: %v", met)
	}
}

// An engine's own fault comes ahead of whatever else is wrong.
func TestEngineFaultComesFirst(t *testing.T) {
	for _, f := range append(engineFaults(), chainFaultsInRows()...) {
		if f.code == impl.OK {
			continue
		}
		wantCode(t, f.name+": BeginTxn", impl.BeginTxn(f.engine), f.code)
		wantCode(t, f.name+": OpenTxns", impl.OpenTxns(f.engine), f.code)
		for _, c := range [][3]int64{{5, 2, 5}, {8, 9, 1}, {3, 2, 5}, {6, 4, 0}, {4, 2, 5}, {0, -1, -1}, {5, 32, 10000}, {9, 20, 99}, {-1, 0, 0}} {
			id, key, number := c[0], c[1], c[2]
			wantCode(t, f.name+": ReadKey", impl.ReadKey(f.engine, id, key), f.code)
			wantCode(t, f.name+": ScanKeys", impl.ScanKeys(f.engine, id, key, number), f.code)
			wantCode(t, f.name+": PutKey", impl.PutKey(f.engine, id, key, number), f.code)
			wantCode(t, f.name+": DropKey", impl.DropKey(f.engine, id, key), f.code)
			wantCode(t, f.name+": CommitTxn", impl.CommitTxn(f.engine, id), f.code)
			wantCode(t, f.name+": AbortTxn", impl.AbortTxn(f.engine, id), f.code)
			wantCode(t, f.name+": RollTo", impl.RollTo(f.engine, id, number), f.code)
		}
	}
}

// Who is not there, or has ended, is told so ahead of wrong keys, values and saves.
func TestWhoIsNotOpen(t *testing.T) {
	e := baseEngine()
	for _, c := range []struct{ id, code int64 }{
		{math.MinInt64, impl.ErrNone}, {-1, impl.ErrNone}, {0, impl.ErrNone}, {1, impl.ErrNone}, {2, impl.ErrNone}, {4, impl.ErrNone}, {7, impl.ErrNone}, {10, impl.ErrNone}, {12, impl.ErrNone}, {13, impl.ErrNone}, {999, impl.ErrNone}, {1000, impl.ErrNone}, {math.MaxInt64, impl.ErrNone},
		{3, impl.ErrState}, {6, impl.ErrState}, {11, impl.ErrState},
	} {
		for _, key := range []int64{-1, 0, 2, 4, 7, 20, 31, 32} {
			for _, number := range []int64{-1, 0, 5, 9999, 10000} {
				wantCode(t, "ReadKey", impl.ReadKey(e, c.id, key), c.code)
				wantCode(t, "ScanKeys", impl.ScanKeys(e, c.id, key, number), c.code)
				wantCode(t, "PutKey", impl.PutKey(e, c.id, key, number), c.code)
				wantCode(t, "DropKey", impl.DropKey(e, c.id, key), c.code)
				wantCode(t, "RollTo", impl.RollTo(e, c.id, number), c.code)
			}
		}
		wantCode(t, "CommitTxn", impl.CommitTxn(e, c.id), c.code)
		wantCode(t, "AbortTxn", impl.AbortTxn(e, c.id), c.code)
	}
	if got := impl.OpenTxns(e); got.Code != impl.OK || !slices.Equal(got.List, []int64{5, 8, 9}) {
		t.Errorf("OpenTxns = %+v", got)
	}
}

// The codes behind those of the transaction, in their order.
func TestCodesOfWrites(t *testing.T) {
	busy := baseEngine() // 5 has all the undos that there may be
	busy.Txns[1].Undos = append(busy.Txns[1].Undos, slices.Repeat([]impl.Undo{hadOf(2, 7)}, 55)...)
	busy.Clock, busy.Txns[1].At, busy.Txns[3].At = 100, 95, 89
	busy.Rows = slices.Insert(busy.Rows, 3, rowOf(10, fallingChain(mostVersions, 90, 1, 2)...))
	if fault := impl.EngineFault(busy); fault != impl.OK {
		t.Fatal(fault)
	}
	for _, c := range []struct {
		name           string
		id, key, value int64
		put, drop      int64
	}{
		{"5 has 60 undos", 5, 2, 5, impl.ErrMany, impl.ErrMany}, {"5 has 60 undos, a new key", 5, 9, 5, impl.ErrMany, impl.ErrNone}, {"5 has 60 undos, a full chain", 5, 10, 5, impl.ErrMany, impl.ErrMany},
		{"5 has 60 undos, 9 wrote it", 5, 20, 5, impl.ErrConflict, impl.ErrConflict}, {"5 has 60 undos, a wrong key", 5, 32, 5, impl.ErrRange, impl.ErrRange}, {"5 has 60 undos, a wrong value", 5, 20, 10000, impl.ErrRange, impl.ErrConflict},
		{"5 dropped it", 5, 6, 5, impl.ErrMany, impl.ErrNone}, {"5 has 60 undos, it is gone", 5, 4, 5, impl.ErrMany, impl.ErrNone},
		{"8 sees less than a full chain has", 8, 10, 5, impl.ErrConflict, impl.ErrConflict}, {"8 cannot read what 5 wrote alone", 8, 6, 5, impl.ErrConflict, impl.ErrNone}, {"5 wrote it", 8, 2, 5, impl.ErrConflict, impl.ErrConflict},
		{"5 wrote it, a wrong value", 8, 2, -1, impl.ErrRange, impl.ErrConflict}, {"gone", 8, 4, 5, impl.OK, impl.ErrNone}, {"as it is", 8, 31, 5, impl.OK, impl.OK}, {"a new key", 8, 0, 0, impl.OK, impl.ErrNone},
		{"key -1", 8, -1, 5, impl.ErrRange, impl.ErrRange}, {"key 0", 8, 0, 5, impl.OK, impl.ErrNone}, {"key 32", 8, 32, 5, impl.ErrRange, impl.ErrRange}, {"value -1", 8, 31, -1, impl.ErrRange, impl.OK}, {"value 0", 8, 31, 0, impl.OK, impl.OK}, {"value 9999", 8, 31, 9999, impl.OK, impl.OK}, {"value 10000", 8, 31, 10000, impl.ErrRange, impl.OK},
		{"the least key", 8, math.MinInt64, 5, impl.ErrRange, impl.ErrRange}, {"the highest value", 8, 31, math.MaxInt64, impl.ErrRange, impl.OK}, {"both wrong", 8, 99, -99, impl.ErrRange, impl.ErrRange},
	} {
		wantCode(t, c.name+": PutKey", impl.PutKey(busy, c.id, c.key, c.value), c.put)
		wantCode(t, c.name+": DropKey", impl.DropKey(busy, c.id, c.key), c.drop)
	}
	for key, code := range map[int64]int64{-1: impl.ErrRange, 32: impl.ErrRange, math.MinInt64: impl.ErrRange, math.MaxInt64: impl.ErrRange, 0: impl.ErrNone, 4: impl.ErrNone, 31: impl.OK} {
		wantCode(t, fmt.Sprintf("ReadKey of %d", key), impl.ReadKey(busy, 8, key), code)
	}
	for save, code := range map[int64]int64{math.MinInt64: impl.ErrRange, -1: impl.ErrRange, 0: impl.OK, 59: impl.OK, 60: impl.OK, 61: impl.ErrRange, math.MaxInt64: impl.ErrRange} {
		wantCode(t, fmt.Sprintf("RollTo %d of 60", save), impl.RollTo(busy, 5, save), code)
	}
	for save, code := range map[int64]int64{-1: impl.ErrRange, 0: impl.OK, 1: impl.ErrRange} {
		wantCode(t, fmt.Sprintf("RollTo %d of none", save), impl.RollTo(busy, 8, save), code)
	}
}

// thrownEngineTurn turns one thing, at the edges or just beside them.
func thrownEngineTurn(e impl.Engine, d *dice) impl.Engine {
	e = copyEngine(e)
	number := []int64{-1, 0, 1, 2, 3, 4, 31, 32, 999, 1000, 9999, 10000, topAt, topAt + 1, e.Next, e.Next - 1, e.Clock, e.Clock + 1, d.upTo(31)}[d.upTo(18)]
	txn, row, undo, version := &impl.Txn{}, &impl.Row{}, &impl.Undo{}, &impl.Version{}
	if len(e.Txns) > 0 {
		txn = &e.Txns[d.upTo(int64(len(e.Txns)-1))]
	}
	if len(txn.Undos) > 0 {
		undo = &txn.Undos[d.upTo(int64(len(txn.Undos)-1))]
	}
	if len(e.Rows) > 0 {
		row = &e.Rows[d.upTo(int64(len(e.Rows)-1))]
	}
	if len(row.Chain) > 0 {
		version = &row.Chain[d.upTo(int64(len(row.Chain)-1))]
	}
	turns := []func(){
		func() { e.Next = number }, func() { e.Clock = number }, func() { txn.Id = number }, func() { txn.At = number }, func() { txn.State = number }, func() { txn.Done = number },
		func() { txn.State = 1 + d.upTo(2) }, func() { txn.Done = e.Clock }, func() { txn.Undos = txn.Undos[:len(txn.Undos)/2] }, func() { txn.Undos = append(txn.Undos, impl.Undo{Key: number, Had: d.upTo(1) == 0}) },
		func() { undo.Key = number }, func() { undo.Had = !undo.Had }, func() { undo.Gone = !undo.Gone }, func() { undo.Value = number },
		func() { row.Key = number }, func() { row.Chain = row.Chain[len(row.Chain)/2:] }, func() { row.Chain = nil }, func() { row.Chain = slices.Insert(row.Chain, 0, wrote(max(number, 1), 5)) },
		func() { version.Txn = number }, func() { version.At = number }, func() { version.Value = number }, func() { version.Gone = !version.Gone },
		func() { e.Rows = append(e.Rows, rowOf(number, done(1, 1, 1))) }, func() { e.Txns = append(e.Txns, openAt(number, 0)) }, func() { slices.Reverse(txn.Undos) }, func() { slices.Reverse(e.Rows) },
	}
	turns[d.upTo(int64(len(turns)-1))]()
	return e
}

func TestEnginesThatWereTurned(t *testing.T) {
	d := dice(67)
	engines := append(someEngines(), slices.Repeat([]impl.Engine{baseEngine()}, 200)...)
	met := map[int64]int{}
	for range 12000 {
		e := thrownEngineTurn(engines[d.upTo(int64(len(engines)-1))], &d)
		for d.upTo(2) == 0 {
			e = thrownEngineTurn(e, &d)
		}
		met[engineFaultByHand(e)]++
		ids := idsNear(e)
		id, key, value := ids[d.upTo(int64(len(ids)-1))], d.upTo(31), d.upTo(31)
		if got, want := tellEngine(e, id, key, value), tellEngineByHand(e, id, key, value); got != want {
			t.Fatalf("%d, %d, %d of %+v:\n%s, want\n%s", id, key, value, e, got, want)
		}
	}
	for _, code := range []int64{impl.OK, impl.ErrForm, impl.ErrMany, impl.ErrRange} {
		if met[code] < 50 {
			t.Errorf("code %d was met only %d times", code, met[code])
		}
	}
}

// engineWithRoom lays each list ahead of room that is not its own to be written.
func engineWithRoom(e impl.Engine) impl.Engine {
	out := impl.Engine{Next: e.Next, Clock: e.Clock, Txns: make([]impl.Txn, 0, len(e.Txns)+3), Rows: make([]impl.Row, 0, len(e.Rows)+3)}
	for _, txn := range e.Txns {
		txn.Undos = append(make([]impl.Undo, 0, len(txn.Undos)+3), txn.Undos...)
		out.Txns = append(out.Txns, txn)
	}
	for _, row := range e.Rows {
		row.Chain = append(make([]impl.Version, 0, len(row.Chain)+3), row.Chain...)
		out.Rows = append(out.Rows, row)
	}
	return out
}

// engineRoom tells all that stands in an engine and behind its lists.
func engineRoom(e impl.Engine) string {
	var b []byte
	for _, txn := range wholeRoom(e.Txns) {
		b = fmt.Appendf(b, "%+v %+v;", txn, wholeRoom(txn.Undos))
	}
	for _, row := range wholeRoom(e.Rows) {
		b = fmt.Appendf(b, "%+v %+v;", row, wholeRoom(row.Chain))
	}
	return fmt.Sprint(e.Next, e.Clock, string(b))
}

// enginesToAsk: sound ones, and ones that have a fault.
func enginesToAsk() []impl.Engine {
	out := someEngines()
	for _, f := range engineFaults() {
		out = append(out, f.engine)
	}
	return out
}

func TestEngineArgumentsStay(t *testing.T) {
	for n, e := range enginesToAsk() {
		with := engineWithRoom(e)
		before := engineRoom(with)
		for _, id := range idsNear(e) {
			for _, c := range [][2]int64{{3, 0}, {0, 1}, {31, 31}, {20, 5}, {-1, 10000}} {
				tellEngine(with, id, c[0], c[1])
			}
		}
		if engineRoom(with) != before || !sameEngine(with, e) {
			t.Fatalf("engine %d was changed from %+v to %+v", n, e, with)
		}
	}
	for count := range int64(22) {
		cells := append(make([]impl.Cell, 0, 30), cellsFrom(0, 1, count, 5)...)
		before := wholeRoom(cells)
		impl.NewEngine(cells)
		if !slices.Equal(wholeRoom(cells), before) {
			t.Errorf("cells were %v, and are %v", before, wholeRoom(cells))
		}
	}
}

// Lists of one engine may be pieces of one list: what is written behind one of them would be seen in the next.
func TestEngineOfPiecesStays(t *testing.T) {
	undos := []impl.Undo{firstOf(2), hadOf(2, 21), firstOf(4), firstOf(6), hadGoneOf(6)}
	versions := chainOf(wrote(5, 22), done(1, 1, 2), wrote(7, 44), done(1, 2, 4), wroteGone(7), done(1, 1, 8))
	e := impl.Engine{Next: 9, Clock: 3, Txns: []impl.Txn{openAt(5, 3, undos[:2]...), openAt(7, 3, undos[2:]...), openAt(8, 3)}, Rows: []impl.Row{rowOf(2, versions[:2]...), rowOf(4, versions[2:4]...), rowOf(6, versions[4:5]...), rowOf(8, versions[5:]...)}}
	if fault := impl.EngineFault(e); fault != impl.OK {
		t.Fatal(fault)
	}
	before := copyEngine(e)
	for _, id := range idsNear(e) {
		for key := range int64(10) {
			if got, want := tellEngine(e, id, key, key%4), tellEngineByHand(before, id, key, key%4); got != want || !sameEngine(e, before) {
				t.Fatalf("%d, key %d: %s, want %s, of %+v", id, key, got, want, e)
			}
		}
	}
}

// engineAnswers: each engine that is answered of one.
func engineAnswers(e impl.Engine) []impl.Engine {
	out := []impl.Engine{impl.BeginTxn(e).Engine}
	for _, id := range openByHand(e).List {
		place, _ := txnByHand(e, id)
		count := int64(len(e.Txns[place].Undos))
		out = append(out, impl.CommitTxn(e, id).Engine, impl.AbortTxn(e, id).Engine, impl.RollTo(e, id, 0).Engine, impl.RollTo(e, id, count).Engine, impl.RollTo(e, id, count/2).Engine)
		for _, key := range []int64{0, 3, 4, 20, 31} {
			out = append(out, impl.PutKey(e, id, key, 77).Engine, impl.DropKey(e, id, key).Engine)
		}
	}
	return out
}

// spoilEngine writes over all lists of an engine and the room behind them.
func spoilEngine(e impl.Engine) {
	for _, txn := range e.Txns {
		spoil(txn.Undos, impl.Undo{Key: -5, Value: -5})
	}
	for _, row := range e.Rows {
		spoil(row.Chain, done(-5, -5, -5))
	}
	spoil(e.Txns, impl.Txn{Id: -5})
	spoil(e.Rows, impl.Row{Key: -5})
}

func TestEngineAnswersAreNewMemory(t *testing.T) {
	for n, e := range someEngines() {
		if n%5 > 0 {
			continue
		}
		with := engineWithRoom(e)
		before := engineRoom(with)
		spoilt, other := engineAnswers(with), engineAnswers(with)
		want := told(other)
		for _, answer := range spoilt {
			spoilEngine(answer)
		}
		if told(other) != want {
			t.Fatalf("engine %d: two answers share memory", n)
		}
		if engineRoom(with) != before {
			t.Fatalf("engine %d: an answer shares memory with its argument", n)
		}
		spoilEngine(with)
		if told(other) != want {
			t.Fatalf("engine %d: an answer hangs on what its argument became", n)
		}
		for _, answer := range other {
			checkOwnListsOfEngine(t, n, answer)
		}
	}
	made, again := newEngine(cellsFrom(0, 1, 20, 5)...), newEngine(cellsFrom(0, 1, 20, 5)...)
	checkOwnListsOfEngine(t, -1, made)
	if want := told(again); told(newEngine(cellsFrom(0, 1, 20, 5)...)) != want {
		t.Error("new engines share memory")
	}
}

// checkOwnListsOfEngine: each list is spoilt in its own way with all the room behind it, and must stay so.
func checkOwnListsOfEngine(t *testing.T, n int, e impl.Engine) {
	t.Helper()
	for i, txn := range e.Txns {
		spoil(txn.Undos, impl.Undo{Key: -100 - int64(i)})
	}
	for i, row := range e.Rows {
		spoil(row.Chain, done(-100-int64(i), 0, 0))
	}
	for i, txn := range e.Txns {
		if slices.ContainsFunc(wholeRoom(txn.Undos), func(u impl.Undo) bool { return u.Key != -100-int64(i) }) {
			t.Fatalf("engine %d: undos of one answer share memory", n)
		}
	}
	for i, row := range e.Rows {
		if slices.ContainsFunc(wholeRoom(row.Chain), func(v impl.Version) bool { return v.Txn != -100-int64(i) }) {
			t.Fatalf("engine %d: chains of one answer share memory", n)
		}
	}
}

func TestEngineListsAreNewMemory(t *testing.T) {
	e := baseEngine()
	for _, id := range []int64{5, 8, 9} {
		one, two := impl.ScanKeys(e, id, 0, lastKey), impl.ScanKeys(e, id, 0, lastKey)
		want := slices.Clone(two.Cells)
		spoil(one.Cells, impl.Cell{Key: -5})
		if !slices.Equal(two.Cells, want) || !sameEngine(e, baseEngine()) {
			t.Errorf("what %d scans shares memory", id)
		}
	}
	one, two := impl.OpenTxns(e), impl.OpenTxns(e)
	spoil(one.List, -5)
	if !slices.Equal(two.List, []int64{5, 8, 9}) || !sameEngine(e, baseEngine()) {
		t.Error("what is open shares memory")
	}
	cells := cellsFrom(0, 1, 5, 5)
	made := newEngine(cells...)
	want := told(made)
	spoil(cells, impl.Cell{Key: -5})
	if told(made) != want {
		t.Error("a new engine hangs on what its cells became")
	}
}

// withEmptyLists has an empty list wherever there is none.
func withEmptyLists(e impl.Engine) impl.Engine {
	e = copyEngine(e)
	e.Txns, e.Rows = append([]impl.Txn{}, e.Txns...), append([]impl.Row{}, e.Rows...)
	for i := range e.Txns {
		e.Txns[i].Undos = append([]impl.Undo{}, e.Txns[i].Undos...)
	}
	for i := range e.Rows {
		e.Rows[i].Chain = append([]impl.Version{}, e.Rows[i].Chain...)
	}
	return e
}

func withNilLists(e impl.Engine) impl.Engine {
	e = copyEngine(e)
	e.Txns, e.Rows = append([]impl.Txn(nil), e.Txns...), append([]impl.Row(nil), e.Rows...)
	for i := range e.Txns {
		e.Txns[i].Undos = append([]impl.Undo(nil), e.Txns[i].Undos...)
	}
	for i := range e.Rows {
		e.Rows[i].Chain = append([]impl.Version(nil), e.Rows[i].Chain...)
	}
	return e
}

func TestNilAndEmptyListsOfEnginesAreAlike(t *testing.T) {
	if a, b := told(impl.NewEngine(nil)), told(impl.NewEngine([]impl.Cell{})); a != b {
		t.Errorf("with nil %s, with an empty list %s", a, b)
	}
	for n, e := range enginesToAsk() {
		for _, id := range idsNear(e) {
			if a, b := tellEngine(withNilLists(e), id, 3, 0), tellEngine(withEmptyLists(e), id, 3, 0); a != b {
				t.Fatalf("engine %d, %d: with nil %s, with empty lists %s", n, id, a, b)
			}
		}
	}
}

func TestEnginesKeepNothing(t *testing.T) {
	wantSameAgain(t, enginesToAsk(), func(e impl.Engine) string {
		return tellEngine(e, 5, 3, 1) + tellEngine(e, e.Next-1, 4, 0) + tellEngine(e, 3, 32, -1)
	})
}

func TestEnginesNeverPanic(t *testing.T) {
	numbers := []int64{math.MinInt64, -1, 0, 1, 2, 3, 5, 31, 32, 60, 61, 999, 1000, 9999, 10000, topAt, topAt + 1, math.MaxInt64}
	d := dice(68)
	pick := func() int64 { return numbers[d.upTo(int64(len(numbers)-1))] }
	for range 4000 {
		e := thrownEngineTurn(baseEngine(), &d)
		switch d.upTo(4) {
		case 0:
			e.Next, e.Clock = pick(), pick()
		case 1:
			e.Rows = append(e.Rows, rowOf(pick(), impl.Version{Txn: pick(), At: pick(), Gone: d.upTo(1) == 0, Value: pick()}))
		case 2:
			e.Txns = append(e.Txns, impl.Txn{Id: pick(), At: pick(), State: pick(), Done: pick(), Undos: []impl.Undo{{Key: pick(), Had: d.upTo(1) == 0, Value: pick()}}})
		}
		id, key, value := pick(), pick(), pick()
		mustPanicNever(t, told(e), func() { tellEngine(e, id, key, value) })
		mustPanicNever(t, "NewEngine", func() { impl.NewEngine([]impl.Cell{{Key: key, Value: value}, {Key: value, Value: id}}) })
	}
}
