package tests

import (
	"fmt"
	"maps"
	"math"
	"slices"
	"testing"

	"loop.example/g00216/impl"
)

const mostActs = 100
const mostNewCells = 20

func actBegin() impl.Act             { return impl.Act{Kind: impl.ActBegin} }
func actGet(txn, key int64) impl.Act { return impl.Act{Kind: impl.ActGet, Txn: txn, Key: key} }
func actScan(txn int64) impl.Act     { return impl.Act{Kind: impl.ActScan, Txn: txn} }
func actPut(txn, k, value int64) impl.Act {
	return impl.Act{Kind: impl.ActPut, Txn: txn, Key: k, Value: value}
}
func actDrop(txn, key int64) impl.Act { return impl.Act{Kind: impl.ActDrop, Txn: txn, Key: key} }
func actCommit(txn int64) impl.Act    { return impl.Act{Kind: impl.ActCommit, Txn: txn} }
func actAbort(txn int64) impl.Act     { return impl.Act{Kind: impl.ActAbort, Txn: txn} }

// cellList: a key and a value, and so on.
func cellList(numbers ...int64) []impl.Cell {
	var out []impl.Cell
	for i := 0; i < len(numbers); i += 2 {
		out = append(out, impl.Cell{Key: numbers[i], Value: numbers[i+1]})
	}
	return out
}

func copyCopies(c impl.Copies) impl.Copies {
	c.Now, c.Last, c.Txns = slices.Clone(c.Now), slices.Clone(c.Last), slices.Clone(c.Txns)
	for i := range c.Txns {
		one := &c.Txns[i]
		one.Start, one.Now, one.Wrote = slices.Clone(one.Start), slices.Clone(one.Now), slices.Clone(one.Wrote)
	}
	return c
}

func sameCopies(a, b impl.Copies) bool { return told(a) == told(b) }

func newCopies(cells ...impl.Cell) impl.Copies { return impl.NewCopies(cells).Copies }

// lastOf: a key and when it was turned, and so on; the others never were.
func lastOf(numbers ...int64) []int64 {
	out := make([]int64, mostRows)
	for i := 0; i < len(numbers); i += 2 {
		out[numbers[i]] = numbers[i+1]
	}
	return out
}

func cellsFaultByHand(cells []impl.Cell) int64 {
	ahead := int64(-1)
	for _, c := range cells {
		switch {
		case c.Key < 0, c.Key > lastKey, c.Value < 0, c.Value > lastValue:
			return impl.ErrRange
		case c.Key <= ahead:
			return impl.ErrForm
		}
		ahead = c.Key
	}
	return impl.OK
}

func copiedFaultByHand(c impl.Copies, ahead int64, one impl.Copied) int64 {
	ended := one.State != 1
	switch {
	case one.Id <= 0, one.Id >= c.Next, one.At < 0, one.At > c.Clock, one.State <= 0, one.State >= 4:
		return impl.ErrRange
	case one.Id <= ahead, ended && len(one.Start) > 0, ended && len(one.Now) > 0, ended && len(one.Wrote) > 0:
		return impl.ErrForm
	}
	if code := cellsFaultByHand(one.Start); code != impl.OK {
		return code
	}
	if code := cellsFaultByHand(one.Now); code != impl.OK {
		return code
	}
	if slices.ContainsFunc(one.Wrote, func(key int64) bool { return key < 0 || key > lastKey }) {
		return impl.ErrRange
	}
	sorted := slices.Sorted(slices.Values(one.Wrote))
	if len(slices.Compact(slices.Clone(sorted))) < len(sorted) || !slices.Equal(sorted, one.Wrote) {
		return impl.ErrForm
	}
	return impl.OK
}

func copiesFaultByHand(c impl.Copies) int64 {
	switch {
	case c.Next <= 0, c.Next > topTxn, c.Clock < 0, c.Clock > topAt:
		return impl.ErrRange
	case len(c.Txns) > mostTxns:
		return impl.ErrMany
	case len(c.Last) != mostRows:
		return impl.ErrForm
	case slices.Min(c.Last) < 0, slices.Max(c.Last) > c.Clock:
		return impl.ErrRange
	}
	if code := cellsFaultByHand(c.Now); code != impl.OK {
		return code
	}
	ahead := int64(0)
	for _, one := range c.Txns {
		if code := copiedFaultByHand(c, ahead, one); code != impl.OK {
			return code
		}
		ahead = one.Id
	}
	return impl.OK
}

func newCopiesByHand(cells []impl.Cell) impl.CopiesResult {
	if len(cells) > mostNewCells {
		return impl.CopiesResult{Code: impl.ErrMany}
	}
	if code := cellsFaultByHand(cells); code != impl.OK {
		return impl.CopiesResult{Code: code}
	}
	out := impl.Copies{Next: 2, Clock: int64(min(len(cells), 1)), Now: slices.Clone(cells), Last: lastOf()}
	for _, c := range cells {
		out.Last[c.Key] = 1
	}
	return impl.CopiesResult{Copies: out}
}

func mapOfCells(cells []impl.Cell) map[int64]int64 {
	out := map[int64]int64{}
	for _, c := range cells {
		out[c.Key] = c.Value
	}
	return out
}

func cellsOfMap(has map[int64]int64) []impl.Cell {
	var out []impl.Cell
	for _, key := range slices.Sorted(maps.Keys(has)) {
		out = append(out, impl.Cell{Key: key, Value: has[key]})
	}
	return out
}

func inBounds(number, high int64) bool { return number >= 0 && number <= high }

// writtenByOthers: whether another open one wrote the key.
func writtenByOthers(c impl.Copies, id, key int64) bool {
	for _, one := range c.Txns {
		if one.Id != id && one.State == 1 && slices.Contains(one.Wrote, key) {
			return true
		}
	}
	return false
}

// writeCopiesByHand: a put or a drop, by the one of that place.
func writeCopiesByHand(c *impl.Copies, place int, a impl.Act) int64 {
	own := &c.Txns[place]
	has := mapOfCells(own.Now)
	_, there := has[a.Key]
	put := a.Kind == impl.ActPut
	wroteIt := slices.Contains(own.Wrote, a.Key)
	switch {
	case !inBounds(a.Key, lastKey), put && !inBounds(a.Value, lastValue):
		return impl.ErrRange
	case !put && !there:
		return impl.ErrNone
	case !wroteIt && writtenByOthers(*c, own.Id, a.Key), !wroteIt && c.Last[a.Key] > own.At:
		return impl.ErrConflict
	}
	delete(has, a.Key)
	if put {
		has[a.Key] = a.Value
	}
	own.Now = cellsOfMap(has)
	if !wroteIt {
		own.Wrote = append(own.Wrote, a.Key)
		slices.Sort(own.Wrote)
	}
	return impl.OK
}

func commitCopiesByHand(c *impl.Copies, place int) (code, value int64) {
	own := &c.Txns[place]
	if len(own.Wrote) > 0 {
		if c.Clock == topAt {
			return impl.ErrRange, 0
		}
		c.Clock++
		value = c.Clock
		has, mine := mapOfCells(c.Now), mapOfCells(own.Now)
		for _, key := range own.Wrote {
			delete(has, key)
			if number, there := mine[key]; there {
				has[key] = number
			}
			c.Last[key] = c.Clock
		}
		c.Now = cellsOfMap(has)
	}
	*own = impl.Copied{Id: own.Id, At: own.At, State: 2}
	return impl.OK, value
}

func beginCopiesByHand(c *impl.Copies) (code, value int64) {
	if len(c.Txns) >= mostTxns || c.Next >= topTxn {
		return impl.ErrMany, 0
	}
	c.Txns = append(c.Txns, impl.Copied{Id: c.Next, At: c.Clock, State: 1, Start: slices.Clone(c.Now), Now: slices.Clone(c.Now)})
	c.Next++
	return impl.OK, c.Next - 1
}

// replyCopiesByHand does the act to copies that have no fault.
func replyCopiesByHand(c *impl.Copies, a impl.Act) impl.Reply {
	if a.Kind < 1 || a.Kind > 7 {
		return impl.Reply{Code: impl.ErrRange}
	}
	if a.Kind == 1 {
		code, value := beginCopiesByHand(c)
		return impl.Reply{Code: code, Value: value}
	}
	place := slices.IndexFunc(c.Txns, func(one impl.Copied) bool { return one.Id == a.Txn })
	if place < 0 {
		return impl.Reply{Code: impl.ErrNone}
	}
	own := &c.Txns[place]
	if own.State != 1 {
		return impl.Reply{Code: impl.ErrState}
	}
	switch a.Kind {
	case 2:
		value, there := mapOfCells(own.Now)[a.Key]
		if !inBounds(a.Key, lastKey) {
			return impl.Reply{Code: impl.ErrRange}
		}
		if !there {
			return impl.Reply{Code: impl.ErrNone}
		}
		return impl.Reply{Value: value}
	case 3:
		return impl.Reply{Cells: slices.Clone(own.Now)}
	case 4, 5:
		return impl.Reply{Code: writeCopiesByHand(c, place, a)}
	case 6:
		code, value := commitCopiesByHand(c, place)
		return impl.Reply{Code: code, Value: value}
	}
	*own = impl.Copied{Id: own.Id, At: own.At, State: 3}
	return impl.Reply{}
}

func doCopiesByHand(c impl.Copies, a impl.Act) impl.CopiesResult {
	if code := copiesFaultByHand(c); code != impl.OK {
		return impl.CopiesResult{Code: code}
	}
	out := copyCopies(c)
	reply := replyCopiesByHand(&out, a)
	if reply.Code != impl.OK {
		return impl.CopiesResult{Code: reply.Code}
	}
	return impl.CopiesResult{Value: reply.Value, Cells: reply.Cells, Copies: out}
}

func doEngineByHand(e impl.Engine, a impl.Act) impl.ReplyResult {
	if code := engineFaultByHand(e); code != impl.OK {
		return impl.ReplyResult{Code: code}
	}
	turn := func(answer impl.EngineResult) impl.ReplyResult {
		if answer.Code != impl.OK {
			return impl.ReplyResult{Reply: impl.Reply{Code: answer.Code}, Engine: e}
		}
		return impl.ReplyResult{Reply: impl.Reply{Value: answer.Value}, Engine: answer.Engine}
	}
	switch a.Kind {
	case 1:
		return turn(beginEngineByHand(e))
	case 2:
		read := readEngineByHand(e, a.Txn, a.Key)
		return impl.ReplyResult{Reply: impl.Reply{Code: read.Code, Value: read.Value}, Engine: e}
	case 3:
		read := scanByHand(e, a.Txn, 0, lastKey)
		return impl.ReplyResult{Reply: impl.Reply{Code: read.Code, Cells: read.Cells}, Engine: e}
	case 4:
		return turn(writeEngineByHand(e, a.Txn, a.Key, false, a.Value))
	case 5:
		return turn(writeEngineByHand(e, a.Txn, a.Key, true, 0))
	case 6:
		return turn(commitEngineByHand(e, a.Txn))
	case 7:
		return turn(abortEngineByHand(e, a.Txn))
	}
	return impl.ReplyResult{Code: impl.ErrRange}
}

// replyByEngine and replyByCopies: what an act is told within a run.
func replyByEngine(done impl.ReplyResult) impl.Reply {
	if done.Code != impl.OK {
		return impl.Reply{Code: done.Code}
	}
	return done.Reply
}

func replyByCopies(done impl.CopiesResult) impl.Reply {
	return impl.Reply{Code: done.Code, Value: done.Value, Cells: done.Cells}
}

func sameRepliesByHand(a, b []impl.Reply) bool { return told(a) == told(b) }

// scanAtByHand: what is seen at a clock by nobody.
func scanAtByHand(e impl.Engine, at int64) []impl.Cell {
	var out []impl.Cell
	for _, row := range e.Rows {
		if seen := seenByHand(row.Chain, impl.View{At: at}); seen.Code == impl.OK {
			out = append(out, impl.Cell{Key: row.Key, Value: seen.Value})
		}
	}
	return out
}

// copiesOfEngine: the copies that tell what an engine that was not purged tells.
func copiesOfEngine(e impl.Engine) impl.Copies {
	out := impl.Copies{Next: e.Next, Clock: e.Clock, Now: scanAtByHand(e, e.Clock), Last: lastOf()}
	for _, row := range e.Rows {
		for _, v := range row.Chain {
			out.Last[row.Key] = max(out.Last[row.Key], v.At)
		}
	}
	for _, txn := range e.Txns {
		one := impl.Copied{Id: txn.Id, At: txn.At, State: txn.State}
		if txn.State == 1 {
			one.Start, one.Now = scanAtByHand(e, txn.At), scanByHand(e, txn.Id, 0, lastKey).Cells
			for _, undo := range txn.Undos {
				one.Wrote = append(one.Wrote, undo.Key)
			}
			slices.Sort(one.Wrote)
			one.Wrote = slices.Compact(one.Wrote)
		}
		out.Txns = append(out.Txns, one)
	}
	return out
}

func openCopies(c impl.Copies) []int64 {
	var out []int64
	for _, one := range c.Txns {
		if one.State == 1 {
			out = append(out, one.Id)
		}
	}
	return out
}

// thrownAct is mostly one that can be done.
func thrownAct(c impl.Copies, d *dice, keys int64) impl.Act {
	kinds := []int64{1, 1, 1, 2, 2, 3, 4, 4, 4, 4, 4, 4, 5, 5, 6, 6, 7}
	if keys == 1 { // nearly one behind the other: chains grow
		kinds = []int64{2, 4, 4, 4, 5, 6, 6, 6}
	}
	a := impl.Act{Kind: kinds[d.upTo(int64(len(kinds)-1))], Key: d.upTo(keys - 1), Value: d.upTo(99)}
	open := openCopies(c)
	if len(open) == 0 && d.upTo(5) > 0 {
		a.Kind = 1
	}
	if len(open) > 0 {
		a.Txn = open[d.upTo(int64(len(open)-1))]
	}
	if d.upTo(15) == 0 { // one that has ended, or was not begun
		a.Txn = d.upTo(c.Next+1) - 1
	}
	switch d.upTo(60) {
	case 0:
		a.Key = []int64{-1, 32, 31, 0, math.MinInt64, math.MaxInt64}[d.upTo(5)]
	case 1:
		a.Value = []int64{-1, 10000, 9999, 0, math.MinInt64, math.MaxInt64}[d.upTo(5)]
	case 2:
		a.Kind = []int64{0, 8, -1, 9, math.MinInt64, math.MaxInt64}[d.upTo(5)]
	case 3:
		a.Txn = []int64{-1, 0, 1, 1000, math.MinInt64, math.MaxInt64}[d.upTo(5)]
	}
	return a
}

// thrownTalk: cells, and acts that follow one another; few keys make many conflicts, one key a full chain.
func thrownTalk(run int, d *dice) ([]impl.Cell, []impl.Act) {
	keys := []int64{1, 2, 3, 5, 8, 32}[run%6]
	cells := cellsFrom(0, 1, []int64{0, 1, 2, 4, 20}[d.upTo(4)], 50)
	c := newCopiesByHand(cells).Copies
	var acts []impl.Act
	for range mostActs - d.upTo(40) {
		a := thrownAct(c, d, keys)
		acts = append(acts, a)
		if done := doCopiesByHand(c, a); done.Code == impl.OK {
			c = done.Copies
		}
	}
	return cells, acts
}

// lacksRoom: a write that has no room in an engine, for versions or for undos.
func lacksRoom(a impl.Act, reply impl.Reply) bool {
	return reply.Code == impl.ErrMany && (a.Kind == impl.ActPut || a.Kind == impl.ActDrop)
}

// wantActTold: both reply the same to an act, and are then as by hand; answers what they are then.
func wantActTold(t *testing.T, name string, e impl.Engine, c impl.Copies, a impl.Act) (impl.Engine, impl.Copies) {
	t.Helper()
	byEngine, byCopies := impl.DoEngine(e, a), impl.DoCopies(c, a)
	if want := doEngineByHand(e, a); told(byEngine) != told(want) {
		t.Fatalf("%s: DoEngine of %+v and %+v = %+v, want %+v", name, e, a, byEngine, want)
	}
	if want := doCopiesByHand(c, a); told(byCopies) != told(want) {
		t.Fatalf("%s: DoCopies of %+v and %+v = %+v, want %+v", name, c, a, byCopies, want)
	}
	one, two := replyByEngine(byEngine), replyByCopies(byCopies)
	if told(one) != told(two) || !impl.SameReplies([]impl.Reply{one}, []impl.Reply{two}) {
		t.Fatalf("%s: %+v is told %+v by the engine %+v, and %+v by the copies %+v", name, a, one, e, two, c)
	}
	if byEngine.Code == impl.OK {
		e = byEngine.Engine
	}
	if byCopies.Code == impl.OK {
		c = byCopies.Copies
	}
	if one, two := impl.EngineFault(e), impl.CopiesFault(c); one != impl.OK || two != impl.OK {
		t.Fatalf("%s: behind %+v the engine has the fault %d, the copies %d", name, a, one, two)
	}
	return e, c
}

// An engine replies what copies reply, as long as there is room for versions: act by act, and in one run.
func TestEngineRepliesWhatCopiesReply(t *testing.T) {
	d := dice(90)
	met := map[[2]int64]int{}
	rooms := 0
	for run := range 240 {
		cells, acts := thrownTalk(run, &d)
		e, c := newEngine(cells...), newCopies(cells...)
		var replies []impl.Reply
		for n, a := range acts {
			if lacksRoom(a, impl.DoEngine(e, a).Reply) {
				rooms++
				acts = acts[:n]
				break
			}
			replies = append(replies, replyByCopies(impl.DoCopies(c, a)))
			e, c = wantActTold(t, fmt.Sprintf("run %d, act %d", run, n), e, c, a)
			if want := copiesOfEngine(e); n%5 == 0 && !sameCopies(c, want) {
				t.Fatalf("run %d: behind %+v the copies are %+v, and of the engine %+v", run, a, c, want)
			}
			met[[2]int64{a.Kind, replies[n].Code}]++
		}
		byEngine, byCopies := impl.RunEngine(cells, acts), impl.RunCopies(cells, acts)
		if byEngine.Code != impl.OK || byCopies.Code != impl.OK || !impl.SameReplies(byEngine.Replies, byCopies.Replies) || !impl.SameReplies(byCopies.Replies, replies) || !sameRepliesByHand(byEngine.Replies, replies) || !sameRepliesByHand(byCopies.Replies, replies) {
			t.Fatalf("run %d: %+v is told %+v by an engine, %+v by copies, act by act %+v", run, acts, byEngine, byCopies, replies)
		}
	}
	for _, c := range [][2]int64{
		{impl.ActBegin, impl.OK}, {impl.ActBegin, impl.ErrMany}, {impl.ActGet, impl.OK}, {impl.ActGet, impl.ErrNone}, {impl.ActGet, impl.ErrState}, {impl.ActGet, impl.ErrRange}, {impl.ActScan, impl.OK}, {impl.ActScan, impl.ErrNone}, {impl.ActScan, impl.ErrState},
		{impl.ActPut, impl.OK}, {impl.ActPut, impl.ErrNone}, {impl.ActPut, impl.ErrState}, {impl.ActPut, impl.ErrRange}, {impl.ActPut, impl.ErrConflict}, {impl.ActDrop, impl.OK}, {impl.ActDrop, impl.ErrNone}, {impl.ActDrop, impl.ErrState}, {impl.ActDrop, impl.ErrRange}, {impl.ActDrop, impl.ErrConflict},
		{impl.ActCommit, impl.OK}, {impl.ActCommit, impl.ErrNone}, {impl.ActCommit, impl.ErrState}, {impl.ActAbort, impl.OK}, {impl.ActAbort, impl.ErrNone}, {impl.ActAbort, impl.ErrState}, {0, impl.ErrRange}, {8, impl.ErrRange},
	} {
		if met[c] < 8 {
			t.Errorf("kind %d was told code %d only %d times", c[0], c[1], met[c])
		}
	}
	if rooms < 5 {
		t.Errorf("only %d times there was no room", rooms)
	}
}

// Where there is no room an engine's run goes on, and so do the copies, each with its own replies: the acts ahead of that have the same.
func TestRunsWithoutRoomGoOn(t *testing.T) {
	d := dice(91)
	rooms := 0
	for run := range 120 {
		cells, acts := thrownTalk(run-run%6, &d) // of one key
		e, c := newEngine(cells...), newCopies(cells...)
		var byEngine, byCopies []impl.Reply
		for _, a := range acts {
			one, two := doEngineByHand(e, a), doCopiesByHand(c, a)
			if lacksRoom(a, one.Reply) {
				rooms++
			}
			byEngine, byCopies = append(byEngine, replyByEngine(one)), append(byCopies, replyByCopies(two))
			if one.Code == impl.OK {
				e = one.Engine
			}
			if two.Code == impl.OK {
				c = two.Copies
			}
		}
		if got := impl.RunEngine(cells, acts); told(got) != told(impl.RepliesResult{Replies: byEngine}) {
			t.Fatalf("run %d: RunEngine of %+v = %+v, want %+v", run, acts, got, byEngine)
		}
		if got := impl.RunCopies(cells, acts); told(got) != told(impl.RepliesResult{Replies: byCopies}) {
			t.Fatalf("run %d: RunCopies of %+v = %+v, want %+v", run, acts, got, byCopies)
		}
	}
	if rooms < 50 {
		t.Errorf("only %d times there was no room", rooms)
	}
}

// forgetful: copies without the transactions that have ended, as a purge leaves an engine.
func forgetful(c impl.Copies) impl.Copies {
	c = copyCopies(c)
	c.Txns = slices.DeleteFunc(c.Txns, func(one impl.Copied) bool { return one.State != 1 })
	return c
}

// An engine that is purged now and then goes on for longer than there is room without, and replies what copies reply that know no more of ended transactions.
func TestPurgedEngineRepliesWhatCopiesReply(t *testing.T) {
	d := dice(92)
	purges, begins, rooms, acts := 0, int64(0), 0, 0
	for run := range 60 {
		keys := []int64{1, 2, 3, 5, 8, 32}[run%6]
		cells := cellsFrom(0, 1, d.upTo(keys%21), 50)
		e, c := newEngine(cells...), newCopies(cells...)
		for range 300 {
			if d.upTo(4+3*int64(run)) == 0 { // seldom enough in the end that there is no room at times
				e, c = impl.PurgeEngine(e).Engine, forgetful(c)
				purges++
			}
			a := thrownAct(c, &d, keys)
			if lacksRoom(a, impl.DoEngine(e, a).Reply) {
				rooms++
				continue
			}
			acts++
			e, c = wantActTold(t, fmt.Sprintf("run %d", run), e, c, a)
			begins = max(begins, e.Next)
		}
	}
	if purges < 350 || begins < 3*mostTxns || rooms < 5 || acts < 15000 {
		t.Errorf("only %d purges, at most %d began, %d times there was no room, %d acts", purges, begins, rooms, acts)
	}
}

// Acts that are done to a purged engine have the replies of the one that was not, but that an ended transaction is not there any more.
func TestActsOfPurgedEngines(t *testing.T) {
	d := dice(93)
	acts, gone, still := 0, 0, 0
	for run := range 150 {
		keys := []int64{2, 3, 5, 8, 32}[run%5]
		cells := cellsFrom(0, 1, d.upTo(20), 50)
		plain, c := newEngine(cells...), newCopies(cells...)
		purged := copyEngine(plain)
		for range mostActs {
			if d.upTo(6) == 0 {
				purged = impl.PurgeEngine(purged).Engine
			}
			a := thrownAct(c, &d, keys)
			one, two := impl.DoEngine(plain, a), impl.DoEngine(purged, a)
			if one.Reply.Code == impl.ErrMany {
				break // there is no room where nothing goes
			}
			want := one.Reply
			if want.Code == impl.ErrState {
				if _, code := txnByHand(purged, a.Txn); code == impl.ErrNone {
					want.Code = impl.ErrNone
					gone++
				} else {
					still++
				}
			}
			if one.Code != two.Code || told(two.Reply) != told(want) {
				t.Fatalf("run %d: %+v is told %+v, and purged %+v, of %+v and %+v", run, a, one, two, plain, purged)
			}
			acts++
			if one.Code == impl.OK {
				plain, purged = one.Engine, two.Engine
			}
			if done := doCopiesByHand(c, a); done.Code == impl.OK {
				c = done.Copies
			}
		}
	}
	if acts < 6000 || gone < 100 || still < 30 {
		t.Errorf("only %d acts, %d of ones that were gone, %d of ended ones that were there", acts, gone, still)
	}
}

// readsAll: what one is told, of all keys by a scan and of one by a get.
func readsAll(e impl.Engine, c impl.Copies, id, key int64) string {
	return told([]any{impl.DoEngine(e, actScan(id)).Reply, impl.DoEngine(e, actGet(id, key)).Reply, replyByCopies(impl.DoCopies(c, actScan(id))).Cells, replyByCopies(impl.DoCopies(c, actGet(id, key)))})
}

// What one reads stays, whatever another does.
func TestWhatOneReadsStaysByActs(t *testing.T) {
	d := dice(94)
	compared := 0
	for run := range 120 {
		keys := []int64{2, 3, 5, 8, 32}[run%5]
		cells, acts := thrownTalk(run, &d)
		e, c := newEngine(cells...), newCopies(cells...)
		for _, a := range acts {
			one, two := impl.DoEngine(e, a), impl.DoCopies(c, a)
			if lacksRoom(a, one.Reply) {
				break
			}
			if two.Code != impl.OK {
				continue
			}
			key := d.upTo(keys - 1)
			for _, id := range openCopies(c) {
				if id == a.Txn && a.Kind > impl.ActScan {
					continue
				}
				compared++
				if ahead, behind := readsAll(e, c, id, key), readsAll(one.Engine, two.Copies, id, key); ahead != behind {
					t.Fatalf("run %d: %d reads %s ahead of %+v, and %s behind it", run, id, ahead, a, behind)
				}
			}
			e, c = one.Engine, two.Copies
		}
	}
	if compared < 10000 {
		t.Errorf("only %d were compared", compared)
	}
}

// line: an act and what it is told.
type line struct {
	act   impl.Act
	reply impl.Reply
}

func says(a impl.Act, value int64) line   { return line{a, impl.Reply{Value: value}} }
func refuses(a impl.Act, code int64) line { return line{a, impl.Reply{Code: code}} }
func sees(txn int64, numbers ...int64) line {
	return line{actScan(txn), impl.Reply{Cells: cellList(numbers...)}}
}
func reads(txn, key, value int64) line         { return says(actGet(txn, key), value) }
func readsNone(txn, key int64) line            { return refuses(actGet(txn, key), impl.ErrNone) }
func puts(txn, key, value int64) line          { return says(actPut(txn, key, value), 0) }
func drops(txn, key int64) line                { return says(actDrop(txn, key), 0) }
func commits(txn, clock int64) line            { return says(actCommit(txn), clock) }
func aborts(txn int64) line                    { return says(actAbort(txn), 0) }
func begun(id int64) line                      { return says(actBegin(), id) }
func lines(parts ...line) []line               { return parts }
func behind(ahead []line, more ...line) []line { return slices.Concat(ahead, more) }

// wantTalk: the lines have these replies, by copies and by an engine, in one run and act by act, and from a purge at each place on; answers the copies in the end.
func wantTalk(t *testing.T, name string, cells []impl.Cell, talk []line) impl.Copies {
	t.Helper()
	var acts []impl.Act
	var want []impl.Reply
	for _, l := range talk {
		acts, want = append(acts, l.act), append(want, l.reply)
	}
	for who, got := range map[string]impl.RepliesResult{"RunCopies": impl.RunCopies(cells, acts), "RunEngine": impl.RunEngine(cells, acts)} {
		if told(got) != told(impl.RepliesResult{Replies: want}) || !impl.SameReplies(got.Replies, want) {
			t.Errorf("%s: %s = %+v, want %+v", name, who, got, want)
		}
	}
	e, c := newEngine(cells...), newCopies(cells...)
	for n, l := range talk {
		if got := replyByCopies(impl.DoCopies(c, l.act)); told(got) != told(l.reply) {
			t.Errorf("%s: act %d, %+v, is told %+v, want %+v", name, n, l.act, got, l.reply)
		}
		e, c = wantActTold(t, fmt.Sprintf("%s, act %d", name, n), e, c, l.act)
		if want := copiesOfEngine(e); !sameCopies(c, want) {
			t.Errorf("%s: behind act %d the copies are %+v, and of the engine %+v", name, n, c, want)
		}
		purged, rest := impl.PurgeEngine(e).Engine, forgetful(c)
		for _, later := range talk[n+1:] {
			purged, rest = wantActTold(t, fmt.Sprintf("%s, purged behind act %d", name, n), purged, rest, later.act)
		}
	}
	return c
}

func firstCells() []impl.Cell { return cellList(1, 10, 2, 20, 31, 0) }

func twoBegun() []line { return lines(begun(2), begun(3)) }

func TestReadsAheadOfAndBehindAnother(t *testing.T) {
	first, second := sees(3, 1, 10, 2, 20, 31, 0), lines(reads(3, 1, 10), reads(3, 2, 20), reads(3, 31, 0), readsNone(3, 5), sees(3, 1, 10, 2, 20, 31, 0))
	talk := twoBegun()
	other := func(parts ...line) {
		for _, part := range parts {
			talk = behind(talk, first, part, first)
			talk = behind(talk, second...)
		}
	}
	other(puts(2, 1, 11), puts(2, 5, 50), drops(2, 2), drops(2, 31), reads(2, 1, 11), reads(2, 5, 50), readsNone(2, 2), sees(2, 1, 11, 5, 50))
	ended := map[string][]line{
		"committed": {commits(2, 2), begun(4), sees(4, 1, 11, 5, 50), sees(3, 1, 10, 2, 20, 31, 0)},
		"aborted":   {aborts(2), begun(4), sees(4, 1, 10, 2, 20, 31, 0), sees(3, 1, 10, 2, 20, 31, 0)},
	}
	for name, end := range ended {
		wantTalk(t, name, firstCells(), behind(behind(talk, end...), second...))
	}
	// One who wrote itself sees its own, and all else as it was at first.
	talk = behind(twoBegun(), puts(3, 1, 13), puts(2, 2, 22), sees(3, 1, 13, 2, 20, 31, 0), sees(2, 1, 10, 2, 22, 31, 0), commits(2, 2), sees(3, 1, 13, 2, 20, 31, 0), begun(4), sees(4, 1, 10, 2, 22, 31, 0), commits(3, 3), sees(4, 1, 10, 2, 22, 31, 0), begun(5), sees(5, 1, 13, 2, 22, 31, 0))
	wantTalk(t, "its own", firstCells(), talk)
}

func TestWhoWroteTheKeyHimself(t *testing.T) {
	conflict := func(a impl.Act) line { return refuses(a, impl.ErrConflict) }
	for name, more := range map[string][]line{
		"put again and again":               {puts(2, 1, 11), puts(2, 1, 12), puts(2, 1, 12), reads(2, 1, 12), drops(2, 1), readsNone(2, 1), puts(2, 1, 13), reads(2, 1, 13), commits(2, 2), begun(4), reads(4, 1, 13), reads(3, 1, 10)},
		"put, dropped, committed":           {puts(2, 5, 50), drops(2, 5), readsNone(2, 5), commits(2, 2), begun(4), readsNone(4, 5), conflict(actPut(3, 5, 1)), puts(4, 5, 1)},
		"put, dropped, put again, aborted":  {puts(2, 5, 50), drops(2, 5), puts(2, 5, 51), aborts(2), puts(3, 5, 1), commits(3, 2), begun(4), reads(4, 5, 1)},
		"another put it":                    {puts(2, 1, 11), conflict(actPut(3, 1, 5)), conflict(actDrop(3, 1)), puts(2, 1, 12), reads(3, 1, 10), puts(3, 2, 5), conflict(actPut(2, 2, 6)), conflict(actDrop(2, 2)), puts(3, 2, 7), drops(3, 2)},
		"another put and committed it":      {puts(2, 1, 11), commits(2, 2), conflict(actPut(3, 1, 5)), conflict(actDrop(3, 1)), begun(4), puts(4, 1, 6), conflict(actPut(3, 1, 5))},
		"another put and aborted it":        {puts(2, 1, 11), aborts(2), puts(3, 1, 5), reads(3, 1, 5), drops(3, 1), commits(3, 2)},
		"another dropped it":                {drops(2, 1), conflict(actPut(3, 1, 5)), conflict(actDrop(3, 1)), readsNone(2, 1), puts(2, 1, 5), drops(2, 1)},
		"another dropped and committed it":  {drops(2, 1), commits(2, 2), conflict(actPut(3, 1, 5)), conflict(actDrop(3, 1)), reads(3, 1, 10), begun(4), readsNone(4, 1), refuses(actDrop(4, 1), impl.ErrNone), puts(4, 1, 5), drops(4, 1)},
		"another dropped and aborted it":    {drops(2, 1), aborts(2), drops(3, 1), readsNone(3, 1), puts(3, 1, 5), commits(3, 2), begun(4), reads(4, 1, 5)},
		"another put a new one":             {puts(2, 5, 50), conflict(actPut(3, 5, 5)), refuses(actDrop(3, 5), impl.ErrNone), readsNone(3, 5)},
		"another put and committed one":     {puts(2, 5, 50), commits(2, 2), conflict(actPut(3, 5, 5)), refuses(actDrop(3, 5), impl.ErrNone), readsNone(3, 5)},
		"a third one comes first":           {begun(4), puts(4, 1, 5), conflict(actPut(2, 1, 6)), conflict(actPut(3, 1, 7)), aborts(4), puts(3, 1, 7), conflict(actPut(2, 1, 6)), commits(3, 2), conflict(actPut(2, 1, 6)), reads(2, 1, 10)},
		"it was turned when one began":      {puts(2, 1, 11), commits(2, 2), begun(4), puts(4, 1, 12), puts(4, 1, 13), commits(4, 3), conflict(actPut(3, 1, 14))},
		"another key was turned since":      {puts(2, 1, 11), commits(2, 2), puts(3, 2, 21), drops(3, 31), puts(3, 5, 50), commits(3, 3), begun(4), sees(4, 1, 11, 2, 21, 5, 50)},
		"committed without writing":         {commits(2, 0), puts(3, 1, 11), begun(4), conflict(actPut(4, 1, 12)), commits(3, 2), commits(4, 0), begun(5), reads(5, 1, 11)},
		"refused, and so not written":       {puts(2, 1, 11), conflict(actPut(3, 1, 5)), aborts(2), begun(4), puts(4, 1, 6), conflict(actPut(3, 1, 5)), commits(3, 0), commits(4, 2)},
		"both write others, and commit":     {puts(2, 1, 11), puts(3, 2, 22), commits(3, 2), commits(2, 3), begun(4), sees(4, 1, 11, 2, 22, 31, 0)},
		"the same value as there was":       {puts(2, 1, 10), conflict(actPut(3, 1, 10)), commits(2, 2), conflict(actPut(3, 1, 10)), reads(3, 1, 10)},
		"each reads what the other writes":  {reads(2, 1, 10), reads(3, 2, 20), puts(2, 2, 5), puts(3, 1, 6), commits(2, 2), commits(3, 3), begun(4), sees(4, 1, 6, 2, 5, 31, 0)},
		"an ended one writes no more":       {puts(2, 1, 11), commits(2, 2), refuses(actPut(2, 1, 12), impl.ErrState), refuses(actDrop(2, 1), impl.ErrState), refuses(actCommit(2), impl.ErrState), refuses(actAbort(2), impl.ErrState), refuses(actGet(2, 1), impl.ErrState), refuses(actScan(2), impl.ErrState)},
		"an aborted one writes no more":     {puts(2, 1, 11), aborts(2), refuses(actPut(2, 1, 12), impl.ErrState), refuses(actDrop(2, 1), impl.ErrState), refuses(actCommit(2), impl.ErrState), refuses(actAbort(2), impl.ErrState), refuses(actGet(2, 1), impl.ErrState), refuses(actScan(2), impl.ErrState)},
		"one that is not there, and nobody": {refuses(actPut(4, 1, 12), impl.ErrNone), refuses(actDrop(1, 1), impl.ErrNone), refuses(actCommit(0), impl.ErrNone), refuses(actAbort(-1), impl.ErrNone), refuses(actGet(4, 1), impl.ErrNone), refuses(actScan(1000), impl.ErrNone)},
	} {
		wantTalk(t, name, firstCells(), behind(twoBegun(), more...))
	}
}

// ownCopies: 5 is open, has written key 1 and reads it as 15; 7 is open; key 1 was turned at last.
func ownCopies(own []int64, other []int64, last int64) impl.Copies {
	return impl.Copies{Next: 9, Clock: 8, Now: firstCells(), Last: lastOf(1, last, 2, 1), Txns: []impl.Copied{{Id: 2, At: 3, State: 2}, {Id: 5, At: 4, State: 1, Start: firstCells(), Now: cellList(1, 15, 2, 20), Wrote: own}, {Id: 7, At: 6, State: 1, Wrote: other}}}
}

// No engine comes to some of these: who wrote the key is not asked what others did, even so.
func TestWhoWroteTheKeyIsNotAskedMore(t *testing.T) {
	all := []int64{1}
	for _, c := range []struct {
		name       string
		own, other []int64
		last       int64
		code       int64
	}{
		{"nobody wrote it", nil, nil, 0, impl.OK}, {"turned when it began", nil, nil, 4, impl.OK}, {"turned just above that", nil, nil, 5, impl.ErrConflict}, {"turned at Clock", nil, nil, 8, impl.ErrConflict}, {"turned just below", nil, nil, 3, impl.OK},
		{"another wrote it", nil, all, 0, impl.ErrConflict}, {"another wrote others too", nil, []int64{0, 1, 2}, 0, impl.ErrConflict}, {"another wrote others alone", nil, []int64{0, 2, 31}, 0, impl.OK}, {"another wrote it, and it was turned", nil, all, 8, impl.ErrConflict},
		{"it wrote others", []int64{0, 2}, all, 0, impl.ErrConflict}, {"it wrote others, and it was turned", []int64{0, 2}, nil, 5, impl.ErrConflict}, {"it wrote others, nobody it", []int64{0, 2}, []int64{3}, 4, impl.OK},
		{"it wrote it", all, nil, 0, impl.OK}, {"it and another wrote it", all, all, 0, impl.OK}, {"it wrote it, and it was turned", all, nil, 8, impl.OK}, {"both wrote it, and it was turned", []int64{0, 1, 31}, []int64{1, 2}, 8, impl.OK},
	} {
		copies := ownCopies(c.own, c.other, c.last)
		put, drop := impl.DoCopies(copies, actPut(5, 1, 16)), impl.DoCopies(copies, actDrop(5, 1))
		wantCode(t, c.name+": a put", put, c.code)
		wantCode(t, c.name+": a drop", drop, c.code)
		if c.code != impl.OK {
			continue
		}
		want := copyCopies(copies)
		own := &want.Txns[1]
		if !slices.Contains(own.Wrote, 1) {
			own.Wrote = append(own.Wrote, 1)
			slices.Sort(own.Wrote)
		}
		own.Now = cellList(1, 16, 2, 20)
		if put.Value != 0 || len(put.Cells) > 0 || !sameCopies(put.Copies, want) {
			t.Errorf("%s: a put leads to %+v, want %+v", c.name, put, want)
		}
		own.Now = cellList(2, 20)
		if drop.Value != 0 || len(drop.Cells) > 0 || !sameCopies(drop.Copies, want) {
			t.Errorf("%s: a drop leads to %+v, want %+v", c.name, drop, want)
		}
	}
}

func TestWhatIsDropped(t *testing.T) {
	none := func(txn, key int64) []line {
		return lines(readsNone(txn, key), refuses(actDrop(txn, key), impl.ErrNone))
	}
	start := func(more ...[]line) []line { return behind(twoBegun(), slices.Concat(more...)...) }
	for _, c := range []struct {
		name string
		talk []line
		now  []impl.Cell
		last []int64
	}{
		{"by itself", start(lines(drops(2, 1)), none(2, 1), lines(sees(2, 2, 20, 31, 0), sees(3, 1, 10, 2, 20, 31, 0))), firstCells(), lastOf(1, 1, 2, 1, 31, 1)},
		{"by itself, and committed", start(lines(drops(2, 1)), none(2, 1), lines(commits(2, 2), reads(3, 1, 10))), cellList(2, 20, 31, 0), lastOf(1, 2, 2, 1, 31, 1)},
		{"what there never was", start(none(2, 0), none(2, 5), none(3, 30), lines(commits(2, 0))), firstCells(), lastOf(1, 1, 2, 1, 31, 1)},
		{"ahead of its begin", start(lines(drops(2, 2), commits(2, 2), begun(4)), none(4, 2), lines(sees(4, 1, 10, 31, 0), puts(4, 2, 5), reads(4, 2, 5), drops(4, 2)), none(4, 2), lines(commits(4, 3))), cellList(1, 10, 31, 0), lastOf(1, 1, 2, 3, 31, 1)},
		{"behind its begin", start(lines(drops(2, 31), reads(3, 31, 0), refuses(actDrop(3, 31), impl.ErrConflict), commits(2, 2), reads(3, 31, 0), refuses(actDrop(3, 31), impl.ErrConflict), refuses(actPut(3, 31, 5), impl.ErrConflict))), cellList(1, 10, 2, 20), lastOf(1, 1, 2, 1, 31, 2)},
		{"and aborted", start(lines(drops(2, 2), aborts(2), reads(3, 2, 20), begun(4), reads(4, 2, 20), drops(4, 2), refuses(actDrop(3, 2), impl.ErrConflict))), firstCells(), lastOf(1, 1, 2, 1, 31, 1)},
		{"put new, dropped, committed", start(lines(puts(2, 5, 50), drops(2, 5)), none(2, 5), lines(commits(2, 2)), none(3, 5), lines(begun(4)), none(4, 5)), firstCells(), lastOf(1, 1, 2, 1, 5, 2, 31, 1)},
		{"dropped, put again, committed", start(lines(drops(2, 1), puts(2, 1, 17), reads(2, 1, 17), commits(2, 2), begun(4), reads(4, 1, 17))), cellList(1, 17, 2, 20, 31, 0), lastOf(1, 2, 2, 1, 31, 1)},
		{"all", start(lines(drops(2, 31), drops(2, 1), drops(2, 2), sees(2), commits(2, 2), begun(4), sees(4), sees(3, 1, 10, 2, 20, 31, 0))), nil, lastOf(1, 2, 2, 2, 31, 2)},
		{"some, and others put", start(lines(drops(2, 2), puts(2, 0, 5), puts(2, 31, 9999), commits(2, 2), begun(4), sees(4, 0, 5, 1, 10, 31, 9999))), cellList(0, 5, 1, 10, 31, 9999), lastOf(0, 2, 1, 1, 2, 2, 31, 2)},
		{"twice over", start(lines(drops(2, 1), commits(2, 2), begun(4), puts(4, 1, 5), commits(4, 3), begun(5), drops(5, 1), commits(5, 4), begun(6)), none(6, 1), lines(reads(3, 1, 10))), cellList(2, 20, 31, 0), lastOf(1, 4, 2, 1, 31, 1)},
	} {
		got := wantTalk(t, c.name, firstCells(), c.talk)
		if !slices.Equal(got.Now, c.now) || !slices.Equal(got.Last, c.last) {
			t.Errorf("%s: there is %+v, last turned at %v, want %+v and %v", c.name, got.Now, got.Last, c.now, c.last)
		}
	}
}

// Without cells nothing was turned, and the clock stands at 0.
func TestTalkOfNothing(t *testing.T) {
	talk := lines(begun(2), sees(2), readsNone(2, 1), refuses(actDrop(2, 1), impl.ErrNone), commits(2, 0), begun(3), begun(4), puts(3, 1, 5), sees(3, 1, 5), sees(4), refuses(actPut(4, 1, 6), impl.ErrConflict), commits(3, 1), readsNone(4, 1), refuses(actPut(4, 1, 6), impl.ErrConflict), begun(5), reads(5, 1, 5), aborts(4), drops(5, 1), commits(5, 2), begun(6), sees(6))
	got := wantTalk(t, "nothing", nil, talk)
	if got.Next != 7 || got.Clock != 2 || len(got.Now) > 0 || !slices.Equal(got.Last, lastOf(1, 2)) {
		t.Errorf("%+v", got)
	}
}

// baseCopies: 3 is done, 5 wrote keys 2 and 6, 6 is aborted, 8 wrote nothing, 9 wrote key 20, 11 is done.
func baseCopies() impl.Copies {
	return impl.Copies{Next: 12, Clock: 6, Now: cellList(2, 20, 20, 200, 31, 9999), Last: lastOf(2, 4, 4, 4, 20, 6, 31, 1), Txns: []impl.Copied{
		{Id: 3, At: 2, State: impl.StateDone}, {Id: 5, At: 5, State: impl.StateOpen, Start: cellList(2, 20, 20, 19, 31, 9999), Now: cellList(2, 22, 20, 19, 31, 9999), Wrote: []int64{2, 6}}, {Id: 6, At: 5, State: impl.StateGone},
		{Id: 8, At: 6, State: impl.StateOpen, Start: cellList(2, 20, 20, 200, 31, 9999), Now: cellList(2, 20, 20, 200, 31, 9999)}, {Id: 9, At: 6, State: impl.StateOpen, Start: cellList(2, 20, 20, 200, 31, 9999), Now: cellList(2, 20, 31, 9999), Wrote: []int64{20}}, {Id: 11, At: 6, State: impl.StateDone}}}
}

type faultyCopies struct {
	name   string
	copies impl.Copies
	code   int64
}

// turnedCopies: a turn of the base copies, and the fault that they have then.
func turnedCopies(name string, code int64, turn func(c *impl.Copies)) faultyCopies {
	c := baseCopies()
	turn(&c)
	return faultyCopies{name, c, code}
}

// openCopied: so many that are open, with Ids from 1 on.
func openCopied(count int) []impl.Copied {
	var out []impl.Copied
	for i := range int64(count) {
		out = append(out, impl.Copied{Id: i + 1, State: impl.StateOpen})
	}
	return out
}

// numberFaultsOfCopies: each number at the ends of its bounds and just outside them.
func numberFaultsOfCopies() []faultyCopies {
	var out []faultyCopies
	add := func(name string, sound, wrong []int64, turn func(c *impl.Copies, number int64)) {
		for _, number := range sound {
			out = append(out, turnedCopies(fmt.Sprintf("%s %d", name, number), impl.OK, func(c *impl.Copies) { turn(c, number) }))
		}
		for _, number := range append(slices.Clone(wrong), math.MinInt64, -1, math.MaxInt64) {
			out = append(out, turnedCopies(fmt.Sprintf("%s %d", name, number), impl.ErrRange, func(c *impl.Copies) { turn(c, number) }))
		}
	}
	add("Next", []int64{12, 13, 998, 999}, []int64{0, 1, 11, 1000}, func(c *impl.Copies, n int64) { c.Next = n })
	add("Next without transactions", []int64{1, 2, 999}, []int64{0, 1000}, func(c *impl.Copies, n int64) { c.Next, c.Txns = n, nil })
	add("Clock", []int64{6, 7, 999999, 1000000}, []int64{5, 0, 1000001}, func(c *impl.Copies, n int64) { c.Clock = n })
	add("Clock without all", []int64{0, 1, 1000000}, []int64{1000001}, func(c *impl.Copies, n int64) { c.Clock, c.Txns, c.Last = n, nil, lastOf() })
	for _, key := range []int{0, 2, 17, 31} {
		add(fmt.Sprintf("Last of key %d", key), []int64{0, 1, 5, 6}, []int64{7, topAt}, func(c *impl.Copies, n int64) { c.Last[key] = n })
	}
	for place, ids := range [][]int64{{1, 3, 4}, {4, 5}, {6, 7}, {7, 8}, {9, 10}, {10, 11}} {
		add(fmt.Sprintf("Id of place %d", place), ids, []int64{0, 12, 999}, func(c *impl.Copies, n int64) { c.Txns[place].Id = n })
		add(fmt.Sprintf("At of place %d", place), []int64{0, 1, 5, 6}, []int64{7, topAt}, func(c *impl.Copies, n int64) { c.Txns[place].At = n })
	}
	add("State of one without lists", []int64{1, 2, 3}, []int64{0, 4}, func(c *impl.Copies, n int64) { c.Txns[0].State = n })
	add("State of the last one", []int64{1, 2, 3}, []int64{0, 4}, func(c *impl.Copies, n int64) { c.Txns[5].State = n })
	add("State of one with lists", []int64{1}, []int64{0, 4}, func(c *impl.Copies, n int64) { c.Txns[1].State = n })
	for name, cells := range cellsOfCopies() {
		add("first Key of "+name, []int64{0, 1, 2}, []int64{32}, func(c *impl.Copies, n int64) { (*cells(c))[0].Key = n })
		add("last Key of "+name, []int64{21, 30, 31}, []int64{32, 100}, func(c *impl.Copies, n int64) { list := *cells(c); list[len(list)-1].Key = n })
		add("first Value of "+name, []int64{0, 1, 9999}, []int64{10000}, func(c *impl.Copies, n int64) { (*cells(c))[0].Value = n })
		add("last Value of "+name, []int64{0, 1, 9999}, []int64{10000}, func(c *impl.Copies, n int64) { list := *cells(c); list[len(list)-1].Value = n })
	}
	add("first of Wrote", []int64{0, 5}, []int64{32}, func(c *impl.Copies, n int64) { c.Txns[1].Wrote[0] = n })
	add("last of Wrote", []int64{3, 6, 31}, []int64{32, 33}, func(c *impl.Copies, n int64) { c.Txns[1].Wrote[1] = n })
	add("the only one of Wrote", []int64{0, 20, 31}, []int64{32}, func(c *impl.Copies, n int64) { c.Txns[4].Wrote[0] = n })
	add("what is written by one without", []int64{0, 31}, []int64{32}, func(c *impl.Copies, n int64) { c.Txns[3].Wrote = []int64{n} })
	return out
}

// cellsOfCopies: each list of cells.
func cellsOfCopies() map[string]func(c *impl.Copies) *[]impl.Cell {
	return map[string]func(c *impl.Copies) *[]impl.Cell{
		"Now": func(c *impl.Copies) *[]impl.Cell { return &c.Now }, "Start of 5": func(c *impl.Copies) *[]impl.Cell { return &c.Txns[1].Start }, "Now of 5": func(c *impl.Copies) *[]impl.Cell { return &c.Txns[1].Now },
		"Start of 9": func(c *impl.Copies) *[]impl.Cell { return &c.Txns[4].Start }, "Now of 9": func(c *impl.Copies) *[]impl.Cell { return &c.Txns[4].Now },
	}
}

// keysInRow: so many keys, from 0 on.
func keysInRow(count int64) []int64 {
	var out []int64
	for key := range count {
		out = append(out, key)
	}
	return out
}

func countFaultsOfCopies() []faultyCopies {
	return []faultyCopies{
		turnedCopies("as they are", impl.OK, func(c *impl.Copies) {}),
		turnedCopies("no transactions", impl.OK, func(c *impl.Copies) { c.Txns = nil }),
		turnedCopies("no cells", impl.OK, func(c *impl.Copies) { c.Now = nil }),
		turnedCopies("20 transactions", impl.OK, func(c *impl.Copies) { c.Next, c.Txns = 21, openCopied(20) }),
		turnedCopies("21 transactions", impl.ErrMany, func(c *impl.Copies) { c.Next, c.Txns = 22, openCopied(21) }),
		turnedCopies("21 transactions of zeros", impl.ErrMany, func(c *impl.Copies) { c.Txns = make([]impl.Copied, 21) }),
		turnedCopies("20 transactions of zeros", impl.ErrRange, func(c *impl.Copies) { c.Txns = make([]impl.Copied, 20) }),
		turnedCopies("31 numbers of Last", impl.ErrForm, func(c *impl.Copies) { c.Last = c.Last[:31] }),
		turnedCopies("33 numbers of Last", impl.ErrForm, func(c *impl.Copies) { c.Last = append(c.Last, 0) }),
		turnedCopies("no numbers of Last", impl.ErrForm, func(c *impl.Copies) { c.Last = nil }),
		turnedCopies("one number of Last", impl.ErrForm, func(c *impl.Copies) { c.Last = []int64{0} }),
		turnedCopies("32 cells", impl.OK, func(c *impl.Copies) { c.Now = cellsFrom(0, 1, 32, 5) }),
		turnedCopies("33 cells", impl.ErrRange, func(c *impl.Copies) { c.Now = cellsFrom(0, 1, 33, 5) }),
		turnedCopies("32 cells of one", impl.OK, func(c *impl.Copies) { c.Txns[3].Start, c.Txns[3].Now = cellsFrom(0, 1, 32, 5), cellsFrom(0, 1, 32, 6) }),
		turnedCopies("all keys written", impl.OK, func(c *impl.Copies) { c.Txns[3].Wrote = keysInRow(32) }),
		turnedCopies("more than all keys written", impl.ErrRange, func(c *impl.Copies) { c.Txns[3].Wrote = keysInRow(33) }),
		turnedCopies("what is written by no means fits", impl.OK, func(c *impl.Copies) { c.Txns[3].Wrote = []int64{2, 6, 20} }),
		turnedCopies("an open one has no lists", impl.OK, func(c *impl.Copies) { c.Txns[1].Start, c.Txns[1].Now, c.Txns[1].Wrote = nil, nil, nil }),
		{"a zero value", impl.Copies{}, impl.ErrRange},
		{"nearly nothing", impl.Copies{Next: 1}, impl.ErrForm},
		{"nothing", impl.Copies{Next: 1, Last: lastOf()}, impl.OK},
		{"the most", impl.Copies{Next: 999, Clock: topAt, Now: cellsFrom(0, 1, 32, 9999), Last: slices.Repeat([]int64{topAt}, 32), Txns: []impl.Copied{{Id: 998, At: topAt, State: 1, Start: cellsFrom(0, 1, 32, 9999), Now: cellsFrom(0, 1, 32, 9999), Wrote: keysInRow(32)}}}, impl.OK},
	}
}

func formFaultsOfCopies() []faultyCopies {
	var out []faultyCopies
	add := func(name string, code int64, turn func(c *impl.Copies)) {
		out = append(out, turnedCopies(name, code, turn))
	}
	add("an Id as the one ahead", impl.ErrForm, func(c *impl.Copies) { c.Txns[3].Id = 6 })
	add("an Id below the one ahead", impl.ErrForm, func(c *impl.Copies) { c.Txns[3].Id = 5 })
	add("an Id as the one behind", impl.ErrForm, func(c *impl.Copies) { c.Txns[3].Id = 9 })
	add("the first Id as the one behind", impl.ErrForm, func(c *impl.Copies) { c.Txns[0].Id = 5 })
	add("the last Id as the one ahead", impl.ErrForm, func(c *impl.Copies) { c.Txns[5].Id = 9 })
	add("Ids that fall", impl.ErrForm, func(c *impl.Copies) { slices.Reverse(c.Txns) })
	for _, state := range []int64{impl.StateDone, impl.StateGone} {
		add(fmt.Sprintf("State %d and Start", state), impl.ErrForm, func(c *impl.Copies) { c.Txns[0].State, c.Txns[0].Start = state, cellList(1, 1) })
		add(fmt.Sprintf("State %d and Now", state), impl.ErrForm, func(c *impl.Copies) { c.Txns[0].State, c.Txns[0].Now = state, cellList(1, 1) })
		add(fmt.Sprintf("State %d and Wrote", state), impl.ErrForm, func(c *impl.Copies) { c.Txns[0].State, c.Txns[0].Wrote = state, []int64{1} })
		add(fmt.Sprintf("State %d and all of them", state), impl.ErrForm, func(c *impl.Copies) { c.Txns[1].State = state })
		add(fmt.Sprintf("State %d and Start of the last one", state), impl.ErrForm, func(c *impl.Copies) { c.Txns[5].State, c.Txns[5].Start = state, cellList(32, 1) })
		add(fmt.Sprintf("State %d and empty lists", state), impl.OK, func(c *impl.Copies) {
			c.Txns[0] = impl.Copied{Id: 3, At: 2, State: state, Start: []impl.Cell{}, Now: []impl.Cell{}, Wrote: []int64{}}
		})
	}
	for name, cells := range cellsOfCopies() {
		add("a Key twice in "+name, impl.ErrForm, func(c *impl.Copies) { *cells(c) = cellList(2, 20, 2, 20) })
		add("Keys that fall in "+name, impl.ErrForm, func(c *impl.Copies) { *cells(c) = cellList(2, 20, 1, 20) })
		add("the last Key as the one ahead in "+name, impl.ErrForm, func(c *impl.Copies) { *cells(c) = cellList(2, 20, 4, 1, 4, 1) })
		add("Keys that just rise in "+name, impl.OK, func(c *impl.Copies) { *cells(c) = cellList(2, 20, 3, 20, 4, 0) })
		add("form ahead of range in "+name, impl.ErrForm, func(c *impl.Copies) { *cells(c) = cellList(5, 1, 4, 1, 32, 1) })
		add("range ahead of form in "+name, impl.ErrRange, func(c *impl.Copies) { *cells(c) = cellList(5, 10000, 4, 1) })
		add("range and form in "+name, impl.ErrRange, func(c *impl.Copies) { *cells(c) = cellList(5, 1, 4, -1) })
	}
	add("a key twice in Wrote", impl.ErrForm, func(c *impl.Copies) { c.Txns[1].Wrote = []int64{2, 2} })
	add("keys that fall in Wrote", impl.ErrForm, func(c *impl.Copies) { c.Txns[1].Wrote = []int64{6, 2} })
	add("the last one of Wrote as the one ahead", impl.ErrForm, func(c *impl.Copies) { c.Txns[4].Wrote = []int64{2, 6, 6} })
	add("keys that just rise in Wrote", impl.OK, func(c *impl.Copies) { c.Txns[1].Wrote = []int64{0, 1, 2} })
	add("no key behind keys that fall in Wrote", impl.ErrRange, func(c *impl.Copies) { c.Txns[1].Wrote = []int64{6, 2, 32} })
	add("no key ahead of keys that fall in Wrote", impl.ErrRange, func(c *impl.Copies) { c.Txns[1].Wrote = []int64{-1, 6, 2} })
	return out
}

// twoFaultsOfCopies: what is asked first. A copy is asked all ahead of the next one.
func twoFaultsOfCopies() []faultyCopies {
	var out []faultyCopies
	add := func(name string, code int64, turn func(c *impl.Copies)) {
		out = append(out, turnedCopies(name, code, turn))
	}
	many := func(c *impl.Copies) { c.Txns = make([]impl.Copied, 21) }
	add("Next 0, and 21 transactions", impl.ErrRange, func(c *impl.Copies) { many(c); c.Next = 0 })
	add("Clock -1, and 21 transactions", impl.ErrRange, func(c *impl.Copies) { many(c); c.Clock = -1 })
	add("21 transactions, and no Last", impl.ErrMany, func(c *impl.Copies) { many(c); c.Last = nil })
	add("no Last, and a wrong cell", impl.ErrForm, func(c *impl.Copies) { c.Last, c.Now[0].Key = nil, -1 })
	add("33 of Last, one of them wrong", impl.ErrForm, func(c *impl.Copies) { c.Last = append(c.Last, -1) })
	add("31 of Last, and a wrong copy", impl.ErrForm, func(c *impl.Copies) { c.Last, c.Txns[0].At = c.Last[:31], 7 })
	add("Next 0, and no Last", impl.ErrRange, func(c *impl.Copies) { c.Last, c.Next = nil, 0 })
	add("a wrong Last, and cells that fall", impl.ErrRange, func(c *impl.Copies) { c.Last[31], c.Now = 7, cellList(2, 1, 1, 1) })
	add("cells that fall, and a wrong copy", impl.ErrForm, func(c *impl.Copies) { c.Now, c.Txns[0].At = cellList(2, 1, 1, 1), 7 })
	add("a wrong cell, and a copy's form", impl.ErrRange, func(c *impl.Copies) { c.Now[2].Value, c.Txns[0].Wrote = 10000, []int64{1} })
	add("form of the first, range of the second", impl.ErrForm, func(c *impl.Copies) { c.Txns[0].Wrote, c.Txns[1].At = []int64{1}, 7 })
	add("range of the first, form of the second", impl.ErrRange, func(c *impl.Copies) { c.Txns[0].At, c.Txns[1].State = 7, impl.StateDone })
	add("range and form of one", impl.ErrRange, func(c *impl.Copies) { c.Txns[0].At, c.Txns[0].Wrote = 7, []int64{1} })
	add("an Id that does not rise, and State 4", impl.ErrRange, func(c *impl.Copies) { c.Txns[3].Id, c.Txns[3].State = 6, 4 })
	add("an Id that does not rise, and a wrong cell", impl.ErrForm, func(c *impl.Copies) { c.Txns[3].Id, c.Txns[3].Start[0].Key = 6, -1 })
	add("one that is done has a wrong cell", impl.ErrForm, func(c *impl.Copies) { c.Txns[0].Now = cellList(32, 1) })
	add("one that is aborted wrote no key", impl.ErrForm, func(c *impl.Copies) { c.Txns[2].Wrote = []int64{32} })
	add("Start that falls, and a wrong Now", impl.ErrForm, func(c *impl.Copies) { c.Txns[1].Start, c.Txns[1].Now[0].Key = cellList(2, 1, 1, 1), -1 })
	add("a wrong Start, and Now that falls", impl.ErrRange, func(c *impl.Copies) { c.Txns[1].Start[0].Key, c.Txns[1].Now = -1, cellList(2, 1, 1, 1) })
	add("Now that falls, and no key in Wrote", impl.ErrForm, func(c *impl.Copies) { c.Txns[1].Now, c.Txns[1].Wrote = cellList(2, 1, 1, 1), []int64{32} })
	add("a wrong Now, and Wrote that falls", impl.ErrRange, func(c *impl.Copies) { c.Txns[1].Now[2].Value, c.Txns[1].Wrote = -1, []int64{2, 1} })
	add("Wrote of one that falls, and the next one's range", impl.ErrForm, func(c *impl.Copies) { c.Txns[1].Wrote, c.Txns[2].At = []int64{2, 1}, 7 })
	add("no key in Wrote of one, and the next one's form", impl.ErrRange, func(c *impl.Copies) { c.Txns[1].Wrote, c.Txns[2].Now = []int64{32}, cellList(1, 1) })
	add("Start of one that falls, and the next one's range", impl.ErrForm, func(c *impl.Copies) { c.Txns[1].Start, c.Txns[2].At = cellList(2, 1, 1, 1), 7 })
	add("Now of one that falls, and the next one's range", impl.ErrForm, func(c *impl.Copies) { c.Txns[1].Now, c.Txns[2].Id = cellList(2, 1, 1, 1), 0 })
	return out
}

func copiesFaults() []faultyCopies {
	return slices.Concat(countFaultsOfCopies(), numberFaultsOfCopies(), formFaultsOfCopies(), twoFaultsOfCopies())
}

// someActs: one of each kind, and of none.
func someActs() []impl.Act {
	return []impl.Act{actBegin(), actGet(5, 2), actScan(5), actPut(5, 2, 7), actDrop(5, 2), actCommit(5), actAbort(5), {}, {Kind: 8}, actPut(3, 40, -1), actGet(12, 2), actDrop(8, 2)}
}

func TestCopiesFault(t *testing.T) {
	met := map[int64]int{}
	for _, f := range copiesFaults() {
		if got, by := impl.CopiesFault(f.copies), copiesFaultByHand(f.copies); got != f.code || by != f.code {
			t.Errorf("%s: CopiesFault = %d, by hand %d, want %d", f.name, got, by, f.code)
		}
		met[f.code]++
		for _, a := range someActs() {
			done := impl.DoCopies(f.copies, a)
			if f.code != impl.OK {
				wantCode(t, fmt.Sprintf("%s: DoCopies of %+v", f.name, a), done, f.code)
			} else if want := doCopiesByHand(f.copies, a); told(done) != told(want) {
				t.Errorf("%s: DoCopies of %+v = %+v, want %+v", f.name, a, done, want)
			}
		}
	}
	for _, code := range []int64{impl.OK, impl.ErrForm, impl.ErrMany, impl.ErrRange} {
		if met[code] < 3 {
			t.Errorf("code %d was met only %d times", code, met[code])
		}
	}
}

// The engine's fault comes ahead of the act's Kind, as that of copies does.
func TestEngineFaultAheadOfKind(t *testing.T) {
	for _, f := range append(engineFaults(), chainFaultsInRows()...) {
		for _, a := range someActs() {
			done := impl.DoEngine(f.engine, a)
			if f.code != impl.OK {
				wantCode(t, fmt.Sprintf("%s: DoEngine of %+v", f.name, a), done, f.code)
			} else if want := doEngineByHand(f.engine, a); told(done) != told(want) {
				t.Errorf("%s: DoEngine of %+v = %+v, want %+v", f.name, a, done, want)
			}
		}
	}
}

type faultyCells struct {
	name  string
	cells []impl.Cell
	code  int64
}

func newCellFaults() []faultyCells {
	wrong := cellsFrom(0, 1, 21, 0)
	wrong[0].Key = -1
	return []faultyCells{
		{"nothing", nil, impl.OK}, {"20 cells", cellsFrom(12, 1, 20, 9999), impl.OK}, {"21 cells", cellsFrom(0, 1, 21, 0), impl.ErrMany}, {"32 cells", cellsFrom(0, 1, 32, 0), impl.ErrMany}, {"21 cells, one of a wrong Key", wrong, impl.ErrMany}, {"20 cells, one of a wrong Key", wrong[:20], impl.ErrRange},
		{"Key -1", cellList(-1, 0), impl.ErrRange}, {"Key 0", cellList(0, 0), impl.OK}, {"Key 31", cellList(0, 0, 31, 0), impl.OK}, {"Key 32", cellList(5, 0, 32, 0), impl.ErrRange}, {"Value -1", cellList(5, -1), impl.ErrRange}, {"Value 9999", cellList(5, 9999), impl.OK}, {"Value 10000", cellList(5, 10000), impl.ErrRange},
		{"one Key twice", cellList(5, 0, 5, 0), impl.ErrForm}, {"Keys that fall", cellList(5, 0, 4, 0), impl.ErrForm}, {"form ahead of range", cellList(5, 0, 4, 0, 32, 0), impl.ErrForm}, {"range ahead of form", cellList(5, 10000, 4, 0), impl.ErrRange}, {"range and form", cellList(5, 0, 4, -1), impl.ErrRange},
	}
}

func TestNewCopies(t *testing.T) {
	for _, f := range newCellFaults() {
		wantCode(t, "NewEngine of "+f.name, impl.NewEngine(f.cells), f.code)
		made := impl.NewCopies(f.cells)
		wantCode(t, "NewCopies of "+f.name, made, f.code)
		if want := newCopiesByHand(f.cells); told(made) != told(want) {
			t.Errorf("NewCopies of %s = %+v, want %+v", f.name, made, want)
		}
	}
	for count := range int64(21) {
		cells := cellsFrom(11, 1, count, 9980)
		made := impl.NewCopies(cells)
		c := made.Copies
		if made.Code != impl.OK || made.Value != 0 || len(made.Cells) > 0 || c.Next != 2 || c.Clock != min(count, 1) || !slices.Equal(c.Now, cells) || len(c.Txns) > 0 || len(c.Last) != mostRows {
			t.Fatalf("NewCopies of %v = %+v", cells, made)
		}
		for key := range int64(mostRows) {
			if turned := key >= 11 && key < 11+count; (c.Last[key] == 1) != turned || !inBounds(c.Last[key], 1) {
				t.Errorf("NewCopies of %v: key %d was turned at %d", cells, key, c.Last[key])
			}
		}
		if !sameCopies(c, copiesOfEngine(newEngine(cells...))) || impl.CopiesFault(c) != impl.OK {
			t.Errorf("NewCopies of %v = %+v, and of an engine %+v", cells, c, copiesOfEngine(newEngine(cells...)))
		}
	}
}

// The Kind is asked ahead of all else, and then it alone tells what is done.
func TestKindsOfActs(t *testing.T) {
	c, e := baseCopies(), baseEngine()
	for _, kind := range []int64{math.MinInt64, -1, 0, 1, 2, 3, 4, 5, 6, 7, 8, 9, 100, math.MaxInt64} {
		for _, id := range []int64{5, 3, 4, -1} {
			for _, key := range []int64{2, 6, 20, 30, 31, 32, -1} {
				for _, value := range []int64{7, -1} {
					a := impl.Act{Kind: kind, Txn: id, Key: key, Value: value}
					byCopies, byEngine := impl.DoCopies(c, a), impl.DoEngine(e, a)
					if kind < 1 || kind > 7 {
						wantCode(t, fmt.Sprintf("DoCopies of %+v", a), byCopies, impl.ErrRange)
						wantCode(t, fmt.Sprintf("DoEngine of %+v", a), byEngine, impl.ErrRange)
						continue
					}
					if want := doCopiesByHand(c, a); told(byCopies) != told(want) {
						t.Errorf("DoCopies of %+v = %+v, want %+v", a, byCopies, want)
					}
					if want := doEngineByHand(e, a); told(byEngine) != told(want) {
						t.Errorf("DoEngine of %+v = %+v, want %+v", a, byEngine, want)
					}
				}
			}
		}
	}
	if impl.ActBegin != 1 || impl.ActGet != 2 || impl.ActScan != 3 || impl.ActPut != 4 || impl.ActDrop != 5 || impl.ActCommit != 6 || impl.ActAbort != 7 {
		t.Error("a constant is not as told")
	}
}

// What an act does not need may be anything.
func TestWhatAnActDoesNotNeed(t *testing.T) {
	c, e := baseCopies(), baseEngine()
	cells := firstCells()
	for _, n := range []int64{math.MinInt64, -1, 0, 1, 3, 5, 31, 32, 1000, 9999, 10000, math.MaxInt64} {
		for _, pair := range [][2]impl.Act{
			{actBegin(), {Kind: 1, Txn: n, Key: n, Value: n}}, {actGet(5, 2), {Kind: 2, Txn: 5, Key: 2, Value: n}}, {actGet(5, 6), {Kind: 2, Txn: 5, Key: 6, Value: n}}, {actScan(5), {Kind: 3, Txn: 5, Key: n, Value: n}}, {actDrop(5, 2), {Kind: 5, Txn: 5, Key: 2, Value: n}},
			{actDrop(8, 31), {Kind: 5, Txn: 8, Key: 31, Value: n}}, {actCommit(5), {Kind: 6, Txn: 5, Key: n, Value: n}}, {actCommit(8), {Kind: 6, Txn: 8, Key: n, Value: n}}, {actAbort(5), {Kind: 7, Txn: 5, Key: n, Value: n}}, {actCommit(3), {Kind: 6, Txn: 3, Key: n, Value: n}}, {actScan(4), {Kind: 3, Txn: 4, Key: n, Value: n}},
		} {
			if one, two := impl.DoCopies(c, pair[0]), impl.DoCopies(c, pair[1]); told(one) != told(two) {
				t.Errorf("DoCopies of %+v = %+v, of %+v %+v", pair[0], one, pair[1], two)
			}
			if one, two := impl.DoEngine(e, pair[0]), impl.DoEngine(e, pair[1]); told(one) != told(two) {
				t.Errorf("DoEngine of %+v = %+v, of %+v %+v", pair[0], one, pair[1], two)
			}
			for _, run := range []func([]impl.Cell, []impl.Act) impl.RepliesResult{impl.RunCopies, impl.RunEngine} {
				if one, two := run(cells, []impl.Act{actBegin(), pair[0]}), run(cells, []impl.Act{actBegin(), pair[1]}); told(one) != told(two) {
					t.Errorf("a run of %+v is told %+v, of %+v %+v", pair[0], one, pair[1], two)
				}
			}
		}
	}
}

// idle: so many that are open or have ended, and the last Ids ahead of next.
func idle(count int, next, clock int64) (impl.Engine, impl.Copies) {
	e := someOpen(count, next, clock)
	for i := range e.Txns {
		e.Txns[i].State = 1 + int64(i%3)
	}
	return e, copiesOfEngine(e)
}

func TestBeginsAtTheirEdges(t *testing.T) {
	for _, next := range []int64{1, 2, 21, 500, 997, 998, 999} {
		for count := range mostTxns + 1 {
			if int64(count) >= next {
				continue
			}
			for _, clock := range []int64{0, 7, topAt} {
				e, c := idle(count, next, clock)
				c.Now, c.Last = cellList(0, 5, 31, 6), lastOf(0, clock, 31, min(clock, 1))
				byCopies, byEngine := impl.DoCopies(c, actBegin()), impl.DoEngine(e, actBegin())
				if count == mostTxns || next == topTxn {
					wantCode(t, fmt.Sprintf("a begin of %d, Next %d", count, next), byCopies, impl.ErrMany)
					if byEngine.Code != impl.OK || told(byEngine.Reply) != told(impl.Reply{Code: impl.ErrMany}) || !sameEngine(byEngine.Engine, e) {
						t.Errorf("a begin of %d, Next %d: %+v", count, next, byEngine)
					}
					continue
				}
				want := copyCopies(c)
				want.Next, want.Txns = next+1, append(want.Txns, impl.Copied{Id: next, At: clock, State: 1, Start: c.Now, Now: c.Now})
				if byCopies.Code != impl.OK || byCopies.Value != next || len(byCopies.Cells) > 0 || !sameCopies(byCopies.Copies, want) {
					t.Errorf("a begin of %d, Next %d: %+v, want %+v", count, next, byCopies, want)
				}
				if byEngine.Code != impl.OK || told(byEngine.Reply) != told(impl.Reply{Value: next}) || byEngine.Engine.Next != next+1 || len(byEngine.Engine.Txns) != count+1 {
					t.Errorf("a begin of %d, Next %d: %+v", count, next, byEngine)
				}
			}
		}
	}
}

func TestCommitsAtTheirEdges(t *testing.T) {
	for _, clock := range []int64{0, 1, 5, topAt - 1, topAt} {
		c := impl.Copies{Next: 9, Clock: clock, Now: cellList(1, 10, 2, 20, 30, 3), Last: lastOf(1, min(clock, 1)), Txns: []impl.Copied{
			{Id: 4, At: 0, State: 1, Start: cellList(7, 7), Now: cellList(0, 5, 1, 11, 31, 9)}, {Id: 5, At: 0, State: 1, Start: cellList(7, 7), Now: cellList(0, 5, 1, 11, 31, 9), Wrote: []int64{0, 2, 31}}, {Id: 6, State: 3}}}
		want := copyCopies(c)
		want.Txns[0] = impl.Copied{Id: 4, State: impl.StateDone}
		if got := impl.DoCopies(c, actCommit(4)); got.Code != impl.OK || got.Value != 0 || len(got.Cells) > 0 || !sameCopies(got.Copies, want) {
			t.Errorf("clock %d: a commit of who wrote nothing: %+v, want %+v", clock, got, want)
		}
		want = copyCopies(c)
		want.Txns[1] = impl.Copied{Id: 5, State: impl.StateGone}
		if got := impl.DoCopies(c, actAbort(5)); got.Code != impl.OK || got.Value != 0 || len(got.Cells) > 0 || !sameCopies(got.Copies, want) {
			t.Errorf("clock %d: an abort: %+v, want %+v", clock, got, want)
		}
		got := impl.DoCopies(c, actCommit(5))
		e := writerEngine(max(clock, 1), 0, 3, nil, 2, 31)
		byEngine, aborted := impl.DoEngine(e, actCommit(5)), impl.DoEngine(e, actAbort(5))
		if aborted.Code != impl.OK || told(aborted.Reply) != told(impl.Reply{}) || aborted.Engine.Txns[1].State != impl.StateGone {
			t.Errorf("clock %d: an abort: %+v", clock, aborted)
		}
		if clock == topAt {
			wantCode(t, "a commit at the last clock", got, impl.ErrRange)
			if byEngine.Code != impl.OK || told(byEngine.Reply) != told(impl.Reply{Code: impl.ErrRange}) || !sameEngine(byEngine.Engine, e) {
				t.Errorf("a commit at the last clock: %+v", byEngine)
			}
			continue
		}
		// Of what it has Now only what it Wrote becomes what there is.
		want = copyCopies(c)
		want.Clock, want.Now, want.Txns[1] = clock+1, cellList(0, 5, 1, 10, 30, 3, 31, 9), impl.Copied{Id: 5, State: impl.StateDone}
		want.Last = lastOf(0, clock+1, 1, min(clock, 1), 2, clock+1, 31, clock+1)
		if got.Code != impl.OK || got.Value != clock+1 || len(got.Cells) > 0 || !sameCopies(got.Copies, want) {
			t.Errorf("clock %d: a commit: %+v, want %+v", clock, got, want)
		}
		if byEngine.Code != impl.OK || told(byEngine.Reply) != told(impl.Reply{Value: max(clock, 1) + 1}) || !sameEngine(byEngine.Engine, impl.CommitTxn(e, 5).Engine) {
			t.Errorf("clock %d: a commit: %+v", clock, byEngine)
		}
	}
}

// Gets and scans leave all as it was, and tell of what one has Now, not of the Start.
func TestReadsOfCopiesAsTold(t *testing.T) {
	c := impl.Copies{Next: 9, Clock: 5, Now: cellList(1, 10), Last: lastOf(1, 5), Txns: []impl.Copied{{Id: 5, At: 2, State: 1, Start: cellList(2, 20, 3, 30), Now: cellList(0, 0, 3, 33, 31, 9999), Wrote: []int64{0}}, {Id: 7, At: 2, State: 1, Start: cellList(2, 20)}}}
	for key, reply := range map[int64]impl.Reply{0: {}, 3: {Value: 33}, 31: {Value: 9999}, 1: {Code: impl.ErrNone}, 2: {Code: impl.ErrNone}, 30: {Code: impl.ErrNone}, 4: {Code: impl.ErrNone}, -1: {Code: impl.ErrRange}, 32: {Code: impl.ErrRange}, math.MinInt64: {Code: impl.ErrRange}, math.MaxInt64: {Code: impl.ErrRange}} {
		got := impl.DoCopies(c, actGet(5, key))
		want := impl.CopiesResult{Code: reply.Code, Value: reply.Value}
		if reply.Code == impl.OK {
			want.Copies = c
		}
		if told(got) != told(want) {
			t.Errorf("a get of key %d: %+v, want %+v", key, got, want)
		}
	}
	for id, cells := range map[int64][]impl.Cell{5: cellList(0, 0, 3, 33, 31, 9999), 7: nil} {
		if got, want := impl.DoCopies(c, actScan(id)), (impl.CopiesResult{Cells: cells, Copies: c}); told(got) != told(want) {
			t.Errorf("a scan by %d: %+v, want %+v", id, got, want)
		}
	}
}

// An act with a code changes nothing: an engine is as it was, and this answer has no code of its own; copies are not answered.
func TestActsWithACodeChangeNothing(t *testing.T) {
	e, c := baseEngine(), copiesOfEngine(baseEngine())
	if fault := impl.CopiesFault(c); fault != impl.OK {
		t.Fatal(fault)
	}
	for _, x := range []struct {
		act  impl.Act
		code int64
	}{
		{actGet(3, 2), impl.ErrState}, {actGet(6, 40), impl.ErrState}, {actGet(4, 40), impl.ErrNone}, {actGet(5, 32), impl.ErrRange}, {actGet(5, -1), impl.ErrRange}, {actGet(5, 6), impl.ErrNone}, {actGet(5, 30), impl.ErrNone}, {actGet(8, 4), impl.ErrNone}, {actGet(0, 2), impl.ErrNone},
		{actScan(3), impl.ErrState}, {actScan(11), impl.ErrState}, {actScan(4), impl.ErrNone}, {actScan(12), impl.ErrNone}, {actScan(-1), impl.ErrNone},
		{actPut(3, 40, -1), impl.ErrState}, {actPut(4, 40, -1), impl.ErrNone}, {actPut(8, 32, 5), impl.ErrRange}, {actPut(8, -1, 5), impl.ErrRange}, {actPut(8, 2, 10000), impl.ErrRange}, {actPut(8, 2, -1), impl.ErrRange}, {actPut(8, 2, 5), impl.ErrConflict}, {actPut(8, 6, 5), impl.ErrConflict}, {actPut(5, 20, 5), impl.ErrConflict},
		{actDrop(6, 40), impl.ErrState}, {actDrop(4, 40), impl.ErrNone}, {actDrop(8, 32), impl.ErrRange}, {actDrop(8, -1), impl.ErrRange}, {actDrop(8, 6), impl.ErrNone}, {actDrop(8, 4), impl.ErrNone}, {actDrop(8, 30), impl.ErrNone}, {actDrop(8, 2), impl.ErrConflict}, {actDrop(8, 20), impl.ErrConflict}, {actDrop(5, 20), impl.ErrNone}, {actDrop(5, 6), impl.ErrNone},
		{actCommit(3), impl.ErrState}, {actCommit(6), impl.ErrState}, {actCommit(4), impl.ErrNone}, {actCommit(1000), impl.ErrNone}, {actAbort(3), impl.ErrState}, {actAbort(6), impl.ErrState}, {actAbort(4), impl.ErrNone}, {actAbort(math.MinInt64), impl.ErrNone},
	} {
		wantCode(t, fmt.Sprintf("DoCopies of %+v", x.act), impl.DoCopies(c, x.act), x.code)
		want := impl.ReplyResult{Reply: impl.Reply{Code: x.code}, Engine: baseEngine()}
		if got := impl.DoEngine(e, x.act); told(got) != told(want) {
			t.Errorf("DoEngine of %+v = %+v, want %+v", x.act, got, want)
		}
	}
	// In a run what stands behind such an act is told as if it were not there.
	for _, bad := range []impl.Act{{Kind: 0}, {Kind: 8, Txn: 2}, actGet(2, 5), actGet(9, 1), actPut(2, 32, 1), actPut(2, 1, -1), actDrop(2, 5), actCommit(4), actAbort(0), actScan(77)} {
		good := []impl.Act{actBegin(), actPut(2, 2, 7), actScan(2), actCommit(2), actBegin(), actScan(3)}
		for place := range good {
			if place == 0 || place > 3 && bad.Txn == 2 {
				continue
			}
			for who, run := range map[string]func([]impl.Cell, []impl.Act) impl.RepliesResult{"RunCopies": impl.RunCopies, "RunEngine": impl.RunEngine} {
				plain, with := run(firstCells(), good).Replies, run(firstCells(), slices.Insert(slices.Clone(good), place, bad)).Replies
				if with[place].Code == impl.OK || with[place].Value != 0 || len(with[place].Cells) > 0 || told(slices.Delete(slices.Clone(with), place, place+1)) != told(plain) {
					t.Errorf("%s with %+v at %d: %+v, without %+v", who, bad, place, with, plain)
				}
			}
		}
	}
}

func TestRunsAtTheirEdges(t *testing.T) {
	for who, run := range map[string]func([]impl.Cell, []impl.Act) impl.RepliesResult{"RunCopies": impl.RunCopies, "RunEngine": impl.RunEngine} {
		for _, count := range []int{0, 1, 99, 100, 101, 102, 1000} {
			for name, acts := range map[string][]impl.Act{"nothing": make([]impl.Act, count), "begins": slices.Repeat([]impl.Act{actBegin()}, count)} {
				got := run(firstCells(), acts)
				if count > mostActs {
					wantCode(t, fmt.Sprintf("%s of %d acts", who, count), got, impl.ErrMany)
					continue
				}
				var want []impl.Reply
				for i := range count {
					switch {
					case name == "nothing":
						want = append(want, impl.Reply{Code: impl.ErrRange})
					case i < mostTxns:
						want = append(want, impl.Reply{Value: int64(i) + 2})
					default:
						want = append(want, impl.Reply{Code: impl.ErrMany})
					}
				}
				if told(got) != told(impl.RepliesResult{Replies: want}) {
					t.Errorf("%s of %d acts = %+v, want %+v", who, count, got, want)
				}
			}
		}
		for _, f := range newCellFaults() {
			for _, count := range []int{0, 1, 100} {
				wantCode(t, fmt.Sprintf("%s of %s and %d acts", who, f.name, count), run(f.cells, make([]impl.Act, count)), f.code)
			}
			code := f.code
			if code == impl.OK {
				code = impl.ErrMany
			}
			wantCode(t, fmt.Sprintf("%s of %s and too many acts", who, f.name), run(f.cells, make([]impl.Act, 101)), code)
		}
	}
}

func TestSameReplies(t *testing.T) {
	base := []impl.Reply{{Value: 2}, {Code: impl.ErrNone}, {Cells: cellList(1, 10, 2, 20)}, {}}
	turned := func(turn func(list []impl.Reply)) []impl.Reply {
		list := slices.Clone(base)
		turn(list)
		return list
	}
	for _, c := range []struct {
		name string
		a, b []impl.Reply
		same bool
	}{
		{"none", nil, nil, true}, {"none and an empty list", nil, []impl.Reply{}, true}, {"the same", base, turned(func(l []impl.Reply) {}), true}, {"one less", base, base[:3], false}, {"one less ahead", base, base[1:], false}, {"none and some", nil, base, false}, {"none and one of zeros", nil, []impl.Reply{{}}, false}, {"one more of zeros", base, append(slices.Clone(base), impl.Reply{}), false},
		{"another Code", base, turned(func(l []impl.Reply) { l[1].Code = impl.ErrState }), false}, {"a Code in place of none", base, turned(func(l []impl.Reply) { l[3].Code = impl.ErrForm }), false}, {"another Value", base, turned(func(l []impl.Reply) { l[0].Value = 3 }), false}, {"another Value beside a Code", base, turned(func(l []impl.Reply) { l[1].Value = 1 }), false}, {"another Value at the end", base, turned(func(l []impl.Reply) { l[3].Value = -1 }), false},
		{"no Cells", base, turned(func(l []impl.Reply) { l[2].Cells = nil }), false}, {"one of Cells less", base, turned(func(l []impl.Reply) { l[2].Cells = cellList(1, 10) }), false}, {"one of Cells more", base, turned(func(l []impl.Reply) { l[2].Cells = cellList(1, 10, 2, 20, 3, 30) }), false}, {"Cells of another Key", base, turned(func(l []impl.Reply) { l[2].Cells = cellList(1, 10, 3, 20) }), false}, {"Cells of another Value", base, turned(func(l []impl.Reply) { l[2].Cells = cellList(1, 11, 2, 20) }), false}, {"Cells in another order", base, turned(func(l []impl.Reply) { l[2].Cells = cellList(2, 20, 1, 10) }), false},
		{"the same Cells elsewhere", base, turned(func(l []impl.Reply) { l[2].Cells = cellList(1, 10, 2, 20) }), true}, {"Cells of zeros", base, turned(func(l []impl.Reply) { l[3].Cells = cellList(0, 0) }), false}, {"empty Cells", base, turned(func(l []impl.Reply) { l[3].Cells, l[1].Cells = []impl.Cell{}, []impl.Cell{} }), true},
		{"another order", base, turned(func(l []impl.Reply) { l[0], l[3] = l[3], l[0] }), false}, {"what no run replies", []impl.Reply{{Code: -1, Value: math.MinInt64, Cells: cellList(-1, 99, -1, 99)}}, []impl.Reply{{Code: -1, Value: math.MinInt64, Cells: cellList(-1, 99, -1, 99)}}, true},
	} {
		if one, two := impl.SameReplies(c.a, c.b), impl.SameReplies(c.b, c.a); one != c.same || two != c.same {
			t.Errorf("%s: SameReplies = %v, the other way %v, want %v", c.name, one, two, c.same)
		}
		if !impl.SameReplies(c.a, c.a) || !impl.SameReplies(c.b, slices.Clone(c.b)) {
			t.Errorf("%s: one is not the same as itself", c.name)
		}
	}
}

// someCopies: those of engines that are sound, and where some runs led.
func someCopies() []impl.Copies {
	var out []impl.Copies
	for n, e := range edgeEngines() {
		if n%4 == 0 {
			out = append(out, copiesOfEngine(e))
		}
	}
	d := dice(95)
	for run := range 40 {
		cells, acts := thrownTalk(run, &d)
		c := newCopiesByHand(cells).Copies
		for n, a := range acts {
			if done := doCopiesByHand(c, a); done.Code == impl.OK {
				c = done.Copies
			}
			if n%19 == 0 {
				out = append(out, c)
			}
		}
	}
	return append(out, baseCopies(), ownCopies([]int64{1}, []int64{1, 2}, 8), ownCopies([]int64{0, 3}, []int64{1}, 5))
}

// thrownCopiesTurn turns one thing, at the edges or just beside them.
func thrownCopiesTurn(c impl.Copies, d *dice) impl.Copies {
	c = copyCopies(c)
	number := []int64{-1, 0, 1, 2, 3, 4, 31, 32, 999, 1000, 9999, 10000, topAt, topAt + 1, c.Next, c.Next - 1, c.Clock, c.Clock + 1, d.upTo(31)}[d.upTo(18)]
	one := &impl.Copied{}
	if len(c.Txns) > 0 {
		one = &c.Txns[d.upTo(int64(len(c.Txns)-1))]
	}
	cells := []*[]impl.Cell{&c.Now, &one.Start, &one.Now}[d.upTo(2)]
	cell := &impl.Cell{}
	if len(*cells) > 0 {
		cell = &(*cells)[d.upTo(int64(len(*cells)-1))]
	}
	turns := []func(){
		func() { c.Next = number }, func() { c.Clock = number }, func() { one.Id = number }, func() { one.At = number }, func() { one.State = number }, func() { one.State = 1 + d.upTo(2) },
		func() { cell.Key = number }, func() { cell.Value = number }, func() { *cells = append(*cells, impl.Cell{Key: number, Value: 5}) }, func() { slices.Reverse(*cells) }, func() { *cells = (*cells)[:len(*cells)/2] }, func() { *cells = nil },
		func() { one.Wrote = append(one.Wrote, number) }, func() { one.Wrote = nil }, func() { slices.Reverse(one.Wrote) }, func() { c.Last = append(c.Last, number) }, func() { c.Last = c.Last[:len(c.Last)/2] },
		func() { c.Txns = append(c.Txns, impl.Copied{Id: number, State: 1}) }, func() { slices.Reverse(c.Txns) }, func() { c.Last[len(c.Last)-1] = number }, func() { c.Last[0] = number },
	}
	if len(c.Last) == 0 {
		turns = turns[:len(turns)-2]
	}
	turns[d.upTo(int64(len(turns)-1))]()
	return c
}

// thrownActOf: any act, mostly near to what the copies have.
func thrownActOf(c impl.Copies, d *dice) impl.Act {
	a := impl.Act{Kind: 1 + d.upTo(6), Txn: d.upTo(c.Next&1023+1) - 1, Key: d.upTo(33) - 1, Value: d.upTo(9999)}
	if len(c.Txns) > 0 && d.upTo(5) > 0 {
		a.Txn = c.Txns[d.upTo(int64(len(c.Txns)-1))].Id
		if wrote := c.Txns[d.upTo(int64(len(c.Txns)-1))].Wrote; len(wrote) > 0 {
			a.Key = wrote[d.upTo(int64(len(wrote)-1))]
		}
	}
	if d.upTo(20) == 0 {
		a.Value = 9999 + d.upTo(2)
	}
	if d.upTo(20) == 0 {
		a.Kind = d.upTo(1) * 8
	}
	return a
}

func TestCopiesThatWereTurned(t *testing.T) {
	d := dice(96)
	all := append(someCopies(), slices.Repeat([]impl.Copies{baseCopies()}, 60)...)
	met, replied := map[int64]int{}, map[int64]int{}
	for range 12000 {
		c := all[d.upTo(int64(len(all)-1))]
		for d.upTo(1) == 0 {
			c = thrownCopiesTurn(c, &d)
		}
		fault := copiesFaultByHand(c)
		met[fault]++
		if got := impl.CopiesFault(c); got != fault {
			t.Fatalf("CopiesFault of %+v = %d, want %d", c, got, fault)
		}
		a := thrownActOf(c, &d)
		got, want := impl.DoCopies(c, a), doCopiesByHand(c, a)
		if told(got) != told(want) {
			t.Fatalf("DoCopies of %+v and %+v = %+v, want %+v", c, a, got, want)
		}
		replied[want.Code]++
		if got.Code == impl.OK && impl.CopiesFault(got.Copies) != impl.OK {
			t.Fatalf("DoCopies of %+v and %+v has a fault: %+v", c, a, got)
		}
	}
	for _, code := range []int64{impl.OK, impl.ErrForm, impl.ErrMany, impl.ErrRange} {
		if met[code] < 10 {
			t.Errorf("fault %d was met only %d times", code, met[code])
		}
	}
	for _, code := range []int64{impl.OK, impl.ErrNone, impl.ErrConflict, impl.ErrState} {
		if replied[code] < 50 {
			t.Errorf("code %d was told only %d times", code, replied[code])
		}
	}
}

func TestActsOfSomeEngines(t *testing.T) {
	d := dice(97)
	engines := append(someEngines(), slices.Repeat([]impl.Engine{baseEngine()}, 60)...)
	for range 5000 {
		e := engines[d.upTo(int64(len(engines)-1))]
		if d.upTo(3) == 0 {
			e = thrownEngineTurn(e, &d)
		}
		ids := idsNear(e)
		a := impl.Act{Kind: d.upTo(8), Txn: ids[d.upTo(int64(len(ids)-1))], Key: d.upTo(33) - 1, Value: d.upTo(10000)}
		if got, want := impl.DoEngine(e, a), doEngineByHand(e, a); told(got) != told(want) {
			t.Fatalf("DoEngine of %+v and %+v = %+v, want %+v", e, a, got, want)
		}
	}
}

// copiesWithRoom lays each list ahead of room that is not its own to be written.
func copiesWithRoom(c impl.Copies) impl.Copies {
	out := impl.Copies{Next: c.Next, Clock: c.Clock, Now: roomy(c.Now), Last: roomy(c.Last), Txns: roomy(c.Txns)}
	for i := range out.Txns {
		one := &out.Txns[i]
		one.Start, one.Now, one.Wrote = roomy(one.Start), roomy(one.Now), roomy(one.Wrote)
	}
	return out
}

func roomy[E any](list []E) []E { return append(make([]E, 0, len(list)+3), list...) }

// copiesRoom tells all that stands in copies and behind their lists.
func copiesRoom(c impl.Copies) string {
	b := fmt.Appendf(nil, "%d %d %v %v;", c.Next, c.Clock, wholeRoom(c.Now), wholeRoom(c.Last))
	for _, one := range wholeRoom(c.Txns) {
		b = fmt.Appendf(b, "%+v %v %v %v;", one, wholeRoom(one.Start), wholeRoom(one.Now), wholeRoom(one.Wrote))
	}
	return string(b)
}

// actsNear: each kind, for each transaction, at some keys.
func actsNear(ids []int64) []impl.Act {
	out := []impl.Act{actBegin(), {}, {Kind: 8}}
	for _, id := range ids {
		out = append(out, actScan(id), actCommit(id), actAbort(id))
		for _, key := range []int64{0, 2, 6, 31, 32} {
			out = append(out, actGet(id, key), actPut(id, key, 77), actDrop(id, key))
		}
	}
	return out
}

func copiesIds(c impl.Copies) []int64 {
	ids := []int64{-1, 0, c.Next}
	for _, one := range c.Txns {
		ids = append(ids, one.Id)
	}
	slices.Sort(ids)
	return slices.Compact(ids)
}

// copiesToAsk: sound ones, and ones that have a fault.
func copiesToAsk() []impl.Copies {
	out := someCopies()
	for _, f := range copiesFaults() {
		out = append(out, f.copies)
	}
	return out
}

func TestCopiesArgumentsStay(t *testing.T) {
	for n, c := range copiesToAsk() {
		with := copiesWithRoom(c)
		before := copiesRoom(with)
		impl.CopiesFault(with)
		for _, a := range actsNear(copiesIds(c)) {
			impl.DoCopies(with, a)
		}
		if copiesRoom(with) != before || !sameCopies(with, c) {
			t.Fatalf("copies %d were changed from %+v to %+v", n, c, with)
		}
	}
	for n, e := range enginesToAsk() {
		if n%3 > 0 {
			continue
		}
		with := engineWithRoom(e)
		before := engineRoom(with)
		for _, a := range actsNear(idsNear(e)) {
			impl.DoEngine(with, a)
		}
		if engineRoom(with) != before || !sameEngine(with, e) {
			t.Fatalf("engine %d was changed from %+v to %+v", n, e, with)
		}
	}
}

func TestRunArgumentsStay(t *testing.T) {
	d := dice(98)
	for run := range 60 {
		cells, acts := thrownTalk(run, &d)
		cellRoom, actRoom := roomy(cells), roomy(acts)
		wereCells, wereActs := wholeRoom(cellRoom), wholeRoom(actRoom)
		impl.NewCopies(cellRoom)
		one, two := impl.RunCopies(cellRoom, actRoom).Replies, impl.RunEngine(cellRoom, actRoom).Replies
		if !slices.Equal(wholeRoom(cellRoom), wereCells) || !slices.Equal(wholeRoom(actRoom), wereActs) {
			t.Fatalf("run %d: an argument was changed", run)
		}
		a, b := roomy(one), roomy(two)
		for i := range a {
			a[i].Cells = roomy(a[i].Cells)
		}
		room := func() string {
			var out []any
			for _, reply := range wholeRoom(a) {
				out = append(out, reply, wholeRoom(reply.Cells))
			}
			return told([]any{out, wholeRoom(b)})
		}
		before := room()
		impl.SameReplies(a, b)
		impl.SameReplies(b, a)
		if room() != before {
			t.Fatalf("run %d: replies were changed", run)
		}
		spoil(cellRoom, impl.Cell{Key: -5})
		spoil(actRoom, impl.Act{Kind: -5})
		if told(one) != told(impl.RunCopies(cells, acts).Replies) || told(two) != told(impl.RunEngine(cells, acts).Replies) {
			t.Fatalf("run %d: replies hang on what the arguments became", run)
		}
	}
	cells := firstCells()
	made := impl.NewCopies(cells)
	spoil(cells, impl.Cell{Key: -5})
	if told(made) != told(newCopiesByHand(firstCells())) {
		t.Error("new copies hang on what their cells became")
	}
}

// Lists of copies may be pieces of one list: what is written behind one of them would be seen in the next.
func TestCopiesOfPiecesStay(t *testing.T) {
	cells, keys := cellList(2, 20, 4, 40, 2, 22, 4, 40, 6, 60, 1, 1, 3, 3, 2, 5, 9, 9), []int64{2, 6, 1, 3}
	c := impl.Copies{Next: 9, Clock: 3, Now: cells[:2], Last: lastOf(2, 3), Txns: []impl.Copied{{Id: 5, At: 3, State: 1, Start: cells[:2], Now: cells[2:5], Wrote: keys[:2]}, {Id: 7, At: 2, State: 1, Start: cells[3:5], Now: cells[5:7], Wrote: keys[2:]}, {Id: 8, At: 3, State: 1, Start: cells[7:9], Now: cells[7:9]}}}
	before := copyCopies(c)
	for _, a := range actsNear(copiesIds(c)) {
		if got, want := impl.DoCopies(c, a), doCopiesByHand(before, a); told(got) != told(want) || !sameCopies(c, before) {
			t.Fatalf("DoCopies of %+v = %+v, want %+v, of %+v", a, got, want, c)
		}
	}
}

// cellListsOf and numberListsOf: each list of an answer of copies.
func cellListsOf(r impl.CopiesResult) [][]impl.Cell {
	out := [][]impl.Cell{r.Cells, r.Copies.Now}
	for _, one := range r.Copies.Txns {
		out = append(out, one.Start, one.Now)
	}
	return out
}

func numberListsOf(r impl.CopiesResult) [][]int64 {
	out := [][]int64{r.Copies.Last}
	for _, one := range r.Copies.Txns {
		out = append(out, one.Wrote)
	}
	return out
}

// wantOwnCells: each list is spoilt in its own way with all the room behind it, and must stay so.
func wantOwnCells(t *testing.T, name string, lists [][]impl.Cell) {
	t.Helper()
	for i, list := range lists {
		spoil(list, impl.Cell{Key: -100 - int64(i)})
	}
	for i, list := range lists {
		if slices.ContainsFunc(wholeRoom(list), func(c impl.Cell) bool { return c.Key != -100-int64(i) }) {
			t.Fatalf("%s: two lists of cells share memory", name)
		}
	}
}

func wantOwnNumbers(t *testing.T, name string, lists [][]int64) {
	t.Helper()
	for i, list := range lists {
		spoil(list, -100-int64(i))
	}
	for i, list := range lists {
		if slices.ContainsFunc(wholeRoom(list), func(number int64) bool { return number != -100-int64(i) }) {
			t.Fatalf("%s: two lists of numbers share memory", name)
		}
	}
}

func spoilCopies(r impl.CopiesResult) {
	for _, list := range cellListsOf(r) {
		spoil(list, impl.Cell{Key: -5, Value: -5})
	}
	for _, list := range numberListsOf(r) {
		spoil(list, -5)
	}
	spoil(r.Copies.Txns, impl.Copied{Id: -5})
}

func TestCopiesAnswersAreNewMemory(t *testing.T) {
	for n, c := range someCopies() {
		if n%4 > 0 {
			continue
		}
		with := copiesWithRoom(c)
		before := copiesRoom(with)
		var spoilt, other []impl.CopiesResult
		for _, a := range actsNear(copiesIds(c)) {
			spoilt, other = append(spoilt, impl.DoCopies(with, a)), append(other, impl.DoCopies(with, a))
		}
		want := told(other)
		for _, answer := range spoilt {
			spoilCopies(answer)
		}
		if told(other) != want || copiesRoom(with) != before {
			t.Fatalf("copies %d: an answer shares memory with another one, or with its argument", n)
		}
		spoilCopies(impl.CopiesResult{Copies: with})
		if told(other) != want {
			t.Fatalf("copies %d: an answer hangs on what its argument became", n)
		}
		for _, answer := range other {
			wantOwnCells(t, fmt.Sprint("copies ", n), cellListsOf(answer))
			wantOwnNumbers(t, fmt.Sprint("copies ", n), numberListsOf(answer))
		}
	}
	one, two := impl.NewCopies(firstCells()), impl.NewCopies(firstCells())
	spoilCopies(one)
	if told(two) != told(newCopiesByHand(firstCells())) {
		t.Error("new copies share memory")
	}
}

func TestReplyAnswersAreNewMemory(t *testing.T) {
	for n, e := range append(someEngines(), baseEngine()) {
		if n%8 > 0 {
			continue
		}
		with := engineWithRoom(e)
		before := engineRoom(with)
		var spoilt, other []impl.ReplyResult
		for _, a := range actsNear(idsNear(e)) {
			spoilt, other = append(spoilt, impl.DoEngine(with, a)), append(other, impl.DoEngine(with, a))
		}
		want := told(other)
		for _, answer := range spoilt {
			spoil(answer.Reply.Cells, impl.Cell{Key: -5})
			spoilEngine(answer.Engine)
		}
		if told(other) != want || engineRoom(with) != before {
			t.Fatalf("engine %d: an answer shares memory with another one, or with its argument", n)
		}
		spoilEngine(with)
		if told(other) != want {
			t.Fatalf("engine %d: an answer hangs on what its argument became", n)
		}
		for _, answer := range other {
			checkOwnListsOfEngine(t, n, answer.Engine)
		}
	}
	scan := slices.Repeat([]impl.Act{actScan(2), actScan(3), actPut(2, 5, 5)}, 20)
	for who, run := range map[string]func([]impl.Cell, []impl.Act) impl.RepliesResult{"RunCopies": impl.RunCopies, "RunEngine": impl.RunEngine} {
		acts := append([]impl.Act{actBegin(), actBegin()}, scan...)
		one, two := run(firstCells(), acts), run(firstCells(), acts)
		want := told(two)
		var lists [][]impl.Cell
		for _, reply := range one.Replies {
			lists = append(lists, reply.Cells)
		}
		wantOwnCells(t, who, lists)
		spoil(one.Replies, impl.Reply{Code: -5})
		if told(two) != want {
			t.Errorf("two answers of %s share memory", who)
		}
	}
}

// withEmptyCopies and withNilCopies have an empty list, or nil, wherever there is nothing.
func withEmptyCopies(c impl.Copies) impl.Copies {
	c.Now, c.Last, c.Txns = append([]impl.Cell{}, c.Now...), append([]int64{}, c.Last...), append([]impl.Copied{}, c.Txns...)
	for i := range c.Txns {
		one := &c.Txns[i]
		one.Start, one.Now, one.Wrote = append([]impl.Cell{}, one.Start...), append([]impl.Cell{}, one.Now...), append([]int64{}, one.Wrote...)
	}
	return c
}

func withNilCopies(c impl.Copies) impl.Copies {
	c.Now, c.Last, c.Txns = append([]impl.Cell(nil), c.Now...), append([]int64(nil), c.Last...), append([]impl.Copied(nil), c.Txns...)
	for i := range c.Txns {
		one := &c.Txns[i]
		one.Start, one.Now, one.Wrote = append([]impl.Cell(nil), one.Start...), append([]impl.Cell(nil), one.Now...), append([]int64(nil), one.Wrote...)
	}
	return c
}

func TestNilAndEmptyListsOfCopiesAreAlike(t *testing.T) {
	for n, c := range copiesToAsk() {
		nils, empties := withNilCopies(c), withEmptyCopies(c)
		if one, two := impl.CopiesFault(nils), impl.CopiesFault(empties); one != two {
			t.Fatalf("copies %d: with nil %d, with empty lists %d", n, one, two)
		}
		for i, a := range actsNear(copiesIds(c)) {
			if (n+i)%7 > 0 {
				continue
			}
			if one, two := impl.DoCopies(nils, a), impl.DoCopies(empties, a); told(one) != told(two) {
				t.Fatalf("copies %d: with nil %+v, with empty lists %+v", n, one, two)
			}
		}
	}
	for n, e := range enginesToAsk() {
		for i, a := range actsNear(idsNear(e)) {
			if (n+i)%23 > 0 {
				continue
			}
			if one, two := impl.DoEngine(withNilLists(e), a), impl.DoEngine(withEmptyLists(e), a); told(one) != told(two) {
				t.Fatalf("engine %d: with nil %+v, with empty lists %+v", n, one, two)
			}
		}
	}
	acts := []impl.Act{actBegin(), actScan(2)}
	for who, run := range map[string]func([]impl.Cell, []impl.Act) impl.RepliesResult{"RunCopies": impl.RunCopies, "RunEngine": impl.RunEngine} {
		if told(run(nil, acts)) != told(run([]impl.Cell{}, acts)) || told(run(firstCells(), nil)) != told(run(firstCells(), []impl.Act{})) || len(run(firstCells(), nil).Replies) > 0 {
			t.Errorf("%s: nil and an empty list are not alike", who)
		}
	}
	if told(impl.NewCopies(nil)) != told(impl.NewCopies([]impl.Cell{})) {
		t.Error("NewCopies: nil and an empty list are not alike")
	}
}

func TestCopiesKeepNothing(t *testing.T) {
	wantSameAgain(t, copiesToAsk(), func(c impl.Copies) string {
		return told([]any{impl.CopiesFault(c), impl.DoCopies(c, actPut(5, 2, 7)), impl.DoCopies(c, actCommit(c.Next-1)), impl.DoCopies(c, actBegin()), impl.DoCopies(c, actScan(5)), impl.NewCopies(c.Now)})
	})
	d := dice(99)
	wantSameAgain(t, make([]int, 40), func(int) string { return told(impl.NewCopies(firstCells())) })
	var talks [][]impl.Act
	for run := range 40 {
		_, acts := thrownTalk(run, &d)
		talks = append(talks, acts)
	}
	wantSameAgain(t, talks, func(acts []impl.Act) string {
		return told([]any{impl.RunCopies(firstCells(), acts), impl.RunEngine(firstCells(), acts), impl.DoEngine(baseEngine(), acts[0])})
	})
}

func TestCopiesNeverPanic(t *testing.T) {
	numbers := []int64{math.MinInt64, -1, 0, 1, 2, 3, 5, 7, 8, 31, 32, 999, 1000, 9999, 10000, topAt, topAt + 1, math.MaxInt64}
	d := dice(100)
	pick := func() int64 { return numbers[d.upTo(int64(len(numbers)-1))] }
	for range 4000 {
		c := thrownCopiesTurn(baseCopies(), &d)
		switch d.upTo(4) {
		case 0:
			c.Next, c.Clock = pick(), pick()
		case 1:
			c.Txns = append(c.Txns, impl.Copied{Id: pick(), At: pick(), State: pick(), Now: cellList(pick(), pick()), Wrote: []int64{pick(), pick()}})
		case 2:
			c.Now, c.Last = cellList(pick(), pick(), pick(), pick()), []int64{pick(), pick()}
		}
		e, a := thrownEngineTurn(baseEngine(), &d), impl.Act{Kind: pick(), Txn: pick(), Key: pick(), Value: pick()}
		acts := []impl.Act{actBegin(), a, {Kind: 1 + d.upTo(6), Txn: 2, Key: pick(), Value: pick()}, a}
		mustPanicNever(t, told([]any{c, e, a}), func() {
			impl.CopiesFault(c)
			impl.DoCopies(c, a)
			impl.DoEngine(e, a)
			impl.NewCopies(c.Now)
			impl.RunCopies(c.Now, acts)
			impl.RunEngine(c.Now, acts)
			impl.RunCopies(nil, acts)
			impl.RunEngine(nil, acts)
			impl.SameReplies([]impl.Reply{{Code: pick(), Cells: c.Now}}, []impl.Reply{{Value: pick()}})
		})
	}
	mustPanicNever(t, "zero values", func() {
		impl.CopiesFault(impl.Copies{})
		impl.DoCopies(impl.Copies{}, impl.Act{})
		impl.DoEngine(impl.Engine{}, impl.Act{})
	})
}

// The examples that the document tells.
func TestExamplesOfCopies(t *testing.T) {
	wantTalk(t, "two want one key", nil, lines(begun(2), begun(3), puts(2, 1, 5), refuses(actPut(3, 1, 6), impl.ErrConflict)))
	wantTalk(t, "each reads what the other writes", cellList(1, 10, 2, 20), lines(begun(2), begun(3), reads(2, 1, 10), reads(3, 2, 20), puts(2, 2, 21), puts(3, 1, 11), commits(2, 2), commits(3, 3)))
	wantTalk(t, "begin, put, get", nil, lines(begun(2), puts(2, 1, 5), reads(2, 1, 5)))
}
