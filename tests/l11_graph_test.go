package tests

import (
	"fmt"
	"math"
	"slices"
	"strings"
	"testing"

	"loop.example/g00216/impl"
)

func edgeOf(from, to, kind int64) impl.Edge { return impl.Edge{From: from, To: to, Kind: kind} }

// edgesIn reads words: ww2.3 (from 2 to 3), wr2.3, rw2.3.
func edgesIn(text string) []impl.Edge {
	var out []impl.Edge
	for _, word := range strings.Fields(text) {
		edge := impl.Edge{Kind: map[string]int64{"ww": 1, "wr": 2, "rw": 4}[word[:2]]}
		fmt.Sscanf(word[2:], "%d.%d", &edge.From, &edge.To)
		out = append(out, edge)
	}
	return out
}

func edgesText(edges []impl.Edge) string {
	var words []string
	for _, edge := range edges {
		words = append(words, fmt.Sprintf("%s%d.%d", map[int64]string{1: "ww", 2: "wr", 4: "rw"}[edge.Kind], edge.From, edge.To))
	}
	return strings.Join(words, " ")
}

// edgesByHand knows for each key who wrote it behind whom: behind nobody (0), and behind what was there (1), the first one.
func edgesByHand(h []impl.Hop) []impl.Edge {
	var out []impl.Edge
	met := map[impl.Edge]int{}
	add := func(from, to, kind int64) {
		if met[edgeOf(from, to, kind)]++; met[edgeOf(from, to, kind)] == 1 {
			out = append(out, edgeOf(from, to, kind))
		}
	}
	isCommitted := map[int64]bool{}
	for _, txn := range committedByHand(h) {
		isCommitted[txn] = true
	}
	for key := range int64(mostRows) {
		behind, last := map[int64]int64{}, int64(0)
		for _, txn := range writersByHand(h, key).List {
			if last > 0 {
				add(last, txn, impl.EdgeWw)
			}
			behind[last], last = txn, txn
		}
		behind[1] = behind[0]
		for _, hop := range h {
			if hop.Kind != impl.HopRead || hop.Key != key || !isCommitted[hop.Txn] {
				continue
			}
			if isCommitted[hop.Of] && hop.Of != hop.Txn {
				add(hop.Of, hop.Txn, impl.EdgeWr)
			}
			if next := behind[hop.Of]; next > 0 && next != hop.Txn {
				add(hop.Txn, next, impl.EdgeRw)
			}
		}
	}
	return out
}

// leadsByHand: from whom some edges of just these Kinds lead to whom, by one or by several.
func leadsByHand(edges []impl.Edge, kinds ...int64) func(from, to int64) bool {
	places := map[int64]int{}
	for _, edge := range edges {
		for _, txn := range []int64{edge.From, edge.To} {
			if _, there := places[txn]; !there {
				places[txn] = len(places)
			}
		}
	}
	reach := make([][]bool, len(places))
	for i := range reach {
		reach[i] = make([]bool, len(places))
	}
	for _, edge := range edges {
		if slices.Contains(kinds, edge.Kind) {
			reach[places[edge.From]][places[edge.To]] = true
		}
	}
	for over := range reach {
		for from := range reach {
			for to := range reach {
				reach[from][to] = reach[from][to] || reach[from][over] && reach[over][to]
			}
		}
	}
	return func(from, to int64) bool {
		one, ok := places[from]
		two, also := places[to]
		return ok && also && reach[one][two]
	}
}

func kindsByHand(kinds int64) []int64 {
	var out []int64
	for _, kind := range []int64{impl.EdgeWw, impl.EdgeWr, impl.EdgeRw} {
		if kinds&kind != 0 {
			out = append(out, kind)
		}
	}
	return out
}

func hasCycleByHand(edges []impl.Edge, kinds int64) bool {
	leads := leadsByHand(edges, kindsByHand(kinds)...)
	return slices.ContainsFunc(edges, func(edge impl.Edge) bool { return leads(edge.From, edge.From) })
}

func oneRwByHand(edges []impl.Edge) bool {
	leads := leadsByHand(edges, impl.EdgeWw, impl.EdgeWr)
	return slices.ContainsFunc(edges, func(edge impl.Edge) bool {
		return edge.Kind == impl.EdgeRw && (edge.From == edge.To || leads(edge.To, edge.From))
	})
}

func dirtyByHand(h []impl.Hop) []int64 {
	began, dirty, ended := map[int64]bool{}, map[int64]bool{}, map[int64]bool{}
	for _, hop := range h {
		began[hop.Txn] = began[hop.Txn] || hop.Kind == impl.HopBegin
	}
	for _, hop := range h {
		switch hop.Kind {
		case impl.HopRead:
			if hop.Of != hop.Txn && began[hop.Of] && !ended[hop.Of] {
				dirty[hop.Txn] = true
			}
		case impl.HopCommit:
			ended[hop.Txn] = true
		}
	}
	var out []int64
	for txn := range int64(1000) {
		if dirty[txn] && ended[txn] {
			out = append(out, txn)
		}
	}
	return out
}

func lostByHand(h []impl.Hop) []int64 {
	var out []int64
	for key := range int64(mostRows) {
		lost := false
		for _, one := range h {
			for _, other := range h {
				if one.Kind == impl.HopWrite && other.Kind == impl.HopWrite && one.Key == key && other.Key == key && one.Txn < other.Txn {
					lost = lost || overlapByHand(h, one.Txn, other.Txn)
				}
			}
		}
		if lost {
			out = append(out, key)
		}
	}
	return out
}

func startOrderedByHand(h []impl.Hop) bool {
	for _, edge := range edgesByHand(h) {
		if edge.Kind != impl.EdgeRw && slices.Index(h, hopCommit(edge.From)) > slices.Index(h, hopBegin(edge.To)) {
			return false
		}
	}
	return true
}

func serialByHand(h []impl.Hop) impl.IntsResult {
	edges, left := edgesByHand(h), committedByHand(h)
	slices.Sort(left)
	var order []int64
	for len(left) > 0 {
		place := slices.IndexFunc(left, func(txn int64) bool {
			return !slices.ContainsFunc(edges, func(edge impl.Edge) bool {
				return edge.To == txn && edge.From != txn && slices.Contains(left, edge.From)
			})
		})
		if place < 0 {
			return impl.IntsResult{Code: impl.ErrConflict}
		}
		order, left = append(order, left[place]), slices.Delete(left, place, place+1)
	}
	return impl.IntsResult{List: order}
}

// tellGraph asks all functions of the chapter that are told a history.
func tellGraph(h []impl.Hop) string {
	return told([]any{impl.EdgesOf(h), impl.DirtyReads(h), impl.LostUpdates(h), impl.StartOrdered(h), impl.SerialOrder(h)})
}

func tellGraphByHand(h []impl.Hop) string {
	if code := historyFaultByHand(h); code != impl.OK {
		ints := impl.IntsResult{Code: code}
		return told([]any{impl.EdgesResult{Code: code}, ints, ints, false, ints})
	}
	return told([]any{impl.EdgesResult{Edges: edgesByHand(h)}, impl.IntsResult{List: dirtyByHand(h)}, impl.IntsResult{List: lostByHand(h)}, startOrderedByHand(h), serialByHand(h)})
}

func tellRounds(edges []impl.Edge, kinds int64) string {
	return told([]any{impl.HasCycle(edges, kinds), impl.OneRwCycle(edges)})
}

func tellRoundsByHand(edges []impl.Edge, kinds int64) string {
	return told([]any{hasCycleByHand(edges, kinds), oneRwByHand(edges)})
}

// wantSerial: a code just where the edges of all Kinds go round; else each committed one once, and no edge leads back.
func wantSerial(t *testing.T, name string, h []impl.Hop) bool {
	t.Helper()
	edges, serial := impl.EdgesOf(h), impl.SerialOrder(h)
	if edges.Code != impl.OK {
		t.Fatalf("%s: EdgesOf %v has the code %d", name, h, edges.Code)
	}
	if impl.HasCycle(edges.Edges, 7) {
		wantCode(t, name, serial, impl.ErrConflict)
		return false
	}
	wantCode(t, name, serial, impl.OK)
	committed := committedByHand(h)
	slices.Sort(committed)
	if !slices.Equal(slices.Sorted(slices.Values(serial.List)), committed) {
		t.Fatalf("%s: of %v SerialOrder is %v, and committed are %v", name, h, serial.List, committed)
	}
	for _, edge := range edges.Edges {
		if slices.Index(serial.List, edge.From) >= slices.Index(serial.List, edge.To) {
			t.Fatalf("%s: of %v SerialOrder is %v, and %+v leads back", name, h, serial.List, edge)
		}
	}
	return true
}

// wantNothingWrong: what is promised of the history of a run.
func wantNothingWrong(t *testing.T, name string, h []impl.Hop) {
	t.Helper()
	edges, dirty, lost := impl.EdgesOf(h), impl.DirtyReads(h), impl.LostUpdates(h)
	if dirty.Code != impl.OK || len(dirty.List) > 0 || lost.Code != impl.OK || len(lost.List) > 0 {
		t.Fatalf("%s: of %v DirtyReads are %+v, LostUpdates %+v", name, h, dirty, lost)
	}
	if !impl.StartOrdered(h) {
		t.Fatalf("%s: %v is not StartOrdered", name, h)
	}
	if edges.Code != impl.OK || impl.HasCycle(edges.Edges, impl.EdgeWw|impl.EdgeWr) || impl.HasCycle(edges.Edges, impl.EdgeWw) || impl.HasCycle(edges.Edges, impl.EdgeWr) || impl.OneRwCycle(edges.Edges) {
		t.Fatalf("%s: of %v %+v go round", name, h, edges)
	}
}

// thrownDeal: few keys, several that are open at a time and read more than they write; nearly all commit.
func thrownDeal(run int, d *dice) ([]impl.Cell, []impl.Act) {
	keys := []int64{2, 3, 4, 6, 32}[run%5]
	cells := cellsFrom(0, 1, []int64{0, 1, 2, 4}[d.upTo(3)], 50)
	var acts []impl.Act
	var open []int64
	for next := int64(2); len(acts) < mostActs-6; {
		if len(open) == 0 || len(open) < 5 && d.upTo(3) == 0 {
			acts, open = append(acts, actBegin()), append(open, next)
			if next++; next > 22 {
				break
			}
			continue
		}
		place := d.upTo(int64(len(open) - 1))
		txn, key := open[place], d.upTo(keys-1)
		switch d.upTo(11) {
		case 0, 1, 2, 3, 4:
			acts = append(acts, actGet(txn, key))
		case 5:
			acts = append(acts, actScan(txn))
		case 6, 7, 8:
			acts = append(acts, actPut(txn, key, d.upTo(99)))
		case 9:
			acts = append(acts, actDrop(txn, key))
		case 10, 11:
			end := actCommit(txn)
			if d.upTo(7) == 0 {
				end = actAbort(txn)
			}
			acts, open = append(acts, end), slices.Delete(open, int(place), int(place)+1)
		}
	}
	for _, txn := range open {
		acts = append(acts, actCommit(txn))
	}
	return cells, acts
}

// In a run's history nobody reads what was not committed, no update is lost, and what depends began behind it.
func TestNothingIsWrongInRuns(t *testing.T) {
	d := dice(120)
	kinds, serial := map[int64]int{}, map[bool]int{}
	long, outOfTurn := 0, 0
	for run := range 700 {
		cells, acts := thrownDeal(run, &d)
		if run%5 == 4 {
			cells, acts = thrownScans(run/5, &d)
		}
		got := impl.RunHistory(cells, acts)
		if got.Code != impl.OK {
			continue
		}
		h, name := got.History, fmt.Sprint("run ", run)
		wantNothingWrong(t, name, h)
		isSerial := wantSerial(t, name, h)
		serial[isSerial]++
		if one, two := tellGraph(h), tellGraphByHand(h); one != two {
			t.Fatalf("%s: of %v\n%s, want\n%s", name, h, one, two)
		}
		edges := impl.EdgesOf(h).Edges
		for bits := range int64(8) {
			if one, two := tellRounds(edges, bits), tellRoundsByHand(edges, bits); one != two {
				t.Fatalf("%s: of %s and kinds %d %s, want %s", name, edgesText(edges), bits, one, two)
			}
		}
		for _, edge := range edges {
			kinds[edge.Kind]++
		}
		long = max(long, len(edges))
		if isSerial && !slices.Equal(impl.SerialOrder(h).List, impl.CommittedOf(h).List) {
			outOfTurn++
		}
	}
	if kinds[1] < 500 || kinds[2] < 1000 || kinds[4] < 1000 || len(kinds) != 3 || serial[true] < 150 || serial[false] < 150 || long < 50 || outOfTurn < 60 {
		t.Errorf("kinds %v, serial %v, at most %d edges, %d orders that are not the one of the commits", kinds, serial, long, outOfTurn)
	}
}

// thrownHistory: of a few, who read and write as no engine would let them.
func thrownHistory(d *dice) []impl.Hop {
	count, keys := 1+d.upTo(5), d.upTo(3)
	first := []int64{2, 2, 2, 500, 994}[d.upTo(4)] - 2
	state := map[int64]int64{}
	var h []impl.Hop
	for range 4 + d.upTo(30) {
		txn, key := first+2+d.upTo(count-1), d.upTo(keys)
		if d.upTo(30) == 0 {
			key = 31
		}
		hop := hopBegin(txn)
		switch {
		case state[txn] == impl.HopCommit || state[txn] == impl.HopAbort:
			continue
		case state[txn] > 0:
			of := d.upTo(1)
			if d.upTo(3) > 0 {
				of = min(999, first+2+d.upTo(count)) // one more than there are
			}
			hop = []impl.Hop{hopRead(txn, key, of), hopRead(txn, key, of), hopWrite(txn, key), hopWrite(txn, key), hopCommit(txn), hopAbort(txn)}[min(d.upTo(25)/5, 5)]
		}
		h, state[txn] = append(h, hop), hop.Kind
	}
	for txn := range count {
		if kind := state[first+2+txn]; kind > 0 && kind < impl.HopCommit && d.upTo(5) > 0 {
			h = append(h, hopCommit(first+2+txn))
		}
	}
	return h
}

// leastOrder goes through all orders, from the least one on, up to the first in which no edge leads back.
func leastOrder(left, order []int64, edges []impl.Edge) []int64 {
	if len(left) == 0 {
		for _, edge := range edges {
			if slices.Index(order, edge.From) > slices.Index(order, edge.To) {
				return nil
			}
		}
		return order
	}
	for place, txn := range left {
		rest := slices.Delete(slices.Clone(left), place, place+1)
		if found := leastOrder(rest, append(slices.Clone(order), txn), edges); found != nil {
			return found
		}
	}
	return nil
}

// A history has a serial order just where its dependencies do not go round; and it is the least one.
func TestSerialOrderJustWhereNothingGoesRound(t *testing.T) {
	d := dice(121)
	met, kinds := map[string]int{}, map[int64]int{}
	for run := range 6000 {
		h, name := thrownHistory(&d), fmt.Sprint("history ", run)
		if fault := impl.HistoryFault(h); fault != impl.OK {
			t.Fatalf("%s: %v has the fault %d", name, h, fault)
		}
		isSerial := wantSerial(t, name, h)
		if one, two := tellGraph(h), tellGraphByHand(h); one != two {
			t.Fatalf("%s: of %v\n%s, want\n%s", name, h, one, two)
		}
		edges, committed := impl.EdgesOf(h).Edges, committedByHand(h)
		slices.Sort(committed)
		if one, two := impl.SerialOrder(h).List, leastOrder(committed, nil, edges); !slices.Equal(one, two) {
			t.Fatalf("%s: of %v SerialOrder is %v, want %v", name, h, one, two)
		}
		bits := d.upTo(8)
		if one, two := tellRounds(edges, bits), tellRoundsByHand(edges, bits); one != two {
			t.Fatalf("%s: of %s and kinds %d %s, want %s", name, edgesText(edges), bits, one, two)
		}
		for name, is := range map[string]bool{
			"serial": isSerial, "round": !isSerial, "round by one overtaken": impl.OneRwCycle(edges), "round, not by one overtaken": !isSerial && !impl.OneRwCycle(edges), "round by writes and reads": impl.HasCycle(edges, 3), "round by reads": impl.HasCycle(edges, 2), "round, not by writes and reads": !isSerial && !impl.HasCycle(edges, 3),
			"dirty": len(impl.DirtyReads(h).List) > 0, "two dirty": len(impl.DirtyReads(h).List) > 1, "clean": len(impl.DirtyReads(h).List) == 0, "lost": len(impl.LostUpdates(h).List) > 0, "two lost": len(impl.LostUpdates(h).List) > 1, "none lost": len(impl.LostUpdates(h).List) == 0, "in order": impl.StartOrdered(h), "not in order": !impl.StartOrdered(h), "long": isSerial && len(committed) > 3 && len(edges) > 3,
		} {
			if is {
				met[name]++
			}
		}
		for _, edge := range edges {
			kinds[edge.Kind]++
		}
	}
	for name, count := range met {
		if count < 60 {
			t.Errorf("%s: met only %d times", name, count)
		}
	}
	if len(met) != 16 || kinds[1] < 1000 || kinds[2] < 1000 || kinds[4] < 1000 {
		t.Errorf("met %v, kinds %v", met, kinds)
	}
}

// graphCase: a history, and its edges in their order.
type graphCase struct{ name, hops, edges string }

func wantEdges(t *testing.T, cases []graphCase) {
	t.Helper()
	for _, c := range cases {
		h := hopsIn(c.hops)
		if fault := impl.HistoryFault(h); fault != impl.OK {
			t.Errorf("%s: %s has the fault %d", c.name, c.hops, fault)
			continue
		}
		if got := impl.EdgesOf(h); got.Code != impl.OK || edgesText(got.Edges) != c.edges || edgesText(edgesByHand(h)) != c.edges {
			t.Errorf("%s: EdgesOf %s has the code %d and %s, want %s", c.name, c.hops, got.Code, edgesText(got.Edges), c.edges)
		}
		if one, two := tellGraph(h), tellGraphByHand(h); one != two {
			t.Errorf("%s: of %s\n%s, want\n%s", c.name, c.hops, one, two)
		}
		wantSerial(t, c.name, h)
	}
}

func TestWritersBehindTheLastOne(t *testing.T) {
	three := "b2 w2.1 c2 b3 w3.1 c3 b4 w4.1 c4 " // one behind the other
	wantEdges(t, []graphCase{
		{"nobody reads", three, "ww2.3 ww3.4"},
		{"a read of the last one", three + "b9 r9.1.4 c9", "ww2.3 ww3.4 wr4.9"},
		{"of the one ahead of it", three + "b9 r9.1.3 c9", "ww2.3 ww3.4 wr3.9 rw9.4"},
		{"of the first one", three + "b9 r9.1.2 c9", "ww2.3 ww3.4 wr2.9 rw9.3"},
		{"of all of them", three + "b9 r9.1.4 r9.1.2 r9.1.3 c9", "ww2.3 ww3.4 wr4.9 wr2.9 rw9.3 wr3.9 rw9.4"},
		{"of the only one", "b2 w2.1 c2 b9 r9.1.2 c9", "wr2.9"},
		{"ahead of the writers' commits", "b9 b2 b3 w2.1 w3.1 r9.1.2 c9 c2 c3", "ww2.3 wr2.9 rw9.3"},
		{"of the last one, ahead of its begin", "b9 r9.1.3 c9 b2 w2.1 c2 b3 w3.1 c3", "ww2.3 wr3.9"},
		{"the writer behind is the reader", "b2 w2.1 c2 b3 r3.1.2 w3.1 c3", "ww2.3 wr2.3"},
		{"one who does nothing", three + "b5 c5", "ww2.3 ww3.4"},
		{"the reader writes behind Of, and another one behind it", "b2 w2.1 c2 b3 r3.1.2 w3.1 c3 b4 w4.1 c4", "ww2.3 ww3.4 wr2.3"},
		{"the reader writes, but not just behind Of", "b2 w2.1 c2 b3 w3.1 c3 b4 r4.1.2 w4.1 c4", "ww2.3 ww3.4 wr2.4 rw4.3"},
		{"the reader wrote ahead of Of", "b2 b3 w2.1 w3.1 r2.1.3 c2 c3", "ww2.3 wr3.2"},
		{"the reader wrote ahead of Of, and one is behind it", "b2 b3 w2.1 w3.1 r2.1.3 c2 c3 b4 w4.1 c4", "ww2.3 ww3.4 wr3.2 rw2.4"},
		{"one between aborted", "b2 w2.1 c2 b3 w3.1 a3 b4 w4.1 c4 b9 r9.1.2 c9", "ww2.4 wr2.9 rw9.4"},
		{"one between did not end", "b2 w2.1 c2 b3 w3.1 b4 w4.1 c4 b9 r9.1.2 c9", "ww2.4 wr2.9 rw9.4"},
		{"the last one aborted", "b2 w2.1 c2 b3 w3.1 a3 b9 r9.1.2 c9", "wr2.9"},
		{"the last one did not end", "b2 w2.1 c2 b3 w3.1 b9 r9.1.2 c9", "wr2.9"},
		{"one between wrote another key", "b2 w2.1 c2 b3 w3.2 c3 b4 w4.1 c4 b9 r9.1.2 c9", "ww2.4 wr2.9 rw9.4"},
		{"one between only read", "b2 w2.1 c2 b3 r3.1.2 c3 b4 w4.1 c4 b9 r9.1.2 c9", "ww2.4 wr2.3 rw3.4 wr2.9 rw9.4"},
		{"the writers in the order of their commits", "b2 b3 b4 w2.1 w3.1 w4.1 c4 c2 c3 b9 r9.1.4 r9.1.3 r9.1.2 c9", "ww4.2 ww2.3 wr4.9 rw9.2 wr3.9 wr2.9 rw9.3"},
		{"not of their begins, nor of their numbers", "b7 b5 w5.1 w7.1 c7 c5 b9 r9.1.7 c9", "ww7.5 wr7.9 rw9.5"},
		{"one who wrote twice", "b2 w2.1 w2.1 c2 b3 w3.1 w3.2 w3.1 c3 b9 r9.1.2 c9", "ww2.3 wr2.9 rw9.3"},
		{"the greatest numbers", "b998 w998.31 c998 b999 w999.31 c999 b997 r997.31.998 c997", "ww998.999 wr998.997 rw997.999"},
	})
}

func TestReadsOfNobodys(t *testing.T) {
	two := "b2 w2.1 c2 b3 w3.1 c3 "
	wantEdges(t, []graphCase{
		{"Of 0, and no writers", "b9 r9.1.0 c9", ""}, {"Of 1, and no writers", "b9 r9.1.1 c9", ""},
		{"Of 0, and writers", two + "b9 r9.1.0 c9", "ww2.3 rw9.2"}, {"Of 1, and writers", two + "b9 r9.1.1 c9", "ww2.3 rw9.2"},
		{"Of 0 and 1 of one key", two + "b9 r9.1.0 r9.1.1 c9", "ww2.3 rw9.2"},
		{"Of 0, and one writer", "b9 r9.1.0 b2 w2.1 c2 c9", "rw9.2"}, {"Of 1, and one writer behind the commit", "b9 r9.1.1 c9 b2 w2.1 c2", "rw9.2"},
		{"Of 0, and a writer of another key", "b9 r9.1.0 b2 w2.2 c2 c9", ""}, {"Of 1, and a writer of another key", "b9 r9.1.1 b2 w2.0 c2 c9", ""},
		{"Of 0, and a writer that aborted", "b9 r9.1.0 b2 w2.1 a2 c9", ""}, {"Of 1, and a writer that did not end", "b9 r9.1.1 b2 w2.1 c9", ""},
		{"Of 0, and the first writer aborted", "b9 r9.1.0 b2 w2.1 a2 b3 w3.1 c3 c9", "rw9.3"},
		{"Of 0, and the first writer is the reader", "b2 r2.1.0 w2.1 c2", ""}, {"Of 1, and the first writer is the reader", "b2 r2.1.1 w2.1 c2", ""},
		{"Of 0, the reader first, and another one behind", "b2 r2.1.0 w2.1 c2 b3 w3.1 c3", "ww2.3"}, {"Of 1, the reader first, and another one behind", "b2 r2.1.1 w2.1 c2 b3 w3.1 c3", "ww2.3"},
		{"Of 0, the reader last", "b2 w2.1 c2 b3 r3.1.0 w3.1 c3", "ww2.3 rw3.2"},
		{"of one who is not there", two + "b9 r9.1.77 c9", "ww2.3"}, {"of one who is not there, and no writers", "b9 r9.1.77 c9", ""}, {"of 999, who is not there", two + "b9 r9.1.999 c9", "ww2.3"},
		{"of one who did not end", "b5 w5.1 " + two + "b9 r9.1.5 c9", "ww2.3"}, {"of one who did not end, and no writers", "b5 w5.1 b9 r9.1.5 c9", ""}, {"of one who only began", "b5 " + two + "b9 r9.1.5 c9", "ww2.3"},
		{"of one who aborted", "b5 w5.1 a5 " + two + "b9 r9.1.5 c9", "ww2.3"}, {"of one who aborts behind the read", "b5 w5.1 b9 r9.1.5 c9 a5", ""},
		{"of one who committed and wrote nothing", "b5 c5 " + two + "b9 r9.1.5 c9", "ww2.3 wr5.9"}, {"of one who wrote another key", "b5 w5.2 c5 " + two + "b9 r9.1.5 c9", "ww2.3 wr5.9"}, {"of one who committed, and no writers", "b5 c5 b9 r9.1.5 c9", "wr5.9"},
		{"of one who commits behind the read", "b5 w5.1 b9 r9.1.5 c9 c5", "wr5.9"}, {"of one who begins behind the read", "b9 r9.1.5 c9 b5 w5.1 c5", "wr5.9"},
		{"of the reader, who did not write it", "b9 r9.1.9 c9", ""}, {"of the reader, who did not write it, and writers", two + "b9 r9.1.9 c9", "ww2.3"}, {"of the reader, who wrote another key", two + "b9 w9.2 r9.1.9 c9", "ww2.3"},
		{"of the reader, the only writer", "b2 w2.1 r2.1.2 c2", ""}, {"of the reader, the last writer", "b2 w2.1 c2 b3 w3.1 r3.1.3 c3", "ww2.3"}, {"of the reader, and one writer behind", "b2 w2.1 r2.1.2 c2 b3 w3.1 c3", "ww2.3 rw2.3"}, {"of the reader, ahead of the write", "b2 r2.1.2 w2.1 c2 b3 w3.1 c3", "ww2.3 rw2.3"},
		{"a reader that did not end", two + "b9 r9.1.2 r9.1.0 r9.1.3", "ww2.3"}, {"a reader that aborted", two + "b9 r9.1.2 r9.1.0 r9.1.3 a9", "ww2.3"}, {"a reader that did not end, of one who is not there", "b9 r9.1.77", ""}, {"a reader that aborted, of itself", "b9 w9.1 r9.1.9 a9 " + two, "ww2.3"},
	})
}

func TestOrderOfEdges(t *testing.T) {
	wantEdges(t, []graphCase{
		{"no hops", "", ""}, {"one who only began", "b2", ""}, {"one alone", "b2 r2.0.0 w2.0 r2.0.2 c2", ""}, {"two who have nothing to do with each other", "b2 w2.0 c2 b3 w3.1 c3", ""},
		{"keys from 0 on", "b2 w2.31 w2.5 w2.0 c2 b3 w3.5 c3 b4 w4.31 c4 b5 w5.0 c5", "ww2.5 ww2.3 ww2.4"},
		{"reads of keys from 0 on", "b2 w2.31 w2.5 w2.0 c2 b5 r5.31.2 c5 b4 r4.5.2 c4 b3 r3.0.2 c3", "wr2.3 wr2.4 wr2.5"},
		{"all of a key ahead of the next one", "b2 w2.1 w2.0 c2 b3 w3.1 w3.0 c3 b4 w4.1 c4 b5 w5.0 c5 b9 r9.1.3 r9.0.2 r9.1.2 c9", "ww2.3 ww3.5 wr2.9 rw9.3 ww3.4 wr3.9 rw9.4"},
		{"writes ahead of reads, wherever they stand", "b9 b2 r9.1.2 c9 w2.1 c2 b3 w3.1 c3", "ww2.3 wr2.9 rw9.3"},
		{"hop by hop", "b2 w2.1 c2 b3 w3.1 c3 b8 b9 r9.1.2 r8.1.3 r8.1.2 r9.1.3 c8 c9", "ww2.3 wr2.9 rw9.3 wr3.8 wr2.8 rw8.3 wr3.9"},
		{"not by the commits of the readers", "b2 w2.1 c2 b9 b8 b7 r8.1.2 r7.1.2 r9.1.2 c7 c9 c8", "wr2.8 wr2.7 wr2.9"},
		{"EdgeWr ahead of EdgeRw", "b2 w2.1 c2 b3 w3.1 c3 b9 r9.1.2 c9", "ww2.3 wr2.9 rw9.3"},
		{"one edge twice at one key", "b2 w2.1 c2 b9 r9.1.2 r9.1.2 r9.1.2 c9", "wr2.9"}, {"an EdgeRw twice at one key", "b9 r9.1.0 b2 w2.1 c2 r9.1.0 r9.1.1 c9", "rw9.2"},
		{"an EdgeWw twice at two keys", "b2 w2.1 w2.2 c2 b3 w3.2 w3.1 c3", "ww2.3"}, {"an EdgeWr twice at two keys", "b2 w2.1 w2.2 c2 b9 r9.2.2 r9.1.2 c9", "wr2.9"}, {"an EdgeRw twice at two keys", "b9 r9.4.0 r9.3.1 b2 w2.3 w2.4 c2 c9", "rw9.2"},
		{"where it stands first", "b2 w2.0 w2.1 w2.2 c2 b3 w3.0 w3.2 c3 b4 w4.1 w4.2 c4", "ww2.3 ww2.4 ww3.4"},
		{"where it stands first, not last", "b2 w2.0 w2.1 c2 b9 b8 r9.0.2 r8.0.2 r9.1.2 c8 c9", "wr2.9 wr2.8"},
		{"two Kinds", "b2 w2.1 c2 b3 r3.1.2 w3.1 c3", "ww2.3 wr2.3"}, {"three Kinds", "b2 r2.0.0 w2.1 c2 b3 r3.1.2 w3.1 w3.0 c3", "rw2.3 ww2.3 wr2.3"}, {"both ways", "b2 b3 r2.0.0 r3.1.0 w2.1 w3.0 c2 c3", "rw2.3 rw3.2"}, {"both ways, with two Kinds", "b2 b3 w2.0 w3.1 r2.1.3 r3.0.2 c2 c3", "wr2.3 wr3.2"},
		{"as the document tells", "b2 b3 r2.0.1 r3.1.1 w2.1 w3.0 c2 c3", "rw2.3 rw3.2"},
	})
	// Each key has edges of its own.
	var h []impl.Hop
	var want []impl.Edge
	for key := range int64(mostRows) {
		one := 100 - 3*key
		h = append(h, hopBegin(one), hopWrite(one, 31-key), hopCommit(one), hopBegin(one+1), hopWrite(one+1, 31-key), hopCommit(one+1), hopBegin(one+2), hopRead(one+2, 31-key, one), hopCommit(one+2))
		want = append([]impl.Edge{edgeOf(one, one+1, 1), edgeOf(one, one+2, 2), edgeOf(one+2, one+1, 4)}, want...)
	}
	if got := impl.EdgesOf(h); got.Code != impl.OK || !slices.Equal(got.Edges, want) {
		t.Errorf("EdgesOf all keys = %+v, want %+v", got, want)
	}
	if impl.EdgeWw != 1 || impl.EdgeWr != 2 || impl.EdgeRw != 4 {
		t.Error("a constant is not as told")
	}
}

// eachOrder tells of all orders of the edges.
func eachOrder(edges []impl.Edge, tell func(edges []impl.Edge)) {
	var grow func(order, left []impl.Edge)
	grow = func(order, left []impl.Edge) {
		if len(left) == 0 {
			tell(order)
		}
		for place, edge := range left {
			grow(append(slices.Clone(order), edge), slices.Delete(slices.Clone(left), place, place+1))
		}
	}
	grow(nil, edges)
}

// namesOfTxns: numbers that an edge may have, the least and the greatest ones, too.
func namesOfTxns() [][]int64 {
	return [][]int64{{2, 3, 4, 5, 6, 7, 8, 9}, {9, 8, 7, 6, 5, 4, 3, 2}, {math.MinInt64, math.MaxInt64, 0, -1, 1, 1000, -1000, 5}, {5, 3, 8, 2, 9, 4, 7, 6}}
}

func renamed(edges []impl.Edge, names []int64) []impl.Edge {
	var out []impl.Edge
	for _, edge := range edges {
		out = append(out, edgeOf(names[edge.From-2], names[edge.To-2], edge.Kind))
	}
	return out
}

func TestHasCycleAsTold(t *testing.T) {
	all := numbersOf(0, 1, 2, 3, 4, 5, 6, 7)
	for _, c := range []struct {
		edges string
		so    []int64 // the kinds of which it is so
	}{
		{"", nil}, {"ww2.2", numbersOf(1, 3, 5, 7)}, {"wr2.2", numbersOf(2, 3, 6, 7)}, {"rw2.2", numbersOf(4, 5, 6, 7)}, {"ww2.3", nil}, {"ww2.3 ww2.3", nil}, {"ww2.3 wr2.3 rw2.3", nil}, {"ww2.3 ww3.3", numbersOf(1, 3, 5, 7)}, {"ww2.2 ww2.3", numbersOf(1, 3, 5, 7)}, {"ww3.3 wr2.3", numbersOf(1, 3, 5, 7)},
		{"ww2.3 ww3.2", numbersOf(1, 3, 5, 7)}, {"wr2.3 wr3.2", numbersOf(2, 3, 6, 7)}, {"rw2.3 rw3.2", numbersOf(4, 5, 6, 7)}, {"ww2.3 wr3.2", numbersOf(3, 7)}, {"ww2.3 rw3.2", numbersOf(5, 7)}, {"wr2.3 rw3.2", numbersOf(6, 7)},
		{"ww2.3 ww3.4", nil}, {"ww2.3 ww3.4 ww2.4", nil}, {"ww2.3 ww3.4 ww4.2", numbersOf(1, 3, 5, 7)}, {"ww2.3 wr3.4 rw4.2", numbersOf(7)}, {"ww2.3 ww3.4 rw4.2", numbersOf(5, 7)}, {"rw2.3 rw3.4 wr4.2", numbersOf(6, 7)}, {"ww2.3 ww3.4 ww4.3", numbersOf(1, 3, 5, 7)}, {"ww2.3 ww3.2 ww3.4", numbersOf(1, 3, 5, 7)},
		{"ww2.3 ww3.4 ww4.5 ww5.2", numbersOf(1, 3, 5, 7)}, {"ww2.3 wr3.4 ww4.5 wr5.2", numbersOf(3, 7)}, {"ww2.3 ww3.4 ww2.5 ww5.4", nil}, {"ww2.4 ww3.4 ww4.5", nil}, {"ww2.3 ww3.4 ww4.5 rw5.6 ww6.2", numbersOf(5, 7)}, {"ww2.3 ww3.4 ww5.4 ww4.6", nil},
		{"ww2.3 ww3.2 rw4.5 rw5.4", numbersOf(1, 3, 5, 7, 4, 6)}, {"ww2.3 wr3.2 ww4.5 rw5.4", numbersOf(3, 5, 7)}, {"wr2.3 wr3.2 wr3.4 wr4.3", numbersOf(2, 3, 6, 7)}, {"rw2.2 wr3.3 ww4.4", numbersOf(1, 2, 3, 4, 5, 6, 7)},
		{"ww2.3 wr3.2 ww3.2", numbersOf(1, 3, 5, 7)}, {"ww2.3 wr2.3 ww3.4 rw4.2", numbersOf(5, 7)}, {"ww2.3 ww2.3 ww3.2 ww3.2", numbersOf(1, 3, 5, 7)}, {"ww2.4 ww2.4 ww3.4 ww2.3 ww2.3", nil},
	} {
		eachOrder(edgesIn(c.edges), func(edges []impl.Edge) {
			for _, names := range namesOfTxns() {
				named := renamed(edges, names)
				for _, kinds := range all {
					want := slices.Contains(c.so, kinds)
					if got := impl.HasCycle(named, kinds); got != want || hasCycleByHand(named, kinds) != want {
						t.Fatalf("HasCycle of %+v and %d = %v, want %v", named, kinds, got, want)
					}
				}
			}
		})
	}
}

// Other bits than those of the three Kinds say nothing.
func TestKindsWithOtherBits(t *testing.T) {
	for _, kind := range []int64{1, 2, 4} {
		for _, edges := range [][]impl.Edge{{edgeOf(2, 2, kind)}, {edgeOf(2, 3, kind), edgeOf(3, 2, kind)}, {edgeOf(3, 4, kind), edgeOf(4, 2, kind), edgeOf(2, 3, kind)}} {
			for _, kinds := range []int64{0, 8, 16, 24, 1 << 40, 256, math.MinInt64, -8, math.MaxInt64 - 7, 1024, 999 &^ 7} {
				if impl.HasCycle(edges, kinds) {
					t.Errorf("HasCycle of %+v and %d is so", edges, kinds)
				}
				if !impl.HasCycle(edges, kinds|kind) || !impl.HasCycle(edges, kinds|7) || impl.HasCycle(edges, kinds|7&^kind) {
					t.Errorf("HasCycle of %+v is not the same for %d with the bits of Kinds", edges, kinds)
				}
			}
			for _, kinds := range []int64{-1, math.MaxInt64, 7, 15, 255} {
				if !impl.HasCycle(edges, kinds) {
					t.Errorf("HasCycle of %+v and %d is not so", edges, kinds)
				}
			}
		}
	}
}

// An edge whose Kind is none of the three is among no kinds.
func TestEdgesOfNoKind(t *testing.T) {
	for _, kind := range []int64{0, 3, 5, 6, 7, 8, 9, 16, -1, -2, -4, -8, math.MinInt64, math.MaxInt64, 1 << 32, 1<<32 + 1} {
		for _, kinds := range []int64{0, 1, 2, 3, 4, 5, 6, 7, 8, 15, -1, kind, kind | 7, math.MaxInt64, math.MinInt64} {
			for _, edges := range [][]impl.Edge{{edgeOf(2, 2, kind)}, {edgeOf(2, 3, kind), edgeOf(3, 2, kind)}, {edgeOf(2, 3, 1), edgeOf(3, 2, kind)}, {edgeOf(2, 3, 4), edgeOf(3, 2, kind)}, {edgeOf(2, 3, 2), edgeOf(3, 4, kind), edgeOf(4, 2, 1)}} {
				if impl.HasCycle(edges, kinds) || impl.OneRwCycle(edges) {
					t.Errorf("HasCycle of %+v and %d is %v, OneRwCycle %v", edges, kinds, impl.HasCycle(edges, kinds), impl.OneRwCycle(edges))
				}
			}
			beside := []impl.Edge{edgeOf(5, 5, kind), edgeOf(2, 3, 4), edgeOf(3, 4, kind), edgeOf(3, 2, 1), edgeOf(4, 5, kind)}
			if got, want := impl.HasCycle(beside, kinds), kinds&5 == 5; got != want || !impl.OneRwCycle(beside) {
				t.Errorf("HasCycle of %+v and %d = %v, want %v", beside, kinds, got, want)
			}
		}
	}
}

func TestOneRwCycleAsTold(t *testing.T) {
	for edges, want := range map[string]bool{
		"": false, "rw2.2": true, "ww2.2": false, "wr2.2": false, "rw2.3": false, "rw2.2 rw3.4": true, "rw3.4 rw2.2": true, "rw2.3 rw3.3": true, "ww2.3 ww3.2": false, "wr2.3 ww3.2": false,
		"rw2.3 ww3.2": true, "rw2.3 wr3.2": true, "rw3.2 ww2.3": true, "rw2.3 rw3.2": false, "rw2.3 ww2.3": false, "rw2.3 ww3.3": false, "rw2.3 ww2.2": false, "rw2.3 ww3.2 wr3.2": true,
		"rw2.3 ww3.4 ww4.2": true, "rw2.3 wr3.4 ww4.2": true, "rw2.3 wr3.4 wr4.2": true, "rw2.3 ww3.4 rw4.2": false, "rw2.3 rw3.4 ww4.2": false, "rw2.3 ww3.4 ww2.4": false, "rw2.3 ww4.3 ww4.2": false, "rw2.3 ww4.3 ww2.4": false, "rw2.3 rw3.4 rw4.2": false,
		"rw2.3 ww3.4 ww4.5 wr5.2": true, "rw2.3 ww3.4 rw4.5 wr5.2": false, "rw2.3 ww3.4 ww4.3 ww4.2": true, "rw2.3 ww3.4 ww4.3 wr3.5": false, "rw2.3 ww3.4 ww4.5 ww5.6 ww6.2": true, "rw2.3 ww3.4 wr4.5 ww5.3": false, "rw2.3 ww3.4 rw4.2 ww4.2": true,
		"rw2.3 rw4.5 ww5.4": true, "rw4.5 rw2.3 ww5.4 ww3.4": true, "rw2.3 rw4.5 ww5.2 ww3.4": false, "rw2.3 rw3.2 ww3.4 ww4.2": true, "rw2.3 rw3.4 wr4.5 ww5.2": false, "rw2.3 rw2.4 ww4.2": true, "rw2.4 rw3.4 ww4.3": true, "rw2.3 rw2.3 ww3.4": false,
		"ww2.3 ww3.2 rw4.5": false, "ww2.3 ww3.2 rw4.2": false, "ww2.3 ww3.2 rw2.4": false, "ww2.3 ww3.2 rw2.3": true, "ww3.4 ww4.3 rw2.3 ww4.5": false,
	} {
		eachOrder(edgesIn(edges), func(order []impl.Edge) {
			for _, names := range namesOfTxns() {
				named := renamed(order, names)
				if got := impl.OneRwCycle(named); got != want || oneRwByHand(named) != want {
					t.Fatalf("OneRwCycle of %+v = %v, want %v", named, got, want)
				}
			}
		})
	}
}

// All graphs of up to four transactions, each pair with or without an edge, of a Kind that is thrown.
func TestAllSmallGraphs(t *testing.T) {
	met := map[[3]bool]int{}
	d := dice(122)
	for size := int64(1); size <= 4; size++ {
		for bits := range int64(1) << (size * size) {
			var edges []impl.Edge
			for pair := range size * size {
				if bits>>pair&1 == 1 {
					edges = append(edges, edgeOf(2+pair/size, 2+pair%size, 1<<d.upTo(2)))
				}
			}
			kinds := d.upTo(7)
			if got, want := tellRounds(edges, kinds), tellRoundsByHand(edges, kinds); got != want {
				t.Fatalf("of %+v and %d %s, want %s", edges, kinds, got, want)
			}
			met[[3]bool{impl.HasCycle(edges, kinds), impl.HasCycle(edges, 7), impl.OneRwCycle(edges)}]++
		}
	}
	for _, c := range [][3]bool{{false, false, false}, {false, true, false}, {false, true, true}, {true, true, false}, {true, true, true}} {
		if met[c] < 50 {
			t.Errorf("%v was met only %d times", c, met[c])
		}
	}
}

func thrownEdges(d *dice) []impl.Edge {
	count := 1 + d.upTo(7)
	var out []impl.Edge
	for range d.upTo(3 * count) {
		edge := edgeOf(2+d.upTo(count), 2+d.upTo(count), 1<<d.upTo(2))
		if d.upTo(6) > 0 && edge.From > edge.To { // fewer rounds
			edge.From, edge.To = edge.To, edge.From
		}
		if d.upTo(5) > 0 && edge.From == edge.To {
			edge.To++
		}
		if d.upTo(30) == 0 {
			edge.Kind = d.upTo(9)
		}
		out = append(out, edge)
	}
	return out
}

func TestThrownGraphs(t *testing.T) {
	d := dice(123)
	met := map[[2]bool]int{}
	for range 8000 {
		edges, kinds := thrownEdges(&d), d.upTo(8)-d.upTo(1)
		if got, want := tellRounds(edges, kinds), tellRoundsByHand(edges, kinds); got != want {
			t.Fatalf("of %+v and %d %s, want %s", edges, kinds, got, want)
		}
		met[[2]bool{impl.HasCycle(edges, 7), impl.OneRwCycle(edges)}]++
	}
	if met[[2]bool{false, false}] < 1500 || met[[2]bool{true, false}] < 1000 || met[[2]bool{true, true}] < 1000 || len(met) != 3 {
		t.Errorf("met %v", met)
	}
}

// Long ways end, and soon: a walk meets each transaction once.
func TestLongWays(t *testing.T) {
	const count = 30000
	var chain, tangle []impl.Edge
	for txn := range int64(count) {
		chain = append(chain, edgeOf(txn, txn+1, 1+txn%2))
	}
	for txn := range int64(400) { // very many ways, few edges
		tangle = append(tangle, edgeOf(txn, txn+1, 1), edgeOf(txn, txn+1, 2), edgeOf(txn, txn+2, 1), edgeOf(txn, txn+3, 2))
	}
	back := edgeOf(count, 0, impl.EdgeRw)
	for name, edges := range map[string][]impl.Edge{"rising": chain, "falling": backwards(chain)} {
		if impl.HasCycle(edges, 7) || impl.HasCycle(edges, 3) || impl.OneRwCycle(edges) {
			t.Errorf("%s: a chain goes round", name)
		}
		round := append(slices.Clone(edges), back)
		if !impl.HasCycle(round, 7) || impl.HasCycle(round, 3) || impl.HasCycle(round, 6) || !impl.OneRwCycle(round) {
			t.Errorf("%s: the round is not found", name)
		}
		if ahead := append(slices.Clone(edges), edgeOf(0, count, 4)); impl.HasCycle(ahead, 7) || impl.OneRwCycle(ahead) {
			t.Errorf("%s: a short way goes round", name)
		}
		if late := append(slices.Clone(edges), edgeOf(count, count-1, 4)); !impl.HasCycle(late, 7) || !impl.OneRwCycle(late) {
			t.Errorf("%s: the round at the end is not found", name)
		}
	}
	if impl.HasCycle(tangle, 7) || impl.OneRwCycle(append(slices.Clone(tangle), edgeOf(0, 402, 4))) {
		t.Error("a tangle goes round")
	}
	if round := append(slices.Clone(tangle), edgeOf(402, 0, 4)); !impl.HasCycle(round, 7) || impl.HasCycle(round, 3) || !impl.OneRwCycle(round) {
		t.Error("the round of a tangle is not found")
	}
}

func backwards(edges []impl.Edge) []impl.Edge {
	out := slices.Clone(edges)
	slices.Reverse(out)
	return out
}

// wantList: what is told of a history is the list, and nothing else.
func wantList(t *testing.T, name, hops string, got impl.IntsResult, want []int64) {
	t.Helper()
	if fault := impl.HistoryFault(hopsIn(hops)); fault != impl.OK {
		t.Errorf("%s has the fault %d", hops, fault)
	}
	if got.Code != impl.OK || !slices.Equal(got.List, want) {
		t.Errorf("%s of %s = %+v, want %v", name, hops, got, want)
	}
	if one, two := tellGraph(hopsIn(hops)), tellGraphByHand(hopsIn(hops)); one != two {
		t.Errorf("of %s\n%s, want\n%s", hops, one, two)
	}
}

func TestDirtyReadsAsTold(t *testing.T) {
	for _, c := range []struct {
		hops  string
		dirty []int64
	}{
		{"", nil}, {"b2 c2", nil}, {"b2 w2.1 c2 b3 r3.1.2 c3", nil}, {"b2 b3 w2.1 c2 r3.1.2 c3", nil},
		{"b2 b3 w2.1 r3.1.2 c2 c3", numbersOf(3)}, {"b2 b3 w2.1 r3.1.2 c3 c2", numbersOf(3)}, {"b2 b3 w2.1 r3.1.2 a2 c3", numbersOf(3)}, {"b2 b3 w2.1 a2 r3.1.2 c3", numbersOf(3)}, {"b2 b3 w2.1 r3.1.2 c3 a2", numbersOf(3)}, {"b2 b3 w2.1 r3.1.2 c3", numbersOf(3)}, {"b2 b3 r3.1.2 c3", numbersOf(3)}, {"b2 a2 b3 r3.1.2 c3", numbersOf(3)},
		{"b3 r3.1.2 b2 w2.1 c2 c3", numbersOf(3)}, {"b3 r3.1.2 c3 b2 w2.1 c2", numbersOf(3)}, {"b3 r3.1.2 c3 b2", numbersOf(3)}, {"b3 r3.1.2 c3 b2 a2", numbersOf(3)}, // it begins behind the read
		{"b3 r3.1.2 c3", nil}, {"b3 r3.1.77 c3", nil}, {"b3 r3.1.999 r3.2.0 r3.3.1 c3", nil}, {"b3 r3.1.0 b2 w2.1 c3", nil}, {"b3 r3.1.1 b2 w2.1 c3", nil}, {"b2 c2 b3 r3.1.2 c3", nil}, {"b2 w2.5 c2 b3 r3.1.2 c3", nil},
		{"b3 w3.1 r3.1.3 c3", nil}, {"b3 r3.1.3 c3", nil}, {"b3 r3.1.3 w3.1 r3.1.3 c3", nil},
		{"b2 b3 w2.1 r3.1.2", nil}, {"b2 b3 w2.1 r3.1.2 a3", nil}, {"b2 b3 w2.1 r3.1.2 c2", nil}, {"b2 b3 w2.1 r3.1.2 c2 a3", nil},
		{"b2 b3 w2.1 r3.1.2 r3.1.2 c3", numbersOf(3)}, {"b2 b4 b3 w2.1 r3.1.2 r3.2.4 c3", numbersOf(3)}, {"b2 b3 w2.1 r3.1.2 c2 r3.1.2 c3", numbersOf(3)}, {"b2 b4 b3 w2.1 w4.1 c2 r3.1.2 r3.1.4 c4 c3", numbersOf(3)}, {"b2 b4 b3 w2.1 w4.1 c2 r3.1.4 r3.1.2 c4 c3", numbersOf(3)},
		{"b2 b9 b5 w2.1 r9.1.2 r5.1.2 c9 c5", numbersOf(5, 9)}, {"b2 b9 b5 b7 w2.1 r9.1.2 r5.1.2 r7.1.2 c9 c7 c5", numbersOf(5, 7, 9)}, {"b2 b9 b5 b7 w2.1 r9.1.2 r5.1.2 r7.1.2 c9 a7 c5", numbersOf(5, 9)}, {"b999 b2 b10 r999.0.10 r2.31.999 c999 c2 c10", numbersOf(2, 999)}, {"b100 b20 b3 r100.0.3 r20.0.3 c100 c20", numbersOf(20, 100)},
		{"b2 b3 r2.1.3 r3.1.2 c2 c3", numbersOf(2, 3)}, {"b2 b3 r2.1.3 r3.1.2 c3 c2", numbersOf(2, 3)}, {"b2 b3 r2.1.3 c2 r3.1.2 c3", numbersOf(2)}, {"b2 b3 w2.1 c2 r3.1.2 b4 r4.2.3 c3 c4", numbersOf(4)},
		{"b2 w2.1 b3 w3.1 r3.1.2 c3 c2", numbersOf(3)}, // as the stage tells it
	} {
		wantList(t, "DirtyReads", c.hops, impl.DirtyReads(hopsIn(c.hops)), c.dirty)
	}
}

func TestLostUpdatesAsTold(t *testing.T) {
	for _, c := range []struct {
		hops string
		lost []int64
	}{
		{"", nil}, {"b2 w2.1 c2", nil}, {"b2 w2.1 w2.1 c2", nil}, {"b2 w2.1 w2.1 r2.1.2 w2.1 c2 b3 c3", nil}, {"b2 b3 w2.1 w2.1 c2 c3", nil}, {"b2 b3 w2.1 r3.1.1 c2 c3", nil}, {"b2 b3 w2.1 w3.2 c2 c3", nil},
		{"b2 b3 w2.1 w3.1 c2 c3", numbersOf(1)}, {"b2 b3 w2.1 w3.1 c3 c2", numbersOf(1)}, {"b3 b2 w3.1 w2.1 c2 c3", numbersOf(1)}, {"b2 b3 w2.1 c2 w3.1 c3", numbersOf(1)}, {"b2 w2.1 b3 c2 w3.1 c3", numbersOf(1)}, {"b2 w2.1 b3 r3.1.2 w3.1 c2 c3", numbersOf(1)},
		{"b2 w2.1 c2 b3 w3.1 c3", nil}, {"b3 w3.1 c3 b2 w2.1 c2", nil}, {"b2 w2.1 c2 b3 r3.1.2 w3.1 c3 b4 w4.1 c4", nil},
		{"b2 b3 w2.1 w3.1 c2", nil}, {"b2 b3 w2.1 w3.1 c3", nil}, {"b2 b3 w2.1 w3.1", nil}, {"b2 b3 w2.1 w3.1 c2 a3", nil}, {"b2 b3 w2.1 w3.1 a2 c3", nil}, {"b2 b3 w2.1 w3.1 a3 c2", nil}, {"b2 b3 w2.1 w3.1 a2 a3", nil},
		{"b2 b3 b4 w2.1 w3.1 w4.1 a2 c3 c4", numbersOf(1)}, {"b2 b3 b4 w2.1 w3.1 w4.1 c2 a3 c4", numbersOf(1)}, {"b2 w2.1 c2 b3 b4 w3.1 w4.1 c3 c4", numbersOf(1)}, {"b2 b3 w2.1 w3.1 c2 c3 b4 w4.1 c4", numbersOf(1)}, {"b2 b3 w2.1 c2 b4 w4.1 c4 w3.1 c3", numbersOf(1)}, {"b3 b2 w2.1 c2 b4 w4.1 c4 w3.2 c3", nil}, {"b2 w2.1 b9 c2 b3 w3.1 c3 c9", nil},
		{"b2 b3 w2.31 w2.0 w2.5 w3.5 w3.0 w3.31 c2 c3", numbersOf(0, 5, 31)}, {"b2 b3 w2.0 w3.0 c2 c3", numbersOf(0)}, {"b2 b3 w2.31 w3.31 c2 c3", numbersOf(31)}, {"b2 b3 w2.2 w2.1 w3.2 w3.3 c2 c3", numbersOf(2)}, {"b2 b3 b4 b5 w2.9 w3.9 w4.8 w5.8 c2 c3 c4 c5", numbersOf(8, 9)}, {"b2 b3 w2.9 w3.9 w2.8 c2 c3 b4 w4.8 c4", numbersOf(9)}, {"b2 b3 w2.4 w3.4 w2.4 w3.4 w3.3 w2.3 c2 c3", numbersOf(3, 4)},
		{"b2 w2.1 b3 r3.1.2 w3.1 c3 c2", numbersOf(1)}, // as the stage tells it
	} {
		wantList(t, "LostUpdates", c.hops, impl.LostUpdates(hopsIn(c.hops)), c.lost)
	}
	// All keys are lost.
	h, want := hopsIn("b2 b3"), []int64(nil)
	for key := range int64(mostRows) {
		h, want = append(h, hopWrite(2, 31-key), hopWrite(3, key)), append(want, key)
	}
	if got := impl.LostUpdates(append(h, hopsIn("c2 c3")...)); got.Code != impl.OK || !slices.Equal(got.List, want) {
		t.Errorf("LostUpdates of all keys = %+v", got)
	}
	if got := impl.LostUpdates(append(h, hopsIn("c2 a3")...)); got.Code != impl.OK || len(got.List) > 0 {
		t.Errorf("LostUpdates of all keys, one aborted = %+v", got)
	}
}

func TestStartOrderedAsTold(t *testing.T) {
	for hops, want := range map[string]bool{
		"": true, "b2": true, "b2 c2": true, "b2 b3 c2 c3": true,
		"b2 w2.1 c2 b3 w3.1 c3": true, "b2 w2.1 b3 c2 w3.1 c3": false, "b2 b3 w2.1 w3.1 c2 c3": false, "b3 b2 w2.1 c2 w3.1 c3": false, "b3 b2 w2.1 w3.1 c3 c2": false, "b2 w2.1 c2 b9 b3 w3.1 c3 c9": true, // by EdgeWw
		"b2 w2.1 c2 b3 r3.1.2 c3": true, "b2 w2.1 b3 c2 r3.1.2 c3": false, "b2 b3 w2.1 r3.1.2 c2 c3": false, "b3 r3.1.2 c3 b2 w2.1 c2": false, "b3 b2 w2.1 c2 r3.1.2 c3": false, "b2 c2 b3 r3.1.2 c3": true, "b2 b3 c2 r3.1.2 c3": false, // by EdgeWr
		"b2 b3 r2.1.0 w3.1 c2 c3": true, "b2 b3 r2.1.0 w3.1 c3 c2": true, "b3 w3.1 c3 b2 r2.1.0 c2": true, "b2 b3 r2.0.0 r3.1.0 w2.1 w3.0 c2 c3": true, "b3 b2 r2.1.1 w3.1 c3 r2.1.1 c2": true, "b2 b3 r2.5.77 w3.5 c2 c3": true, // by EdgeRw alone
		"b2 w2.1 c2 b9 r9.1.2 b3 w3.1 c3 c9": true, "b2 w2.1 b9 c2 r9.1.2 b3 w3.1 c3 c9": false, "b2 b3 w2.1 w3.1 c2 a3": true, "b2 b3 w2.1 w3.1 c2": true, "b2 b3 w2.1 r3.1.2 c2 a3": true, "b2 b3 w2.1 r3.1.2 c2": true, "b2 b3 w2.1 r3.1.2 a2 c3": true, "b2 b3 w2.1 w2.2 w3.3 c2 c3": true,
		"b2 w2.31 c2 b3 w3.31 c3 b4 w4.31 b5 c4 w5.31 c5": false, "b2 w2.31 c2 b3 w3.31 c3 b4 w4.31 c4 b5 w5.31 c5": true, "b2 w2.0 b3 c2 w3.0 c3": false, "b2 w2.31 b3 c2 r3.31.2 c3": false,
		"b2 w2.1 c2 b3 w3.1 c3 b3": false, "b2 b2": false, "c2": false, "b2 w2.1 c2 b3 r3.32.2 c3": false, "b2 w2.1 c2 b3 r3.1.1000 c3": false, "b1": false, "b2.1": false, // a fault
	} {
		h := hopsIn(hops)
		if got := impl.StartOrdered(h); got != want {
			t.Errorf("StartOrdered of %s = %v, want %v", hops, got, want)
		}
		if one, two := tellGraph(h), tellGraphByHand(h); one != two {
			t.Errorf("of %s\n%s, want\n%s", hops, one, two)
		}
	}
	full := hopsIn("b2 w2.1 c2 b3 w3.1 c3 b9")
	for len(full) < mostHops {
		full = append(full, hopRead(9, 1, 3))
	}
	if !impl.StartOrdered(full) || impl.StartOrdered(append(full, hopCommit(9))) {
		t.Error("400 hops are not told from 401")
	}
}

func TestSerialOrderAsTold(t *testing.T) {
	for _, c := range []struct {
		hops  string
		order []int64
	}{
		{"", nil}, {"b2", nil}, {"b2 w2.1 a2", nil}, {"b2 w2.1 b3 r3.1.2 a3", nil}, {"b2 c2", numbersOf(2)}, {"b2 b3 w2.1 r3.1.2 c3", numbersOf(3)},
		{"b2 b3 c2 c3", numbersOf(2, 3)}, {"b2 b3 c3 c2", numbersOf(2, 3)}, {"b9 c9 b5 c5 b7 c7", numbersOf(5, 7, 9)}, {"b10 c10 b9 c9 b100 c100 b2 c2", numbersOf(2, 9, 10, 100)}, // the least of them
		{"b3 w3.1 c3 b2 w2.1 c2", numbersOf(3, 2)}, {"b3 w3.1 c3 b2 r2.1.3 c2", numbersOf(3, 2)}, {"b9 w9.1 c9 b5 w5.1 c5 b7 c7", numbersOf(7, 9, 5)}, {"b9 w9.1 c9 b5 w5.1 c5 b7 r7.1.5 c7", numbersOf(9, 5, 7)}, {"b9 w9.1 c9 b5 r5.1.9 c5 b2 r2.1.9 c2 b7 c7", numbersOf(7, 9, 2, 5)}, {"b4 w4.1 c4 b2 r2.1.4 c2 b3 c3", numbersOf(3, 4, 2)}, {"b5 w5.0 c5 b3 r3.0.5 w3.1 c3 b2 r2.1.3 c2 b4 c4", numbersOf(4, 5, 3, 2)}, {"b3 w3.0 c3 b2 r2.0.3 c2 b4 c4", numbersOf(3, 2, 4)},
		{"b2 b3 r3.1.0 w2.1 c2 c3", numbersOf(3, 2)}, {"b2 b3 r3.1.1 w2.1 c2 w3.2 c3 b4 r4.2.3 r4.1.2 c4", numbersOf(3, 2, 4)}, {"b2 w2.1 c2 b4 b3 r4.1.2 w3.1 c3 c4", numbersOf(2, 4, 3)}, {"b2 b3 b4 r4.0.0 w3.0 r3.1.0 w2.1 c2 c3 c4", numbersOf(4, 3, 2)}, // not the one of the commits
		{"b2 b3 w2.1 w3.1 c3 c2", numbersOf(3, 2)}, {"b2 b3 w2.1 r3.1.2 c3 c2", numbersOf(2, 3)}, {"b2 b3 r2.0.0 w2.1 w3.0 a3 c2", numbersOf(2)}, {"b2 b3 r2.0.1 r3.1.1 w2.1 w3.0 c2 a3", numbersOf(2)}, {"b2 b3 r2.0.1 r3.1.1 w2.1 w3.0 c2", numbersOf(2)}, {"b2 b3 r2.0.1 w2.1 w3.0 c2 c3", numbersOf(2, 3)},
		{"b999 w999.31 c999 b998 r998.31.999 c998 b2 r2.31.999 c2", numbersOf(999, 2, 998)},
	} {
		wantList(t, "SerialOrder", c.hops, impl.SerialOrder(hopsIn(c.hops)), c.order)
		wantSerial(t, c.hops, hopsIn(c.hops))
	}
	for _, hops := range []string{
		"b2 b3 r2.0.1 r3.1.1 w2.1 w3.0 c2 c3", "b2 b3 r2.0.0 r3.1.0 w2.1 w3.0 c3 c2", // as the document tells
		"b2 b3 w2.1 w3.1 r2.1.3 c2 c3", "b2 b3 r2.1.3 r3.1.2 c2 c3", "b2 b3 r2.1.0 r3.1.0 w2.1 w3.1 c2 c3", "b2 b3 b4 r2.0.0 r3.1.0 r4.2.0 w2.2 w3.0 w4.1 c2 c3 c4", "b2 b3 w2.1 w3.2 r2.2.3 r3.1.2 c2 c3", "b2 w2.1 c2 b3 b4 r3.1.2 r4.1.2 w3.1 w4.1 c3 c4",
		"b9 c9 b2 b3 r2.0.1 r3.1.1 w2.1 w3.0 c2 c3 b4 c4", "b9 w9.5 c9 b2 b3 r2.0.1 r3.1.1 w2.1 w3.0 r2.5.9 w2.6 c2 c3 b4 r4.6.2 c4",
	} {
		wantCode(t, "SerialOrder of "+hops, impl.SerialOrder(hopsIn(hops)), impl.ErrConflict)
		wantSerial(t, hops, hopsIn(hops))
	}
}

// The examples that the document tells, by what an engine does.
func TestExamplesOfDependencies(t *testing.T) {
	cells := cellList(1, 10, 2, 20)
	skew := lines(begun(2), begun(3), reads(2, 1, 10), reads(3, 2, 20), puts(2, 2, 21), puts(3, 1, 11), commits(2, 2), commits(3, 3))
	var acts []impl.Act
	for _, l := range skew {
		acts = append(acts, l.act)
	}
	for _, with := range [][]impl.Cell{cells, nil} {
		h := impl.RunHistory(with, acts).History
		wantNothingWrong(t, "each reads what the other writes", h)
		if got := impl.EdgesOf(h); got.Code != impl.OK || edgesText(got.Edges) != "rw2.3 rw3.2" {
			t.Errorf("EdgesOf = %+v", got)
		}
		if got := impl.CommittedOf(h); !slices.Equal(got.List, numbersOf(2, 3)) {
			t.Errorf("CommittedOf = %+v", got)
		}
		wantCode(t, "SerialOrder", impl.SerialOrder(h), impl.ErrConflict)
	}
}

// The fault comes ahead of all else.
func TestFaultsOfDependencies(t *testing.T) {
	skew := hopsIn("b990 b991 r990.30.0 r991.31.0 w990.31 w991.30 w990.29 w991.29 r990.1.991 c990 c991")
	if h := skew; impl.SerialOrder(h).Code != impl.ErrConflict || len(impl.EdgesOf(h).Edges) != 4 || len(impl.DirtyReads(h).List) != 1 || len(impl.LostUpdates(h).List) != 1 {
		t.Errorf("%s", tellGraph(h))
	}
	met := map[int64]int{}
	for _, f := range historyFaults() {
		for _, h := range [][]impl.Hop{f.hops, hopsBehind(skew, f.hops...), hopsBehind(f.hops, skew...)} {
			code := historyFaultByHand(h)
			met[code]++
			if got, want := tellGraph(h), tellGraphByHand(h); got != want {
				t.Errorf("%s: of %v\n%s, want\n%s", f.name, h, got, want)
			}
			if code == impl.OK {
				wantCode(t, f.name+": EdgesOf", impl.EdgesOf(h), impl.OK)
				wantSerial(t, f.name, h)
				continue
			}
			wantCode(t, f.name+": EdgesOf", impl.EdgesOf(h), code)
			for name, got := range map[string]impl.IntsResult{"DirtyReads": impl.DirtyReads(h), "LostUpdates": impl.LostUpdates(h), "SerialOrder": impl.SerialOrder(h)} {
				wantCode(t, f.name+": "+name, got, code)
			}
			if impl.StartOrdered(h) {
				t.Errorf("%s: %v is StartOrdered", f.name, h)
			}
		}
	}
	for _, code := range []int64{impl.OK, impl.ErrForm, impl.ErrMany, impl.ErrRange, impl.ErrState} {
		if met[code] < 10 {
			t.Errorf("code %d was met only %d times", code, met[code])
		}
	}
}

// As many hops as a history may have.
func TestFullHistories(t *testing.T) {
	var row []impl.Hop // 133 writers of one key
	for txn := int64(2); txn < 135; txn++ {
		row = append(row, hopBegin(txn), hopWrite(txn, 7), hopCommit(txn))
	}
	var reader, readers []impl.Hop
	reader = append(reader, hopsIn("b2 w2.0 w2.31 c2 b3")...)
	for n := range int64(394) {
		reader = append(reader, hopRead(3, n%32, n%3))
	}
	reader = append(reader, hopCommit(3))
	for txn := int64(2); txn < 135; txn++ {
		readers = append(readers, hopBegin(txn), hopRead(txn, txn%32, max(txn-32, 0)), hopCommit(txn))
	}
	for name, h := range map[string][]impl.Hop{"writers": row, "one reader": reader, "readers": readers, "in a row": hopsInRow(400)} {
		if len(h) < 399 || len(h) > 400 {
			t.Fatalf("%s: %d hops", name, len(h))
		}
		if got, want := tellGraph(h), tellGraphByHand(h); got != want {
			t.Errorf("%s: %s, want %s", name, got, want)
		}
		wantSerial(t, name, h)
	}
	if got := impl.EdgesOf(row); len(got.Edges) != 132 || got.Edges[131] != edgeOf(133, 134, 1) {
		t.Errorf("EdgesOf many writers = %+v", got)
	}
	if got := impl.SerialOrder(row); len(got.List) != 133 || got.List[132] != 134 {
		t.Errorf("SerialOrder of many writers = %+v", got)
	}
}

// Histories of all short beginnings, so that each way in which hops can stand is met.
func TestAllShortDependencies(t *testing.T) {
	met := map[string]int{}
	compare := func(h []impl.Hop) {
		if historyFaultByHand(h) != impl.OK {
			return
		}
		full := slices.Clone(h)
		for _, txn := range []int64{2, 3, 4} {
			if hasHopAhead(h, len(h), txn, 1) && !hasHopAhead(h, len(h), txn, 4, 5) {
				full = append(full, hopCommit(txn))
			}
		}
		for _, one := range [][]impl.Hop{h, full} {
			if got, want := tellGraph(one), tellGraphByHand(one); got != want {
				t.Fatalf("of %v\n%s, want\n%s", one, got, want)
			}
			wantSerial(t, "a short one", one)
			met[edgesText(impl.EdgesOf(one).Edges)]++
		}
	}
	eachSound(hopsIn("b2 b3"), hopsIn("r2.1.0 r2.1.3 r2.0.0 w2.1 c2 r3.1.2 r3.1.1 w3.1 w3.0 c3 a3"), 4, compare)
	eachSound(hopsIn("b2 w2.1 c2"), hopsIn("b3 w3.1 c3 b4 r4.1.2 r4.1.3 w4.1 c4"), 6, compare)
	if len(met) < 40 {
		t.Errorf("only %d lists of edges were met: %v", len(met), met)
	}
}

// eachSound tells of all histories that begin so and have up to so many of the hops more, and no fault.
func eachSound(start, hops []impl.Hop, most int, tell func(h []impl.Hop)) {
	tell(start)
	if most == 0 {
		return
	}
	for _, hop := range hops {
		if next := hopsBehind(start, hop); historyFaultByHand(next) == impl.OK {
			eachSound(next, hops, most-1, tell)
		}
	}
}

// graphsToAsk: histories with many edges, ones with few, and ones that have a fault.
func graphsToAsk() [][]impl.Hop {
	d := dice(124)
	out := historiesToAsk()
	for run := range 60 {
		cells, acts := thrownDeal(run, &d)
		out = append(out, impl.RunHistory(cells, acts).History, thrownHistory(&d))
	}
	return out
}

func TestGraphArgumentsStay(t *testing.T) {
	for n, h := range graphsToAsk() {
		with := roomy(h)
		before := slices.Clone(wholeRoom(with))
		tellGraph(with)
		if !slices.Equal(wholeRoom(with), before) || !slices.Equal(with, h) {
			t.Fatalf("history %d was changed from %v to %v", n, h, with)
		}
		whole := slices.Concat(h, hopsIn("b900 w900.1 c900 b901 r901.1.900 c901"))
		if got, want := tellGraph(whole[:len(h)]), tellGraph(h); got != want || !slices.Equal(whole[len(h):], hopsIn("b900 w900.1 c900 b901 r901.1.900 c901")) {
			t.Fatalf("history %d as a piece: %s, want %s", n, got, want)
		}
	}
	d := dice(125)
	for n := range 400 {
		edges := thrownEdges(&d)
		with := roomy(edges)
		before := slices.Clone(wholeRoom(with))
		tellRounds(with, d.upTo(7))
		if !slices.Equal(wholeRoom(with), before) {
			t.Fatalf("edges %d were changed from %v to %v", n, edges, with)
		}
		whole := append(slices.Clone(edges), edgeOf(2, 2, 1), edgeOf(2, 2, 4))
		if got, want := tellRounds(whole[:len(edges)], 7), tellRounds(edges, 7); got != want {
			t.Fatalf("edges %d as a piece: %s, want %s", n, got, want)
		}
	}
}

func TestGraphAnswersAreNewMemory(t *testing.T) {
	for n, h := range graphsToAsk() {
		with := roomy(h)
		before := slices.Clone(wholeRoom(with))
		ask := func() [][]int64 {
			return [][]int64{impl.DirtyReads(with).List, impl.LostUpdates(with).List, impl.SerialOrder(with).List, impl.DirtyReads(with).List, impl.LostUpdates(with).List, impl.SerialOrder(with).List}
		}
		spoilt, other := ask(), ask()
		edges, others := impl.EdgesOf(with), impl.EdgesOf(with)
		want, wantEdges := told(other), told(others)
		wantOwnNumbers(t, fmt.Sprint("history ", n), spoilt)
		spoil(edges.Edges, edgeOf(-5, -5, -5))
		if told(other) != want || told(others) != wantEdges || !slices.Equal(wholeRoom(with), before) {
			t.Fatalf("history %d: an answer shares memory with another one, or with its argument", n)
		}
		if told(ask()) != want || told(impl.EdgesOf(with)) != wantEdges {
			t.Fatalf("history %d: a change made in an answer is seen in a later one", n)
		}
		spoil(with, impl.Hop{Kind: -5})
		if told(other) != want || told(others) != wantEdges {
			t.Fatalf("history %d: an answer hangs on what its argument became", n)
		}
	}
}

func TestNilAndEmptyListsOfGraphsAreAlike(t *testing.T) {
	if one, two := tellGraph(nil), tellGraph([]impl.Hop{}); one != two || one != tellGraphByHand(nil) || one != "[{Code:0 Edges:[]} {Code:0 List:[]} {Code:0 List:[]} true {Code:0 List:[]}]" {
		t.Errorf("with nil %s, with an empty list %s", one, two)
	}
	for _, kinds := range []int64{0, 1, 2, 3, 4, 5, 6, 7, 8, -1, math.MinInt64, math.MaxInt64} {
		if impl.HasCycle(nil, kinds) || impl.HasCycle([]impl.Edge{}, kinds) || impl.OneRwCycle(nil) || impl.OneRwCycle([]impl.Edge{}) {
			t.Errorf("no edges of kinds %d go round", kinds)
		}
	}
}

func TestGraphsKeepNothing(t *testing.T) {
	wantSameAgain(t, graphsToAsk(), tellGraph)
	d := dice(126)
	var lists [][]impl.Edge
	for range 300 {
		lists = append(lists, thrownEdges(&d))
	}
	wantSameAgain(t, lists, func(edges []impl.Edge) string {
		return tellRounds(edges, 7) + tellRounds(edges, 3) + tellRounds(edges, 4)
	})
}

func TestGraphsNeverPanic(t *testing.T) {
	numbers := []int64{math.MinInt64, -1, 0, 1, 2, 3, 4, 5, 6, 7, 8, 31, 32, 999, 1000, math.MaxInt64}
	d := dice(127)
	pick := func() int64 { return numbers[d.upTo(int64(len(numbers)-1))] }
	histories := graphsToAsk()
	for range 2500 {
		h := thrownHopTurn(histories[d.upTo(int64(len(histories)-1))], &d)
		if d.upTo(2) == 0 {
			h = append(h, impl.Hop{Kind: pick(), Txn: pick(), Key: pick(), Of: pick()})
		}
		edges, kinds := thrownEdges(&d), pick()
		for range d.upTo(3) {
			edges = append(edges, edgeOf(pick(), pick(), pick()), edgeOf(pick(), pick(), 1<<d.upTo(2)))
		}
		mustPanicNever(t, told([]any{h, edges, kinds}), func() {
			if got, want := tellGraph(h), tellGraphByHand(h); got != want {
				t.Fatalf("of %v\n%s, want\n%s", h, got, want)
			}
			if got, want := tellRounds(edges, kinds), tellRoundsByHand(edges, kinds); got != want {
				t.Fatalf("of %+v and %d %s, want %s", edges, kinds, got, want)
			}
		})
	}
}
