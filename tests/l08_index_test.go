package tests

import (
	"cmp"
	"fmt"
	"math"
	"slices"
	"testing"

	"loop.example/g00216/impl"
)

const mostPairs = 400
const lastValue = 9999

func pairOf(value, key int64) impl.Pair { return impl.Pair{Value: value, Key: key} }

// indexOf: a value and a key, and so on.
func indexOf(numbers ...int64) []impl.Pair {
	var out []impl.Pair
	for i := 0; i < len(numbers); i += 2 {
		out = append(out, pairOf(numbers[i], numbers[i+1]))
	}
	return out
}

// pairNumber: pairs that are in their bounds stand in the order of these.
func pairNumber(p impl.Pair) int64 { return 100*p.Value + p.Key }

func sortedPairs(pairs []impl.Pair) []impl.Pair {
	slices.SortFunc(pairs, func(a, b impl.Pair) int { return cmp.Compare(pairNumber(a), pairNumber(b)) })
	return pairs
}

func pairsFaultByHand(index []impl.Pair) int64 {
	if len(index) > mostPairs {
		return impl.ErrMany
	}
	ahead := int64(-1)
	for _, p := range index {
		if p.Value < 0 || p.Value > lastValue || p.Key < 0 || p.Key > lastKey {
			return impl.ErrRange
		}
		if pairNumber(p) <= ahead {
			return impl.ErrForm
		}
		ahead = pairNumber(p)
	}
	return impl.OK
}

func addPairByHand(index []impl.Pair, value, key int64) impl.PairsResult {
	if code := pairsFaultByHand(index); code != impl.OK {
		return impl.PairsResult{Code: code}
	}
	if value < 0 || value > lastValue || key < 0 || key > lastKey {
		return impl.PairsResult{Code: impl.ErrRange}
	}
	out := slices.Clone(index)
	if slices.Contains(out, pairOf(value, key)) {
		return impl.PairsResult{Pairs: out}
	}
	if len(out) >= mostPairs {
		return impl.PairsResult{Code: impl.ErrMany}
	}
	return impl.PairsResult{Pairs: sortedPairs(append(out, pairOf(value, key)))}
}

func buildIndexByHand(e impl.Engine) []impl.Pair {
	var out []impl.Pair
	for _, row := range e.Rows {
		for _, v := range row.Chain {
			if pair := pairOf(v.Value, row.Key); !v.Gone && !slices.Contains(out, pair) {
				out = append(out, pair)
			}
		}
	}
	return sortedPairs(out)
}

func indexFaultByHand(e impl.Engine, index []impl.Pair) int64 {
	if code := engineFaultByHand(e); code != impl.OK {
		return code
	}
	if code := pairsFaultByHand(index); code != impl.OK {
		return code
	}
	for _, pair := range buildIndexByHand(e) {
		if !slices.Contains(index, pair) {
			return impl.ErrNone
		}
	}
	return impl.OK
}

// scanValuesByHand goes by what is read alone: an index that fits has all of it.
func scanValuesByHand(e impl.Engine, index []impl.Pair, id, low, high int64) impl.PairsResult {
	if code := indexFaultByHand(e, index); code != impl.OK {
		return impl.PairsResult{Code: code}
	}
	read := scanByHand(e, id, 0, lastKey)
	if read.Code != impl.OK {
		return impl.PairsResult{Code: read.Code}
	}
	var out []impl.Pair
	for _, cell := range read.Cells {
		if cell.Value >= low && cell.Value <= high {
			out = append(out, pairOf(cell.Value, cell.Key))
		}
	}
	return impl.PairsResult{Pairs: sortedPairs(out)}
}

func findByHand(e impl.Engine, index []impl.Pair, id, value int64) impl.IntsResult {
	found := scanValuesByHand(e, index, id, value, value)
	out := impl.IntsResult{Code: found.Code}
	for _, pair := range found.Pairs {
		out.List = append(out.List, pair.Key)
	}
	return out
}

// sought: what one asks of an index.
type sought struct{ id, low, high, key int64 }

// tellIndex asks all functions of the chapter.
func tellIndex(e impl.Engine, index []impl.Pair, s sought) string {
	return told([]any{impl.BuildIndex(e), impl.IndexFault(e, index), impl.AddPair(index, s.low, s.key), impl.FindByValue(e, index, s.id, s.low), impl.ScanByValue(e, index, s.id, s.low, s.high), impl.VacuumIndex(e, index), impl.PairsFault(index)})
}

func tellIndexByHand(e impl.Engine, index []impl.Pair, s sought) string {
	built, vacuumed := impl.PairsResult{Code: engineFaultByHand(e)}, impl.PairsResult{Code: indexFaultByHand(e, index)}
	if built.Code == impl.OK {
		built.Pairs = buildIndexByHand(e)
	}
	if vacuumed.Code == impl.OK {
		vacuumed.Pairs = built.Pairs
	}
	return told([]any{built, vacuumed.Code, addPairByHand(index, s.low, s.key), findByHand(e, index, s.id, s.low), scanValuesByHand(e, index, s.id, s.low, s.high), vacuumed, pairsFaultByHand(index)})
}

// filledIndex has, beside the pairs, others up to so many in all.
func filledIndex(index []impl.Pair, count int) []impl.Pair {
	out := slices.Clone(index)
	for i := int64(0); len(out) < count; i++ {
		if pair := pairOf(i*37%10000, i*11%32); !slices.Contains(out, pair) {
			out = append(out, pair)
		}
	}
	return sortedPairs(out)
}

// wideEngine has as many pairs as an engine can have: 384.
func wideEngine() impl.Engine {
	e := impl.Engine{Next: 9, Clock: 100, Txns: []impl.Txn{doneAt(2, 0, 0), openAt(5, 60), openAt(7, 100)}}
	for key := range int64(mostRows) {
		var chain []impl.Version
		for i := range int64(mostVersions) {
			chain = append(chain, done(1, 100-7*i, 1000-10*i+key%4))
		}
		e.Rows = append(e.Rows, rowOf(key, chain...))
	}
	return e
}

// valuesEngine: 5 began at 5 and wrote key 1, 3 committed others since then, 8 began behind it.
func valuesEngine() impl.Engine {
	return impl.Engine{Next: 12, Clock: 8,
		Txns: []impl.Txn{doneAt(3, 5, 6), openAt(5, 5, firstOf(1), hadOf(1, 70)), abortedAt(6, 5), openAt(8, 8)},
		Rows: []impl.Row{rowOf(0, done(1, 1, 0)), rowOf(1, wrote(5, 50), done(1, 1, 10)), rowOf(2, done(3, 6, 50), done(1, 1, 50)), rowOf(3, done(3, 6, 50), done(1, 1, 10)), rowOf(4, doneGone(3, 6), done(1, 1, 50)), rowOf(9, done(3, 6, 10), done(2, 4, 50), done(1, 1, 10)), rowOf(31, done(1, 1, 9999))}}
}

func valuesIndex() []impl.Pair {
	return indexOf(0, 0, 10, 1, 10, 3, 10, 9, 50, 1, 50, 2, 50, 3, 50, 4, 50, 9, 9999, 31)
}

func enginesWithValues() []impl.Engine {
	return append(someEngines(), baseEngine(), valuesEngine(), wideEngine())
}

// indexesNear: indexes that fit an engine, that nearly do, and that have faults of their own.
func indexesNear(e impl.Engine, d *dice) [][]impl.Pair {
	built := buildIndexByHand(e)
	more := filledIndex(built, len(built)+1+int(d.upTo(9)))
	out := [][]impl.Pair{built, more, filledIndex(built, mostPairs), filledIndex(built, mostPairs+1), nil, indexOf(10000, 0), append(slices.Clone(built), pairOf(9999, 32))}
	if len(built) > 0 {
		place := int(d.upTo(int64(len(built) - 1)))
		lacks := slices.Delete(slices.Clone(built), place, place+1)
		out = append(out, lacks, filledIndex(built[1:], len(built)+2), built[:len(built)-1], slices.Insert(slices.Clone(built), place, built[place]))
	}
	return out
}

func valuesNear(index []impl.Pair) []int64 {
	out := []int64{-1, 0, 9999, 10000, math.MinInt64, math.MaxInt64}
	for _, pair := range index {
		out = append(out, pair.Value-1, pair.Value, pair.Value, pair.Value+1)
	}
	return out
}

func TestIndexesAsByHand(t *testing.T) {
	d := dice(80)
	met := map[int64]int{}
	for n, e := range enginesWithValues() {
		ids := idsNear(e)
		for i, index := range indexesNear(e, &d) {
			values := valuesNear(index)
			pick := func(list []int64) int64 { return list[d.upTo(int64(len(list)-1))] }
			for range 3 {
				s := sought{pick(ids), pick(values), pick(values), d.upTo(35) - 2}
				if got, want := tellIndex(e, index, s), tellIndexByHand(e, index, s); got != want {
					t.Fatalf("engine %d, index %d, %+v of %+v and %+v:\n%s, want\n%s", n, i, s, e, index, got, want)
				}
				met[scanValuesByHand(e, index, s.id, s.low, s.high).Code]++
			}
		}
	}
	for _, code := range []int64{impl.OK, impl.ErrForm, impl.ErrMany, impl.ErrRange, impl.ErrNone, impl.ErrState} {
		if met[code] < 100 {
			t.Errorf("code %d was met only %d times", code, met[code])
		}
	}
}

// thrownIndexTurn turns one thing of an index, at the edges or just beside them.
func thrownIndexTurn(index []impl.Pair, d *dice) []impl.Pair {
	out := slices.Clone(index)
	place := int(d.upTo(int64(len(out))))
	number := []int64{-1, 0, 1, 2, 31, 32, 50, 51, 9998, 9999, 10000, math.MinInt64, math.MaxInt64}[d.upTo(12)]
	if len(out) == 0 || d.upTo(3) == 0 {
		return slices.Insert(out, place, pairOf(number, d.upTo(33)-1))
	}
	place %= len(out)
	switch d.upTo(5) {
	case 0:
		out[place].Value = number
	case 1:
		out[place].Key = number
	case 2:
		out[place].Key += d.upTo(2) - 1
	case 3:
		out = slices.Delete(out, place, place+1)
	case 4:
		other := int(d.upTo(int64(len(out) - 1)))
		out[place], out[other] = out[other], out[place]
	default:
		out = slices.Insert(out, place, out[place])
	}
	return out
}

func TestIndexesThatWereTurned(t *testing.T) {
	d := dice(81)
	engines := append(enginesWithValues(), slices.Repeat([]impl.Engine{baseEngine(), valuesEngine()}, 100)...)
	met := map[int64]int{}
	for range 6000 {
		e := engines[d.upTo(int64(len(engines)-1))]
		index := buildIndexByHand(e)
		if d.upTo(2) > 0 {
			index = thrownIndexTurn(index, &d)
		}
		for d.upTo(2) == 0 {
			index = thrownIndexTurn(index, &d)
		}
		if d.upTo(3) == 0 {
			e = thrownEngineTurn(e, &d)
		}
		met[indexFaultByHand(e, index)]++
		ids, values := idsNear(e), valuesNear(index)
		s := sought{ids[d.upTo(int64(len(ids)-1))], values[d.upTo(int64(len(values)-1))], values[d.upTo(int64(len(values)-1))], d.upTo(35) - 2}
		if got, want := tellIndex(e, index, s), tellIndexByHand(e, index, s); got != want {
			t.Fatalf("%+v of %+v and %+v:\n%s, want\n%s", s, e, index, got, want)
		}
	}
	for _, code := range []int64{impl.OK, impl.ErrForm, impl.ErrRange, impl.ErrNone} {
		if met[code] < 200 {
			t.Errorf("code %d was met only %d times", code, met[code])
		}
	}
}

// readsOf: what one reads, key by key.
func readsOf(e impl.Engine, id int64) []impl.Pair {
	var out []impl.Pair
	for key := range int64(mostRows) {
		if read := impl.ReadKey(e, id, key); read.Code == impl.OK {
			out = append(out, pairOf(read.Value, key))
		}
	}
	return sortedPairs(out)
}

// keysWith: the keys that are read as a value, rising.
func keysWith(reads []impl.Pair, value int64) impl.IntsResult {
	var out impl.IntsResult
	for _, pair := range reads {
		if pair.Value == value {
			out.List = append(out.List, pair.Key)
		}
	}
	return out
}

func pairsWithin(reads []impl.Pair, low, high int64) impl.PairsResult {
	var out impl.PairsResult
	for _, pair := range reads {
		if low <= pair.Value && pair.Value <= high {
			out.Pairs = append(out.Pairs, pair)
		}
	}
	return out
}

// wantFound: by the index each open transaction finds just what it reads; answers how many keys were found.
func wantFound(t *testing.T, name string, e impl.Engine, index []impl.Pair, values []int64, d *dice) int {
	t.Helper()
	if fault := impl.IndexFault(e, index); fault != impl.OK {
		t.Fatalf("%s: %+v has the fault %d with %+v", name, index, fault, e)
	}
	found := 0
	for _, id := range impl.OpenTxns(e).List {
		reads := readsOf(e, id)
		low, high := values[d.upTo(int64(len(values)-1))], values[d.upTo(int64(len(values)-1))]
		for _, b := range [][2]int64{{0, lastValue}, {low, high}, {low, low}, {high, lastValue}, {math.MinInt64, low}} {
			if got, want := impl.ScanByValue(e, index, id, b[0], b[1]), pairsWithin(reads, b[0], b[1]); told(got) != told(want) {
				t.Fatalf("%s: %d scans from %d to %d %+v, want %+v, by %+v of %+v", name, id, b[0], b[1], got, want, index, e)
			}
		}
		for _, value := range values {
			got, want := impl.FindByValue(e, index, id, value), keysWith(reads, value)
			if told(got) != told(want) {
				t.Fatalf("%s: %d finds by %d %+v, want %+v, by %+v of %+v", name, id, value, got, want, index, e)
			}
			found += len(got.List)
		}
	}
	return found
}

func hasHad(e impl.Engine) bool {
	return slices.ContainsFunc(e.Txns, func(txn impl.Txn) bool {
		return slices.ContainsFunc(txn.Undos, func(u impl.Undo) bool { return u.Had })
	})
}

// Whatever is done to an engine, an index to which the pair of each put is added fits, and one finds by it what one reads; so by a built one and by a vacuumed one.
func TestByAnIndexOneFindsWhatOneReads(t *testing.T) {
	d := dice(82)
	steps, found, stale, purges, vacuums := 0, 0, 0, 0, 0
	done := map[int64]int{}
	for run := range 60 {
		keys, values := []int64{1, 2, 3, 5, 32}[run%5], []int64{1, 2, 4, 7, 99}[run/5%5]
		e := newEngine(cellsFrom(0, 1, []int64{0, 1, 2, 4, 20}[d.upTo(4)], 1)...)
		index := impl.BuildIndex(e).Pairs
		for range 90 {
			if d.upTo(9) == 0 {
				e = impl.PurgeEngine(e).Engine
				purges++
			}
			// What a roll may bring back is no version meanwhile: its pair would go, and not be put again.
			if d.upTo(19) == 0 && !hasHad(e) {
				index = impl.VacuumIndex(e, index).Pairs
				vacuums++
			}
			s := thrownStep(e, &d, keys)
			if s.kind == stepPut {
				s.value %= values + 1 // few values: many keys have the same
			}
			answer := doStep(e, s)
			if answer.Code != impl.OK {
				continue
			}
			e = answer.Engine
			done[s.kind]++
			if s.kind == stepPut {
				added := impl.AddPair(index, s.value, s.key)
				if want := addPairByHand(index, s.value, s.key); told(added) != told(want) {
					t.Fatalf("run %d: AddPair of %+v to %+v = %+v, want %+v", run, s, index, added, want)
				}
				index = added.Pairs
			}
			name := fmt.Sprintf("run %d, behind %+v", run, s)
			built, vacuumed := impl.BuildIndex(e), impl.VacuumIndex(e, index)
			if told(built) != told(vacuumed) || told(built) != told(impl.PairsResult{Pairs: buildIndexByHand(e)}) {
				t.Fatalf("%s: BuildIndex = %+v, VacuumIndex = %+v of %+v and %+v", name, built, vacuumed, e, index)
			}
			if fault := impl.IndexFault(e, index); fault != impl.OK {
				t.Fatalf("%s: the index %+v has the fault %d with %+v", name, index, fault, e)
			}
			stale += len(index) - len(built.Pairs)
			if steps++; steps%2 == 0 {
				asked := []int64{-1, 0, 9999, 10000}
				for _, pair := range index {
					asked = append(asked, pair.Value)
				}
				slices.Sort(asked)
				asked = slices.Compact(asked)
				found += wantFound(t, name, e, index, asked, &d) + wantFound(t, name+", built", e, built.Pairs, asked, &d) + wantFound(t, name+", vacuumed", e, vacuumed.Pairs, asked, &d)
			}
		}
	}
	if steps < 4000 || found < 50000 || stale < 10000 || purges < 400 || vacuums < 100 {
		t.Errorf("only %d steps, %d found, %d pairs of what is gone, %d purges, %d vacuums", steps, found, stale, purges, vacuums)
	}
	for kind := int64(stepBegin); kind <= stepRoll; kind++ {
		if done[kind] < 250 {
			t.Errorf("step %d was done only %d times", kind, done[kind])
		}
	}
}

func TestSomeEnginesAreFoundByValue(t *testing.T) {
	d := dice(83)
	for n, e := range enginesWithValues() {
		if n%3 > 0 {
			continue
		}
		index := impl.BuildIndex(e).Pairs
		asked := []int64{-1, 0, 50, 9999, 10000}
		for range 6 * min(len(index), 1) {
			asked = append(asked, index[d.upTo(int64(len(index)-1))].Value)
		}
		wantFound(t, fmt.Sprint("engine ", n), e, index, asked, &d)
		wantFound(t, fmt.Sprint("engine ", n, ", with more"), e, filledIndex(index, mostPairs), asked, &d)
	}
}

// finding: who finds which keys by a value.
type finding struct {
	id, value int64
	keys      []int64
}

// beginAll: so many more transactions begin.
func beginAll(e impl.Engine, count int) impl.Engine {
	for range count {
		e = impl.BeginTxn(e).Engine
	}
	return e
}

func doAll(t *testing.T, e impl.Engine, steps ...step) impl.Engine {
	t.Helper()
	for _, s := range steps {
		answer := doStep(e, s)
		if answer.Code != impl.OK {
			t.Fatalf("%+v is answered %d", s, answer.Code)
		}
		e = answer.Engine
	}
	return e
}

// Pairs of versions that are gone by now: keys 1 and 2 have 10 at first, 2 does what is told, 3 began ahead of it, and 4 begins behind it.
func TestPairsOfWhatIsGone(t *testing.T) {
	put := func(key, value int64) step { return step{stepPut, 2, key, value} }
	drop := func(key int64) step { return step{stepDrop, 2, key, 0} }
	roll := func(save int64) step { return step{stepRoll, 2, 0, save} }
	commit, abort := step{kind: stepCommit, txn: 2}, step{kind: stepAbort, txn: 2}
	first := indexOf(10, 1, 10, 2)
	for _, c := range []struct {
		name  string
		steps []step
		left  []impl.Pair // what VacuumIndex leaves
		found []finding
	}{
		{"nothing", nil, first, []finding{{2, 10, []int64{1, 2}}, {3, 10, []int64{1, 2}}, {4, 10, []int64{1, 2}}, {2, 5, nil}, {3, 5, nil}}},
		{"put", []step{put(1, 5)}, indexOf(5, 1, 10, 1, 10, 2), []finding{{2, 5, []int64{1}}, {2, 10, []int64{2}}, {3, 5, nil}, {3, 10, []int64{1, 2}}, {4, 5, nil}, {4, 10, []int64{1, 2}}}},
		{"put and committed", []step{put(1, 5), commit}, indexOf(5, 1, 10, 1, 10, 2), []finding{{3, 5, nil}, {3, 10, []int64{1, 2}}, {4, 5, []int64{1}}, {4, 10, []int64{2}}}},
		{"put as it was", []step{put(1, 10), commit}, first, []finding{{3, 10, []int64{1, 2}}, {4, 10, []int64{1, 2}}}},
		{"dropped", []step{drop(1)}, first, []finding{{2, 10, []int64{2}}, {3, 10, []int64{1, 2}}, {4, 10, []int64{1, 2}}}},
		{"dropped and committed", []step{drop(1), commit}, first, []finding{{3, 10, []int64{1, 2}}, {4, 10, []int64{2}}}},
		{"put and dropped", []step{put(7, 5), drop(7)}, first, []finding{{2, 5, nil}, {3, 5, nil}, {2, 10, []int64{1, 2}}}},
		{"put, dropped and committed", []step{put(7, 5), drop(7), commit}, first, []finding{{3, 5, nil}, {4, 5, nil}, {4, 0, nil}}},
		{"put, dropped and rolled back to the put", []step{put(7, 5), drop(7), roll(1)}, indexOf(5, 7, 10, 1, 10, 2), []finding{{2, 5, []int64{7}}, {3, 5, nil}, {4, 5, nil}}},
		{"put 0 and dropped", []step{put(1, 0), drop(1)}, first, []finding{{2, 0, nil}, {3, 0, nil}, {2, 10, []int64{2}}}},
		{"overwritten by oneself", []step{put(1, 5), put(1, 6)}, indexOf(6, 1, 10, 1, 10, 2), []finding{{2, 5, nil}, {2, 6, []int64{1}}, {3, 5, nil}, {3, 6, nil}, {3, 10, []int64{1, 2}}}},
		{"overwritten by oneself and committed", []step{put(1, 5), put(1, 6), commit}, indexOf(6, 1, 10, 1, 10, 2), []finding{{4, 5, nil}, {4, 6, []int64{1}}, {3, 5, nil}, {3, 6, nil}}},
		{"overwritten, and put again", []step{put(1, 5), put(1, 6), put(1, 5), commit}, indexOf(5, 1, 10, 1, 10, 2), []finding{{4, 5, []int64{1}}, {4, 6, nil}, {3, 5, nil}}},
		{"rolled back to the first", []step{put(1, 5), put(1, 6), roll(1)}, indexOf(5, 1, 10, 1, 10, 2), []finding{{2, 5, []int64{1}}, {2, 6, nil}, {3, 5, nil}, {3, 6, nil}}},
		{"rolled back whole", []step{put(1, 5), put(7, 6), put(1, 6), roll(0)}, first, []finding{{2, 5, nil}, {2, 6, nil}, {2, 10, []int64{1, 2}}, {3, 6, nil}, {4, 6, nil}}},
		{"rolled back and committed", []step{put(1, 5), put(7, 6), roll(0), commit}, first, []finding{{4, 5, nil}, {4, 6, nil}, {4, 10, []int64{1, 2}}}},
		{"aborted", []step{put(1, 5), put(2, 6), put(7, 7), drop(2), abort}, first, []finding{{3, 5, nil}, {4, 5, nil}, {4, 6, nil}, {4, 7, nil}, {3, 10, []int64{1, 2}}, {4, 10, []int64{1, 2}}}},
		{"overwritten by another since", []step{put(1, 5), commit, {kind: stepBegin}, {stepPut, 4, 1, 6}, {kind: stepCommit, txn: 4}}, indexOf(5, 1, 6, 1, 10, 1, 10, 2), []finding{{3, 5, nil}, {3, 6, nil}, {3, 10, []int64{1, 2}}, {5, 5, nil}, {5, 6, []int64{1}}, {5, 10, []int64{2}}}},
	} {
		e := beginAll(newEngine(cellsFrom(1, 1, 2, 10)...), 2)
		index := first
		for _, s := range c.steps {
			if e = doAll(t, e, s); s.kind == stepPut {
				index = impl.AddPair(index, s.value, s.key).Pairs
			}
		}
		e = impl.BeginTxn(e).Engine
		built := impl.BuildIndex(e).Pairs
		if vacuumed := impl.VacuumIndex(e, index); told(vacuumed) != told(impl.PairsResult{Pairs: c.left}) || !slices.Equal(built, c.left) {
			t.Errorf("%s: VacuumIndex = %+v, BuildIndex %+v, want %+v", c.name, vacuumed, built, c.left)
		}
		for _, by := range [][]impl.Pair{index, built, filledIndex(index, mostPairs)} {
			if fault := impl.IndexFault(e, by); fault != impl.OK {
				t.Errorf("%s: %+v has the fault %d", c.name, by, fault)
			}
			for _, f := range c.found {
				if got := impl.FindByValue(e, by, f.id, f.value); got.Code != impl.OK || !slices.Equal(got.List, f.keys) {
					t.Errorf("%s: %d finds by %d %+v, want %v", c.name, f.id, f.value, got, f.keys)
				}
			}
		}
	}
}

// What is purged is found by nobody, and its pairs may stay.
func TestPairsOfWhatIsPurged(t *testing.T) {
	e := beginAll(newEngine(cellsFrom(1, 1, 3, 10)...), 1)
	e = doAll(t, e, step{stepPut, 2, 1, 5}, step{stepDrop, 2, 2, 0}, step{kind: stepCommit, txn: 2}, step{kind: stepBegin})
	index := indexOf(5, 1, 10, 1, 10, 2, 10, 3)
	left := impl.PurgeEngine(e).Engine
	for name, c := range map[string]struct {
		engine impl.Engine
		built  []impl.Pair
	}{"ahead of the purge": {e, index}, "behind it": {left, indexOf(5, 1, 10, 3)}} {
		if got := impl.BuildIndex(c.engine); told(got) != told(impl.PairsResult{Pairs: c.built}) {
			t.Errorf("%s: BuildIndex = %+v, want %+v", name, got, c.built)
		}
		if got := impl.VacuumIndex(c.engine, index); told(got) != told(impl.PairsResult{Pairs: c.built}) {
			t.Errorf("%s: VacuumIndex = %+v, want %+v", name, got, c.built)
		}
		if got := impl.ScanByValue(c.engine, index, 3, 0, lastValue); told(got) != told(impl.PairsResult{Pairs: indexOf(5, 1, 10, 3)}) {
			t.Errorf("%s: ScanByValue = %+v", name, got)
		}
		if got := impl.FindByValue(c.engine, index, 3, 10); got.Code != impl.OK || !slices.Equal(got.List, []int64{3}) {
			t.Errorf("%s: FindByValue = %+v", name, got)
		}
	}
	// The purged one fits what is left of the index, the other one does not.
	wantCode(t, "purged", impl.VacuumIndex(left, indexOf(5, 1, 10, 3)), impl.OK)
	wantCode(t, "not purged", impl.VacuumIndex(e, indexOf(5, 1, 10, 3)), impl.ErrNone)
	// All rows may go.
	bare := doAll(t, left, step{stepDrop, 3, 1, 0}, step{stepDrop, 3, 3, 0}, step{kind: stepCommit, txn: 3}, step{kind: stepBegin})
	bare = impl.PurgeEngine(bare).Engine
	if got := impl.VacuumIndex(bare, index); len(bare.Rows) > 0 || told(got) != told(impl.PairsResult{}) {
		t.Errorf("of %+v VacuumIndex = %+v", bare, got)
	}
	if got := impl.ScanByValue(bare, index, 4, 0, lastValue); told(got) != told(impl.PairsResult{}) {
		t.Errorf("of nothing ScanByValue = %+v", got)
	}
}

// A version that only a roll can bring back has no pair: what a vacuum took is new when it comes again.
func TestRollBehindAVacuum(t *testing.T) {
	e := beginAll(newEngine(), 1)
	e = doAll(t, e, step{stepPut, 2, 4, 5}, step{stepPut, 2, 4, 6})
	whole, left := indexOf(5, 4, 6, 4), impl.VacuumIndex(e, indexOf(5, 4, 6, 4)).Pairs
	if !slices.Equal(left, indexOf(6, 4)) {
		t.Errorf("VacuumIndex leaves %+v", left)
	}
	rolled := doAll(t, e, step{stepRoll, 2, 0, 1})
	if impl.IndexFault(rolled, whole) != impl.OK || impl.IndexFault(rolled, left) != impl.ErrNone || impl.IndexFault(rolled, impl.AddPair(left, 5, 4).Pairs) != impl.OK {
		t.Errorf("faults of %+v: %d, %d", rolled, impl.IndexFault(rolled, whole), impl.IndexFault(rolled, left))
	}
}

func TestBuildIndexAsTold(t *testing.T) {
	of := func(rows ...impl.Row) impl.Engine {
		return impl.Engine{Next: 9, Clock: 9, Txns: []impl.Txn{doneAt(2, 1, 4), openAt(5, 9, firstOf(3)), abortedAt(7, 2), openAt(8, 9)}, Rows: rows}
	}
	open, gone := rowOf(3, wrote(5, 7)), rowOf(3, wroteGone(5))
	for _, c := range []struct {
		name   string
		engine impl.Engine
		pairs  []impl.Pair
	}{
		{"nothing", impl.Engine{Next: 1}, nil}, {"no rows", someOpen(5, 9, 3), nil}, {"no rows at the last clock", impl.Engine{Next: topTxn, Clock: topAt}, nil},
		{"one cell", newEngine(impl.Cell{Key: 4, Value: 30}), indexOf(30, 4)}, {"the edges", newEngine(impl.Cell{Key: 0, Value: 9999}, impl.Cell{Key: 31, Value: 0}), indexOf(0, 31, 9999, 0)}, {"the other edges", newEngine(impl.Cell{Key: 0, Value: 0}, impl.Cell{Key: 31, Value: 9999}), indexOf(0, 0, 9999, 31)},
		{"one value of several keys", newEngine(cellsFrom(2, 3, 4, 8)...), indexOf(8, 2, 8, 5, 8, 8, 8, 11)}, {"values that fall", newEngine(impl.Cell{Key: 1, Value: 50}, impl.Cell{Key: 2, Value: 40}, impl.Cell{Key: 3, Value: 50}, impl.Cell{Key: 4, Value: 5}), indexOf(5, 4, 40, 2, 50, 1, 50, 3)},
		{"a key that is above a value", newEngine(impl.Cell{Key: 1, Value: 31}, impl.Cell{Key: 30, Value: 2}), indexOf(2, 30, 31, 1)}, {"values by number, not by digits", newEngine(impl.Cell{Key: 1, Value: 100}, impl.Cell{Key: 2, Value: 99}, impl.Cell{Key: 11, Value: 99}), indexOf(99, 2, 99, 11, 100, 1)},
		{"not committed", of(open), indexOf(7, 3)}, {"gone, not committed", of(gone), nil}, {"not committed, and committed", of(rowOf(3, wrote(5, 7), done(1, 1, 6))), indexOf(6, 3, 7, 3)}, {"not committed, the same committed", of(rowOf(3, wrote(5, 7), done(1, 1, 7))), indexOf(7, 3)}, {"gone, not committed, and committed", of(rowOf(3, wroteGone(5), done(1, 1, 6))), indexOf(6, 3)},
		{"gone alone", of(rowOf(1, doneGone(1, 1)), open), indexOf(7, 3)}, {"gone ahead of one", of(rowOf(1, doneGone(2, 2), done(1, 1, 4)), open), indexOf(4, 1, 7, 3)}, {"gone between", of(rowOf(1, done(4, 4, 4), doneGone(2, 2), done(1, 1, 3)), open), indexOf(3, 1, 4, 1, 7, 3)}, {"gone at first", of(rowOf(1, done(4, 4, 4), doneGone(2, 2)), open), indexOf(4, 1, 7, 3)},
		{"gone, and 0", of(rowOf(1, doneGone(4, 4), done(2, 2, 0)), rowOf(2, doneGone(4, 4)), open), indexOf(0, 1, 7, 3)},
		{"a value in several versions", of(open, rowOf(4, done(5, 8, 7), doneGone(4, 6), done(3, 5, 7), done(2, 3, 6), done(1, 1, 7))), indexOf(6, 4, 7, 3, 7, 4)}, {"a value twice, next to each other", of(rowOf(2, done(5, 8, 9), done(4, 6, 9)), open), indexOf(7, 3, 9, 2)},
		{"the base", baseEngine(), indexOf(0, 20, 2, 2, 4, 4, 20, 2, 22, 2, 31, 31, 200, 20)}, {"the one of values", valuesEngine(), valuesIndex()},
	} {
		if fault := impl.EngineFault(c.engine); fault != impl.OK {
			t.Fatalf("%s: fault %d", c.name, fault)
		}
		if got := impl.BuildIndex(c.engine); told(got) != told(impl.PairsResult{Pairs: c.pairs}) || !slices.Equal(buildIndexByHand(c.engine), c.pairs) {
			t.Errorf("%s: BuildIndex = %+v, want %+v", c.name, got, c.pairs)
		}
		if fault := impl.IndexFault(c.engine, c.pairs); fault != impl.OK {
			t.Errorf("%s: IndexFault = %d", c.name, fault)
		}
		if got := impl.VacuumIndex(c.engine, filledIndex(c.pairs, len(c.pairs)+9)); told(got) != told(impl.PairsResult{Pairs: c.pairs}) {
			t.Errorf("%s: VacuumIndex = %+v, want %+v", c.name, got, c.pairs)
		}
	}
	if got := impl.BuildIndex(wideEngine()); got.Code != impl.OK || len(got.Pairs) != mostRows*mostVersions || impl.PairsFault(got.Pairs) != impl.OK {
		t.Errorf("of as many versions as there may be: %d, %d pairs", got.Code, len(got.Pairs))
	}
}

type faultyIndex struct {
	name  string
	index []impl.Pair
	code  int64
}

// pairsInRow: so many pairs, from a first one on.
func pairsInRow(first int64, count int) []impl.Pair {
	var out []impl.Pair
	for i := range int64(count) {
		out = append(out, pairOf((first+i)/32, (first+i)%32))
	}
	return out
}

func pairFaults() []faultyIndex {
	full, over := pairsInRow(0, mostPairs), pairsInRow(0, mostPairs+1)
	turned := func(index []impl.Pair, place int, pair impl.Pair) []impl.Pair {
		out := slices.Clone(index)
		out[place] = pair
		return out
	}
	out := []faultyIndex{
		{"no pairs", nil, impl.OK}, {"399 pairs", full[1:], impl.OK}, {"400 pairs", full, impl.OK}, {"401 pairs", over, impl.ErrMany}, {"many pairs", pairsInRow(0, 3000), impl.ErrMany},
		{"401 pairs, and a wrong one", turned(over, 0, pairOf(-1, 0)), impl.ErrMany}, {"401 pairs, that do not rise", turned(over, 9, pairOf(0, 0)), impl.ErrMany}, {"401 times one pair", slices.Repeat(indexOf(1, 1), 401), impl.ErrMany},
		{"the lowest and the highest", indexOf(0, 0, 9999, 31), impl.OK}, {"the other corners", indexOf(0, 31, 9999, 0), impl.OK},
		{"a pair twice", indexOf(5, 5, 5, 5), impl.ErrForm}, {"the lowest twice", indexOf(0, 0, 0, 0), impl.ErrForm}, {"a pair twice at the end", indexOf(1, 1, 5, 4, 5, 5, 5, 5), impl.ErrForm}, {"a pair again", indexOf(5, 5, 6, 1, 5, 5), impl.ErrForm},
		{"Keys of one Value fall", indexOf(5, 5, 5, 4), impl.ErrForm}, {"Keys of one Value rise", indexOf(5, 4, 5, 5), impl.OK}, {"Keys of one Value fall at the end", indexOf(1, 9, 5, 4, 5, 6, 5, 5), impl.ErrForm},
		{"Values fall", indexOf(5, 5, 4, 6), impl.ErrForm}, {"Values fall, Keys are alike", indexOf(5, 5, 4, 5), impl.ErrForm}, {"Values and Keys fall", indexOf(5, 5, 4, 4), impl.ErrForm}, {"Values fall by 1 at the end", indexOf(1, 0, 9, 0, 8, 31), impl.ErrForm}, {"Values rise, Keys fall", indexOf(4, 31, 5, 0), impl.OK}, {"Values rise, Keys are alike", indexOf(4, 3, 5, 3, 6, 3), impl.OK},
		{"400 pairs, the last as the one ahead", turned(full, 399, full[398]), impl.ErrForm}, {"400 pairs, the last one wrong", turned(full, 399, pairOf(12, 32)), impl.ErrRange}, {"400 pairs, the first one wrong", turned(full, 0, pairOf(0, -1)), impl.ErrRange},
		{"an order that is wrong ahead of a wrong number", indexOf(5, 5, 5, 5, 10000, 1), impl.ErrForm}, {"a wrong number ahead of an order that is wrong", indexOf(-1, 5, 5, 5, 5, 5), impl.ErrRange}, {"a wrong number that stands out of order", indexOf(5, 5, -1, 5), impl.ErrRange}, {"a wrong Key that stands out of order", indexOf(5, 5, 5, -1), impl.ErrRange},
	}
	for _, c := range []struct{ value, key, code int64 }{
		{-1, 3, impl.ErrRange}, {0, 3, impl.OK}, {1, 3, impl.OK}, {9999, 3, impl.OK}, {10000, 3, impl.ErrRange}, {math.MinInt64, 3, impl.ErrRange}, {math.MaxInt64, 3, impl.ErrRange},
		{50, -1, impl.ErrRange}, {50, 0, impl.OK}, {50, 31, impl.OK}, {50, 32, impl.ErrRange}, {50, math.MinInt64, impl.ErrRange}, {50, math.MaxInt64, impl.ErrRange}, {-1, -1, impl.ErrRange}, {10000, 32, impl.ErrRange}, {0, 0, impl.OK}, {9999, 31, impl.OK},
	} {
		name := fmt.Sprintf("Value %d and Key %d", c.value, c.key)
		out = append(out, faultyIndex{name, indexOf(c.value, c.key), c.code})
		if c.code != impl.OK {
			out = append(out, faultyIndex{name + " at the end", indexOf(1, 1, 40, 2, c.value, c.key), c.code}, faultyIndex{name + " at the front", indexOf(c.value, c.key, 50, 3), c.code})
		}
	}
	return out
}

func TestPairsFault(t *testing.T) {
	met := map[int64]int{}
	for _, f := range pairFaults() {
		met[f.code]++
		if got, by := impl.PairsFault(f.index), pairsFaultByHand(f.index); got != f.code || by != f.code {
			t.Errorf("%s: PairsFault = %d, by hand %d, want %d", f.name, got, by, f.code)
		}
	}
	if len(met) != 4 {
		t.Errorf("not all codes were met: %v", met)
	}
}

func TestAddPairAsTold(t *testing.T) {
	index := indexOf(5, 4, 5, 8, 20, 1, 20, 31)
	for _, c := range []struct {
		name       string
		index      []impl.Pair
		value, key int64
		want       []impl.Pair
	}{
		{"to none", nil, 7, 3, indexOf(7, 3)}, {"the lowest to none", nil, 0, 0, indexOf(0, 0)}, {"the highest to none", nil, 9999, 31, indexOf(9999, 31)},
		{"at the front by Value", index, 4, 31, indexOf(4, 31, 5, 4, 5, 8, 20, 1, 20, 31)}, {"at the front by Key", index, 5, 3, indexOf(5, 3, 5, 4, 5, 8, 20, 1, 20, 31)}, {"the lowest", index, 0, 0, indexOf(0, 0, 5, 4, 5, 8, 20, 1, 20, 31)},
		{"between Keys of one Value", index, 5, 5, indexOf(5, 4, 5, 5, 5, 8, 20, 1, 20, 31)}, {"behind the Keys of one Value", index, 5, 9, indexOf(5, 4, 5, 8, 5, 9, 20, 1, 20, 31)}, {"between Values", index, 6, 2, indexOf(5, 4, 5, 8, 6, 2, 20, 1, 20, 31)}, {"ahead of the Keys of one Value", index, 20, 0, indexOf(5, 4, 5, 8, 20, 0, 20, 1, 20, 31)}, {"between, by number", index, 9, 9, indexOf(5, 4, 5, 8, 9, 9, 20, 1, 20, 31)},
		{"at the end by Value", index, 21, 0, indexOf(5, 4, 5, 8, 20, 1, 20, 31, 21, 0)}, {"at the end by Key", index[:3], 20, 2, indexOf(5, 4, 5, 8, 20, 1, 20, 2)}, {"the highest", index, 9999, 31, indexOf(5, 4, 5, 8, 20, 1, 20, 31, 9999, 31)},
		{"there at the front", index, 5, 4, index}, {"there in between", index, 20, 1, index}, {"there at the end", index, 20, 31, index}, {"there alone", indexOf(7, 3), 7, 3, indexOf(7, 3)}, {"Value and Key changed about", indexOf(3, 7), 7, 3, indexOf(3, 7, 7, 3)},
	} {
		got, by := impl.AddPair(c.index, c.value, c.key), addPairByHand(c.index, c.value, c.key)
		if want := told(impl.PairsResult{Pairs: c.want}); told(got) != want || told(by) != want {
			t.Errorf("%s: AddPair = %+v, by hand %+v, want %s", c.name, got, by, want)
		}
	}
}

func TestAddPairToFullIndexes(t *testing.T) {
	full := pairsInRow(64, mostPairs) // Values 2 to 14
	for _, pair := range full {
		if got := impl.AddPair(full, pair.Value, pair.Key); got.Code != impl.OK || !slices.Equal(got.Pairs, full) {
			t.Fatalf("%+v is there: %+v", pair, got)
		}
	}
	for _, pair := range indexOf(0, 0, 1, 31, 14, 16, 9999, 31) {
		wantCode(t, fmt.Sprintf("%+v to 400", pair), impl.AddPair(full, pair.Value, pair.Key), impl.ErrMany)
		if got := impl.AddPair(full[1:], pair.Value, pair.Key); got.Code != impl.OK || len(got.Pairs) != mostPairs || !slices.Contains(got.Pairs, pair) || impl.PairsFault(got.Pairs) != impl.OK {
			t.Errorf("%+v to 399: %+v", pair, got)
		}
	}
	if got := impl.AddPair(slices.Delete(slices.Clone(full), 200, 201), full[200].Value, full[200].Key); got.Code != impl.OK || !slices.Equal(got.Pairs, full) {
		t.Errorf("in between to 399: %+v", got)
	}
}

func TestCodesOfAddPair(t *testing.T) {
	full := pairsInRow(0, mostPairs)
	for _, c := range []struct{ value, key, code int64 }{
		{-1, 3, impl.ErrRange}, {0, 3, impl.OK}, {9999, 3, impl.OK}, {10000, 3, impl.ErrRange}, {math.MinInt64, 3, impl.ErrRange}, {math.MaxInt64, 3, impl.ErrRange},
		{7, -1, impl.ErrRange}, {7, 0, impl.OK}, {7, 31, impl.OK}, {7, 32, impl.ErrRange}, {7, math.MinInt64, impl.ErrRange}, {7, math.MaxInt64, impl.ErrRange}, {-1, 32, impl.ErrRange}, {9999, 31, impl.OK}, {0, 0, impl.OK},
	} {
		for _, f := range pairFaults() {
			want := addPairByHand(f.index, c.value, c.key)
			code := f.code // the index's own fault comes first
			if code == impl.OK {
				code = c.code
			}
			if got := impl.AddPair(f.index, c.value, c.key); told(got) != told(want) || want.Code != code && want.Code != impl.ErrMany {
				t.Errorf("%s: AddPair %d, %d = %+v, want %d", f.name, c.value, c.key, got, code)
			}
		}
		if c.code != impl.OK { // ahead of there being no room
			wantCode(t, "to 400", impl.AddPair(full, c.value, c.key), impl.ErrRange)
			wantCode(t, "to none", impl.AddPair(nil, c.value, c.key), impl.ErrRange)
		}
	}
}

func TestIndexFaultAsTold(t *testing.T) {
	for name, e := range map[string]impl.Engine{"values": valuesEngine(), "base": baseEngine(), "wide": wideEngine(), "one": newEngine(impl.Cell{Key: 0, Value: 0})} {
		built := buildIndexByHand(e)
		ask := func(what string, index []impl.Pair, code int64) {
			t.Helper()
			if got := impl.IndexFault(e, index); got != code {
				t.Errorf("%s, %s: IndexFault = %d, want %d", name, what, got, code)
			}
			got := impl.VacuumIndex(e, index)
			wantCode(t, name+", "+what+": VacuumIndex", got, code)
			if code == impl.OK && !slices.Equal(got.Pairs, built) {
				t.Errorf("%s, %s: VacuumIndex = %+v, want %+v", name, what, got, built)
			}
		}
		ask("just it", built, impl.OK)
		ask("none", nil, impl.ErrNone)
		for _, count := range []int{len(built) + 1, len(built) + 7, mostPairs} {
			ask("more", filledIndex(built, count), impl.OK)
		}
		for _, other := range indexOf(0, 1, 51, 17, 9999, 30) {
			ask(fmt.Sprintf("with %+v", other), sortedPairs(append(slices.Clone(built), other)), impl.OK)
		}
		ask("too many", filledIndex(built, mostPairs+1), impl.ErrMany)
		for place, pair := range built {
			lacks := slices.Delete(slices.Clone(built), place, place+1)
			ask(fmt.Sprint("without place ", place), lacks, impl.ErrNone)
			if place%50 == 0 || place == len(built)-1 {
				others := slices.DeleteFunc(filledIndex(built, mostPairs), func(p impl.Pair) bool { return p == pair })
				ask(fmt.Sprint("without place ", place, ", with others"), others, impl.ErrNone)
				beside := slices.Clone(lacks) // as many, but another Key or Value
				if other := pairOf(pair.Value, (pair.Key+5)%32); !slices.Contains(built, other) {
					ask(fmt.Sprint("another Key at place ", place), sortedPairs(append(beside, other)), impl.ErrNone)
				}
				if other := pairOf((pair.Value+1)%10000, pair.Key); !slices.Contains(built, other) {
					ask(fmt.Sprint("another Value at place ", place), sortedPairs(append(slices.Clone(lacks), other)), impl.ErrNone)
				}
			}
		}
	}
	for _, e := range []impl.Engine{{Next: 1}, someOpen(5, 9, 3), {Next: 3, Clock: 4, Rows: []impl.Row{rowOf(3, doneGone(1, 4))}}} {
		for _, index := range [][]impl.Pair{nil, {}, indexOf(0, 3), pairsInRow(0, mostPairs)} {
			if got := impl.IndexFault(e, index); got != impl.OK {
				t.Errorf("of no pairs IndexFault with %+v = %d", index, got)
			}
			if got := impl.VacuumIndex(e, index); got.Code != impl.OK || len(got.Pairs) > 0 {
				t.Errorf("of no pairs VacuumIndex = %+v", got)
			}
		}
		if got := impl.IndexFault(e, indexOf(0, 32)); got != impl.ErrRange {
			t.Errorf("of no pairs IndexFault with a wrong pair = %d", got)
		}
	}
}

func TestFindByValueAsTold(t *testing.T) {
	for _, c := range []struct {
		name   string
		engine impl.Engine
		found  []finding
	}{
		{"values", valuesEngine(), []finding{
			{5, 50, []int64{1, 2, 4, 9}}, {5, 10, []int64{3}}, {5, 0, []int64{0}}, {5, 9999, []int64{31}}, {5, 70, nil}, {5, 49, nil}, {5, 51, nil}, {5, -1, nil}, {5, 10000, nil}, {5, math.MinInt64, nil}, {5, math.MaxInt64, nil},
			{8, 50, []int64{2, 3}}, {8, 10, []int64{1, 9}}, {8, 0, []int64{0}}, {8, 9999, []int64{31}}, {8, 70, nil}, {8, 1, nil}, {8, -1, nil}, {8, 10000, nil}}},
		{"base", baseEngine(), []finding{
			{5, 22, []int64{2}}, {5, 20, nil}, {5, 2, nil}, {5, 21, nil}, {5, 4, nil}, {5, 0, nil}, {5, 200, nil}, {5, 31, []int64{31}},
			{8, 22, nil}, {8, 20, []int64{2}}, {8, 2, nil}, {8, 200, []int64{20}}, {8, 0, nil}, {8, 4, nil}, {8, 31, []int64{31}},
			{9, 22, nil}, {9, 20, []int64{2}}, {9, 200, nil}, {9, 0, []int64{20}}, {9, 31, []int64{31}}}},
		{"all keys of one value", impl.BeginTxn(newEngine(cellsFrom(0, 1, 20, 7)...)).Engine, []finding{{2, 7, []int64{0, 1, 2, 3, 4, 5, 6, 7, 8, 9, 10, 11, 12, 13, 14, 15, 16, 17, 18, 19}}, {2, 6, nil}, {2, 8, nil}}},
		{"nothing", beginAll(newEngine(), 1), []finding{{2, 0, nil}, {2, -1, nil}, {2, 9999, nil}}},
	} {
		built := impl.BuildIndex(c.engine).Pairs
		for _, index := range [][]impl.Pair{built, filledIndex(built, len(built)+9), filledIndex(built, mostPairs), sortedPairs(slices.Concat(built, indexOf(70, 1, 21, 2, 51, 0)))} {
			for _, f := range c.found {
				if got := impl.FindByValue(c.engine, index, f.id, f.value); got.Code != impl.OK || !slices.Equal(got.List, f.keys) {
					t.Errorf("%s: %d finds by %d %+v, want %v, by %+v", c.name, f.id, f.value, got, f.keys, index)
				}
			}
		}
	}
}

func TestScanByValueAsTold(t *testing.T) {
	e := valuesEngine()
	five, eight := indexOf(0, 0, 10, 3, 50, 1, 50, 2, 50, 4, 50, 9, 9999, 31), indexOf(0, 0, 10, 1, 10, 9, 50, 2, 50, 3, 9999, 31)
	for _, c := range []struct {
		low, high   int64
		five, eight []impl.Pair
	}{
		{0, 9999, five, eight}, {math.MinInt64, math.MaxInt64, five, eight}, {-1, 10000, five, eight}, {0, 9998, five[:6], eight[:5]}, {1, 9999, five[1:], eight[1:]},
		{10, 50, five[1:6], eight[1:5]}, {10, 49, five[1:2], eight[1:3]}, {11, 50, five[2:6], eight[3:5]}, {11, 49, nil, nil}, {9, 51, five[1:6], eight[1:5]},
		{50, 50, five[2:6], eight[3:5]}, {10, 10, five[1:2], eight[1:3]}, {0, 0, five[:1], eight[:1]}, {9999, 9999, five[6:], eight[5:]}, {49, 49, nil, nil}, {51, 51, nil, nil}, {-1, -1, nil, nil}, {10000, 10000, nil, nil},
		{50, 10, nil, nil}, {9999, 0, nil, nil}, {math.MaxInt64, math.MinInt64, nil, nil}, {51, 50, nil, nil}, {50, 49, nil, nil},
		{math.MinInt64, 0, five[:1], eight[:1]}, {9999, math.MaxInt64, five[6:], eight[5:]}, {math.MinInt64, -1, nil, nil}, {10000, math.MaxInt64, nil, nil}, {51, 9998, nil, nil},
	} {
		for _, index := range [][]impl.Pair{valuesIndex(), filledIndex(valuesIndex(), mostPairs), sortedPairs(slices.Concat(valuesIndex(), indexOf(0, 31, 9999, 0, 50, 0, 70, 1)))} {
			for id, want := range map[int64][]impl.Pair{5: c.five, 8: c.eight} {
				if got := impl.ScanByValue(e, index, id, c.low, c.high); told(got) != told(impl.PairsResult{Pairs: want}) {
					t.Errorf("%d scans from %d to %d %+v, want %+v", id, c.low, c.high, got, want)
				}
			}
		}
	}
	wide := wideEngine()
	for id, value := range map[int64]int64{5: 940, 7: 1000} { // 5 began at 60, and 58 is the last commit that it sees
		got := impl.ScanByValue(wide, filledIndex(buildIndexByHand(wide), mostPairs), id, 0, lastValue)
		if got.Code != impl.OK || len(got.Pairs) != mostRows || got.Pairs[0] != pairOf(value, 0) || got.Pairs[31] != pairOf(value+3, 31) {
			t.Errorf("%d scans %+v", id, got)
		}
	}
}

// wantLookCode asks for a code of both that look by an index, whatever is looked for.
func wantLookCode(t *testing.T, name string, e impl.Engine, index []impl.Pair, id, code int64) {
	t.Helper()
	for _, value := range []int64{-1, 0, 50, 10000} {
		wantCode(t, name+": FindByValue", impl.FindByValue(e, index, id, value), code)
		wantCode(t, name+": ScanByValue", impl.ScanByValue(e, index, id, value, 9999-value), code)
	}
}

// The engine's fault comes ahead of the index's own, that ahead of a pair that is not there, that ahead of a transaction that is not there or has ended.
func TestCodesOfIndexes(t *testing.T) {
	faults := pairFaults()
	indexes := [][]impl.Pair{nil, filledIndex(nil, mostPairs), faults[3].index, indexOf(5, 5, 5, 5), indexOf(-1, 0)}
	for _, f := range append(engineFaults(), chainFaultsInRows()...) {
		if wantCode(t, f.name+": BuildIndex", impl.BuildIndex(f.engine), f.code); f.code == impl.OK {
			continue
		}
		for _, index := range append(indexes, buildIndexByHand(f.engine)) {
			if got := impl.IndexFault(f.engine, index); got != f.code {
				t.Errorf("%s: IndexFault = %d, want %d", f.name, got, f.code)
			}
			wantCode(t, f.name+": VacuumIndex", impl.VacuumIndex(f.engine, index), f.code)
			for _, id := range []int64{5, 3, 4} {
				wantCode(t, f.name+": FindByValue", impl.FindByValue(f.engine, index, id, 50), f.code)
				wantCode(t, f.name+": ScanByValue", impl.ScanByValue(f.engine, index, id, 0, 9), f.code)
			}
		}
	}
	e := baseEngine()
	for _, f := range faults {
		code := f.code
		if code == impl.OK {
			code = impl.ErrNone // it lacks all that the engine has
		}
		if got := impl.IndexFault(e, f.index); got != code {
			t.Errorf("%s: IndexFault = %d, want %d", f.name, got, code)
		}
		wantCode(t, f.name+": VacuumIndex", impl.VacuumIndex(e, f.index), code)
		for _, id := range []int64{5, 3, 4, -1} {
			wantLookCode(t, f.name, e, f.index, id, code)
		}
	}
	built := buildIndexByHand(e)
	for id, code := range map[int64]int64{5: impl.OK, 8: impl.OK, 9: impl.OK, 3: impl.ErrState, 6: impl.ErrState, 11: impl.ErrState, 4: impl.ErrNone, 2: impl.ErrNone, 12: impl.ErrNone, 0: impl.ErrNone, -1: impl.ErrNone, 1000: impl.ErrNone, math.MinInt64: impl.ErrNone, math.MaxInt64: impl.ErrNone} {
		wantLookCode(t, fmt.Sprint("transaction ", id), e, built, id, code)
		wantLookCode(t, fmt.Sprint("transaction ", id, ", more"), e, filledIndex(built, mostPairs), id, code)
		for place := range built {
			wantLookCode(t, fmt.Sprint("transaction ", id, ", without place ", place), e, slices.Delete(slices.Clone(built), place, place+1), id, impl.ErrNone)
		}
	}
	wantLookCode(t, "nobody in nothing", impl.Engine{Next: 1}, nil, 1, impl.ErrNone)
	wantLookCode(t, "one who has ended in nothing", impl.Engine{Next: 3, Txns: []impl.Txn{abortedAt(2, 0)}}, nil, 2, impl.ErrState)
	wantLookCode(t, "a zero engine", impl.Engine{}, nil, 0, impl.ErrRange)
}

func indexWithRoom(index []impl.Pair) []impl.Pair {
	return append(make([]impl.Pair, 0, len(index)+3), index...)
}

func someSought() []sought {
	return []sought{{5, 50, 9999, 3}, {2, 0, 9999, 0}, {8, 10, 50, 31}, {3, 7, 7, 7}, {7, 1000, 0, 40}, {-1, -1, -1, -1}, {900, 0, 9999, 31}, {5, 22, 22, 2}}
}

func TestIndexArgumentsStay(t *testing.T) {
	d := dice(84)
	for n, e := range append(enginesToAsk(), valuesEngine(), wideEngine()) {
		with := engineWithRoom(e)
		before := engineRoom(with)
		for i, index := range indexesNear(e, &d) {
			room := indexWithRoom(index)
			was := wholeRoom(room)
			tellIndex(with, room, someSought()[(n+i)%8])
			for _, pair := range index[:min(len(index), 3)] { // one that is there
				impl.AddPair(room, pair.Value, pair.Key)
			}
			if !slices.Equal(wholeRoom(room), was) || !slices.Equal(room, index) {
				t.Fatalf("engine %d, index %d was changed from %+v to %+v", n, i, index, room)
			}
		}
		if engineRoom(with) != before || !sameEngine(with, e) {
			t.Fatalf("engine %d was changed from %+v to %+v", n, e, with)
		}
	}
}

// indexAnswers: each list that is answered, of pairs and of keys.
func indexAnswers(e impl.Engine, index []impl.Pair) (pairs [][]impl.Pair, keys [][]int64) {
	pairs = [][]impl.Pair{impl.BuildIndex(e).Pairs, impl.VacuumIndex(e, index).Pairs, impl.AddPair(index, 9999, 31).Pairs, impl.AddPair(index, 0, 0).Pairs}
	if len(index) > 0 {
		last := index[len(index)-1]
		pairs = append(pairs, impl.AddPair(index, last.Value, last.Key).Pairs, impl.AddPair(index, index[0].Value, index[0].Key).Pairs)
	}
	for _, id := range openByHand(e).List {
		pairs = append(pairs, impl.ScanByValue(e, index, id, 0, lastValue).Pairs)
		for _, pair := range index[:min(len(index), 4)] {
			keys = append(keys, impl.FindByValue(e, index, id, pair.Value).List)
		}
	}
	return pairs, keys
}

func TestIndexAnswersAreNewMemory(t *testing.T) {
	for n, e := range enginesWithValues() {
		if n%3 > 0 {
			continue
		}
		with, index := engineWithRoom(e), indexWithRoom(buildIndexByHand(e))
		before, was := engineRoom(with), wholeRoom(index)
		pairs, keys := indexAnswers(with, index)
		others, otherKeys := indexAnswers(with, index)
		want := told([]any{others, otherKeys})
		for i, list := range pairs {
			spoil(list, pairOf(-100-int64(i), -5))
		}
		for i, list := range keys {
			spoil(list, -100-int64(i))
		}
		if told([]any{others, otherKeys}) != want || engineRoom(with) != before || !slices.Equal(wholeRoom(index), was) {
			t.Fatalf("engine %d: an answer shares memory with another or with an argument", n)
		}
		for i, list := range pairs { // each one in its own way, and still so
			if slices.ContainsFunc(wholeRoom(list), func(p impl.Pair) bool { return p.Value != -100-int64(i) }) {
				t.Fatalf("engine %d: two lists of pairs share memory", n)
			}
		}
		for i, list := range keys {
			if slices.ContainsFunc(wholeRoom(list), func(key int64) bool { return key != -100-int64(i) }) {
				t.Fatalf("engine %d: two lists of keys share memory", n)
			}
		}
		spoilEngine(with)
		spoil(index, pairOf(-7, -7))
		if told([]any{others, otherKeys}) != want {
			t.Fatalf("engine %d: an answer hangs on what its arguments became", n)
		}
	}
}

// An index may be a piece of a longer list, and the rows of an engine pieces of one.
func TestIndexOfPiecesStays(t *testing.T) {
	versions := chainOf(wrote(5, 22), done(1, 2, 2), done(1, 1, 1), doneGone(1, 2), done(1, 1, 2), done(1, 3, 8))
	e := impl.Engine{Next: 9, Clock: 3, Txns: []impl.Txn{openAt(5, 3, firstOf(2)), openAt(8, 2)}, Rows: []impl.Row{rowOf(2, versions[:3]...), rowOf(4, versions[3:5]...), rowOf(8, versions[5:]...)}}
	all := append(buildIndexByHand(e), indexOf(3, 3, 9000, 9)...)
	index := all[:len(all)-2]
	before, was := copyEngine(e), slices.Clone(all)
	for _, id := range idsNear(e) {
		for value := range int64(24) {
			s := sought{id, value, value + 5, value % 9}
			if got, want := tellIndex(e, index, s), tellIndexByHand(before, was[:len(index)], s); got != want || !sameEngine(e, before) || !slices.Equal(all, was) {
				t.Fatalf("%+v: %s, want %s, of %+v and %+v", s, got, want, e, all)
			}
		}
	}
}

func TestNilAndEmptyListsOfIndexesAreAlike(t *testing.T) {
	for n, e := range enginesToAsk() {
		built := buildIndexByHand(e)
		for _, s := range someSought() {
			if a, b := tellIndex(withNilLists(e), nil, s), tellIndex(withEmptyLists(e), []impl.Pair{}, s); a != b {
				t.Fatalf("engine %d: with nil %s, with empty lists %s", n, a, b)
			}
		}
		s := someSought()[n%8]
		if a, b := tellIndex(withNilLists(e), built, s), tellIndex(withEmptyLists(e), built, s); a != b {
			t.Fatalf("engine %d: with nil %s, with empty lists %s", n, a, b)
		}
	}
}

// What is told out of a map has the same order at every call.
func TestIndexIsTheSameAtEveryCall(t *testing.T) {
	for n, e := range []impl.Engine{valuesEngine(), wideEngine(), fullEngine(), baseEngine()} {
		built := buildIndexByHand(e)
		for i, index := range [][]impl.Pair{built, filledIndex(built, mostPairs-1), built[1:], indexOf(9, 9)} {
			for _, s := range []sought{{5, 50, 9999, 3}, {7, 0, 9999, 31}} {
				want := tellIndexByHand(e, index, s)
				for range 12 {
					if got := tellIndex(e, index, s); got != want {
						t.Fatalf("engine %d, index %d: %s, want %s", n, i, got, want)
					}
				}
			}
		}
	}
}

func TestIndexesKeepNothing(t *testing.T) {
	wantSameAgain(t, append(enginesToAsk(), valuesEngine(), wideEngine()), func(e impl.Engine) string {
		built := buildIndexByHand(e)
		return tellIndex(e, built, sought{5, 50, 9999, 3}) + tellIndex(e, filledIndex(built, len(built)+3), sought{e.Next - 1, 0, 9999, 4}) + tellIndex(e, nil, sought{3, 1, 2, 32})
	})
}

func TestIndexesNeverPanic(t *testing.T) {
	numbers := []int64{math.MinInt64, -1, 0, 1, 2, 3, 5, 31, 32, 400, 999, 1000, 9999, 10000, topAt, topAt + 1, math.MaxInt64}
	d := dice(85)
	pick := func() int64 { return numbers[d.upTo(int64(len(numbers)-1))] }
	for range 4000 {
		e := baseEngine()
		if d.upTo(1) == 0 {
			e = thrownEngineTurn(e, &d)
		}
		index := buildIndexByHand(e)
		for range d.upTo(3) {
			index = append(index, pairOf(pick(), pick()))
		}
		s := sought{pick(), pick(), pick(), pick()}
		mustPanicNever(t, told(e), func() { tellIndex(e, index, s) })
	}
	mustPanicNever(t, "a zero engine", func() { tellIndex(impl.Engine{}, nil, sought{}) })
	mustPanicNever(t, "a very long index", func() {
		tellIndex(baseEngine(), slices.Repeat(valuesIndex(), 5000), sought{5, 0, 9999, 3})
	})
}
