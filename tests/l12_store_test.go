package tests

import (
	"bytes"
	"fmt"
	"math"
	"slices"
	"strings"
	"testing"

	"loop.example/g00216/impl"
)

const mostOpen = 20
const mostLog = 4000

func heldOf(txn, key int64) impl.Held { return impl.Held{Txn: txn, Key: key} }

func newStore(next int64) impl.Store { return impl.NewStore(next).Store }

func copyStore(s impl.Store) impl.Store {
	s.Pages, s.Disk, s.Log = slices.Clone(s.Pages), copyDisk(s.Disk), copyLog(s.Log)
	s.Held, s.Open = slices.Clone(s.Held), slices.Clone(s.Open)
	for id := range s.Pages {
		s.Pages[id] = copyPage(s.Pages[id])
	}
	return s
}

func sameStore(a, b impl.Store) bool {
	return a.Next == b.Next && slices.EqualFunc(a.Pages, b.Pages, samePage) && sameDisk(a.Disk, b.Disk) && sameLog(a.Log, b.Log) && slices.Equal(a.Held, b.Held) && slices.Equal(a.Open, b.Open)
}

func recsOfStore(s impl.Store) []impl.Rec {
	return recsByHand(slices.Concat(s.Log.Sure, s.Log.Loose)).Recs
}

// storeAct: what is asked of a store: to begin (b), put (p), get (g), commit (c), abort (a), flush (f: key is the page), tell all (m), tell the fault (x).
type storeAct struct {
	kind     byte
	txn, key int64
	has      bool
	value    int64
}

func putAct(txn, key, value int64) storeAct { return storeAct{'p', txn, key, true, value} }
func cutAct(txn, key int64) storeAct        { return storeAct{kind: 'p', txn: txn, key: key} }

// storeActsIn reads words: b, p1.5=7, p1.5- (nothing is put), g5, c1, a1, f3, m.
func storeActsIn(text string) []storeAct {
	var out []storeAct
	for _, word := range strings.Fields(text) {
		a := storeAct{kind: word[0], has: strings.Contains(word, "=")}
		switch numbers := strings.NewReplacer(".", " ", "=", " ", "-", " ").Replace(word[1:]); a.kind {
		case 'p':
			fmt.Sscan(numbers, &a.txn, &a.key, &a.value)
		case 'g', 'f':
			fmt.Sscan(numbers, &a.key)
		case 'c', 'a':
			fmt.Sscan(numbers, &a.txn)
		}
		out = append(out, a)
	}
	return out
}

func askStore(s impl.Store, a storeAct) any {
	switch a.kind {
	case 'b':
		return impl.BeginStore(s)
	case 'p':
		return impl.PutStore(s, a.txn, a.key, a.has, a.value)
	case 'g':
		return impl.GetStore(s, a.key)
	case 'c':
		return impl.CommitStore(s, a.txn)
	case 'a':
		return impl.AbortStore(s, a.txn)
	case 'f':
		return impl.FlushPage(s, a.key)
	case 'm':
		return impl.MapOf(s)
	}
	return impl.IntResult{Code: impl.StoreFault(s)}
}

// turnedByAct: what a store is behind an act; as it was, where there is a code or nothing is turned.
func turnedByAct(s impl.Store, answer any) impl.Store {
	if r, ok := answer.(impl.StoreResult); ok && r.Code == impl.OK {
		return r.Store
	}
	return s
}

func codeOfAnswer(answer any) int64 {
	switch r := answer.(type) {
	case impl.StoreResult:
		return r.Code
	case impl.IntResult:
		return r.Code
	case impl.CellsResult:
		return r.Code
	}
	return -1
}

func sameStoreAnswer(a, b any) bool {
	one, ok := a.(impl.StoreResult)
	two, also := b.(impl.StoreResult)
	if ok && also {
		return one.Code == two.Code && one.Value == two.Value && sameStore(one.Store, two.Store)
	}
	return ok == also && told(a) == told(b)
}

// storeBehind does acts that all have no code.
func storeBehind(t *testing.T, s impl.Store, acts string) impl.Store {
	t.Helper()
	for place, a := range storeActsIn(acts) {
		answer := askStore(s, a)
		if code := codeOfAnswer(answer); code != impl.OK {
			t.Fatalf("%s: act %d has the code %d", acts, place, code)
		}
		s = turnedByAct(s, answer)
	}
	return s
}

func storeFaultByHand(s impl.Store) int64 {
	if s.Next < 1 || s.Next >= 1000 {
		return impl.ErrRange
	}
	if len(s.Pages) != 4 {
		return impl.ErrForm
	}
	for id, p := range s.Pages {
		if code := impl.PageFault(p); code != impl.OK {
			return code
		}
		for _, c := range p.Cells {
			if c.Key != c.Key/4*4+int64(id) {
				return impl.ErrForm
			}
		}
		if p.Id != int64(id) {
			return impl.ErrForm
		}
	}
	if code := impl.DiskFault(s.Disk); code != impl.OK {
		return code
	}
	if len(s.Disk.Pages) != 4 {
		return impl.ErrForm
	}
	if code := impl.LogFault(s.Log); code != impl.OK {
		return code
	}
	last := int64(0)
	for _, txn := range s.Open {
		if txn < 1 || txn >= s.Next {
			return impl.ErrRange
		}
		if txn <= last {
			return impl.ErrForm
		}
		last = txn
	}
	last = -1
	for _, h := range s.Held {
		switch {
		case h.Key < 0 || h.Key > 31:
			return impl.ErrRange
		case !slices.Contains(s.Open, h.Txn):
			return impl.ErrNone
		case h.Key <= last:
			return impl.ErrForm
		}
		last = h.Key
	}
	return impl.OK
}

func mapByHand(s impl.Store) []impl.Cell {
	has := map[int64]int64{}
	for _, p := range s.Pages {
		for _, c := range p.Cells {
			has[c.Key] = c.Value
		}
	}
	return cellsOfMap(has)
}

// loggedByHand: with the records behind all others, and done to the pages; whether there was room.
func loggedByHand(s impl.Store, recs ...impl.Rec) (impl.Store, bool) {
	s = copyStore(s)
	for _, r := range recs {
		s.Log.Loose = append(s.Log.Loose, packRecByHand(r)...)
		size := len(s.Log.Sure) + len(s.Log.Loose)
		if size > mostLog {
			return impl.Store{}, false
		}
		if r.Kind == impl.KindPut || r.Kind == impl.KindUndo {
			id := r.Key % 4
			s.Pages[id] = impl.Page{Id: id, Lsn: int64(size / recSize), Cells: wanted(s.Pages[id].Cells, r.Key, r.Has, r.New)}
		}
	}
	return s, true
}

func beginStoreByHand(s impl.Store) impl.StoreResult {
	next := s.Next
	if next > 998 || len(s.Open) >= mostOpen {
		return impl.StoreResult{Code: impl.ErrMany}
	}
	s, room := loggedByHand(s, begin(next))
	if !room {
		return impl.StoreResult{Code: impl.ErrMany}
	}
	s.Next, s.Open = next+1, append(s.Open, next)
	return impl.StoreResult{Value: next, Store: s}
}

func putStoreByHand(s impl.Store, a storeAct) impl.StoreResult {
	holder := int64(0)
	for _, h := range s.Held {
		if h.Key == a.key {
			holder = h.Txn
		}
	}
	code := int64(impl.OK)
	switch {
	case !slices.Contains(s.Open, a.txn):
		code = impl.ErrNone
	case !inBounds(a.key, 31) || !inBounds(a.value, 9999):
		code = impl.ErrRange
	case !a.has && a.value != 0:
		code = impl.ErrForm
	case holder != 0 && holder != a.txn:
		code = impl.ErrConflict
	}
	if code != impl.OK {
		return impl.StoreResult{Code: code}
	}
	old, had := mapOfCells(mapByHand(s))[a.key]
	s, room := loggedByHand(s, impl.Rec{Kind: impl.KindPut, Txn: a.txn, Key: a.key, Had: had, Old: old, Has: a.has, New: a.value})
	if !room {
		return impl.StoreResult{Code: impl.ErrMany}
	}
	if holder == 0 {
		s.Held = append(s.Held, heldOf(a.txn, a.key))
		slices.SortFunc(s.Held, func(a, b impl.Held) int { return int(a.Key - b.Key) })
	}
	return impl.StoreResult{Store: s}
}

// endStoreByHand: the ones that are left are gone through, and the records of the end are logged.
func endStoreByHand(s impl.Store, txn int64, recs ...impl.Rec) impl.StoreResult {
	if !slices.Contains(s.Open, txn) {
		return impl.StoreResult{Code: impl.ErrNone}
	}
	s, room := loggedByHand(s, recs...)
	if !room {
		return impl.StoreResult{Code: impl.ErrMany}
	}
	s.Open = slices.DeleteFunc(s.Open, func(open int64) bool { return open == txn })
	s.Held = slices.DeleteFunc(s.Held, func(h impl.Held) bool { return h.Txn == txn })
	return impl.StoreResult{Store: s}
}

func commitStoreByHand(s impl.Store, txn int64) impl.StoreResult {
	out := endStoreByHand(s, txn, commit(txn))
	if out.Code == impl.OK {
		out.Store.Log = impl.Log{Sure: slices.Concat(out.Store.Log.Sure, out.Store.Log.Loose)}
	}
	return out
}

func abortStoreByHand(s impl.Store, txn int64) impl.StoreResult {
	var recs []impl.Rec
	all := recsOfStore(s)
	for _, number := range chainByHand(all, txn) {
		p := all[number-1]
		recs = append(recs, impl.Rec{Kind: impl.KindUndo, Txn: txn, Key: p.Key, Had: p.Has, Old: p.New, Has: p.Had, New: p.Old, Back: number})
	}
	return endStoreByHand(s, txn, append(recs, impl.Rec{Kind: impl.KindAbort, Txn: txn})...)
}

func flushByHand(s impl.Store, id int64) impl.StoreResult {
	if id < 0 || id > 3 {
		return impl.StoreResult{Code: impl.ErrRange}
	}
	s = copyStore(s)
	if int(s.Pages[id].Lsn) > len(s.Log.Sure)/recSize {
		s.Log = impl.Log{Sure: slices.Concat(s.Log.Sure, s.Log.Loose)}
	}
	if len(s.Disk.Loose) > 57 {
		s.Disk = doneByHand(s.Disk, all)
	}
	s.Disk = writeByHand(s.Disk, id, packByHand(s.Pages[id]))
	return impl.StoreResult{Store: s}
}

func getStoreByHand(s impl.Store, key int64) impl.IntResult {
	value, found := mapOfCells(mapByHand(s))[key]
	switch {
	case !inBounds(key, 31):
		return impl.IntResult{Code: impl.ErrRange}
	case !found:
		return impl.IntResult{Code: impl.ErrNone}
	}
	return impl.IntResult{Value: value}
}

func askStoreByHand(s impl.Store, a storeAct) any {
	code := storeFaultByHand(s)
	switch {
	case a.kind == 'x' || a.kind == 'g' && code != impl.OK:
		return impl.IntResult{Code: code}
	case a.kind == 'm' && code != impl.OK:
		return impl.CellsResult{Code: code}
	case code != impl.OK:
		return impl.StoreResult{Code: code}
	}
	switch a.kind {
	case 'b':
		return beginStoreByHand(s)
	case 'p':
		return putStoreByHand(s, a)
	case 'g':
		return getStoreByHand(s, a.key)
	case 'c':
		return commitStoreByHand(s, a.txn)
	case 'a':
		return abortStoreByHand(s, a.txn)
	case 'f':
		return flushByHand(s, a.key)
	}
	return impl.CellsResult{Cells: mapByHand(s)}
}

// wantStoreTold asks, holds the answer against that by hand, and answers the store behind it.
func wantStoreTold(t *testing.T, name string, s impl.Store, a storeAct) (any, impl.Store) {
	t.Helper()
	got, want := askStore(s, a), askStoreByHand(s, a)
	if !sameStoreAnswer(got, want) {
		t.Fatalf("%s: %c of %+v, of\n%+v\nis %+v, want\n%+v", name, a.kind, a, s, got, want)
	}
	if codeOfAnswer(got) != impl.OK {
		wantCode(t, name, got, codeOfAnswer(got))
	}
	return got, turnedByAct(s, got)
}

// thrownStoreAct: mostly such as have no code.
func thrownStoreAct(s impl.Store, d *dice, keys int64) storeAct {
	if len(s.Open) == 0 || len(s.Open) < 5 && d.upTo(7) == 0 {
		return storeAct{kind: 'b'}
	}
	txn, key := s.Open[d.upTo(int64(len(s.Open)-1))], d.upTo(keys-1)
	if keys > 8 && d.upTo(1) == 0 {
		key = 4*d.upTo(7) + d.upTo(1)
	}
	if d.upTo(40) == 0 {
		txn, key = d.upTo(s.Next+1), d.upTo(34)-1
	}
	switch d.upTo(23) {
	case 0, 1, 2, 3, 4, 5, 6, 7, 8, 9:
		return putAct(txn, key, d.upTo(9999))
	case 10, 11, 12, 13:
		return cutAct(txn, key)
	case 14, 15:
		return storeAct{kind: 'g', key: key}
	case 16:
		return storeAct{kind: 'm'}
	case 17, 18:
		return storeAct{kind: 'c', txn: txn}
	case 19, 20:
		return storeAct{kind: 'a', txn: txn}
	}
	return storeAct{kind: 'f', key: d.upTo(3)}
}

func valueIn(has map[int64]int64, key int64) impl.IntResult {
	if value, found := has[key]; found {
		return impl.IntResult{Value: value}
	}
	return impl.IntResult{Code: impl.ErrNone}
}

// storeWatch knows what was told of a key when somebody began to hold it.
type storeWatch map[impl.Held]impl.IntResult

// wantHeld: what one holds nobody else turns; what is aborted is as if it had not been put; what was told to be committed is sure.
func (w storeWatch) wantHeld(t *testing.T, name string, before impl.Store, a storeAct, answer any, met map[string]int) {
	t.Helper()
	after, code := turnedByAct(before, answer), codeOfAnswer(answer)
	was, is := mapOfCells(impl.MapOf(before).Cells), mapOfCells(impl.MapOf(after).Cells)
	for key := range int64(32) {
		one, two := valueIn(was, key), valueIn(is, key)
		place := slices.IndexFunc(before.Held, func(h impl.Held) bool { return h.Key == key })
		if one == two || a.kind == 'a' && place >= 0 && before.Held[place].Txn == a.txn {
			continue
		}
		if a.kind != 'p' || a.key != key || place >= 0 && before.Held[place].Txn != a.txn {
			t.Fatalf("%s: key %d was turned from %+v to %+v by %+v; held are %+v", name, key, one, two, a, before.Held)
		}
		met["turned"]++
	}
	switch {
	case code == impl.ErrConflict:
		if a.kind != 'p' || !slices.ContainsFunc(before.Held, func(h impl.Held) bool { return h.Key == a.key && h.Txn != a.txn }) {
			t.Fatalf("%s: %+v is told a conflict, and held are %+v", name, a, before.Held)
		}
		met["conflict"]++
	case code != impl.OK:
		met["other codes"]++
	case a.kind == 'p':
		if h := heldOf(a.txn, a.key); !slices.Contains(before.Held, h) {
			w[h] = impl.GetStore(before, a.key)
			if w[h] != valueIn(was, a.key) {
				t.Fatalf("%s: of key %d %+v is told, and of all %+v", name, a.key, w[h], was)
			}
		}
	case a.kind == 'a':
		for _, h := range before.Held {
			if h.Txn != a.txn {
				continue
			}
			if got := impl.GetStore(after, h.Key); got != w[h] || valueIn(is, h.Key) != w[h] {
				t.Fatalf("%s: behind the abort key %d is %+v (all: %+v), and was %+v", name, h.Key, got, is, w[h])
			}
			met["taken back"]++
		}
	case a.kind == 'c':
		recs := recsByHand(after.Log.Sure).Recs
		if len(after.Log.Loose) > 0 || len(recs) != len(recsOfStore(before))+1 || recs[len(recs)-1] != commit(a.txn) {
			t.Fatalf("%s: behind the commit of %d the log is %+v", name, a.txn, after.Log)
		}
		met["committed"]++
	}
}

// wantNumbers: a page that was turned has the number of the last record of its keys, and no other page has turned.
func wantNumbers(t *testing.T, name string, before, after impl.Store, met map[string]int) {
	t.Helper()
	recs, known := recsOfStore(after), len(recsOfStore(before))
	for id := range int64(4) {
		number := int64(0)
		for place, r := range recs {
			if place >= known && (r.Kind == impl.KindPut || r.Kind == impl.KindUndo) && r.Key%4 == id {
				number = int64(place) + 1
			}
		}
		switch {
		case number == 0 && !samePage(before.Pages[id], after.Pages[id]):
			t.Fatalf("%s: page %d was %+v, and is %+v", name, id, before.Pages[id], after.Pages[id])
		case number > 0 && after.Pages[id].Lsn != number:
			t.Fatalf("%s: page %d has the number %d, want %d", name, id, after.Pages[id].Lsn, number)
		case number > 0:
			met["numbers"]++
		}
	}
	if !slices.Equal(recs[:known], recsOfStore(before)) {
		t.Fatalf("%s: records of old have turned", name)
	}
}

// wantDiskBehindLog: no page on the disk knows more than the sure records.
func wantDiskBehindLog(t *testing.T, name string, s impl.Store) {
	t.Helper()
	for id := range int64(4) {
		if read := impl.ReadDisk(s.Disk, id); read.Code != impl.OK || read.Page.Lsn > int64(len(s.Log.Sure)/recSize) {
			t.Fatalf("%s: page %d on the disk is %+v, and %d bytes are sure", name, id, read, len(s.Log.Sure))
		}
	}
}

// What one holds nobody else turns; what is aborted is as if it had not been put; what was told to be committed is sure.
func TestStoresKeepWhatIsHeld(t *testing.T) {
	d := dice(130)
	met := map[string]int{}
	for run := range 260 {
		s, watch := newStore([]int64{1, 1, 500, 990}[run%4]), storeWatch{}
		keys := []int64{2, 4, 8, 32}[d.upTo(3)]
		for step := range 40 + d.upTo(120) {
			a := thrownStoreAct(s, &d, keys)
			name := fmt.Sprintf("run %d, step %d", run, step)
			answer, then := wantStoreTold(t, name, s, a)
			watch.wantHeld(t, name, s, a, answer, met)
			wantNumbers(t, name, s, then, met)
			wantDiskBehindLog(t, name, then)
			if fault := impl.StoreFault(then); fault != impl.OK {
				t.Fatalf("%s: behind %+v the fault is %d: %+v", name, a, fault, then)
			}
			if codeOfAnswer(answer) == impl.OK {
				met[string(a.kind)]++
			}
			s = then
		}
	}
	for word, least := range map[string]int{"turned": 4000, "conflict": 500, "other codes": 500, "taken back": 800, "committed": 500, "numbers": 4000, "b": 500, "p": 4000, "g": 700, "c": 500, "a": 500, "f": 800, "m": 300} {
		if met[word] < least {
			t.Errorf("%s: met only %d times", word, met[word])
		}
	}
}

// All rows of few acts by two transactions, of one page and another one.
func TestAllShortRowsOfStoreActs(t *testing.T) {
	acts := storeActsIn("b p1.1=5 p1.5=6 p1.1- p2.1=7 p2.2=8 c1 a1 a2 f1")
	met := map[int64]int{}
	var grow func(s impl.Store, name string, left int)
	grow = func(s impl.Store, name string, left int) {
		for place, a := range acts {
			then := name + fmt.Sprint(" ", place)
			answer, next := wantStoreTold(t, then, s, a)
			code := codeOfAnswer(answer)
			met[code]++
			wantNumbers(t, then, s, next, map[string]int{})
			if left > 1 && code == impl.OK {
				grow(next, then, left-1)
			}
		}
	}
	grow(storeBehind(t, newStore(1), "b"), "b", 5)
	grow(storeBehind(t, newStore(1), "b b p2.5=9 p1.1=3 p1.1=4"), "b b p p p", 4)
	if met[impl.OK] < 3000 || met[impl.ErrNone] < 1000 || met[impl.ErrConflict] < 30 {
		t.Errorf("codes %v", met)
	}
}

// withRecs: the log as it is, filled up to so many records, all behind of them of no transaction.
func withRecs(s impl.Store, count int) impl.Store {
	s = copyStore(s)
	for len(s.Log.Sure)+len(s.Log.Loose) < count*recSize {
		s.Log.Loose = append(s.Log.Loose, packRecByHand(impl.Rec{Kind: impl.KindCheck})...)
	}
	return s
}

func withOpen(s impl.Store, next int64, open ...int64) impl.Store {
	s = copyStore(s)
	s.Next, s.Open = next, open
	return s
}

func withSure(s impl.Store, bytes int) impl.Store {
	s = copyStore(s)
	s.Log = splitLog(slices.Concat(s.Log.Sure, s.Log.Loose), bytes)
	return s
}

// handStore: made by no acts: its pages, its disk and its log know nothing of one another.
func handStore() impl.Store {
	s := impl.Store{Next: 10, Open: numbersOf(2, 4, 7, 9), Held: []impl.Held{heldOf(2, 1), heldOf(4, 5), heldOf(7, 9), heldOf(2, 30)}}
	for id := range int64(4) {
		s.Pages = append(s.Pages, impl.Page{Id: id, Lsn: 3 * id, Cells: cellsFrom(id, 4, 2+id, 40+id)})
	}
	s.Disk = withLoose(diskByHand(4), 9)
	s.Log = splitLog(packRecsByHand([]impl.Rec{begin(2), put(2, 1), put(4, 5), undo(4, 5, 3), put(2, 30), {Kind: impl.KindCheck}, put(4, 2), undo(2, 1, 2), put(7, 9), commit(9)}), 40)
	return s
}

func fullPages() impl.Store {
	s := newStore(9)
	for id := range s.Pages {
		s.Pages[id] = impl.Page{Id: int64(id), Lsn: 1000000 - int64(id), Cells: cellsFrom(int64(id), 4, 8, 9999-int64(id))}
	}
	return withOpen(s, 9, 1, 8)
}

// someStores: of runs, and ones that no acts make.
func someStores() []impl.Store {
	base := handStore()
	out := []impl.Store{newStore(1), newStore(998), newStore(999), base, fullPages(), withRecs(base, 305), withRecs(base, 306), withRecs(base, 307), withRecs(newStore(7), 307), withRecs(withOpen(newStore(7), 7, 3), 306)}
	for _, count := range []int64{1, 19, 20, 21, 40} {
		out = append(out, withOpen(newStore(3), 700, keysInRow(count + 1)[1:]...))
	}
	out = append(out, withOpen(base, 998, 2, 4, 7, 997), withOpen(base, 999, 2, 4, 7, 998))
	for _, count := range []int{0, 1, 54, 56, 57, 58, 59, 60} {
		s := copyStore(base)
		s.Disk = withLoose(diskByHand(4), count)
		out = append(out, s)
	}
	for sure := 0; sure <= 130; sure += 13 {
		out = append(out, withSure(base, sure))
		if sure > 0 {
			out = append(out, withSure(base, sure-1), withSure(base, sure-6))
		}
	}
	d := dice(131)
	for run := range 60 {
		s, keys := newStore(1+d.upTo(900)), []int64{4, 8, 32}[run%3]
		for range 10 + d.upTo(60) {
			s = turnedByAct(s, askStoreByHand(s, thrownStoreAct(s, &d, keys)))
		}
		out = append(out, s)
		if run%6 == 0 {
			s = copyStore(s)
			s.Log = splitLog(packRecsByHand(thrownChain(&d, 40)), int(d.upTo(520)))
			out = append(out, s)
		}
	}
	return out
}

// storeActsNear: each kind, for each transaction that is open and some others, at some keys.
func storeActsNear(s impl.Store) []storeAct {
	out := []storeAct{{kind: 'b'}, {kind: 'm'}, {kind: 'x'}}
	txns := append(numbersOf(0, 1, s.Next-1, s.Next, -1), s.Open[:min(3, len(s.Open))]...)
	for _, txn := range txns {
		out = append(out, storeAct{kind: 'c', txn: txn}, storeAct{kind: 'a', txn: txn})
		for _, key := range []int64{0, 1, 5, 30, 31, 32, -1} {
			out = append(out, putAct(txn, key, 77), cutAct(txn, key), storeAct{'p', txn, key, false, 1}, putAct(txn, key, 10000))
		}
	}
	for key := int64(-1); key <= 32; key++ {
		out = append(out, storeAct{kind: 'g', key: key})
	}
	for id := int64(-1); id <= 4; id++ {
		out = append(out, storeAct{kind: 'f', key: id})
	}
	return out
}

func TestStoresAsByHand(t *testing.T) {
	met := map[string]int{}
	for n, s := range someStores() {
		if fault := impl.StoreFault(s); fault != impl.OK {
			t.Fatalf("store %d has the fault %d: %+v", n, fault, s)
		}
		for _, a := range storeActsNear(s) {
			answer, then := wantStoreTold(t, fmt.Sprint("store ", n), s, a)
			wantNumbers(t, fmt.Sprint("store ", n), s, then, met)
			met[fmt.Sprintf("%c%d", a.kind, codeOfAnswer(answer))]++
		}
	}
	for _, word := range strings.Fields("b0 b2 p0 p1 p2 p3 p4 p9 g0 g3 g4 c0 c2 c4 a0 a2 a4 f0 f3 m0 x0") {
		if met[word] < 3 {
			t.Errorf("%s was met only %d times", word, met[word])
		}
	}
}

func TestNewStore(t *testing.T) {
	for _, next := range []int64{1, 2, 500, 998, 999} {
		got := impl.NewStore(next)
		wantCode(t, fmt.Sprint("NewStore of ", next), got, impl.OK)
		want := impl.Store{Next: next, Pages: []impl.Page{{Id: 0}, {Id: 1}, {Id: 2}, {Id: 3}}, Disk: diskByHand(4)}
		if !sameStore(got.Store, want) || got.Value != 0 || impl.StoreFault(got.Store) != impl.OK {
			t.Errorf("NewStore of %d = %+v", next, got)
		}
		if all := impl.MapOf(got.Store); all.Code != impl.OK || len(all.Cells) != 0 {
			t.Errorf("NewStore of %d has %+v", next, all)
		}
	}
	for _, next := range []int64{0, -1, 1000, math.MinInt64, math.MaxInt64} {
		wantCode(t, fmt.Sprint("NewStore of ", next), impl.NewStore(next), impl.ErrRange)
	}
	if impl.StorePages != 4 {
		t.Error("a constant is not as told")
	}
}

type faultyStore struct {
	name string
	code int64
	turn func(s *impl.Store)
}

// storeFaultsInOrder: turns of handStore, in the order in which they are asked; any two of them may be done together.
func storeFaultsInOrder() []faultyStore {
	addCell := func(id, key, value int64) func(s *impl.Store) {
		return func(s *impl.Store) {
			s.Pages[id].Cells = append(s.Pages[id].Cells, impl.Cell{Key: key, Value: value})
		}
	}
	out := []faultyStore{
		{"Next 0", impl.ErrRange, func(s *impl.Store) { s.Next = 0 }},
		{"five Pages", impl.ErrForm, func(s *impl.Store) { s.Pages = append(s.Pages, impl.Page{Id: 4}) }},
	}
	for id := range int64(4) {
		page := func(name string) string { return fmt.Sprintf("page %d: %s", id, name) }
		out = append(out,
			faultyStore{page("Lsn -1"), impl.ErrRange, func(s *impl.Store) { s.Pages[id].Lsn = -1 }},
			faultyStore{page("13 more cells"), impl.ErrMany, func(s *impl.Store) {
				s.Pages[id].Cells = append(s.Pages[id].Cells, cellsFrom(13, 1, 13, 1)...)
			}},
			faultyStore{page("a Key twice"), impl.ErrForm, func(s *impl.Store) {
				s.Pages[id].Cells = slices.Insert(s.Pages[id].Cells, 0, s.Pages[id].Cells[0])
			}},
			faultyStore{page("the last Value 10000"), impl.ErrRange, addCell(id, 24+id, 10000)},
			faultyStore{page("the Id of the next one"), impl.ErrForm, func(s *impl.Store) { s.Pages[id].Id = id + 1 }},
			faultyStore{page("a Key of the next one"), impl.ErrForm, addCell(id, 28+(id+1)%4, 1)})
	}
	return append(out,
		faultyStore{"a page of the disk is short", impl.ErrForm, func(s *impl.Store) { s.Disk.Pages[3] = s.Disk.Pages[3][:47] }},
		faultyStore{"61 loose writes", impl.ErrMany, func(s *impl.Store) {
			s.Disk.Loose = append(s.Disk.Loose, withLoose(diskByHand(4), 61-len(s.Disk.Loose)).Loose...)
		}},
		faultyStore{"a loose write of no part", impl.ErrRange, func(s *impl.Store) { s.Disk.Loose[1].Part = 3 }},
		faultyStore{"five pages of the disk", impl.ErrForm, func(s *impl.Store) { s.Disk.Pages = append(s.Disk.Pages, packByHand(impl.Page{Id: 4})) }},
		faultyStore{"4001 bytes of log", impl.ErrMany, func(s *impl.Store) { s.Log.Loose = append(s.Log.Loose, make([]byte, 4001)...) }},
		faultyStore{"a wrong byte of log", impl.ErrText, func(s *impl.Store) { s.Log.Sure[7] ^= 1 }},
		faultyStore{"the first of Open 0", impl.ErrRange, func(s *impl.Store) { s.Open[0] = 0 }},
		faultyStore{"the second of Open as the third", impl.ErrForm, func(s *impl.Store) { s.Open[1], s.Open[2] = 7, 7 }},
		faultyStore{"the last of Open is Next", impl.ErrRange, func(s *impl.Store) { s.Open[3] = 10 }},
		faultyStore{"the first Held of Key -1", impl.ErrRange, func(s *impl.Store) { s.Held[0].Key = -1 }},
		faultyStore{"the first Held of one that is not Open", impl.ErrNone, func(s *impl.Store) { s.Held[0].Txn = 3 }},
		faultyStore{"the second Held of the Key of the first", impl.ErrForm, func(s *impl.Store) { s.Held[1].Key = s.Held[0].Key }},
		faultyStore{"the third Held of Key 32", impl.ErrRange, func(s *impl.Store) { s.Held[2].Key = 32 }},
		faultyStore{"the third Held of one that is not Open", impl.ErrNone, func(s *impl.Store) { s.Held[2].Txn = 5 }},
		faultyStore{"the last Held of Key 0", impl.ErrForm, func(s *impl.Store) { s.Held[3].Key = 0 }})
}

func turnStore(s impl.Store, turns ...func(s *impl.Store)) impl.Store {
	s = copyStore(s)
	for _, turn := range turns {
		turn(&s)
	}
	return s
}

// Of two faults the one that is asked first is the answer, whichever of them was done first.
func TestStoreFaultsInOrder(t *testing.T) {
	faults := storeFaultsInOrder()
	if fault := impl.StoreFault(handStore()); fault != impl.OK {
		t.Fatalf("handStore has the fault %d", fault)
	}
	parted := 0
	for place, first := range faults {
		if got := impl.StoreFault(turnStore(handStore(), first.turn)); got != first.code {
			t.Errorf("%s: StoreFault = %d, want %d", first.name, got, first.code)
		}
		for _, second := range faults[place+1:] {
			for _, s := range []impl.Store{turnStore(handStore(), first.turn, second.turn), turnStore(handStore(), second.turn, first.turn)} {
				if got, by := impl.StoreFault(s), storeFaultByHand(s); got != first.code || by != first.code {
					t.Errorf("%s, and %s: StoreFault = %d, by hand %d, want %d", first.name, second.name, got, by, first.code)
				}
				if first.code != second.code {
					parted++
				}
			}
		}
	}
	if parted < 800 {
		t.Errorf("only %d pairs have two codes", parted)
	}
}

// moreStoreFaults: one turn each.
func moreStoreFaults() []faultyStore {
	var out []faultyStore
	add := func(name string, code int64, turn func(s *impl.Store)) {
		out = append(out, faultyStore{name, code, turn})
	}
	for next, code := range map[int64]int64{0: impl.ErrRange, 1000: impl.ErrRange, -1: impl.ErrRange, math.MinInt64: impl.ErrRange, math.MaxInt64: impl.ErrRange, 10: impl.OK, 998: impl.OK, 999: impl.OK, 9: impl.ErrRange, 1: impl.ErrRange} {
		add(fmt.Sprint("Next ", next), code, func(s *impl.Store) { s.Next = next })
	}
	for next, code := range map[int64]int64{0: impl.ErrRange, 1: impl.OK, 999: impl.OK, 1000: impl.ErrRange} {
		add(fmt.Sprint("nobody Open, Next ", next), code, func(s *impl.Store) { s.Next, s.Open, s.Held = next, nil, nil })
	}
	for _, count := range []int{0, 1, 3} {
		add(fmt.Sprint(count, " Pages"), impl.ErrForm, func(s *impl.Store) { s.Pages = s.Pages[:count] })
		add(fmt.Sprint(count, " pages of the disk"), impl.ErrForm, func(s *impl.Store) { s.Disk = diskByHand(int64(count)) })
	}
	for _, count := range []int64{5, 8} {
		add(fmt.Sprint(count, " Pages"), impl.ErrForm, func(s *impl.Store) {
			for id := int64(4); id < count; id++ {
				s.Pages = append(s.Pages, impl.Page{Id: id % 8})
			}
		})
		add(fmt.Sprint(count, " pages of the disk"), impl.ErrForm, func(s *impl.Store) { s.Disk = diskByHand(count) })
	}
	for id := range int64(4) {
		for _, f := range append(oneFault(), twoFaults()...) {
			add(fmt.Sprintf("page %d as %+v", id, f.page), f.code, func(s *impl.Store) { s.Pages[id] = copyPage(f.page) })
		}
		for other := range int64(8) {
			code := int64(impl.ErrForm)
			if other == id {
				code = impl.OK
			}
			add(fmt.Sprintf("page %d has the Id %d", id, other), code, func(s *impl.Store) { s.Pages[id] = impl.Page{Id: other} })
			add(fmt.Sprintf("page %d has the Id %d, and its cells", id, other), code, func(s *impl.Store) { s.Pages[id].Id = other })
		}
		for key := range int64(32) {
			code := int64(impl.ErrForm)
			if key%4 == id {
				code = impl.OK
			}
			add(fmt.Sprintf("page %d has key %d", id, key), code, func(s *impl.Store) { s.Pages[id].Cells = cellList(key, 5) })
			cells := wanted(cellsFrom(id, 4, 8, 3), key, true, 6)
			add(fmt.Sprintf("page %d has all its keys, and key %d", id, key), code, func(s *impl.Store) { s.Pages[id].Cells = cells })
		}
		for _, count := range []int64{9, 11, 12} {
			add(fmt.Sprintf("page %d has %d cells", id, count), impl.ErrForm, func(s *impl.Store) { s.Pages[id].Cells = cellsFrom(id, 1, count, 5) })
		}
		add(fmt.Sprintf("page %d has 13 cells", id), impl.ErrMany, func(s *impl.Store) { s.Pages[id].Cells = cellsFrom(id, 1, 13, 5) })
		add(fmt.Sprintf("page %d has the Lsn 10^6", id), impl.OK, func(s *impl.Store) { s.Pages[id].Lsn = topLsn })
		add(fmt.Sprintf("page %d has the Lsn 10^6 + 1", id), impl.ErrRange, func(s *impl.Store) { s.Pages[id].Lsn = topLsn + 1 })
	}
	for _, f := range append(oneDiskFault(), twoDiskFaults()...) {
		add("a disk with "+f.name, f.code, func(s *impl.Store) { s.Disk = f.disk })
	}
	for _, f := range logFaults() {
		add("a log with "+f.name, f.code, func(s *impl.Store) { s.Log = f.log })
	}
	add("a disk of no pages that can be read", impl.OK, func(s *impl.Store) {
		s.Disk = impl.Disk{Pages: [][]byte{make([]byte, 48), make([]byte, 48), make([]byte, 48), make([]byte, 48)}}
	})
	add("60 loose writes", impl.OK, func(s *impl.Store) { s.Disk = withLoose(diskByHand(4), 60) })
	add("307 records", impl.OK, func(s *impl.Store) { *s = withRecs(*s, 307) })
	return append(out, openAndHeldFaults()...)
}

func openAndHeldFaults() []faultyStore {
	var out []faultyStore
	open := func(code int64, txns ...int64) {
		out = append(out, faultyStore{fmt.Sprint("Open ", txns), code, func(s *impl.Store) { s.Open, s.Held = txns, nil }})
	}
	for _, txn := range []int64{1, 2, 9} {
		open(impl.OK, txn)
		open(impl.ErrForm, txn, txn)
	}
	for _, txn := range []int64{0, -1, 10, 11, 999, 1000, math.MinInt64, math.MaxInt64} {
		open(impl.ErrRange, txn)
		open(impl.ErrRange, 4, txn)
		open(impl.ErrRange, 4, 5, txn, 4)
		open(impl.ErrForm, 4, 4, txn)
		open(impl.ErrForm, 4, 3, txn)
	}
	open(impl.OK)
	open(impl.OK, 1, 2, 3, 4, 5, 6, 7, 8, 9)
	open(impl.ErrForm, 2, 1)
	open(impl.ErrForm, 1, 2, 3, 4, 5, 6, 7, 8, 9, 9)
	open(impl.ErrForm, 1, 9, 8)
	open(impl.ErrForm, 3, 5, 4, 7)
	held := func(code int64, all ...impl.Held) {
		out = append(out, faultyStore{fmt.Sprintf("Held %+v", all), code, func(s *impl.Store) { s.Held = all }})
	}
	held(impl.OK)
	for _, txn := range []int64{2, 4, 7, 9} {
		held(impl.OK, heldOf(txn, 0), heldOf(txn, 31))
		held(impl.ErrForm, heldOf(txn, 3), heldOf(txn, 3))
		held(impl.ErrForm, heldOf(4, 3), heldOf(txn, 2))
	}
	for _, txn := range []int64{0, 1, 3, 8, 10, 999, -2, math.MinInt64, math.MaxInt64} {
		held(impl.ErrNone, heldOf(txn, 0))
		held(impl.ErrNone, heldOf(2, 5), heldOf(txn, 5))
		held(impl.ErrNone, heldOf(2, 5), heldOf(txn, 4), heldOf(2, 32))
		held(impl.ErrForm, heldOf(2, 5), heldOf(2, 5), heldOf(txn, 6))
	}
	for _, key := range []int64{-1, 32, math.MinInt64, math.MaxInt64} {
		held(impl.ErrRange, heldOf(2, key))
		held(impl.ErrRange, heldOf(3, key))
		held(impl.ErrRange, heldOf(2, 31), heldOf(3, key))
		held(impl.ErrNone, heldOf(3, 31), heldOf(2, key))
		held(impl.ErrForm, heldOf(2, 5), heldOf(4, 5), heldOf(2, key))
	}
	held(impl.OK, heldOf(9, 0), heldOf(2, 1), heldOf(7, 2), heldOf(4, 3))
	return out
}

// The fault comes ahead of whatever else is wrong.
func TestStoreFaultComesFirst(t *testing.T) {
	met := map[int64]int{}
	wrong := []storeAct{{kind: 'b'}, putAct(0, -1, -1), putAct(2, 1, 5), cutAct(2, 32), {kind: 'g', key: -1}, {kind: 'g', key: 1}, {kind: 'c', txn: 0}, {kind: 'c', txn: 2}, {kind: 'a', txn: 0}, {kind: 'a', txn: 2}, {kind: 'f', key: -1}, {kind: 'f', key: 1}, {kind: 'm'}}
	for _, f := range append(storeFaultsInOrder(), moreStoreFaults()...) {
		s := turnStore(handStore(), f.turn)
		if got, by := impl.StoreFault(s), storeFaultByHand(s); got != f.code || by != f.code {
			t.Errorf("%s: StoreFault = %d, by hand %d, want %d", f.name, got, by, f.code)
		}
		met[f.code]++
		for _, a := range wrong {
			if f.code != impl.OK {
				wantCode(t, fmt.Sprintf("%s: %+v", f.name, a), askStore(s, a), f.code)
			}
		}
	}
	for _, code := range []int64{impl.OK, impl.ErrForm, impl.ErrMany, impl.ErrRange, impl.ErrNone, impl.ErrText} {
		if met[code] < 8 {
			t.Errorf("code %d was met only %d times", code, met[code])
		}
	}
	wantCode(t, "the zero store", impl.BeginStore(impl.Store{}), impl.ErrRange)
	wantCode(t, "a store of Next alone", impl.MapOf(impl.Store{Next: 1}), impl.ErrForm)
}

// wantStore: the code, and else Value and the store, told by a turn of the one that was.
func wantStore(t *testing.T, name string, was impl.Store, got impl.StoreResult, value int64, turn func(s *impl.Store)) {
	t.Helper()
	wantCode(t, name, got, impl.OK)
	if want := turnStore(was, turn); got.Value != value || !sameStore(got.Store, want) {
		t.Errorf("%s: Value %d, want %d, and the store\n%+v, want\n%+v", name, got.Value, value, got.Store, want)
	}
}

func logs(s *impl.Store, recs ...impl.Rec) {
	s.Log.Loose = append(s.Log.Loose, packRecsByHand(recs)...)
}

func TestBeginStoreAtItsEdges(t *testing.T) {
	for _, next := range []int64{1, 2, 997, 998} {
		s := newStore(next)
		wantStore(t, fmt.Sprint("Next ", next), s, impl.BeginStore(s), next, func(s *impl.Store) {
			s.Next, s.Open = next+1, numbersOf(next)
			logs(s, begin(next))
		})
	}
	wantCode(t, "Next 999", impl.BeginStore(newStore(999)), impl.ErrMany)
	last := impl.BeginStore(newStore(998))
	wantCode(t, "behind 998", impl.BeginStore(last.Store), impl.ErrMany)
	for count := range int64(26) {
		s := withOpen(newStore(3), 300, keysInRow(count + 1)[1:]...)
		got := impl.BeginStore(s)
		if count >= 20 {
			wantCode(t, fmt.Sprint(count, " are Open"), got, impl.ErrMany)
			continue
		}
		wantStore(t, fmt.Sprint(count, " are Open"), s, got, 300, func(s *impl.Store) {
			s.Next, s.Open = 301, append(s.Open, 300)
			logs(s, begin(300))
		})
	}
	for count, code := range map[int]int64{305: impl.OK, 306: impl.OK, 307: impl.ErrMany} {
		for _, sure := range []int{0, 13, 3900} {
			s := withSure(withRecs(newStore(5), count), sure)
			got := impl.BeginStore(s)
			wantCode(t, fmt.Sprint(count, " records"), got, code)
			if code == impl.OK && (len(got.Store.Log.Sure) != sure || len(recsOfStore(got.Store)) != count+1) {
				t.Errorf("%d records, %d bytes sure: the log is %+v", count, sure, got.Store.Log)
			}
		}
	}
}

func putRec(txn, key int64, had bool, old int64, has bool, value int64) impl.Rec {
	return impl.Rec{Kind: impl.KindPut, Txn: txn, Key: key, Had: had, Old: old, Has: has, New: value}
}

// What the record tells of Had, Has, Old and New; whose number the page has; who holds the key.
func TestPutStoreAsTold(t *testing.T) {
	base := storeBehind(t, newStore(1), "b p1.5=7 p1.9=0 p1.31=9999 c1 b b")
	for _, c := range []struct {
		name string
		act  storeAct
		rec  impl.Rec
		page []impl.Cell // of the key, behind it
	}{
		{"a new cell", putAct(2, 1, 4), putRec(2, 1, false, 0, true, 4), cellList(1, 4, 5, 7, 9, 0)},
		{"a new cell of 0", putAct(3, 13, 0), putRec(3, 13, false, 0, true, 0), cellList(5, 7, 9, 0, 13, 0)},
		{"another value", putAct(2, 5, 8), putRec(2, 5, true, 7, true, 8), cellList(5, 8, 9, 0)},
		{"the same value", putAct(2, 5, 7), putRec(2, 5, true, 7, true, 7), cellList(5, 7, 9, 0)},
		{"the value 0", putAct(2, 5, 0), putRec(2, 5, true, 7, true, 0), cellList(5, 0, 9, 0)},
		{"in place of 0", putAct(2, 9, 9999), putRec(2, 9, true, 0, true, 9999), cellList(5, 7, 9, 9999)},
		{"nothing in place of a value", cutAct(2, 5), putRec(2, 5, true, 7, false, 0), cellList(9, 0)},
		{"nothing in place of 0", cutAct(3, 9), putRec(3, 9, true, 0, false, 0), cellList(5, 7)},
		{"nothing in place of nothing", cutAct(2, 1), putRec(2, 1, false, 0, false, 0), cellList(5, 7, 9, 0)},
		{"nothing in place of nothing, in an empty page", cutAct(2, 0), putRec(2, 0, false, 0, false, 0), nil},
		{"nothing in place of the only one", cutAct(2, 31), putRec(2, 31, true, 9999, false, 0), nil},
		{"the first key", putAct(2, 0, 9998), putRec(2, 0, false, 0, true, 9998), cellList(0, 9998)},
		{"the last key", putAct(3, 31, 1), putRec(3, 31, true, 9999, true, 1), cellList(31, 1)},
	} {
		wantStore(t, c.name, base, askStore(base, c.act).(impl.StoreResult), 0, func(s *impl.Store) {
			id := c.act.key % 4
			logs(s, c.rec)
			s.Pages[id] = impl.Page{Id: id, Lsn: 8, Cells: c.page}
			s.Held = []impl.Held{heldOf(c.act.txn, c.act.key)}
		})
	}
}

func TestCodesOfPutStore(t *testing.T) {
	base := storeBehind(t, newStore(1), "b b b p2.5=7 p3.6- c1")
	full := withRecs(base, 307)
	met := map[int64]int{}
	for _, txn := range []int64{0, 1, 2, 3, 4, -2, math.MinInt64, math.MaxInt64} {
		for _, key := range []int64{0, 5, 6, 31, -1, 32, math.MinInt64, math.MaxInt64} {
			for _, value := range []int64{0, 1, 9999, -1, 10000, math.MinInt64, math.MaxInt64} {
				for _, has := range []bool{false, true} {
					for _, s := range []impl.Store{base, full} {
						want := int64(impl.OK)
						switch {
						case txn != 2 && txn != 3:
							want = impl.ErrNone
						case key < 0 || key > 31 || value < 0 || value > 9999:
							want = impl.ErrRange
						case !has && value > 0:
							want = impl.ErrForm
						case key == 5 && txn == 3 || key == 6 && txn == 2:
							want = impl.ErrConflict
						case len(s.Log.Sure) == len(full.Log.Sure) && len(s.Log.Loose) == len(full.Log.Loose):
							want = impl.ErrMany
						}
						met[want]++
						wantCode(t, fmt.Sprintf("PutStore of %d, key %d, %v %d, %d bytes loose", txn, key, has, value, len(s.Log.Loose)), impl.PutStore(s, txn, key, has, value), want)
					}
				}
			}
		}
	}
	for _, code := range []int64{impl.OK, impl.ErrNone, impl.ErrRange, impl.ErrForm, impl.ErrConflict, impl.ErrMany} {
		if met[code] < 10 {
			t.Errorf("code %d was met only %d times", code, met[code])
		}
	}
	for count, code := range map[int]int64{305: impl.OK, 306: impl.OK, 307: impl.ErrMany} {
		for _, a := range []storeAct{putAct(2, 5, 8), cutAct(2, 5), cutAct(2, 1), putAct(3, 1, 8)} {
			wantCode(t, fmt.Sprint(count, " records"), askStore(withRecs(base, count), a), code)
		}
	}
}

// A page has room for all keys that stand in it; one with more cells has keys of others.
func TestPagesOfAStoreHaveRoom(t *testing.T) {
	s := storeBehind(t, newStore(1), "b")
	for key := range int64(32) {
		s = storeBehind(t, s, fmt.Sprintf("p1.%d=%d", key, 100+key))
	}
	if got := impl.MapOf(s); told(got.Cells) != told(mapByHand(s)) || len(got.Cells) != 32 {
		t.Errorf("with all keys MapOf is %+v", got)
	}
	for id := range int64(4) {
		if len(s.Pages[id].Cells) != 8 || s.Pages[id].Lsn != 30+id {
			t.Errorf("page %d is %+v", id, s.Pages[id])
		}
	}
	for key := range int64(32) {
		wantCode(t, fmt.Sprint("key ", key, " again"), impl.PutStore(s, 1, key, true, 1), impl.OK)
		wantCode(t, fmt.Sprint("key ", key, " gone"), impl.PutStore(s, 1, key, false, 0), impl.OK)
	}
	for count, code := range map[int64]int64{11: impl.ErrForm, 12: impl.ErrForm, 13: impl.ErrMany} {
		for _, key := range []int64{1, 29} {
			many := turnStore(s, func(s *impl.Store) { s.Pages[1].Cells = cellsFrom(1, 1, count, 5) })
			wantCode(t, fmt.Sprint(count, " cells"), impl.PutStore(many, 1, key, true, 1), code)
			wantCode(t, fmt.Sprint(count, " cells"), impl.AbortStore(many, 1), code)
		}
	}
}

// What is held: who put the key first, up to the end of that one.
func TestWhatIsHeld(t *testing.T) {
	for _, c := range []struct {
		acts string
		held []impl.Held
	}{
		{"b", nil}, {"b p1.5=7", []impl.Held{heldOf(1, 5)}}, {"b p1.5=7 p1.5=8", []impl.Held{heldOf(1, 5)}}, {"b p1.5-", []impl.Held{heldOf(1, 5)}}, {"b p1.5- p1.5- p1.5=1 p1.5-", []impl.Held{heldOf(1, 5)}},
		{"b p1.9=1 p1.5=2 p1.30=3 p1.0=4 p1.31=5 p1.5=6", []impl.Held{heldOf(1, 0), heldOf(1, 5), heldOf(1, 9), heldOf(1, 30), heldOf(1, 31)}},
		{"b b p2.5=1 p1.9=2 p2.10=3 p1.0=4 p2.1=5", []impl.Held{heldOf(1, 0), heldOf(2, 1), heldOf(2, 5), heldOf(1, 9), heldOf(2, 10)}},
		{"b b p2.31=1 p1.0=2", []impl.Held{heldOf(1, 0), heldOf(2, 31)}}, {"b b p1.0=1 p2.1=2 p1.2=3 p2.3=4", []impl.Held{heldOf(1, 0), heldOf(2, 1), heldOf(1, 2), heldOf(2, 3)}},
		{"b p1.5=1 c1", nil}, {"b p1.5=1 a1", nil}, {"b b p1.0=1 p2.1=2 p1.2=3 p2.3=4 c1", []impl.Held{heldOf(2, 1), heldOf(2, 3)}}, {"b b p1.0=1 p2.1=2 p1.2=3 p2.3=4 a2", []impl.Held{heldOf(1, 0), heldOf(1, 2)}},
		{"b b p1.5=1 c1 p2.5=2", []impl.Held{heldOf(2, 5)}}, {"b b p1.5=1 a1 p2.5=2", []impl.Held{heldOf(2, 5)}}, {"b b p1.5- a1 p2.5-", []impl.Held{heldOf(2, 5)}}, {"b p1.5=1 c1 b p2.5=3 p2.5=4", []impl.Held{heldOf(2, 5)}}, {"b b p1.5=1 c2", []impl.Held{heldOf(1, 5)}}, {"b b p1.5=1 a2 f1 g5 m", []impl.Held{heldOf(1, 5)}},
	} {
		if s := storeBehind(t, newStore(1), c.acts); !slices.Equal(s.Held, c.held) || impl.StoreFault(s) != impl.OK {
			t.Errorf("%s: Held is %+v, want %+v", c.acts, s.Held, c.held)
		}
	}
	s := storeBehind(t, newStore(1), "b b b p1.5=1 p2.6-")
	for _, c := range []struct {
		act  storeAct
		code int64
	}{
		{putAct(2, 5, 2), impl.ErrConflict}, {putAct(3, 5, 2), impl.ErrConflict}, {cutAct(2, 5), impl.ErrConflict}, {putAct(1, 5, 2), impl.OK}, {cutAct(1, 5), impl.OK}, {putAct(1, 6, 2), impl.ErrConflict}, {cutAct(3, 6), impl.ErrConflict}, {putAct(2, 6, 2), impl.OK}, {putAct(3, 7, 2), impl.OK}, {putAct(3, 1, 2), impl.OK}, {putAct(3, 9, 2), impl.OK},
	} {
		before := copyStore(s)
		wantCode(t, fmt.Sprintf("%+v", c.act), askStore(s, c.act), c.code)
		if !sameStore(s, before) {
			t.Errorf("%+v has turned the store", c.act)
		}
	}
	for _, end := range []string{"c1", "a1"} {
		free := storeBehind(t, s, end)
		wantCode(t, "free behind "+end, impl.PutStore(free, 3, 5, true, 2), impl.OK)
		wantCode(t, "held by another one behind "+end, impl.PutStore(free, 3, 6, true, 2), impl.ErrConflict)
		wantCode(t, "who has ended", impl.PutStore(free, 1, 5, true, 2), impl.ErrNone)
	}
}

func TestGetStoreAndMapOfAsTold(t *testing.T) {
	s := storeBehind(t, newStore(1), "b b p1.31=0 p1.4=9999 p2.0=5 p2.17=6 p1.2=7 p1.3=8 p1.6=9 p1.6- p2.1=1 c2")
	want := cellList(0, 5, 1, 1, 2, 7, 3, 8, 4, 9999, 17, 6, 31, 0)
	if got := impl.MapOf(s); got.Code != impl.OK || !slices.Equal(got.Cells, want) {
		t.Errorf("MapOf = %+v, want %+v", got, want)
	}
	for key := int64(-3); key < 36; key++ {
		got, by := impl.GetStore(s, key), impl.IntResult{Code: impl.ErrNone}
		if value, found := mapOfCells(want)[key]; found {
			by = impl.IntResult{Value: value}
		}
		if key < 0 || key > 31 {
			by = impl.IntResult{Code: impl.ErrRange}
		}
		if got != by {
			t.Errorf("GetStore of %d = %+v, want %+v", key, got, by)
		}
	}
	for _, key := range []int64{math.MinInt64, math.MaxInt64} {
		wantCode(t, "far away", impl.GetStore(s, key), impl.ErrRange)
	}
	full := impl.MapOf(fullPages())
	for key := range int64(32) {
		if full.Cells[key] != (impl.Cell{Key: key, Value: 9999 - key%4}) {
			t.Errorf("of all pages: %+v", full)
		}
	}
	for id := range int64(4) {
		one := turnStore(newStore(1), func(s *impl.Store) { s.Pages[id].Cells = cellsFrom(id, 4, 8, id) })
		if got := impl.MapOf(one); !slices.Equal(got.Cells, cellsFrom(id, 4, 8, id)) {
			t.Errorf("of page %d alone: %+v", id, got)
		}
	}
}

func TestCommitStoreAsTold(t *testing.T) {
	for _, c := range []struct {
		acts string
		txn  int64
		open []int64
	}{
		{"b", 1, nil}, {"b b", 1, numbersOf(2)}, {"b b b", 2, numbersOf(1, 3)}, {"b p1.5=7", 1, nil}, {"b b p1.5=7 p2.6=8 p1.1-", 1, numbersOf(2)}, {"b b p1.5=7 p2.6=8 p1.1- f1", 2, numbersOf(1)}, {"b c1 b", 2, nil},
	} {
		s := storeBehind(t, newStore(1), c.acts)
		wantStore(t, c.acts, s, impl.CommitStore(s, c.txn), 0, func(s *impl.Store) {
			s.Log = impl.Log{Sure: slices.Concat(s.Log.Sure, s.Log.Loose, packRecByHand(commit(c.txn)))}
			s.Open = c.open
			s.Held = slices.DeleteFunc(s.Held, func(h impl.Held) bool { return h.Txn == c.txn })
		})
		for _, txn := range append(numbersOf(0, -1, s.Next, 999, 1000, math.MinInt64, math.MaxInt64), 1) {
			if !slices.Contains(s.Open, txn) {
				wantCode(t, c.acts, impl.CommitStore(s, txn), impl.ErrNone)
				wantCode(t, c.acts, impl.AbortStore(s, txn), impl.ErrNone)
			}
		}
		for _, end := range []func(impl.Store, int64) impl.StoreResult{impl.CommitStore, impl.AbortStore} {
			wantCode(t, c.acts+": a second end", end(impl.CommitStore(s, c.txn).Store, c.txn), impl.ErrNone)
			wantCode(t, c.acts+": a second end", end(impl.AbortStore(s, c.txn).Store, c.txn), impl.ErrNone)
		}
		for count, code := range map[int]int64{305: impl.OK, 306: impl.OK, 307: impl.ErrMany} {
			wantCode(t, fmt.Sprint(c.acts, ": ", count, " records"), impl.CommitStore(withRecs(s, count), c.txn), code)
		}
		wantCode(t, c.acts+": no room, and nobody", impl.CommitStore(withRecs(s, 307), 0), impl.ErrNone)
	}
}

func undoRec(txn, key int64, had bool, old int64, has bool, value, back int64) impl.Rec {
	return impl.Rec{Kind: impl.KindUndo, Txn: txn, Key: key, Had: had, Old: old, Has: has, New: value, Back: back}
}

// Which records an abort logs, and whose numbers the pages have then.
func TestAbortStoreAsTold(t *testing.T) {
	abort := impl.Rec{Kind: impl.KindAbort, Txn: 2}
	base := storeBehind(t, newStore(1), "b p1.5=7 p1.9=0 p1.31=9999 c1 b b") // seven records
	for _, c := range []struct {
		acts string
		recs []impl.Rec
		lsns [4]int64
	}{
		{"", nil, [4]int64{0, 3, 0, 4}},
		{"p2.5=8", []impl.Rec{undoRec(2, 5, true, 8, true, 7, 8)}, [4]int64{0, 9, 0, 4}},
		{"p2.5-", []impl.Rec{undoRec(2, 5, false, 0, true, 7, 8)}, [4]int64{0, 9, 0, 4}},
		{"p2.6=8", []impl.Rec{undoRec(2, 6, true, 8, false, 0, 8)}, [4]int64{0, 3, 9, 4}},
		{"p2.6-", []impl.Rec{undoRec(2, 6, false, 0, false, 0, 8)}, [4]int64{0, 3, 9, 4}},
		{"p2.5=8 p2.5=9", []impl.Rec{undoRec(2, 5, true, 9, true, 8, 9), undoRec(2, 5, true, 8, true, 7, 8)}, [4]int64{0, 11, 0, 4}},
		{"p2.1=8 p2.5- p2.13=1 p2.1=2", []impl.Rec{undoRec(2, 1, true, 2, true, 8, 11), undoRec(2, 13, true, 1, false, 0, 10), undoRec(2, 5, false, 0, true, 7, 9), undoRec(2, 1, true, 8, false, 0, 8)}, [4]int64{0, 15, 0, 4}},
		{"p2.31- p2.0=1 p2.5=2 p2.0=3", []impl.Rec{undoRec(2, 0, true, 3, true, 1, 11), undoRec(2, 5, true, 2, true, 7, 10), undoRec(2, 0, true, 1, false, 0, 9), undoRec(2, 31, false, 0, true, 9999, 8)}, [4]int64{14, 13, 0, 15}},
		{"p2.9=1 p3.5=6 p2.9- p3.31=5", []impl.Rec{undoRec(2, 9, false, 0, true, 1, 10), undoRec(2, 9, true, 1, true, 0, 8)}, [4]int64{0, 13, 0, 11}},
		{"p3.5=6 p3.0=5", nil, [4]int64{9, 8, 0, 4}},
		{"p2.5=8 f1 p3.9=3 f1", []impl.Rec{undoRec(2, 5, true, 8, true, 7, 8)}, [4]int64{0, 10, 0, 4}},
	} {
		s := storeBehind(t, base, c.acts)
		got := impl.AbortStore(s, 2)
		wantCode(t, c.acts, got, impl.OK)
		recs := slices.Concat(recsOfStore(s), c.recs, []impl.Rec{abort})
		if !slices.Equal(recsOfStore(got.Store), recs) || !bytes.Equal(got.Store.Log.Sure, s.Log.Sure) || got.Value != 0 {
			t.Errorf("%s: Value %d, the records are\n%+v, want\n%+v", c.acts, got.Value, recsOfStore(got.Store), recs)
		}
		for id, lsn := range c.lsns {
			if got.Store.Pages[id].Lsn != lsn {
				t.Errorf("%s: page %d has the number %d, want %d", c.acts, id, got.Store.Pages[id].Lsn, lsn)
			}
		}
		for key := range int64(32) {
			want := impl.GetStore(base, key)
			if slices.Contains(s.Held, heldOf(3, key)) {
				want = impl.GetStore(s, key)
			}
			if seen := impl.GetStore(got.Store, key); seen != want {
				t.Errorf("%s: key %d is %+v, want %+v", c.acts, key, seen, want)
			}
		}
		if !slices.Equal(got.Store.Open, numbersOf(3)) || slices.ContainsFunc(got.Store.Held, func(h impl.Held) bool { return h.Txn != 3 }) || got.Store.Next != 4 || !sameDisk(got.Store.Disk, s.Disk) {
			t.Errorf("%s: the store is %+v", c.acts, got.Store)
		}
	}
}

// An abort logs all its undos and its end, or nothing.
func TestAbortStoreWithoutRoom(t *testing.T) {
	for undos, acts := range []string{"b b", "b b p1.5=1", "b b p1.5=1 p1.9=2", "b b p1.5=1 p2.6=7 p1.5=3 p1.0=4", "b b p1.1=1 p1.5=2 p1.9=3 p1.13=4"} {
		s := storeBehind(t, newStore(1), acts)
		for room := range 8 {
			full := withRecs(s, maxRecs-room)
			before := copyStore(full)
			got, code := impl.AbortStore(full, 1), int64(impl.OK)
			if room < undos+1 {
				code = impl.ErrMany
			}
			wantCode(t, fmt.Sprintf("%s, room for %d", acts, room), got, code)
			if !sameStore(full, before) {
				t.Errorf("%s, room for %d: the store was turned", acts, room)
			}
			if code == impl.OK && len(recsOfStore(got.Store)) != maxRecs-room+undos+1 {
				t.Errorf("%s, room for %d: %d records", acts, room, len(recsOfStore(got.Store)))
			}
		}
		wantCode(t, acts+": no room, and nobody", impl.AbortStore(withRecs(s, maxRecs), 0), impl.ErrNone)
	}
}

// An abort goes by the log, also where no acts have made it.
func TestAbortStoreOfAnyLog(t *testing.T) {
	d := dice(132)
	long := 0
	for run := range 400 {
		s := turnStore(handStore(), func(s *impl.Store) {
			s.Next, s.Open, s.Held = 4, numbersOf(1, 2, 3), []impl.Held{heldOf(1, 4), heldOf(3, 5)}
			recs := thrownChain(&d, d.upTo(120))
			s.Log = splitLog(packRecsByHand(recs), int(d.upTo(int64(len(recs)*recSize))))
		})
		for _, txn := range s.Open {
			before := copyStore(s)
			_, then := wantStoreTold(t, fmt.Sprint("run ", run), s, storeAct{kind: 'a', txn: txn})
			wantNumbers(t, fmt.Sprint("run ", run), s, then, map[string]int{})
			if !sameStore(s, before) {
				t.Fatalf("run %d: the store was turned", run)
			}
			long = max(long, len(recsOfStore(then))-len(recsOfStore(s)))
		}
	}
	if long < 30 {
		t.Errorf("at most %d records were logged", long)
	}
}

// What FlushPage writes, and when it flushes the log: above how many records are Sure.
func TestFlushPageAsTold(t *testing.T) {
	for count := range 5 {
		recs := slices.Repeat([]impl.Rec{{Kind: impl.KindCheck}}, count)
		for sure := 0; sure <= count*recSize; sure++ {
			for id := range int64(4) {
				for lsn := range int64(count) + 3 {
					s := turnStore(fullPages(), func(s *impl.Store) {
						s.Log = splitLog(packRecsByHand(recs), sure)
						s.Pages[id].Lsn = lsn
					})
					wantStore(t, fmt.Sprintf("page %d of number %d, %d records, %d bytes sure", id, lsn, count, sure), s, impl.FlushPage(s, id), 0, func(s *impl.Store) {
						if lsn > int64(sure/recSize) {
							s.Log = impl.Log{Sure: packRecsByHand(recs)}
						}
						s.Disk = writeByHand(s.Disk, id, packByHand(s.Pages[id]))
					})
				}
			}
		}
	}
	for _, id := range []int64{-1, 4, 5, math.MinInt64, math.MaxInt64} {
		wantCode(t, fmt.Sprint("page ", id), impl.FlushPage(fullPages(), id), impl.ErrRange)
	}
	s := storeBehind(t, newStore(1), "b p1.5=7")
	for id, want := range []int{0, 26, 0, 0} {
		if got := impl.FlushPage(s, int64(id)); len(got.Store.Log.Sure) != want || len(got.Store.Log.Loose) != 26-want || len(got.Store.Disk.Loose) != 3 {
			t.Errorf("page %d: %+v", id, got)
		}
	}
}

// A disk that has no room for three more loose writes is synced first; a flush goes on again and again.
func TestFlushPageWithoutRoom(t *testing.T) {
	for count := range 61 {
		for id := range int64(4) {
			s := turnStore(handStore(), func(s *impl.Store) { s.Disk = withLoose(diskByHand(4), count) })
			wantStore(t, fmt.Sprintf("page %d, %d loose writes", id, count), s, impl.FlushPage(s, id), 0, func(s *impl.Store) {
				if count > 57 {
					s.Disk = doneByHand(s.Disk, all)
				}
				s.Disk = writeByHand(s.Disk, id, packByHand(s.Pages[id]))
				if s.Pages[id].Lsn > 3 {
					s.Log = impl.Log{Sure: slices.Concat(s.Log.Sure, s.Log.Loose)}
				}
			})
		}
	}
	s, synced := storeBehind(t, newStore(1), "b p1.0=1 p1.1=2 p1.2=3 p1.3=4"), 0
	for step := range 100 {
		before := len(s.Disk.Loose)
		s = storeBehind(t, s, fmt.Sprint("f", step%4))
		if len(s.Disk.Loose) == 3 && before == 60 {
			synced++
		}
		if read := impl.ReadDisk(s.Disk, int64(step%4)); !samePageResult(read, impl.PageResult{Page: s.Pages[step%4]}) {
			t.Errorf("step %d: %+v is read", step, read)
		}
	}
	if synced != 4 {
		t.Errorf("the disk was synced %d times", synced)
	}
}

// A whole talk, told store by store.
func TestTalkOfAStore(t *testing.T) {
	s := newStore(5)
	for place, c := range []struct {
		act  string
		all  []impl.Cell
		lsns [4]int64
		sure int
		recs int
		next int64
		open []int64
	}{
		{"b", nil, [4]int64{}, 0, 1, 6, numbersOf(5)},
		{"b", nil, [4]int64{}, 0, 2, 7, numbersOf(5, 6)},
		{"p5.5=7", cellList(5, 7), [4]int64{0, 3, 0, 0}, 0, 3, 7, numbersOf(5, 6)},
		{"p6.8=1", cellList(5, 7, 8, 1), [4]int64{4, 3, 0, 0}, 0, 4, 7, numbersOf(5, 6)},
		{"f2", cellList(5, 7, 8, 1), [4]int64{4, 3, 0, 0}, 0, 4, 7, numbersOf(5, 6)},
		{"f1", cellList(5, 7, 8, 1), [4]int64{4, 3, 0, 0}, 4, 4, 7, numbersOf(5, 6)},
		{"p5.5-", cellList(8, 1), [4]int64{4, 5, 0, 0}, 4, 5, 7, numbersOf(5, 6)},
		{"f0", cellList(8, 1), [4]int64{4, 5, 0, 0}, 4, 5, 7, numbersOf(5, 6)},
		{"a5", cellList(8, 1), [4]int64{4, 7, 0, 0}, 4, 8, 7, numbersOf(6)},
		{"b", cellList(8, 1), [4]int64{4, 7, 0, 0}, 4, 9, 8, numbersOf(6, 7)},
		{"p7.5=2", cellList(5, 2, 8, 1), [4]int64{4, 10, 0, 0}, 4, 10, 8, numbersOf(6, 7)},
		{"c6", cellList(5, 2, 8, 1), [4]int64{4, 10, 0, 0}, 11, 11, 8, numbersOf(7)},
		{"p7.8=3", cellList(5, 2, 8, 3), [4]int64{12, 10, 0, 0}, 11, 12, 8, numbersOf(7)},
		{"f1", cellList(5, 2, 8, 3), [4]int64{12, 10, 0, 0}, 11, 12, 8, numbersOf(7)},
		{"a7", cellList(8, 1), [4]int64{13, 14, 0, 0}, 11, 15, 8, nil},
	} {
		s = storeBehind(t, s, c.act)
		if got := impl.MapOf(s).Cells; !slices.Equal(got, c.all) || s.Next != c.next || !slices.Equal(s.Open, c.open) {
			t.Errorf("act %d, %s: all are %+v, Next %d, Open %v", place, c.act, got, s.Next, s.Open)
		}
		if len(s.Log.Sure) != c.sure*recSize || len(recsOfStore(s)) != c.recs {
			t.Errorf("act %d, %s: %d bytes sure of %d records", place, c.act, len(s.Log.Sure), len(recsOfStore(s)))
		}
		for id, lsn := range c.lsns {
			if s.Pages[id].Lsn != lsn {
				t.Errorf("act %d, %s: page %d has the number %d, want %d", place, c.act, id, s.Pages[id].Lsn, lsn)
			}
		}
	}
}

// storeWithRoom lays each list ahead of room that is not its own to be written.
func storeWithRoom(s impl.Store) impl.Store {
	s.Pages, s.Disk, s.Log = roomy(s.Pages), diskWithRoom(s.Disk), logWithRoom(s.Log)
	s.Held, s.Open = roomy(s.Held), roomy(s.Open)
	for id := range s.Pages {
		s.Pages[id].Cells = roomy(s.Pages[id].Cells)
	}
	return s
}

// storeRoom tells all that stands in a store and behind its lists.
func storeRoom(s impl.Store) string {
	b := fmt.Appendf(nil, "%d %v %v;", s.Next, wholeRoom(s.Held), wholeRoom(s.Open))
	for _, p := range wholeRoom(s.Pages) {
		b = fmt.Appendf(b, "%d %d %v;", p.Id, p.Lsn, wholeRoom(p.Cells))
	}
	return string(b) + roomOf(s.Disk) + told(logRoom(s.Log))
}

// storesToAsk: sound ones, and ones that have a fault.
func storesToAsk() []impl.Store {
	out := someStores()
	for n, f := range append(storeFaultsInOrder(), moreStoreFaults()...) {
		if s := turnStore(handStore(), f.turn); n%7 == 0 && len(s.Disk.Pages) < 100 && len(s.Disk.Loose) < 100 && len(s.Log.Sure) < 5000 {
			out = append(out, s)
		}
	}
	return out
}

func TestStoreArgumentsStay(t *testing.T) {
	for n, s := range storesToAsk() {
		with := storeWithRoom(s)
		before := storeRoom(with)
		for place, a := range storeActsNear(s) {
			if place%3 == n%3 || a.kind != 'p' {
				askStore(with, a)
			}
		}
		if storeRoom(with) != before {
			t.Fatalf("store %d was changed: %+v", n, s)
		}
	}
}

// turnsOfStore: all stores that are answered of one.
func turnsOfStore(s impl.Store) []impl.Store {
	out := []impl.Store{impl.NewStore(s.Next).Store, impl.BeginStore(s).Store}
	for id := range int64(4) {
		out = append(out, impl.FlushPage(s, id).Store)
	}
	for _, txn := range s.Open[:min(2, len(s.Open))] {
		out = append(out, impl.CommitStore(s, txn).Store, impl.AbortStore(s, txn).Store)
		for _, key := range []int64{0, 1, 5, 30, 31} {
			out = append(out, impl.PutStore(s, txn, key, true, 12).Store, impl.PutStore(s, txn, key, false, 0).Store)
		}
	}
	return out
}

func spoilStore(s impl.Store) {
	for _, p := range s.Pages {
		spoil(p.Cells, impl.Cell{Key: -5, Value: -5})
	}
	for _, data := range listsOf(s.Disk) {
		spoil(data, 0xa5)
	}
	spoil(s.Log.Sure, 0xa5)
	spoil(s.Log.Loose, 0xa5)
	spoil(s.Held, heldOf(-5, -5))
	spoil(s.Open, -5)
	spoil(s.Pages, impl.Page{Id: -5})
	spoil(s.Disk.Pages, nil)
	spoil(s.Disk.Loose, impl.Loose{Page: -5})
}

// wantOwnLists: no two lists of one store share memory.
func wantOwnLists(t *testing.T, name string, s impl.Store) {
	t.Helper()
	var cells [][]impl.Cell
	for _, p := range s.Pages {
		cells = append(cells, p.Cells)
	}
	wantOwnCells(t, name, cells)
	data := append(listsOf(s.Disk), s.Log.Sure, s.Log.Loose)
	for place, list := range data {
		spoil(list, byte(place))
	}
	for place, list := range data {
		if slices.ContainsFunc(wholeRoom(list), func(b byte) bool { return b != byte(place) }) {
			t.Fatalf("%s: two lists of bytes share memory", name)
		}
	}
}

func TestStoreAnswersAreNewMemory(t *testing.T) {
	for n, s := range someStores() {
		with := storeWithRoom(s)
		before := storeRoom(with)
		spoilt, other, third := turnsOfStore(with), turnsOfStore(with), turnsOfStore(with)
		cells, more := impl.MapOf(with).Cells, impl.MapOf(with).Cells
		var want []impl.Store
		for _, one := range other {
			want = append(want, copyStore(one))
		}
		for place := range spoilt {
			wantOwnLists(t, fmt.Sprintf("store %d, answer %d", n, place), third[place])
			spoilStore(spoilt[place])
		}
		spoil(cells, impl.Cell{Key: -5})
		if storeRoom(with) != before || !slices.Equal(more, mapByHand(s)) {
			t.Fatalf("store %d: an answer shares memory with its argument, or with another one", n)
		}
		spoilStore(with)
		for place := range other {
			if !sameStore(other[place], want[place]) {
				t.Fatalf("store %d: answer %d shares memory with another one, or with its argument", n, place)
			}
		}
		if !slices.Equal(more, mapByHand(s)) {
			t.Fatalf("store %d: its cells hang on what it became", n)
		}
	}
}

// Lists of an argument may be pieces of one: what one of them gets is not seen in another one.
func TestStoreOfPiecesStays(t *testing.T) {
	for n, s := range someStores() {
		cells := mapByHand(s)
		slices.SortStableFunc(cells, func(a, b impl.Cell) int { return int(a.Key%4 - b.Key%4) })
		pieces, place := copyStore(s), 0
		for id := range pieces.Pages {
			count := len(pieces.Pages[id].Cells)
			pieces.Pages[id].Cells = cells[place : place+count]
			place += count
		}
		whole := slices.Concat(s.Log.Sure, s.Log.Loose)
		pieces.Log = impl.Log{Sure: whole[:len(s.Log.Sure)], Loose: whole[len(s.Log.Sure):]}
		if !sameStore(pieces, s) {
			t.Fatalf("store %d as pieces is another one", n)
		}
		for _, a := range storeActsNear(s) {
			if got, want := askStore(pieces, a), askStore(s, a); !sameStoreAnswer(got, want) || !sameStore(pieces, s) {
				t.Fatalf("store %d as pieces: %+v is %+v, want %+v", n, a, got, want)
			}
		}
	}
}

func emptyFor[E any](list []E, nils bool) []E {
	if len(list) > 0 {
		return slices.Clone(list)
	}
	if nils {
		return nil
	}
	return []E{}
}

func withEmptiesOfStore(s impl.Store, nils bool) impl.Store {
	s = copyStore(s)
	for id := range s.Pages {
		s.Pages[id].Cells = emptyFor(s.Pages[id].Cells, nils)
	}
	s.Pages, s.Held, s.Open = emptyFor(s.Pages, nils), emptyFor(s.Held, nils), emptyFor(s.Open, nils)
	s.Disk = impl.Disk{Pages: emptyFor(s.Disk.Pages, nils), Loose: emptyFor(s.Disk.Loose, nils)}
	s.Log = impl.Log{Sure: emptyFor(s.Log.Sure, nils), Loose: emptyFor(s.Log.Loose, nils)}
	return s
}

func TestNilAndEmptyListsOfStoresAreAlike(t *testing.T) {
	for n, s := range storesToAsk() {
		nils, empties := withEmptiesOfStore(s, true), withEmptiesOfStore(s, false)
		for _, a := range storeActsNear(s) {
			if one, two := askStore(nils, a), askStore(empties, a); !sameStoreAnswer(one, two) {
				t.Fatalf("store %d, %+v: with nil %+v, with empty lists %+v", n, a, one, two)
			}
		}
	}
}

func TestStoresKeepNothing(t *testing.T) {
	wantSameAgain(t, storesToAsk(), func(s impl.Store) string {
		var out []any
		for place, a := range storeActsNear(s) {
			if place%5 == 0 || a.kind == 'a' {
				out = append(out, askStore(s, a))
			}
		}
		return told(append(out, impl.NewStore(s.Next)))
	})
}

// thrownStoreTurn: the store with one number, or one list, turned.
func thrownStoreTurn(s impl.Store, d *dice) impl.Store {
	s = copyStore(s)
	odd := []int64{math.MinInt64, -1, 0, 1, 2, 3, 4, 5, 31, 32, 998, 999, 1000, 9999, 10000, topLsn, topLsn + 1, math.MaxInt64}
	pick := func() int64 { return odd[d.upTo(int64(len(odd)-1))] }
	id := d.upTo(int64(len(s.Pages) - 1))
	switch d.upTo(13) {
	case 0:
		s.Next = pick()
	case 1:
		s.Pages[id].Id = pick()
	case 2:
		s.Pages[id].Lsn = pick()
	case 3:
		s.Pages[id].Cells = append(s.Pages[id].Cells, impl.Cell{Key: pick(), Value: d.upTo(9999)})
	case 4:
		s.Pages[id].Cells = wanted(s.Pages[id].Cells, d.upTo(31), true, d.upTo(9999))
	case 5:
		s.Pages[id], s.Pages[0] = s.Pages[0], s.Pages[id]
	case 6:
		s.Disk = thrownDisk(d)
	case 7:
		s.Log = splitLog(packRecsByHand(thrownRecs(d, int(d.upTo(5)))), int(d.upTo(0)))
	case 8:
		s.Log.Loose = append(s.Log.Loose, byte(d.upTo(255)))
	case 9:
		s.Open = append(s.Open, pick())
	case 10:
		s.Open = slices.Insert(s.Open, int(d.upTo(int64(len(s.Open)))), d.upTo(max(0, s.Next%1000)))
	case 11:
		s.Held = append(s.Held, heldOf(pick(), pick()))
	case 12:
		s.Held = slices.Insert(s.Held, int(d.upTo(int64(len(s.Held)))), heldOf(append(s.Open, 1)[0], d.upTo(31)))
	case 13:
		s.Disk.Loose = append(s.Disk.Loose, impl.Loose{Page: d.upTo(4), Part: d.upTo(3), Data: make([]byte, 16)})
	}
	return s
}

func TestStoresThatWereTurned(t *testing.T) {
	d := dice(133)
	stores, met := someStores(), map[int64]int{}
	numbers := []int64{math.MinInt64, -1, 0, 1, 2, 3, 4, 5, 30, 31, 32, 998, 999, 9999, 10000, math.MaxInt64}
	pick := func() int64 { return numbers[d.upTo(int64(len(numbers)-1))] }
	for turn := range 5000 {
		s := thrownStoreTurn(stores[d.upTo(int64(len(stores)-1))], &d)
		for d.upTo(2) == 0 && len(s.Pages) > 0 {
			s = thrownStoreTurn(s, &d)
		}
		met[storeFaultByHand(s)]++
		mustPanicNever(t, told(s), func() {
			for _, kind := range []byte("bpgcafmx") {
				a := storeAct{kind, pick(), pick(), d.upTo(1) == 0, pick()}
				if len(s.Open) > 0 && d.upTo(1) == 0 {
					a.txn = s.Open[d.upTo(int64(len(s.Open)-1))]
				}
				wantStoreTold(t, fmt.Sprint("turn ", turn), s, a)
			}
		})
	}
	for _, code := range []int64{impl.OK, impl.ErrForm, impl.ErrRange, impl.ErrNone, impl.ErrText} {
		if met[code] < 50 {
			t.Errorf("code %d was met only %d times", code, met[code])
		}
	}
}

func TestStoresNeverPanic(t *testing.T) {
	numbers := []int64{math.MinInt64, -1, 0, 1, 4, 31, 32, 999, 1000, 10000, math.MaxInt64}
	for _, one := range numbers {
		mustPanicNever(t, fmt.Sprint("numbers as ", one), func() {
			impl.NewStore(one)
			for _, s := range []impl.Store{{}, {Next: one}, {Next: 1, Pages: make([]impl.Page, 4)}, newStore(7), handStore(), fullPages()} {
				for _, kind := range []byte("bpgcafmx") {
					for _, two := range numbers {
						wantStoreTold(t, fmt.Sprint("numbers ", one, two), s, storeAct{kind, one, two, true, one})
						wantStoreTold(t, fmt.Sprint("numbers ", one, two), s, storeAct{kind, two, one, false, two})
					}
				}
			}
		})
	}
	great := turnStore(handStore(), func(s *impl.Store) { s.Open = make([]int64, 1<<20) })
	wantCode(t, "very many Open", impl.BeginStore(great), impl.ErrRange)
	great = turnStore(handStore(), func(s *impl.Store) { s.Held = slices.Repeat([]impl.Held{heldOf(2, 3)}, 1<<20) })
	wantCode(t, "very many Held", impl.BeginStore(great), impl.ErrForm)
	great = turnStore(handStore(), func(s *impl.Store) { s.Pages = make([]impl.Page, 1<<20) })
	wantCode(t, "very many Pages", impl.BeginStore(great), impl.ErrForm)
}
