package tests

import (
	"bytes"
	"fmt"
	"math"
	"slices"
	"strings"
	"testing"

	"loop.example/g00216/impl"
)

const mostSound = 400

func abort(txn int64) impl.Rec { return impl.Rec{Kind: impl.KindAbort, Txn: txn} }
func check() impl.Rec          { return impl.Rec{Kind: impl.KindCheck} }

func turnsByHand(r impl.Rec) bool { return r.Kind == impl.KindPut || r.Kind == impl.KindUndo }

// lastOfKey: what the key has behind the records.
func lastOfKey(recs []impl.Rec, key int64) (bool, int64) {
	for _, r := range slices.Backward(recs) {
		if turnsByHand(r) && r.Key == key {
			return r.Has, r.New
		}
	}
	return false, 0
}

// recIn reads a word: b1, p1.5=7, p1.5- (nothing is put), u1.3 (record 3 is undone), c1, a1, k. What the key Had is what the records ahead leave.
func recIn(ahead []impl.Rec, word string) impl.Rec {
	var txn, second, third int64
	fmt.Sscan(strings.NewReplacer(".", " ", "=", " ", "-", " ").Replace(word[1:]), &txn, &second, &third)
	r := impl.Rec{Kind: int64(strings.IndexByte(" bpcauk", word[0])), Txn: txn}
	switch r.Kind {
	case impl.KindPut:
		r.Key, r.Has, r.New = second, strings.Contains(word, "="), third
		r.Had, r.Old = lastOfKey(ahead, r.Key)
	case impl.KindUndo:
		r.Back = second
		if second <= int64(len(ahead)) {
			undone := ahead[second-1]
			r.Key, r.Has, r.New = undone.Key, undone.Had, undone.Old
		}
		r.Had, r.Old = lastOfKey(ahead, r.Key)
	}
	return r
}

func recsIn(text string) []impl.Rec {
	var out []impl.Rec
	for _, word := range strings.Fields(text) {
		out = append(out, recIn(out, word))
	}
	return out
}

func hasKind(recs []impl.Rec, txn int64, kinds ...int64) bool {
	return slices.ContainsFunc(recs, func(r impl.Rec) bool { return r.Txn == txn && slices.Contains(kinds, r.Kind) })
}

func endedByHand(recs []impl.Rec, txn int64) bool {
	return hasKind(recs, txn, impl.KindCommit, impl.KindAbort)
}

// soundRecByHand asks all records ahead anew, whatever it is that is asked.
func soundRecByHand(ahead []impl.Rec, r impl.Rec) int64 {
	if code := faultByHand(r); code != impl.OK {
		return code
	}
	if r.Kind == impl.KindCheck {
		return impl.OK
	}
	if r.Kind == impl.KindBegin {
		if slices.ContainsFunc(ahead, func(other impl.Rec) bool { return other.Txn == r.Txn }) {
			return impl.ErrState
		}
		return impl.OK
	}
	if !hasKind(ahead, r.Txn, impl.KindBegin) || endedByHand(ahead, r.Txn) {
		return impl.ErrState
	}
	if has, value := lastOfKey(ahead, r.Key); turnsByHand(r) && (has != r.Had || value != r.Old) {
		return impl.ErrForm
	}
	if r.Kind == impl.KindPut && slices.ContainsFunc(ahead, func(other impl.Rec) bool {
		return other.Kind == impl.KindPut && other.Key == r.Key && other.Txn != r.Txn && !endedByHand(ahead, other.Txn)
	}) {
		return impl.ErrConflict
	}
	chain := append(chainByHand(ahead, r.Txn), 0)
	var good bool
	switch r.Kind {
	case impl.KindUndo:
		good = chain[0] == r.Back && ahead[r.Back-1].Key == r.Key && ahead[r.Back-1].Had == r.Has && ahead[r.Back-1].Old == r.New
	case impl.KindAbort:
		good = len(chain) == 1
	default:
		good = !hasKind(ahead, r.Txn, impl.KindUndo)
	}
	if !good {
		return impl.ErrNone
	}
	return impl.OK
}

func soundByHand(recs []impl.Rec) int64 {
	if len(recs) > mostSound {
		return impl.ErrMany
	}
	for place, r := range recs {
		if code := soundRecByHand(recs[:place], r); code != impl.OK {
			return code
		}
	}
	return impl.OK
}

func txnsByHand(fits func(txn int64) bool) []int64 {
	var out []int64
	for txn := int64(1); txn <= 999; txn++ {
		if fits(txn) {
			out = append(out, txn)
		}
	}
	return out
}

func losersByHand(recs []impl.Rec) []int64 {
	return txnsByHand(func(txn int64) bool { return hasKind(recs, txn, impl.KindBegin) && !endedByHand(recs, txn) })
}

func winnersByHand(recs []impl.Rec) []int64 {
	return txnsByHand(func(txn int64) bool { return hasKind(recs, txn, impl.KindCommit) })
}

func undoneByHand(recs []impl.Rec) []int64 {
	var out []int64
	for place, r := range slices.Backward(recs) {
		number := int64(place) + 1
		if !endedByHand(recs, r.Txn) && slices.Contains(chainByHand(recs, r.Txn), number) {
			out = append(out, number)
		}
	}
	return out
}

func winnersCellsByHand(recs []impl.Rec) []impl.Cell {
	has := map[int64]int64{}
	for _, r := range recs {
		if r.Kind != impl.KindPut || !hasKind(recs, r.Txn, impl.KindCommit) {
			continue
		}
		delete(has, r.Key)
		if r.Has {
			has[r.Key] = r.New
		}
	}
	return cellsOfMap(has)
}

// redoneByHand: key by key, the last record that the page does not know.
func redoneByHand(page impl.Page, recs []impl.Rec) impl.Page {
	out := copyPage(page)
	for place, r := range recs {
		if number := int64(place) + 1; turnsByHand(r) && r.Key%4 == page.Id && number > page.Lsn {
			out.Lsn = number
		}
	}
	for key := page.Id; key < 32; key += 4 {
		if has, value := lastOfKey(recs[page.Lsn:], key); slices.ContainsFunc(recs[page.Lsn:], func(r impl.Rec) bool { return turnsByHand(r) && r.Key == key }) {
			out.Cells = wanted(out.Cells, key, has, value)
		}
	}
	return out
}

func redoByHand(d impl.Disk, recs []impl.Rec) impl.PagesResult {
	if code := soundByHand(recs); code != impl.OK {
		return impl.PagesResult{Code: code}
	}
	if code := impl.DiskFault(d); code != impl.OK {
		return impl.PagesResult{Code: code}
	}
	if len(d.Pages) != 4 {
		return impl.PagesResult{Code: impl.ErrForm}
	}
	var out impl.PagesResult
	for id := range int64(4) {
		read := readDiskByHand(d, id)
		if read.Code != impl.OK {
			read.Page = impl.Page{Id: id}
		}
		if int(read.Page.Lsn) > len(recs) || slices.ContainsFunc(read.Page.Cells, func(c impl.Cell) bool { return c.Key%4 != id }) {
			return impl.PagesResult{Code: impl.ErrState}
		}
		out.Pages = append(out.Pages, redoneByHand(read.Page, recs))
	}
	return out
}

func restartByHand(d impl.Disk, l impl.Log) impl.StoreResult {
	if code := impl.LogFault(l); code != impl.OK {
		return impl.StoreResult{Code: code}
	}
	recs := recsByHand(slices.Concat(l.Sure, l.Loose)).Recs
	redone := redoByHand(d, recs)
	if redone.Code != impl.OK {
		return impl.StoreResult{Code: redone.Code}
	}
	next := int64(1)
	for _, r := range recs {
		next = min(999, max(next, r.Txn+1))
	}
	var more []impl.Rec
	for _, number := range undoneByHand(recs) {
		p := recs[number-1]
		more = append(more, undoRec(p.Txn, p.Key, p.Has, p.New, p.Had, p.Old, number))
	}
	losers := losersByHand(recs)
	for _, loser := range losers {
		more = append(more, abort(loser))
	}
	s, room := loggedByHand(impl.Store{Next: next, Pages: redone.Pages, Disk: doneByHand(d, all), Log: l}, more...)
	if !room {
		return impl.StoreResult{Code: impl.ErrMany}
	}
	return impl.StoreResult{Value: int64(len(losers)), Store: s}
}

func samePages(a, b impl.PagesResult) bool {
	return a.Code == b.Code && slices.EqualFunc(a.Pages, b.Pages, samePage)
}

func logOf(recs []impl.Rec) impl.Log { return impl.Log{Sure: packRecsByHand(recs)} }

// wantRecsTold holds all that is told of records, and of a disk and them, against that by hand; it answers the code of the records.
func wantRecsTold(t *testing.T, name string, d impl.Disk, recs []impl.Rec) int64 {
	t.Helper()
	code := soundByHand(recs)
	if got := impl.SoundRecs(recs); got != code {
		t.Fatalf("%s: SoundRecs of\n%+v\nis %d, want %d", name, recs, got, code)
	}
	lists := []struct {
		name      string
		got       impl.IntsResult
		byRecords func([]impl.Rec) []int64
	}{{"LosersOf", impl.LosersOf(recs), losersByHand}, {"WinnersOf", impl.WinnersOf(recs), winnersByHand}, {"UndoneOf", impl.UndoneOf(recs), undoneByHand}}
	for _, list := range lists {
		wantCode(t, name+": "+list.name, list.got, code)
		if code == impl.OK && !slices.Equal(list.got.List, list.byRecords(recs)) {
			t.Fatalf("%s: %s of\n%+v\nis %v, want %v", name, list.name, recs, list.got.List, list.byRecords(recs))
		}
	}
	cells := impl.CommittedMap(recs)
	wantCode(t, name+": CommittedMap", cells, code)
	if code == impl.OK && !slices.Equal(cells.Cells, winnersCellsByHand(recs)) {
		t.Fatalf("%s: CommittedMap of\n%+v\nis %v, want %v", name, recs, cells.Cells, winnersCellsByHand(recs))
	}
	pages, want := impl.RedoPages(d, recs), redoByHand(d, recs)
	wantCode(t, name+": RedoPages", pages, want.Code)
	if !samePages(pages, want) {
		t.Fatalf("%s: RedoPages of\n%+v\n%+v\nis %+v, want %+v", name, d, recs, pages, want)
	}
	return code
}

func wantRestartTold(t *testing.T, name string, d impl.Disk, l impl.Log) impl.StoreResult {
	t.Helper()
	got, want := impl.RestartStore(d, l), restartByHand(d, l)
	wantCode(t, name+": RestartStore", got, want.Code)
	if !sameStoreAnswer(got, want) {
		t.Fatalf("%s: RestartStore of\n%+v\n%+v\nis %+v, want\n%+v", name, d, l, got, want)
	}
	return got
}

// commitWatch knows what was put, and by whom, and does the puts of those who commit.
type commitWatch struct {
	has     map[int64]int64
	pending map[int64][]storeAct
}

func newCommitWatch() commitWatch { return commitWatch{map[int64]int64{}, map[int64][]storeAct{}} }

func (w commitWatch) hear(a storeAct, code int64) {
	switch {
	case code != impl.OK:
	case a.kind == 'p':
		w.pending[a.txn] = append(w.pending[a.txn], a)
	case a.kind == 'a':
		delete(w.pending, a.txn)
	case a.kind == 'c':
		for _, p := range w.pending[a.txn] {
			delete(w.has, p.key)
			if p.has {
				w.has[p.key] = p.value
			}
		}
	}
}

// wantRedoneOnce: what is redone twice is as if once, however many of the pages were written meanwhile.
func wantRedoneOnce(t *testing.T, name string, d impl.Disk, recs []impl.Rec) {
	t.Helper()
	once := impl.RedoPages(d, recs)
	for _, mask := range []int{15, 6, 9} {
		disk := impl.SyncDisk(d).Disk
		for id, p := range once.Pages {
			if mask>>id&1 == 1 {
				disk = impl.WriteDisk(disk, p).Disk
			}
		}
		if twice := impl.RedoPages(disk, recs); once.Code != impl.OK || !samePages(twice, once) {
			t.Fatalf("%s: redone once %+v, and twice %+v", name, once, twice)
		}
	}
}

// wantComesBack: behind a restart there is just what was committed, and nothing is left to be done.
func wantComesBack(t *testing.T, name string, s impl.Store, committed []impl.Cell, met map[string]int) impl.StoreResult {
	t.Helper()
	recs := recsOfStore(s)
	if code := impl.SoundRecs(recs); code != impl.OK {
		t.Fatalf("%s: SoundRecs is %d of\n%+v", name, code, recs)
	}
	wantDiskBehindLog(t, name, s)
	if got := impl.CommittedMap(recs); got.Code != impl.OK || !slices.Equal(got.Cells, committed) {
		t.Fatalf("%s: CommittedMap is %+v, and committed was %+v", name, got, committed)
	}
	losers := impl.LosersOf(recs).List
	if !slices.Equal(losers, s.Open) {
		t.Fatalf("%s: losers are %v, and Open %v", name, losers, s.Open)
	}
	back := impl.RestartStore(s.Disk, s.Log)
	if lacks := len(recs)+len(impl.UndoneOf(recs).List)+len(losers) > maxRecs; lacks {
		wantCode(t, name+": without room", back, impl.ErrMany)
		met["no room"]++
		return back
	}
	wantCode(t, name, back, impl.OK)
	if got := impl.MapOf(back.Store); got.Code != impl.OK || !slices.Equal(got.Cells, committed) {
		t.Fatalf("%s: behind the restart MapOf is %+v, and committed was %+v", name, got, committed)
	}
	after := recsOfStore(back.Store)
	if len(back.Store.Open)+len(back.Store.Held) > 0 || back.Value != int64(len(losers)) || impl.StoreFault(back.Store) != impl.OK || len(back.Store.Disk.Loose) > 0 {
		t.Fatalf("%s: behind the restart Value is %d, and the store %+v", name, back.Value, back.Store)
	}
	if impl.SoundRecs(after) != impl.OK || len(impl.LosersOf(after).List)+len(impl.UndoneOf(after).List) > 0 || !slices.Equal(impl.WinnersOf(after).List, impl.WinnersOf(recs).List) {
		t.Fatalf("%s: behind the restart the records are\n%+v", name, after)
	}
	again := impl.RestartStore(back.Store.Disk, back.Store.Log)
	if again.Code != impl.OK || again.Value != 0 || !sameStore(again.Store, back.Store) {
		t.Fatalf("%s: a restart of the restart is %+v, want %+v", name, again, back.Store)
	}
	wantRedoneOnce(t, name, s.Disk, recs)
	met["came back"]++
	met["losers"] += len(losers)
	met["undone"] += len(after) - len(recs) - len(losers)
	if len(committed) > 3 {
		met["four cells"]++
	}
	return back
}

// A store that came of a new one, by acts and by restarts, comes back as it was committed.
func TestStoresComeBackAsCommitted(t *testing.T) {
	d := dice(140)
	met := map[string]int{}
	for run := range 130 {
		s, watch := newStore([]int64{1, 1, 500, 975}[run%4]), newCommitWatch()
		keys, steps := []int64{2, 4, 8, 32}[d.upTo(3)], 40+d.upTo(200)
		if run%16 == 0 {
			steps = 480 // the log comes to its end
		}
		for step := range steps {
			name := fmt.Sprintf("run %d, step %d", run, step)
			a := thrownStoreAct(s, &d, keys)
			answer := askStore(s, a)
			watch.hear(a, codeOfAnswer(answer))
			s = turnedByAct(s, answer)
			if codeOfAnswer(answer) != impl.OK || step%3 > 0 && step > 20 {
				continue
			}
			back := wantComesBack(t, name, s, cellsOfMap(watch.has), met)
			if step%5 == 0 {
				wantRecsTold(t, name, s.Disk, recsOfStore(s))
				wantRestartTold(t, name, s.Disk, s.Log)
			}
			if back.Code == impl.OK && d.upTo(15) == 0 {
				s = back.Store
				clear(watch.pending)
				met["went on"]++
			}
		}
	}
	for word, least := range map[string]int{"came back": 5000, "losers": 9000, "undone": 9000, "four cells": 1500, "went on": 200, "no room": 30} {
		if met[word] < least {
			t.Errorf("%s: met only %d times", word, met[word])
		}
	}
}

// pageAt: the page of a store that has logged just these records.
func pageAt(recs []impl.Rec, id int64) impl.Page { return redoneByHand(impl.Page{Id: id}, recs) }

// diskAt: the pages of mask were flushed behind these records, the others never.
func diskAt(recs []impl.Rec, mask int) impl.Disk {
	d := diskByHand(4)
	for id := range int64(4) {
		if mask>>id&1 == 1 {
			d.Pages[id] = packByHand(pageAt(recs, id))
		}
	}
	return d
}

func longRun() []impl.Rec {
	return recsIn("b1 p1.1=5 p1.5=6 b2 k p2.2=7 p1.1=8 p2.0=1 c1 p2.1- p2.6=4 b3 p3.3=3 u2.11 u2.10 u2.8 u2.6 a2 p3.0=9 p3.3- p3.5=2 c3 b4 b5 p4.1=7 p5.2=8 p4.5- p5.3=6 k p4.1=9")
}

// Whichever pages were flushed, and behind whichever record: the redone pages are those of all records.
func TestRedoOfFlushedPages(t *testing.T) {
	run := longRun()
	if code := soundByHand(run); code != impl.OK {
		t.Fatalf("the run has the code %d", code)
	}
	for flushed := range len(run) + 1 {
		for mask := range 16 {
			d := diskAt(run[:flushed], mask)
			for _, count := range []int{flushed, flushed + 1, (flushed + len(run)) / 2, len(run)} {
				recs := run[:min(count, len(run))]
				name := fmt.Sprintf("pages %04b as of record %d, %d records", mask, flushed, len(recs))
				got := impl.RedoPages(d, recs)
				wantCode(t, name, got, impl.OK)
				for id, p := range got.Pages {
					if want := pageAt(recs, int64(id)); !samePage(p, want) {
						t.Fatalf("%s: page %d is %+v, want %+v", name, id, p, want)
					}
				}
				wantRedoneOnce(t, name, d, recs)
				back := impl.RestartStore(d, logOf(recs))
				if all := impl.MapOf(back.Store); back.Code != impl.OK || !slices.Equal(all.Cells, winnersCellsByHand(recs)) {
					t.Fatalf("%s: RestartStore has %+v, want %+v", name, all, winnersCellsByHand(recs))
				}
			}
		}
	}
}

// A page of each number, whose cell no record has put: from its number on it stays as it is.
func TestRecordsThatThePageKnows(t *testing.T) {
	recs := recsIn("b1 p1.5=1 k p1.5=2 p1.9=3 p1.5- p1.6=8 k")
	for lsn := range int64(12) {
		d := diskByHand(4)
		d.Pages[1] = packByHand(impl.Page{Id: 1, Lsn: lsn, Cells: cellList(5, 99, 13, 98)})
		got := impl.RedoPages(d, recs)
		if lsn > 8 {
			wantCode(t, fmt.Sprint("Lsn ", lsn), got, impl.ErrState)
			wantCode(t, fmt.Sprint("Lsn ", lsn), impl.RestartStore(d, logOf(recs)), impl.ErrState)
			continue
		}
		want := impl.Page{Id: 1, Lsn: 6, Cells: cellList(9, 3, 13, 98)}
		switch {
		case lsn >= 6:
			want = impl.Page{Id: 1, Lsn: lsn, Cells: cellList(5, 99, 13, 98)}
		case lsn == 5:
			want.Cells = cellList(13, 98)
		}
		wantCode(t, fmt.Sprint("Lsn ", lsn), got, impl.OK)
		if !samePage(got.Pages[1], want) || !samePage(got.Pages[2], impl.Page{Id: 2, Lsn: 7, Cells: cellList(6, 8)}) || !samePage(got.Pages[0], impl.Page{}) {
			t.Errorf("Lsn %d: %+v, want %+v", lsn, got, want)
		}
	}
	for key := range int64(32) {
		for count := range 4 {
			recs := recsIn(fmt.Sprintf("b1 p1.%d=7 p1.%d=8", key, key))[:count]
			for lsn := range int64(6) {
				d := diskByHand(4)
				id := key % 4
				d.Pages[id] = packByHand(impl.Page{Id: id, Lsn: lsn, Cells: cellList(key, 99)})
				name := fmt.Sprintf("key %d, %d records, Lsn %d", key, count, lsn)
				code, value := int64(impl.OK), int64(99)
				switch {
				case lsn > int64(count):
					code = impl.ErrState
				case lsn < 2 && count == 2:
					value = 7
				case lsn < 3 && count == 3:
					value = 8
				}
				got := impl.RedoPages(d, recs)
				wantCode(t, name, got, code)
				if code == impl.OK && !slices.Equal(got.Pages[id].Cells, cellList(key, value)) {
					t.Errorf("%s: %+v, want the value %d", name, got, value)
				}
			}
		}
	}
}

// tornPages: bytes that are no page of the Id.
func tornPages(id int64) map[string][]byte {
	good := packByHand(impl.Page{Id: id, Lsn: 3, Cells: cellList(id, 77)})
	torn := slices.Clone(good)
	torn[20] ^= 1
	text := slices.Clone(good)
	text[45] = 1
	return map[string][]byte{
		"noughts": make([]byte, 48), "a wrong sum": torn, "no page": withSum(text),
		"the Id of another page":            packByHand(impl.Page{Id: (id + 1) % 4, Lsn: 3, Cells: cellList(id, 77)}),
		"the Id 7, an Lsn above all":        packByHand(impl.Page{Id: 7, Lsn: 1000}),
		"the Id 5, a Key of the wrong page": packByHand(impl.Page{Id: 5, Cells: cellList((id+1)%4, 77)}),
	}
}

// A page that cannot be read is new, and made from its first record on.
func TestRedoOfPagesThatCannotBeRead(t *testing.T) {
	run := longRun()
	for id := range int64(4) {
		for name, data := range tornPages(id) {
			for count := range len(run) + 1 {
				recs := run[:count]
				d := diskAt(recs, 15)
				d.Pages[id] = data
				loose := writeByHand(diskAt(recs, 15), id, data)
				for _, disk := range []impl.Disk{d, loose} {
					if got := impl.ReadDisk(disk, id); got.Code == impl.OK {
						t.Fatalf("page %d as %s is read: %+v", id, name, got)
					}
					got := impl.RedoPages(disk, recs)
					wantCode(t, name, got, impl.OK)
					for other := range int64(4) {
						if !samePage(got.Pages[other], pageAt(recs, other)) {
							t.Fatalf("page %d as %s, %d records: page %d is %+v", id, name, count, other, got.Pages[other])
						}
					}
					back := wantRestartTold(t, name, disk, logOf(recs))
					if all := impl.MapOf(back.Store).Cells; !slices.Equal(all, winnersCellsByHand(recs)) {
						t.Fatalf("page %d as %s, %d records: all are %+v", id, name, count, all)
					}
				}
			}
		}
	}
}

// What a loose write would leave is read: one above another, or a part of one.
func TestRedoHearsOfLooseWrites(t *testing.T) {
	recs := recsIn("b1 p1.1=5 p1.5=6 p1.1=7")
	old := impl.Page{Id: 1, Lsn: 2, Cells: cellList(1, 50)}
	young := impl.Page{Id: 1, Lsn: 3, Cells: cellList(1, 51, 5, 52)}
	lasts := diskByHand(4)
	lasts.Pages[1] = packByHand(old)
	for _, c := range []struct {
		name string
		disk impl.Disk
		want []impl.Cell
	}{
		{"none", diskByHand(4), cellList(1, 7, 5, 6)},
		{"one that lasts", lasts, cellList(1, 7, 5, 6)},
		{"one that is loose", writeByHand(diskByHand(4), 1, packByHand(young)), cellList(1, 7, 5, 52)},
		{"a loose one above the one that lasts", writeByHand(lasts, 1, packByHand(young)), cellList(1, 7, 5, 52)},
		{"an old one above a young one", writeByHand(writeByHand(diskByHand(4), 1, packByHand(young)), 1, packByHand(old)), cellList(1, 7, 5, 6)},
		{"a loose one of number 4", writeByHand(lasts, 1, packByHand(impl.Page{Id: 1, Lsn: 4, Cells: cellList(9, 9)})), cellList(9, 9)},
	} {
		got := impl.RedoPages(c.disk, recs)
		wantCode(t, c.name, got, impl.OK)
		if !slices.Equal(got.Pages[1].Cells, c.want) || got.Pages[1].Lsn != 4 {
			t.Errorf("%s: page 1 is %+v, want %+v", c.name, got.Pages[1], c.want)
		}
		back := wantRestartTold(t, c.name, c.disk, logOf(recs))
		if !sameDisk(back.Store.Disk, doneByHand(c.disk, all)) {
			t.Errorf("%s: the disk is %+v", c.name, back.Store.Disk)
		}
	}
	wantCode(t, "a loose one of number 5", impl.RedoPages(writeByHand(lasts, 1, packByHand(impl.Page{Id: 1, Lsn: 5})), recs), impl.ErrState)
	covered := diskByHand(4)
	covered.Pages[1] = packByHand(impl.Page{Id: 1, Lsn: 5})
	wantCode(t, "one of number 5 below a loose one", impl.RedoPages(writeByHand(covered, 1, packByHand(young)), recs), impl.OK)
	full := withLoose(diskByHand(4), 60)
	if got := wantRestartTold(t, "60 loose writes", full, logOf(recs)); got.Code != impl.OK || len(got.Store.Disk.Loose) != 0 {
		t.Errorf("60 loose writes: %+v", got)
	}
}

// Who lost, what there is to be undone, and what a restart logs.
func TestLosersAsTold(t *testing.T) {
	for _, c := range []struct {
		recs            string
		losers, winners []int64
		undone          []int64
		logged          string // behind the records
	}{
		{"", nil, nil, nil, ""},
		{"k k", nil, nil, nil, ""},
		{"b1", numbersOf(1), nil, nil, "a1"},
		{"b1 k", numbersOf(1), nil, nil, "a1"},
		{"b1 c1", nil, numbersOf(1), nil, ""},
		{"b1 a1", nil, nil, nil, ""},
		{"b1 p1.5=7", numbersOf(1), nil, numbersOf(2), "u1.2 a1"},
		{"b1 p1.5=7 c1", nil, numbersOf(1), nil, ""},
		{"b1 p1.5=7 u1.2", numbersOf(1), nil, nil, "a1"},
		{"b1 p1.5=7 u1.2 a1", nil, nil, nil, ""},
		{"b1 p1.5=7 p1.6=8 u1.3", numbersOf(1), nil, numbersOf(2), "u1.2 a1"},
		{"b1 p1.5=7 p1.6=8 u1.3 u1.2", numbersOf(1), nil, nil, "a1"},
		{"b1 p1.5=7 p1.5=8 p1.5- u1.4", numbersOf(1), nil, numbersOf(3, 2), "u1.3 u1.2 a1"},
		{"b1 p1.5-", numbersOf(1), nil, numbersOf(2), "u1.2 a1"},
		{"b3 b1 b2", numbersOf(1, 2, 3), nil, nil, "a1 a2 a3"},
		{"b3 b1 b2 c3 c1", numbersOf(2), numbersOf(1, 3), nil, "a2"},
		{"b9 b1 b5 c5 c9 c1", nil, numbersOf(1, 5, 9), nil, ""},
		{"b999 b1 p999.0=1 p1.1=2", numbersOf(1, 999), nil, numbersOf(4, 3), "u1.4 u999.3 a1 a999"},
		{"b2 b1 p2.1=1 p1.2=2 p2.3=3 p1.4=4", numbersOf(1, 2), nil, numbersOf(6, 5, 4, 3), "u1.6 u2.5 u1.4 u2.3 a1 a2"},
		{"b1 b2 p1.1=1 p2.2=2 c1 p2.1=3", numbersOf(2), numbersOf(1), numbersOf(6, 4), "u2.6 u2.4 a2"},
		{"b1 b2 p1.1=1 p2.2=2 u1.3 p2.3=4", numbersOf(1, 2), nil, numbersOf(6, 4), "u2.6 u2.4 a1 a2"},
		{"b1 b2 b3 p1.1=1 p2.2=2 p1.3=3 p3.4=4 p2.5=5 u2.8 p3.6=6 c3 p1.7=7", numbersOf(1, 2), numbersOf(3), numbersOf(12, 6, 5, 4), "u1.12 u1.6 u2.5 u1.4 a1 a2"},
		{"b1 p1.5=7 c1 b2 p2.5=8 p2.5- p2.5=9", numbersOf(2), numbersOf(1), numbersOf(7, 6, 5), "u2.7 u2.6 u2.5 a2"},
		{"b1 p1.5=7 u1.2 a1 b2 p2.5=8", numbersOf(2), nil, numbersOf(6), "u2.6 a2"},
	} {
		recs := recsIn(c.recs)
		wantRecsTold(t, c.recs, diskByHand(4), recs)
		if got := impl.LosersOf(recs).List; !slices.Equal(got, c.losers) {
			t.Errorf("%s: LosersOf = %v, want %v", c.recs, got, c.losers)
		}
		if got := impl.WinnersOf(recs).List; !slices.Equal(got, c.winners) {
			t.Errorf("%s: WinnersOf = %v, want %v", c.recs, got, c.winners)
		}
		if got := impl.UndoneOf(recs).List; !slices.Equal(got, c.undone) {
			t.Errorf("%s: UndoneOf = %v, want %v", c.recs, got, c.undone)
		}
		for _, sure := range []int{0, len(recs) * recSize, len(recs) * recSize / 2} {
			l := splitLog(packRecsByHand(recs), sure)
			got := wantRestartTold(t, c.recs, diskByHand(4), l)
			want := recsIn(c.recs + " " + c.logged)
			if got.Value != int64(len(c.losers)) || !slices.Equal(recsOfStore(got.Store), want) || !bytes.Equal(got.Store.Log.Sure, l.Sure) {
				t.Errorf("%s: Value %d, records\n%+v, want\n%+v", c.recs, got.Value, recsOfStore(got.Store), want)
			}
		}
	}
}

func TestCommittedMapAsTold(t *testing.T) {
	for _, c := range []struct {
		recs string
		want []impl.Cell
	}{
		{"", nil}, {"k", nil}, {"b1 p1.5=7", nil}, {"b1 p1.5=7 c1", cellList(5, 7)}, {"b1 p1.5=7 u1.2 a1", nil}, {"b1 p1.5=0 c1", cellList(5, 0)},
		{"b1 p1.5=7 p1.5=8 c1", cellList(5, 8)}, {"b1 p1.5=7 p1.5- c1", nil}, {"b1 p1.5- c1", nil}, {"b1 p1.5=7 p1.5- p1.5=9 c1", cellList(5, 9)},
		{"b1 p1.31=1 p1.0=2 p1.9=3 p1.4=4 c1", cellList(0, 2, 4, 4, 9, 3, 31, 1)},
		{"b1 p1.5=7 c1 b2 p2.5=8 c2", cellList(5, 8)}, {"b1 p1.5=7 c1 b2 p2.5=8", cellList(5, 7)}, {"b1 p1.5=7 c1 b2 p2.5- c2", nil}, {"b1 p1.5=7 c1 b2 p2.5-", cellList(5, 7)},
		{"b1 p1.5=7 c1 b2 p2.5- u2.5 a2 b3 p3.6=1 c3", cellList(5, 7, 6, 1)}, {"b2 p2.5=7 c2 b1 p1.5=8 c1", cellList(5, 8)}, {"b9 b1 p1.5=8 c1 p9.5=7 c9", cellList(5, 7)},
		{"b1 b2 b3 p1.1=1 p2.2=2 p3.3=3 c3 p1.4=4 c1", cellList(1, 1, 3, 3, 4, 4)}, {"b1 p1.5=7 c1 b2 p2.5=8 u2.5 a2 b3 p3.5=9 c3", cellList(5, 9)},
		{"b1 p1.5=7 c1 b2 p2.5- c2 b3 p3.5=1 c3 b4 p4.5- c4 b5 p5.9=2 c5", cellList(9, 2)},
	} {
		recs := recsIn(c.recs)
		wantRecsTold(t, c.recs, diskByHand(4), recs)
		if got := impl.CommittedMap(recs); !slices.Equal(got.Cells, c.want) {
			t.Errorf("%s: CommittedMap = %+v, want %+v", c.recs, got, c.want)
		}
	}
	var every string
	for key := range int64(32) {
		every += fmt.Sprintf(" p1.%d=%d", 31-key, 100+key)
	}
	if got := impl.CommittedMap(recsIn("b1" + every + " c1")); len(got.Cells) != 32 || got.Cells[0] != (impl.Cell{Key: 0, Value: 131}) || got.Cells[31] != (impl.Cell{Key: 31, Value: 100}) {
		t.Errorf("of all keys: %+v", got)
	}
}

// wantUnsound: the records ahead are sound, with this one they have the code, whatever stands behind it.
func wantUnsound(t *testing.T, name string, ahead []impl.Rec, r impl.Rec, code int64) {
	t.Helper()
	if got := impl.SoundRecs(ahead); got != impl.OK {
		t.Errorf("%s: the records ahead have the code %d", name, got)
	}
	with := append(slices.Clone(ahead), r)
	wantRecsTold(t, name, diskByHand(4), with)
	if got := impl.SoundRecs(with); got != code {
		t.Errorf("%s: SoundRecs = %d, want %d", name, got, code)
	}
	if faultByHand(r) == impl.OK {
		wantCode(t, name, wantRestartTold(t, name, diskByHand(4), logOf(with)), code)
	}
	if code == impl.OK {
		return
	}
	for _, behind := range []impl.Rec{{Kind: 9}, {Kind: impl.KindBegin, Txn: 8, Old: 1}, check(), commit(77)} {
		wantRecsTold(t, name, diskByHand(4), append(slices.Clone(with), behind))
		if got := impl.SoundRecs(append(slices.Clone(with), behind)); got != code {
			t.Errorf("%s, and %+v behind: SoundRecs = %d, want %d", name, behind, got, code)
		}
	}
}

func TestCodesOfSoundRecs(t *testing.T) {
	for _, c := range []struct {
		ahead, word string
		code        int64
	}{
		{"", "b1", impl.OK}, {"b1", "b1", impl.ErrState}, {"b1 c1", "b1", impl.ErrState}, {"b1 a1", "b1", impl.ErrState}, {"b1 p1.5=7", "b1", impl.ErrState}, {"b1 p1.5=7 u1.2", "b1", impl.ErrState}, {"b1", "b2", impl.OK}, {"b2", "b1", impl.OK}, {"b1 k", "b1", impl.ErrState}, {"b1 c1 b2", "b1", impl.ErrState}, {"b1 b2 a2 k", "b2", impl.ErrState}, {"", "b999", impl.OK}, {"b999", "b999", impl.ErrState},
		{"", "p1.5=7", impl.ErrState}, {"", "c1", impl.ErrState}, {"", "a1", impl.ErrState}, {"b2", "p1.5=7", impl.ErrState}, {"b2", "c1", impl.ErrState}, {"b2", "a1", impl.ErrState}, {"b1", "p1.5=7", impl.OK}, {"b1", "c1", impl.OK}, {"b1", "a1", impl.OK},
		{"b1 c1", "p1.5=7", impl.ErrState}, {"b1 a1", "p1.5=7", impl.ErrState}, {"b1 c1", "c1", impl.ErrState}, {"b1 c1", "a1", impl.ErrState}, {"b1 a1", "c1", impl.ErrState}, {"b1 a1", "a1", impl.ErrState}, {"b1 p1.5=7 c1", "u1.2", impl.ErrState}, {"b1 p1.5=7 u1.2 a1", "u1.2", impl.ErrState}, {"b2 b1 p1.5=7", "u2.3", impl.ErrNone}, {"b1 p1.5=7", "u2.2", impl.ErrState},
		{"", "k", impl.OK}, {"k", "k", impl.OK}, {"b1", "k", impl.OK}, {"b1 c1", "k", impl.OK}, {"b1 p1.5=7 u1.2", "k", impl.OK}, {"b1 p1.5=7 u1.2 k", "a1", impl.OK}, {"k b1 k p1.5=7 k", "u1.4", impl.OK},
		{"b1 b2 p1.5=7", "p2.5=8", impl.ErrConflict}, {"b1 b2 p1.5=7", "p2.5-", impl.ErrConflict}, {"b1 b2 p1.5-", "p2.5=8", impl.ErrConflict}, {"b1 b2 p1.5=7", "p2.9=8", impl.OK}, {"b1 b2 p1.5=7", "p1.5=8", impl.OK}, {"b1 b2 p1.5=7 p1.6=8", "p2.5=8", impl.ErrConflict}, {"b1 b2 p1.5=7 c1", "p2.5=8", impl.OK}, {"b1 b2 p1.5=7 u1.3", "p2.5=8", impl.ErrConflict}, {"b1 b2 p1.5=7 u1.3 a1", "p2.5=8", impl.OK}, {"b1 b2 p1.5=7 p1.5=8 u1.4", "p2.5=8", impl.ErrConflict}, {"b1 b2 b3 p1.5=7 c1 p2.5=8", "p3.5=9", impl.ErrConflict}, {"b1 b2 b3 p1.5=7 c1 p2.5=8 c2", "p3.5=9", impl.OK}, {"b1 b2 p2.5=7", "p1.5=8", impl.ErrConflict}, {"b1 b2 b3 p1.5=7 c2", "p3.5=9", impl.ErrConflict}, {"b1 b2 p1.0=7", "p2.0=8", impl.ErrConflict}, {"b1 b2 p1.31=7", "p2.31=8", impl.ErrConflict},
		{"b1 p1.5=7", "u1.2", impl.OK}, {"b1 p1.5=7 p1.6=8", "u1.2", impl.ErrNone}, {"b1 p1.5=7 p1.6=8", "u1.3", impl.OK}, {"b1 p1.5=7 p1.6=8 u1.3", "u1.2", impl.OK}, {"b1 p1.5=7 p1.6=8 u1.3", "u1.3", impl.ErrNone}, {"b1 p1.5=7 u1.2", "u1.2", impl.ErrNone}, {"b1 p1.5=7", "u1.1", impl.ErrNone}, {"b1 p1.5=7", "u1.3", impl.ErrNone}, {"b1", "u1.1", impl.ErrNone}, {"b1", "u1.1000", impl.ErrNone}, {"b1 b2 p1.5=7", "u2.3", impl.ErrNone}, {"b1 b2 p1.5=7 p2.6=8", "u1.3", impl.OK}, {"b1 b2 p1.5=7 p2.6=8", "u1.4", impl.ErrNone}, {"b1 p1.5=7 u1.2", "u1.3", impl.ErrNone},
		{"b1 p1.5=7", "a1", impl.ErrNone}, {"b1 p1.5=7 u1.2", "a1", impl.OK}, {"b1 p1.5=7 p1.6=8 u1.3", "a1", impl.ErrNone}, {"b1 p1.5=7 p1.6=8 u1.3 u1.2", "a1", impl.OK}, {"b1 b2 p2.5=7", "a1", impl.OK}, {"b1 b2 p2.5=7", "a2", impl.ErrNone}, {"b1 p1.5-", "a1", impl.ErrNone},
		{"b1 p1.5=7 u1.2", "p1.5=8", impl.ErrNone}, {"b1 p1.5=7 u1.2", "p1.6=8", impl.ErrNone}, {"b1 p1.5=7 u1.2", "c1", impl.ErrNone}, {"b1 p1.5=7 p1.6=8 u1.3", "c1", impl.ErrNone}, {"b1 p1.5=7 p1.6=8 u1.3", "p1.6-", impl.ErrNone}, {"b1 b2 p1.5=7 u1.3", "p2.6=8", impl.OK}, {"b1 b2 p1.5=7 u1.3", "c2", impl.OK}, {"b1 p1.5=7 u1.2 a1 b2 p2.5=8", "c2", impl.OK},
	} {
		ahead := recsIn(c.ahead)
		wantUnsound(t, c.ahead+", "+c.word, ahead, recIn(ahead, c.word), c.code)
	}
}

// Had and Old, and of an undo Key, Has and New, each turned by itself.
func TestNumbersOfSoundRecs(t *testing.T) {
	for _, c := range []struct {
		ahead string
		rec   impl.Rec
		code  int64
	}{
		{"b1", putRec(1, 5, false, 0, true, 7), impl.OK}, {"b1", putRec(1, 5, true, 0, true, 7), impl.ErrForm}, {"b1", putRec(1, 5, true, 7, true, 7), impl.ErrForm}, {"b1", putRec(1, 5, false, 0, false, 0), impl.OK}, {"b1", putRec(1, 5, true, 7, false, 0), impl.ErrForm},
		{"b1 p1.5=7", putRec(1, 5, true, 7, true, 8), impl.OK}, {"b1 p1.5=7", putRec(1, 5, true, 7, true, 7), impl.OK}, {"b1 p1.5=7", putRec(1, 5, false, 0, true, 8), impl.ErrForm}, {"b1 p1.5=7", putRec(1, 5, true, 8, true, 8), impl.ErrForm}, {"b1 p1.5=7", putRec(1, 5, true, 0, true, 8), impl.ErrForm},
		{"b1 p1.5=0", putRec(1, 5, false, 0, true, 8), impl.ErrForm}, {"b1 p1.5=0", putRec(1, 5, true, 0, true, 8), impl.OK}, {"b1 p1.5=7 p1.5-", putRec(1, 5, true, 7, true, 8), impl.ErrForm}, {"b1 p1.5=7 p1.5-", putRec(1, 5, false, 0, true, 8), impl.OK}, {"b1 p1.5=7 p1.5=8", putRec(1, 5, true, 7, true, 8), impl.ErrForm}, {"b1 p1.5=7", putRec(1, 9, true, 7, true, 8), impl.ErrForm}, {"b1 p1.5=7", putRec(1, 9, false, 0, true, 8), impl.OK},
		{"b1 p1.5=7 c1 b2", putRec(2, 5, false, 0, true, 8), impl.ErrForm}, {"b1 p1.5=7 c1 b2", putRec(2, 5, true, 7, true, 8), impl.OK}, {"b1 p1.5=7 u1.2 a1 b2", putRec(2, 5, true, 7, true, 8), impl.ErrForm}, {"b1 p1.5=7 u1.2 a1 b2", putRec(2, 5, false, 0, true, 8), impl.OK}, {"b1 p1.5=7 p1.5=8 u1.3 u1.2 a1 b2", putRec(2, 5, true, 7, true, 8), impl.ErrForm}, {"b1 b2 p1.5=7", putRec(2, 5, false, 0, true, 8), impl.ErrForm}, {"b1 b2 p1.5=7", putRec(2, 5, true, 7, true, 8), impl.ErrConflict},
		{"b1 p1.5=7", undoRec(1, 5, true, 7, false, 0, 2), impl.OK}, {"b1 p1.5=7", undoRec(1, 5, false, 0, false, 0, 2), impl.ErrForm}, {"b1 p1.5=7", undoRec(1, 5, true, 8, false, 0, 2), impl.ErrForm}, {"b1 p1.5=7", undoRec(1, 5, true, 7, true, 0, 2), impl.ErrNone}, {"b1 p1.5=7", undoRec(1, 5, true, 7, true, 7, 2), impl.ErrNone}, {"b1 p1.5=7", undoRec(1, 9, false, 0, false, 0, 2), impl.ErrNone}, {"b1 p1.5=7", undoRec(1, 9, true, 7, false, 0, 2), impl.ErrForm}, {"b1 p1.5=7", undoRec(1, 5, true, 7, false, 0, 3), impl.ErrNone},
		{"b1 p1.5=7 p1.5=8", undoRec(1, 5, true, 8, true, 7, 3), impl.OK}, {"b1 p1.5=7 p1.5=8", undoRec(1, 5, true, 8, false, 0, 3), impl.ErrNone}, {"b1 p1.5=7 p1.5=8", undoRec(1, 5, true, 8, true, 6, 3), impl.ErrNone}, {"b1 p1.5=7 p1.5=8", undoRec(1, 5, true, 8, true, 0, 3), impl.ErrNone}, {"b1 p1.5=7 p1.5=8", undoRec(1, 5, true, 8, false, 0, 2), impl.ErrNone}, {"b1 p1.5=7 p1.5=8", undoRec(1, 5, true, 7, true, 7, 3), impl.ErrForm},
		{"b1 p1.5=0 p1.5-", undoRec(1, 5, false, 0, true, 0, 3), impl.OK}, {"b1 p1.5=0 p1.5-", undoRec(1, 5, false, 0, false, 0, 3), impl.ErrNone}, {"b1 p1.5-", undoRec(1, 5, false, 0, false, 0, 2), impl.OK}, {"b1 p1.5-", undoRec(1, 5, true, 0, false, 0, 2), impl.ErrForm}, {"b1 p1.5- p1.9-", undoRec(1, 5, false, 0, false, 0, 3), impl.ErrNone}, {"b1 p1.5- p1.9-", undoRec(1, 5, false, 0, false, 0, 2), impl.ErrNone}, {"b1 p1.5- p1.9-", undoRec(1, 9, false, 0, false, 0, 3), impl.OK},
		{"b1 b2 p1.5- p2.9-", undoRec(2, 9, false, 0, false, 0, 4), impl.OK}, {"b1 b2 p1.5- p2.9-", undoRec(2, 5, false, 0, false, 0, 3), impl.ErrNone}, {"b1 b2 p1.5- p2.9-", undoRec(1, 9, false, 0, false, 0, 4), impl.ErrNone},
	} {
		wantUnsound(t, fmt.Sprintf("%s, %+v", c.ahead, c.rec), recsIn(c.ahead), c.rec, c.code)
	}
}

// Of several codes of one record the first is told: its fault, its state, what it had, who holds, what is undone.
func TestCodesOfOneRecordInOrder(t *testing.T) {
	ahead := recsIn("b1 b2 b3 p1.5=7 p2.6=8 u2.5 b4 c4")
	for _, c := range []struct {
		name string
		rec  impl.Rec
		code int64
	}{
		{"a put that is right", putRec(1, 9, false, 0, true, 1), impl.OK},
		{"by one that has undone", putRec(2, 9, false, 0, true, 1), impl.ErrNone},
		{"of a key that is held", putRec(3, 5, true, 7, true, 1), impl.ErrConflict},
		{"of a key that is held, by one that has undone", putRec(2, 5, true, 7, true, 1), impl.ErrConflict},
		{"of a wrong Old", putRec(3, 9, true, 7, true, 1), impl.ErrForm},
		{"of a wrong Old, by one that has undone", putRec(2, 9, true, 7, true, 1), impl.ErrForm},
		{"of a wrong Old, of a key that is held", putRec(3, 5, true, 6, true, 1), impl.ErrForm},
		{"of a wrong Old, of a key that is held, by one that has undone", putRec(2, 5, false, 0, true, 1), impl.ErrForm},
		{"by one that has ended", putRec(4, 9, false, 0, true, 1), impl.ErrState},
		{"by one that has ended, of a wrong Old, of a key that is held", putRec(4, 5, false, 0, true, 1), impl.ErrState},
		{"by one that has ended, of a key that is held", putRec(4, 5, true, 7, true, 1), impl.ErrState},
		{"by one that has not begun, of a wrong Old", putRec(5, 9, true, 1, true, 1), impl.ErrState},
		{"with a fault, by one that has ended", impl.Rec{Kind: impl.KindPut, Txn: 4, Key: 32}, impl.ErrRange},
		{"with a fault, by one that has not begun", impl.Rec{Kind: impl.KindPut, Txn: 5, Back: 1}, impl.ErrForm},
		{"with a fault, of a key that is held", impl.Rec{Kind: impl.KindPut, Txn: 3, Key: 5, Had: true, Old: 10000, Has: true}, impl.ErrRange},
		{"an undo of what is undone", undoRec(2, 6, false, 0, false, 0, 5), impl.ErrNone},
		{"an undo of what is undone, of a wrong Old", undoRec(2, 6, true, 8, false, 0, 5), impl.ErrForm},
		{"an undo by one that has ended, of a wrong Old", undoRec(4, 6, true, 8, false, 0, 5), impl.ErrState},
		{"an undo of a key that another holds", undoRec(3, 5, true, 7, false, 0, 4), impl.ErrNone},
		{"an undo with a fault, by one that has ended", undoRec(4, 6, true, 8, false, 0, 0), impl.ErrForm},
		{"an undo with a fault", undoRec(1, 5, true, 7, false, 0, 1001), impl.ErrRange},
		{"an abort of what is undone", abort(2), impl.OK},
		{"an abort with a put left", abort(1), impl.ErrNone},
		{"an abort behind a commit", abort(4), impl.ErrState},
		{"a commit behind an undo", commit(2), impl.ErrNone},
		{"a commit behind a commit", commit(4), impl.ErrState},
		{"a begin with a fault, of one that began", impl.Rec{Kind: impl.KindBegin, Txn: 1, Has: true}, impl.ErrForm},
		{"a check with a fault", impl.Rec{Kind: impl.KindCheck, Txn: 1}, impl.ErrRange},
		{"a check with a key", impl.Rec{Kind: impl.KindCheck, Key: 1}, impl.ErrForm},
	} {
		wantUnsound(t, c.name, ahead, c.rec, c.code)
	}
	for _, f := range recFaults() {
		wantUnsound(t, "a record with a fault", ahead, f.rec, f.code)
		wantUnsound(t, "a first record with a fault", nil, f.rec, f.code)
	}
}

// 400 records are sound, 401 are not, whatever they are.
func TestHowManySoundRecs(t *testing.T) {
	most := slices.Repeat([]impl.Rec{check()}, mostSound)
	long := recsIn("b1 p1.5=7 b2 p2.6=8 c1" + strings.Repeat(" p2.6=1", 394) + " c2")
	faulty := slices.Clone(most)
	faulty[0].Kind = 9
	if len(long) != mostSound {
		t.Fatalf("%d records", len(long))
	}
	for _, recs := range [][]impl.Rec{most, long, most[:399], long[:399]} {
		if code := wantRecsTold(t, "so many", diskByHand(4), recs); code != impl.OK {
			t.Errorf("%d records have the code %d", len(recs), code)
		}
	}
	if got := impl.UndoneOf(long[:399]).List; len(got) != 395 || got[0] != 399 || got[394] != 4 {
		t.Errorf("UndoneOf = %v", got)
	}
	for _, recs := range [][]impl.Rec{append(slices.Clone(most), check()), append(slices.Clone(long), begin(9)), append(faulty, check()), make([]impl.Rec, 401), make([]impl.Rec, 1<<16)} {
		if code := wantRecsTold(t, "so many", diskByHand(4), recs); code != impl.ErrMany {
			t.Errorf("%d records have the code %d", len(recs), code)
		}
		wantCode(t, "so many, and a disk with a fault", impl.RedoPages(impl.Disk{}, recs), impl.ErrMany)
	}
	if code := impl.SoundRecs(faulty[:mostSound]); code != impl.ErrRange {
		t.Errorf("400 records, the first with a fault: %d", code)
	}
}

// All rows of few records behind some beginnings; what is not sound is not gone on with.
func TestAllShortRowsOfRecords(t *testing.T) {
	met := map[int64]int{}
	disk := diskByHand(4)
	disk.Pages[1] = packByHand(impl.Page{Id: 1, Lsn: 4, Cells: cellList(1, 9, 5, 7)})
	var grow func(recs []impl.Rec, left int)
	grow = func(recs []impl.Rec, left int) {
		words := strings.Fields("b1 b2 p1.1=5 p1.1- p2.1=6 p1.2=5 c1 a1 a2 k")
		for back := range len(recs) + 1 {
			words = append(words, fmt.Sprintf("u1.%d", back+1))
		}
		var next []impl.Rec
		for _, word := range words {
			next = append(next, recIn(recs, word))
		}
		next = append(next, putRec(1, 1, true, 5, true, 6), putRec(2, 1, false, 0, true, 6), undoRec(1, 1, true, 5, false, 0, int64(len(recs))), undoRec(1, 1, true, 6, true, 5, int64(len(recs))))
		for _, r := range next {
			with := append(slices.Clone(recs), r)
			code := wantRecsTold(t, "a row", disk, with)
			met[code]++
			if code == impl.OK {
				wantRestartTold(t, "a row", disk, logOf(with))
				if left > 1 {
					grow(with, left-1)
				}
			}
		}
	}
	grow(nil, 5)
	grow(recsIn("b1 b2 p1.1=5"), 3)
	grow(recsIn("b1 p1.1=5 c1 b2 p2.1=6"), 3)
	for _, code := range []int64{impl.OK, impl.ErrState, impl.ErrForm, impl.ErrConflict, impl.ErrNone} {
		if met[code] < 100 {
			t.Errorf("code %d was met only %d times", code, met[code])
		}
	}
}

// thrownSoundRecs: mostly such as a store would log, with undos that have not come to their abort.
func thrownSoundRecs(d *dice, count int) []impl.Rec {
	var out []impl.Rec
	next, keys := int64(1), 1+d.upTo(7)
	for len(out) < count {
		word := "k"
		if losers := losersByHand(out); len(losers) > 0 && d.upTo(5) > 0 {
			txn := losers[d.upTo(int64(len(losers)-1))]
			chain := chainByHand(out, txn)
			switch roll := d.upTo(11); {
			case len(chain) > 0 && (roll > 7 || hasKind(out, txn, impl.KindUndo)):
				word = fmt.Sprintf("u%d.%d", txn, chain[0])
			case hasKind(out, txn, impl.KindUndo) || roll == 0 && len(chain) == 0:
				word = fmt.Sprint("a", txn)
			case roll == 1:
				word = fmt.Sprint("c", txn)
			case roll == 2:
				word = fmt.Sprintf("p%d.%d-", txn, d.upTo(keys))
			default:
				word = fmt.Sprintf("p%d.%d=%d", txn, d.upTo(keys), d.upTo(3))
			}
		} else if len(losers) < 4 && d.upTo(6) > 0 {
			word = fmt.Sprint("b", (next*37)%1000)
			next++
		}
		if r := recIn(out, word); soundRecByHand(out, r) == impl.OK {
			out = append(out, r)
		}
	}
	return out
}

// turnedRecs: one record is turned, taken away, told twice, or changes its place.
func turnedRecs(recs []impl.Rec, d *dice) []impl.Rec {
	out := slices.Clone(recs)
	last := int64(len(out) - 1)
	at, other := d.upTo(last), d.upTo(last)
	switch d.upTo(9) {
	case 0:
		return slices.Delete(out, int(at), int(at)+1)
	case 1:
		return slices.Insert(out, int(at), out[other])
	case 2:
		out[at], out[other] = out[other], out[at]
	case 3:
		out[at].Txn = out[other].Txn
	case 4:
		out[at].Old, out[at].Had = d.upTo(4), d.upTo(2) > 0
	case 5:
		out[at].New, out[at].Has = d.upTo(4), d.upTo(2) > 0
	case 6:
		out[at].Key = d.upTo(8)
	case 7:
		out[at].Kind = 1 + d.upTo(5)
	case 8:
		out[at].Back = d.upTo(last + 2)
	case 9:
		out[at] = thrownRec(d)
	}
	return out
}

// thrownStoreDisk: pages as of any of the records, torn ones, and some that know what nobody told.
func thrownStoreDisk(recs []impl.Rec, d *dice) impl.Disk {
	out := diskByHand(4)
	for id := range int64(4) {
		known := recs[:d.upTo(int64(len(recs)))]
		data := packByHand(pageAt(known, id))
		switch d.upTo(24) {
		case 0:
			data[d.upTo(47)] ^= 1
		case 1:
			data = thrownBytes(d, id)
		case 2:
			data = packByHand(impl.Page{Id: id, Lsn: d.upTo(int64(len(recs)) + 1), Cells: cellsFrom(id, 4, d.upTo(8), 9)})
		case 3:
			data = packByHand(impl.Page{Id: id, Lsn: d.upTo(9), Cells: cellsFrom(id, 1+3*d.upTo(1), d.upTo(3), 9)})
		}
		if d.upTo(1) == 0 {
			out.Pages[id] = data
		} else {
			out = writeByHand(out, id, data)
		}
	}
	return out
}

func TestRestartsAsByHand(t *testing.T) {
	d := dice(141)
	met := map[string]int{}
	for run := range 700 {
		recs := thrownSoundRecs(&d, int(d.upTo(45)))
		disk := thrownStoreDisk(recs, &d)
		name := fmt.Sprint("run ", run)
		if code := wantRecsTold(t, name, disk, recs); code != impl.OK {
			t.Fatalf("%s: the records have the code %d: %+v", name, code, recs)
		}
		l := splitLog(packRecsByHand(recs), int(d.upTo(int64(len(recs)*recSize))))
		got := wantRestartTold(t, name, disk, l)
		met[fmt.Sprint("restart ", got.Code)]++
		if got.Code == impl.OK {
			wantRedoneOnce(t, name, disk, recs)
			again := wantRestartTold(t, name, got.Store.Disk, got.Store.Log)
			if again.Value != 0 || !sameStore(again.Store, got.Store) {
				t.Fatalf("%s: a restart of the restart is %+v, want %+v", name, again, got)
			}
		}
		for range 12 {
			if len(recs) == 0 {
				break
			}
			turned := turnedRecs(recs, &d)
			code := wantRecsTold(t, name, disk, turned)
			met[fmt.Sprint("sound ", code)]++
			if !slices.ContainsFunc(turned, func(r impl.Rec) bool { return faultByHand(r) != impl.OK }) {
				wantRestartTold(t, name, disk, logOf(turned))
			}
		}
	}
	for word, least := range map[string]int{"restart 0": 250, "restart 10": 80, "sound 0": 1000, "sound 1": 700, "sound 3": 100, "sound 4": 400, "sound 9": 50, "sound 10": 700} {
		if met[word] < least {
			t.Errorf("%s: met only %d times", word, met[word])
		}
	}
}

// The records, then the disk, then how many pages it has, then page by page.
func TestCodesOfRedoPages(t *testing.T) {
	good, unsound := recsIn("b1 p1.5=7"), []impl.Rec{commit(1)}
	for _, f := range append(oneDiskFault(), twoDiskFaults()...) {
		wantCode(t, f.name, impl.RedoPages(f.disk, good), f.code)
		wantCode(t, f.name, impl.RedoPages(f.disk, nil), f.code)
		wantCode(t, f.name, impl.RedoPages(f.disk, unsound), impl.ErrState)
		wantCode(t, f.name, impl.RestartStore(f.disk, logOf(good)), f.code)
		wantCode(t, f.name, impl.RestartStore(f.disk, logOf(unsound)), impl.ErrState)
	}
	for count := int64(1); count <= 8; count++ {
		code := int64(impl.ErrForm)
		if count == 4 {
			code = impl.OK
		}
		late := diskByHand(count)
		late.Pages[0] = packByHand(impl.Page{Lsn: 1000})
		for _, recs := range [][]impl.Rec{nil, good} {
			wantCode(t, fmt.Sprint(count, " pages"), impl.RedoPages(diskByHand(count), recs), code)
			wantCode(t, fmt.Sprint(count, " pages"), impl.RestartStore(diskByHand(count), logOf(recs)), code)
			if count != 4 {
				wantCode(t, fmt.Sprint(count, " pages, a page that knows too much"), impl.RedoPages(late, recs), impl.ErrForm)
			}
		}
		wantCode(t, fmt.Sprint(count, " pages"), impl.RedoPages(diskByHand(count), []impl.Rec{{}}), impl.ErrRange)
	}
	for id := range int64(4) {
		for key := range int64(32) {
			for _, cells := range [][]impl.Cell{cellList(key, 1), wanted(cellsFrom(id, 4, 8, 3), key, true, 6)} {
				d := diskByHand(4)
				d.Pages[id] = packByHand(impl.Page{Id: id, Lsn: 1, Cells: cells})
				code := int64(impl.ErrState)
				if key%4 == id {
					code = impl.OK
				}
				name := fmt.Sprintf("key %d in page %d", key, id)
				wantCode(t, name, impl.RedoPages(d, good), code)
				wantCode(t, name, impl.RestartStore(d, logOf(good)), code)
				wantRecsTold(t, name, d, good)
			}
		}
		for _, lsn := range []int64{0, 1, 2, 3, 4, topLsn} {
			for count := range 3 {
				d := diskByHand(4)
				d.Pages[id] = packByHand(impl.Page{Id: id, Lsn: lsn})
				code := int64(impl.OK)
				if lsn > int64(count) {
					code = impl.ErrState
				}
				name := fmt.Sprintf("page %d of Lsn %d, %d records", id, lsn, count)
				wantCode(t, name, impl.RedoPages(d, good[:count]), code)
				wantCode(t, name, impl.RestartStore(d, logOf(good[:count])), code)
			}
		}
		full := diskByHand(4)
		full.Pages[id] = packByHand(impl.Page{Id: id, Cells: cellsFrom(id, 1, 12, 5)})
		wantCode(t, "12 cells", impl.RedoPages(full, good), impl.ErrState)
	}
}

// A page has room for all keys that stand in it.
func TestRedoHasRoom(t *testing.T) {
	var every string
	for key := range int64(32) {
		every += fmt.Sprintf(" p1.%d=%d", key, 100+key)
	}
	recs := recsIn("b1" + every)
	got := impl.RedoPages(diskByHand(4), recs)
	wantCode(t, "all keys", got, impl.OK)
	for id := range int64(4) {
		if p := got.Pages[id]; len(p.Cells) != 8 || p.Lsn != 30+id || p.Id != id {
			t.Errorf("page %d is %+v", id, p)
		}
	}
	wantRecsTold(t, "all keys", diskByHand(4), recs)
	back := wantRestartTold(t, "all keys", diskByHand(4), logOf(recs))
	if len(impl.MapOf(back.Store).Cells) != 0 || len(recsOfStore(back.Store)) != 66 {
		t.Errorf("all keys are undone: %+v", back)
	}
}

// The log, then its records, then the disk.
func TestCodesOfRestartStore(t *testing.T) {
	late := diskByHand(4)
	late.Pages[2] = packByHand(impl.Page{Id: 2, Lsn: 1000})
	disks := []impl.Disk{diskByHand(4), diskByHand(3), diskByHand(5), {}, late}
	codes := []int64{impl.OK, impl.ErrForm, impl.ErrForm, impl.ErrForm, impl.ErrState}
	for _, f := range logFaults() {
		for _, d := range disks {
			wantCode(t, f.name, impl.RestartStore(d, f.log), f.code)
		}
	}
	for place, d := range disks {
		for _, c := range []struct {
			recs []impl.Rec
			code int64
		}{
			{[]impl.Rec{commit(1)}, impl.ErrState}, {[]impl.Rec{begin(1), putRec(1, 5, true, 1, true, 1)}, impl.ErrForm}, {recsIn("b1 b2 p1.5=7 p2.5=8"), impl.ErrConflict}, {recsIn("b1 p1.5=7 a1"), impl.ErrNone},
		} {
			for _, sure := range []int{0, 13, 14} {
				if l := packRecsByHand(c.recs); sure <= len(l) {
					wantCode(t, fmt.Sprint("unsound, disk ", place), impl.RestartStore(d, splitLog(l, sure)), c.code)
				}
			}
		}
		wantCode(t, fmt.Sprint("sound, disk ", place), impl.RestartStore(d, logOf(recsIn("b1 p1.5=7"))), codes[place])
		wantCode(t, fmt.Sprint("no records, disk ", place), impl.RestartStore(d, impl.Log{}), codes[place])
		full := recsIn("b1" + strings.Repeat(" k", 306))
		want := codes[place]
		if want == impl.OK {
			want = impl.ErrMany
		}
		wantCode(t, fmt.Sprint("no room, disk ", place), impl.RestartStore(d, logOf(full)), want)
	}
	wantCode(t, "nothing", impl.RestartStore(impl.Disk{}, impl.Log{}), impl.ErrForm)
}

func TestNextBehindARestart(t *testing.T) {
	for _, c := range []struct {
		recs string
		next int64
	}{
		{"", 1}, {"k", 1}, {"b1", 2}, {"b1 c1", 2}, {"b5", 6}, {"b9 b3", 10}, {"b3 b9 c9 k", 10}, {"b7 p7.1=1 b2 p2.2=2", 8}, {"b996", 997}, {"b997", 998}, {"b998", 999}, {"b999", 999}, {"b999 c999", 999}, {"b998 c998", 999}, {"b999 b998 b1", 999}, {"b1 b997 c997 k", 998},
	} {
		got := wantRestartTold(t, c.recs, diskByHand(4), logOf(recsIn(c.recs)))
		if got.Code != impl.OK || got.Store.Next != c.next || impl.StoreFault(got.Store) != impl.OK {
			t.Errorf("%s: Next is %d, want %d: %+v", c.recs, got.Store.Next, c.next, got)
		}
		then := impl.BeginStore(got.Store)
		if c.next == 999 {
			wantCode(t, c.recs+": a begin", then, impl.ErrMany)
		} else if code := impl.SoundRecs(recsOfStore(then.Store)); then.Value != c.next || code != impl.OK {
			t.Errorf("%s: %d begins, and SoundRecs is %d", c.recs, then.Value, code)
		}
	}
	for _, next := range []int64{1, 500, 999} {
		s := newStore(next)
		if got := impl.RestartStore(s.Disk, s.Log); got.Code != impl.OK || !sameStore(got.Store, newStore(1)) || got.Value != 0 {
			t.Errorf("of a new store of %d: %+v", next, got)
		}
	}
}

// A restart logs all its undos and its aborts, or nothing at all is told.
func TestRestartWithoutRoom(t *testing.T) {
	for _, c := range []struct {
		recs   string
		logged int
	}{
		{"", 0}, {"b1 c1", 0}, {"b1", 1}, {"b1 b2", 2}, {"b1 p1.5=7", 2}, {"b1 b2 p1.5=7 p2.6=8 p1.5=9", 5}, {"b1 p1.5=7 p1.6=8 u1.3", 2}, {"b1 p1.5=7 u1.2", 1}, {"b1 b2 b3 p3.1=1 c2", 3},
	} {
		for room := range 8 {
			recs := recsIn(c.recs)
			for len(recs) < maxRecs-room {
				recs = append(recs, check())
			}
			for _, sure := range []int{0, 1000, len(recs) * recSize} {
				code := int64(impl.OK)
				if room < c.logged {
					code = impl.ErrMany
				}
				name := fmt.Sprintf("%s, room for %d", c.recs, room)
				got := wantRestartTold(t, name, diskByHand(4), splitLog(packRecsByHand(recs), sure))
				wantCode(t, name, got, code)
				if code == impl.OK && len(recsOfStore(got.Store)) != maxRecs-room+c.logged {
					t.Errorf("%s: %d records", name, len(recsOfStore(got.Store)))
				}
			}
		}
	}
}

// A whole restart, told page by page; then one that goes on behind it.
func TestTalkOfARestart(t *testing.T) {
	s := storeBehind(t, newStore(1), "b p1.5=7 p1.6=8 c1 b b p2.5=9 f1 p3.6- f2 p2.1=3")
	if len(s.Log.Loose) != recSize || len(s.Disk.Loose) != 6 {
		t.Fatalf("the store is %+v", s)
	}
	recs := recsOfStore(s)
	got := impl.RestartStore(s.Disk, s.Log)
	wantCode(t, "a restart", got, impl.OK)
	want := slices.Concat(recs, []impl.Rec{
		undoRec(2, 1, true, 3, false, 0, 9), undoRec(3, 6, false, 0, true, 8, 8), undoRec(2, 5, true, 9, true, 7, 7), abort(2), abort(3),
	})
	if !slices.Equal(recsOfStore(got.Store), want) || len(got.Store.Log.Sure) != 8*recSize || got.Value != 2 || got.Store.Next != 4 {
		t.Errorf("the restart is %+v", got)
	}
	for id, p := range []impl.Page{{}, {Id: 1, Lsn: 12, Cells: cellList(5, 7)}, {Id: 2, Lsn: 11, Cells: cellList(6, 8)}, {Id: 3}} {
		if !samePage(got.Store.Pages[id], p) {
			t.Errorf("page %d is %+v, want %+v", id, got.Store.Pages[id], p)
		}
	}
	for id, lsn := range []int64{0, 7, 8, 0} {
		if read := impl.ReadDisk(got.Store.Disk, int64(id)); read.Page.Lsn != lsn || len(got.Store.Disk.Loose) != 0 {
			t.Errorf("page %d on the disk is %+v", id, read)
		}
	}
	then := storeBehind(t, got.Store, "b p4.5=1 f1 c4 b p5.6=2")
	back := impl.RestartStore(then.Disk, then.Log)
	if all := impl.MapOf(back.Store).Cells; !slices.Equal(all, cellList(5, 1, 6, 8)) || back.Value != 1 || back.Store.Next != 6 {
		t.Errorf("the second restart is %+v, of %+v", back, all)
	}
}

// restartCase: what a restart is asked of.
type restartCase struct {
	name string
	disk impl.Disk
	log  impl.Log
	recs []impl.Rec // what is asked of records alone: those of the log, or ones that no log has
}

func restartsToAsk() []restartCase {
	var out []restartCase
	add := func(name string, d impl.Disk, recs []impl.Rec) {
		out = append(out, restartCase{name, d, splitLog(packRecsByHand(recs), len(recs)*recSize/3), recs})
	}
	d := dice(142)
	for run := range 60 {
		recs := thrownSoundRecs(&d, int(d.upTo(40)))
		add(fmt.Sprint("run ", run), thrownStoreDisk(recs, &d), recs)
		if len(recs) > 0 {
			add(fmt.Sprint("run ", run, ", turned"), thrownStoreDisk(recs, &d), turnedRecs(recs, &d))
		}
	}
	for count := 0; count <= len(longRun()); count += 3 {
		add(fmt.Sprint("the long run, ", count), diskAt(longRun()[:count], count%16), longRun()[:count])
		add(fmt.Sprint("the long run, from ", count), diskAt(longRun()[:count], 15-count%16), longRun())
	}
	for n, f := range append(oneDiskFault(), twoDiskFaults()...) {
		if n%5 == 0 && len(f.disk.Pages) < 100 && len(f.disk.Loose) < 100 {
			add(f.name, f.disk, longRun())
		}
	}
	for n, f := range logFaults() {
		if n%9 == 0 && len(f.log.Sure) < 5000 {
			out = append(out, restartCase{f.name, diskAt(longRun(), 15), f.log, recsIn("b1 p1.5=7")})
		}
	}
	for n, f := range recFaults() {
		if n%20 == 0 {
			add("a record with a fault", diskByHand(4), append(recsIn("b1 p1.5=7"), f.rec))
		}
	}
	add("no room", diskByHand(4), recsIn("b1"+strings.Repeat(" k", 306)))
	add("400 records", diskByHand(4), slices.Repeat([]impl.Rec{check()}, 400))
	add("nothing", impl.Disk{}, nil)
	return out
}

func askRestart(c restartCase) []any {
	return []any{impl.SoundRecs(c.recs), impl.LosersOf(c.recs), impl.WinnersOf(c.recs), impl.UndoneOf(c.recs), impl.CommittedMap(c.recs), impl.RedoPages(c.disk, c.recs), impl.RestartStore(c.disk, c.log)}
}

func TestRestartArgumentsStay(t *testing.T) {
	for _, c := range restartsToAsk() {
		c.disk, c.log, c.recs = diskWithRoom(c.disk), logWithRoom(c.log), roomy(c.recs)
		tell := func() string { return roomOf(c.disk) + told(logRoom(c.log)) + told(wholeRoom(c.recs)) }
		before := tell()
		askRestart(c)
		if tell() != before {
			t.Errorf("%s: arguments were changed", c.name)
		}
	}
}

func spoilAnswers(answers []any) {
	for _, answer := range answers {
		switch r := answer.(type) {
		case impl.IntsResult:
			spoil(r.List, -5)
		case impl.CellsResult:
			spoil(r.Cells, impl.Cell{Key: -5})
		case impl.PagesResult:
			for _, p := range r.Pages {
				spoil(p.Cells, impl.Cell{Key: -5})
			}
			spoil(r.Pages, impl.Page{Id: -5})
		case impl.StoreResult:
			spoilStore(r.Store)
		}
	}
}

func TestRestartAnswersAreNewMemory(t *testing.T) {
	met := 0
	for _, c := range restartsToAsk() {
		c.disk, c.log, c.recs = diskWithRoom(c.disk), logWithRoom(c.log), roomy(c.recs)
		tell := func() string { return roomOf(c.disk) + told(logRoom(c.log)) + told(wholeRoom(c.recs)) }
		before := tell()
		spoilt, other, third := askRestart(c), askRestart(c), askRestart(c)
		want := told(other)
		var cells [][]impl.Cell
		for _, p := range third[5].(impl.PagesResult).Pages {
			cells = append(cells, p.Cells)
		}
		wantOwnCells(t, c.name, cells)
		if r := third[6].(impl.StoreResult); r.Code == impl.OK {
			wantOwnLists(t, c.name, r.Store)
			met++
		}
		spoilAnswers(spoilt)
		if tell() != before || told(other) != want {
			t.Fatalf("%s: an answer shares memory with an argument, or with another one", c.name)
		}
		for _, list := range append(listsOf(c.disk), c.log.Sure, c.log.Loose) {
			spoil(list, 0xa5)
		}
		spoil(c.disk.Pages, nil)
		spoil(c.disk.Loose, impl.Loose{Page: -5})
		spoil(c.recs, impl.Rec{Kind: -5})
		if told(other) != want {
			t.Fatalf("%s: an answer hangs on what its arguments became", c.name)
		}
	}
	if met < 50 {
		t.Errorf("only %d stores came back", met)
	}
}

// Lists of an argument may be pieces of one.
func TestRestartOfPiecesStays(t *testing.T) {
	for _, c := range restartsToAsk() {
		pieces := c
		whole := slices.Concat(c.log.Sure, c.log.Loose)
		pieces.log = impl.Log{Sure: whole[:len(c.log.Sure)], Loose: whole[len(c.log.Sure):]}
		data := slices.Concat(listsOf(c.disk)...)
		pieces.disk, pieces.recs = copyDisk(c.disk), append(slices.Clone(c.recs), c.recs...)[:len(c.recs)]
		cut := func(list []byte) []byte {
			piece := data[:len(list)]
			data = data[len(list):]
			return piece
		}
		for id, list := range pieces.disk.Pages {
			pieces.disk.Pages[id] = cut(list)
		}
		for place, w := range pieces.disk.Loose {
			pieces.disk.Loose[place].Data = cut(w.Data)
		}
		if one, two := told(askRestart(c)), told(askRestart(pieces)); one != two || !sameDisk(c.disk, pieces.disk) || !sameLog(c.log, pieces.log) {
			t.Fatalf("%s: as pieces\n%s, want\n%s", c.name, two, one)
		}
	}
}

func TestNilAndEmptyListsOfRestartsAreAlike(t *testing.T) {
	for _, c := range restartsToAsk() {
		with := func(nils bool) restartCase {
			d := copyDisk(c.disk)
			return restartCase{
				disk: impl.Disk{Pages: emptyFor(d.Pages, nils), Loose: emptyFor(d.Loose, nils)},
				log:  impl.Log{Sure: emptyFor(c.log.Sure, nils), Loose: emptyFor(c.log.Loose, nils)},
				recs: emptyFor(c.recs, nils),
			}
		}
		if one, two := told(askRestart(with(true))), told(askRestart(with(false))); one != two {
			t.Errorf("%s: with nil\n%s, with empty lists\n%s", c.name, one, two)
		}
		l := c.log
		for _, split := range []impl.Log{{Sure: slices.Concat(l.Sure, l.Loose)}, {Loose: slices.Concat(l.Sure, l.Loose)}} {
			wantRestartTold(t, c.name, c.disk, split)
		}
	}
}

func TestRestartsKeepNothing(t *testing.T) {
	wantSameAgain(t, restartsToAsk(), func(c restartCase) string { return told(askRestart(c)) })
}

func TestRestartsNeverPanic(t *testing.T) {
	numbers := []int64{math.MinInt64, -1, 0, 1, 2, 5, 6, 7, 31, 32, 400, 401, 999, 1000, 1001, 9999, 10000, math.MaxInt64}
	d := dice(143)
	ahead := recsIn("b1 p1.1=5 b2 p2.2=6")
	for turn := range 6000 {
		pick := func() int64 { return numbers[d.upTo(int64(len(numbers)-1))] }
		r := impl.Rec{Kind: 1 + d.upTo(5), Txn: 1 + d.upTo(2), Key: d.upTo(3), Had: d.upTo(1) == 0, Has: d.upTo(1) == 0, Back: d.upTo(5)}
		for range d.upTo(3) {
			*[]*int64{&r.Kind, &r.Txn, &r.Key, &r.Old, &r.New, &r.Back}[d.upTo(5)] = pick()
		}
		recs := append(slices.Clone(ahead[:d.upTo(4)]), r)
		mustPanicNever(t, told(recs), func() {
			wantRecsTold(t, fmt.Sprint("turn ", turn), diskByHand(4), recs)
			wantRecsTold(t, fmt.Sprint("turn ", turn), diskByHand(d.upTo(8)), recs[:len(recs)-1])
		})
	}
	for _, l := range someLogs() {
		mustPanicNever(t, told(l), func() {
			wantRestartTold(t, "some log", diskByHand(4), l)
			wantRestartTold(t, "some log", withLoose(diskByHand(4), 30), l)
		})
	}
	for n, disk := range someDisks() {
		mustPanicNever(t, fmt.Sprint("disk ", n), func() {
			wantRecsTold(t, fmt.Sprint("disk ", n), disk, longRun())
			wantRestartTold(t, fmt.Sprint("disk ", n), disk, logOf(longRun()))
		})
	}
}
