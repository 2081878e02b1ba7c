package tests

import (
	"bytes"
	"fmt"
	"math"
	"runtime"
	"slices"
	"strings"
	"sync"
	"testing"

	"loop.example/g00216/impl"
)

// imagesByHand looks for three pieces in a row in a text of all of them.
func imagesByHand(d impl.Disk, id int64) [][]byte {
	out := [][]byte{slices.Clone(d.Pages[id])}
	var row strings.Builder
	for _, w := range d.Loose {
		fmt.Fprintf(&row, "%d.%d;", w.Page, w.Part) // four bytes each
	}
	for place := range d.Loose {
		if strings.HasPrefix(row.String()[4*place:], fmt.Sprintf("%d.0;%d.1;%d.2;", id, id, id)) {
			out = append(out, slices.Concat(d.Loose[place].Data, d.Loose[place+1].Data, d.Loose[place+2].Data))
		}
	}
	return out
}

func hasImage(images [][]byte, data []byte) bool {
	return slices.ContainsFunc(images, func(image []byte) bool { return bytes.Equal(image, data) })
}

func readsWholeByHand(d, after impl.Disk) bool {
	if impl.DiskFault(d) != impl.OK || impl.DiskFault(after) != impl.OK || len(d.Pages) != len(after.Pages) {
		return false
	}
	for id, data := range doneByHand(after, all).Pages {
		if readDiskByHand(after, int64(id)).Code == impl.OK && !hasImage(imagesByHand(d, int64(id)), data) {
			return false
		}
	}
	return true
}

func ackedByHand(s impl.Store) []int64 {
	sure := recsOfStore(s)[:len(s.Log.Sure)/recSize]
	return txnsByHand(func(txn int64) bool { return hasKind(sure, txn, impl.KindCommit) })
}

func crashByHand(s impl.Store, kept int64, writes []int64) impl.CrashResult {
	if code := storeFaultByHand(s); code != impl.OK {
		return impl.CrashResult{Code: code}
	}
	if kept < 0 || kept > int64(len(s.Log.Loose)) {
		return impl.CrashResult{Code: impl.ErrRange}
	}
	if slices.ContainsFunc(writes, func(place int64) bool { return place < 0 || place >= int64(len(s.Disk.Loose)) }) {
		return impl.CrashResult{Code: impl.ErrRange}
	}
	keep := func(place int) bool { return slices.Contains(writes, int64(place)) }
	if !slices.Equal(placesOf(s.Disk, keep), writes) {
		return impl.CrashResult{Code: impl.ErrForm}
	}
	data := slices.Concat(s.Log.Sure, s.Log.Loose[:kept])
	return impl.CrashResult{Disk: doneByHand(s.Disk, keep), Log: impl.Log{Sure: data[:len(data)/recSize*recSize]}}
}

func crashRestartByHand(s impl.Store, kept int64, writes []int64) impl.StoreResult {
	left := crashByHand(s, kept, writes)
	if left.Code != impl.OK {
		return impl.StoreResult{Code: left.Code}
	}
	return restartByHand(left.Disk, left.Log)
}

func sameCrash(a, b impl.CrashResult) bool {
	return a.Code == b.Code && sameDisk(a.Disk, b.Disk) && sameLog(a.Log, b.Log)
}

func sameParts(a, b impl.PartsResult) bool {
	return a.Code == b.Code && slices.EqualFunc(a.Parts, b.Parts, bytes.Equal)
}

// wantLeft holds what a crash leaves, and whether that reads as whole, against that by hand.
func wantLeft(t *testing.T, name string, s impl.Store, kept int64, writes []int64) impl.CrashResult {
	t.Helper()
	got, want := impl.CrashStore(s, kept, writes), crashByHand(s, kept, writes)
	wantCode(t, name+": CrashStore", got, want.Code)
	if !sameCrash(got, want) {
		t.Fatalf("%s: CrashStore of\n%+v\n%d, %v is %+v, want\n%+v", name, s, kept, writes, got, want)
	}
	if whole, by := impl.ReadsWhole(s.Disk, got.Disk), readsWholeByHand(s.Disk, got.Disk); whole != by {
		t.Fatalf("%s: ReadsWhole of\n%+v\n%+v is %v, want %v", name, s.Disk, got.Disk, whole, by)
	}
	return got
}

func wantCrashTold(t *testing.T, name string, s impl.Store, kept int64, writes []int64) impl.StoreResult {
	t.Helper()
	wantLeft(t, name, s, kept, writes)
	got, want := impl.CrashRestart(s, kept, writes), crashRestartByHand(s, kept, writes)
	wantCode(t, name+": CrashRestart", got, want.Code)
	if !sameStoreAnswer(got, want) {
		t.Fatalf("%s: CrashRestart of\n%+v\n%d, %v is %+v, want\n%+v", name, s, kept, writes, got, want)
	}
	return got
}

func wantImages(t *testing.T, name string, d impl.Disk) {
	t.Helper()
	for id := range int64(len(d.Pages)) {
		got, want := impl.ImagesOf(d, id), impl.PartsResult{Parts: imagesByHand(d, id)}
		if !sameParts(got, want) {
			t.Fatalf("%s: ImagesOf page %d in\n%+v\nis %+v, want %+v", name, id, d, got, want)
		}
	}
}

// toldCommits: who was told to be committed, and what that leaves.
type toldCommits struct {
	acked []int64
	cells []impl.Cell
}

// wantBackBehindCrash: behind the restart there is just what was committed in the records that are left, and all that was told to be.
func wantBackBehindCrash(t *testing.T, name string, s impl.Store, kept int64, writes []int64, told toldCommits, met map[string]int) impl.StoreResult {
	t.Helper()
	left, back := impl.CrashStore(s, kept, writes), impl.CrashRestart(s, kept, writes)
	wantCode(t, name+": CrashStore", left, impl.OK)
	recs := recsOfStore(impl.Store{Log: left.Log})
	winners := impl.WinnersOf(recs)
	if impl.SoundRecs(recs) != impl.OK || slices.ContainsFunc(told.acked, func(txn int64) bool { return !slices.Contains(winners.List, txn) }) {
		t.Fatalf("%s: %v were told to be committed, winners are %+v of\n%+v", name, told.acked, winners, recs)
	}
	if len(impl.TornOf(left.Disk).List) > 0 {
		met["torn"]++
	}
	if !impl.ReadsWhole(s.Disk, left.Disk) {
		met["read as whole"]++
		return impl.StoreResult{Code: -1}
	}
	if len(recs)+len(impl.UndoneOf(recs).List)+len(impl.LosersOf(recs).List) > maxRecs {
		wantCode(t, name+": without room", back, impl.ErrMany)
		met["no room"]++
		return back
	}
	wantCode(t, name+": CrashRestart", back, impl.OK)
	cells, committed := impl.MapOf(back.Store), impl.CommittedMap(recs)
	if cells.Code != impl.OK || committed.Code != impl.OK || !slices.Equal(cells.Cells, committed.Cells) || !slices.Equal(cells.Cells, told.cells) || !impl.SameCells(cells.Cells, committed.Cells) {
		t.Fatalf("%s: behind a crash of\n%+v\n%d, %v there is %+v, in the records %+v, told %+v", name, s, kept, writes, cells, committed, told.cells)
	}
	met["came back"]++
	met["undone"] += len(impl.UndoneOf(recs).List)
	return back
}

// thrownWrites: none, all, some, the first ones, all but one, or pieces of whole pages.
func thrownWrites(disk impl.Disk, d *dice) []int64 {
	count := int64(len(disk.Loose))
	one, set := d.upTo(count), d.upTo(math.MaxInt32)<<31|d.upTo(math.MaxInt32)
	return placesOf(disk, []func(place int) bool{
		none, all,
		func(place int) bool { return set>>place&1 == 1 },
		func(place int) bool { return set>>(place/3)&1 == 1 },
		func(place int) bool { return int64(place) < one },
		func(place int) bool { return int64(place) != one },
		func(place int) bool { return int64(place) == one },
		func(place int) bool { return set>>(3*place)&7 > 0 },
	}[d.upTo(7)])
}

// wantCrashesOfBack: a crash of what a restart answered, behind its undos or between them, and a restart behind it, give the same; so do pages that were flushed meanwhile.
func wantCrashesOfBack(t *testing.T, name string, back impl.Store, told toldCommits, d *dice, met map[string]int) {
	t.Helper()
	loose := int64(len(back.Log.Loose))
	for _, kept := range []int64{0, loose, d.upTo(loose), d.upTo(loose)} {
		again := wantBackBehindCrash(t, fmt.Sprintf("%s, a crash of the restart that keeps %d", name, kept), back, kept, nil, told, met)
		if again.Code == impl.OK && !slices.Equal(impl.MapOf(again.Store).Cells, impl.MapOf(back).Cells) {
			t.Fatalf("%s: a crash of the restart gives %+v, want %+v", name, impl.MapOf(again.Store), impl.MapOf(back))
		}
		met["crashes of a restart"]++
	}
	flushed := back
	for range d.upTo(3) {
		flushed = impl.FlushPage(flushed, d.upTo(3)).Store
	}
	wantBackBehindCrash(t, name+", flushed, and a crash", flushed, d.upTo(int64(len(flushed.Log.Loose))), thrownWrites(flushed.Disk, d), told, met)
}

func thrownCrashAct(s impl.Store, d *dice, keys int64) storeAct {
	if d.upTo(4) == 0 {
		return storeAct{kind: 'f', key: d.upTo(3)}
	}
	return thrownStoreAct(s, d, keys)
}

// crashRun: a store that came of a new one, and what it told on its way.
type crashRun struct {
	store impl.Store
	watch commitWatch
	told  toldCommits
}

func newCrashRun(next int64) *crashRun {
	return &crashRun{store: newStore(next), watch: newCommitWatch()}
}

func (r *crashRun) do(a storeAct) {
	answer := askStore(r.store, a)
	code := codeOfAnswer(answer)
	r.watch.hear(a, code)
	r.store = turnedByAct(r.store, answer)
	if a.kind == 'c' && code == impl.OK {
		r.told.acked = append(r.told.acked, a.txn)
	}
	r.told.cells = cellsOfMap(r.watch.has)
}

func (r *crashRun) goOnFrom(back impl.Store) {
	r.store = back
	clear(r.watch.pending)
}

// fill logs so many records, of transactions that all end.
func (r *crashRun) fill(count int, d *dice) {
	for len(r.store.Log.Sure) < count*recSize {
		txn := r.store.Next
		r.do(storeAct{kind: 'b'})
		for range 20 {
			r.do(putAct(txn, d.upTo(31), d.upTo(9999)))
		}
		r.do(storeAct{kind: 'c', txn: txn})
	}
}

// Whatever a crash keeps of a store that came of a new one, by acts, crashes and restarts.
func TestStoresComeBackBehindCrashes(t *testing.T) {
	d := dice(150)
	met := map[string]int{}
	for run := range 110 {
		r := newCrashRun([]int64{1, 1, 500, 960}[run%4])
		if run%10 == 0 {
			r.fill(270, &d) // the log comes to its end
		}
		keys, steps := []int64{2, 4, 8, 32}[d.upTo(3)], 20+d.upTo(70)
		for step := range steps {
			name := fmt.Sprintf("run %d, step %d", run, step)
			r.do(thrownCrashAct(r.store, &d, keys))
			if acked := impl.AckedOf(r.store); acked.Code != impl.OK || !slices.Equal(acked.List, slices.Sorted(slices.Values(r.told.acked))) {
				t.Fatalf("%s: AckedOf is %+v, and told were %v", name, acked, r.told.acked)
			}
			kept, writes := d.upTo(int64(len(r.store.Log.Loose))), thrownWrites(r.store.Disk, &d)
			back := wantBackBehindCrash(t, name, r.store, kept, writes, r.told, met)
			if back.Code == impl.OK && step%4 == 0 {
				wantCrashesOfBack(t, name, back.Store, r.told, &d, met)
				wantImages(t, name, r.store.Disk)
			}
			if step%9 == 0 && run%10 > 0 {
				wantCrashTold(t, name, r.store, kept, writes)
			}
			if back.Code == impl.OK && d.upTo(15) == 0 {
				r.goOnFrom(back.Store)
				met["went on"]++
			} else if again := impl.RestartStore(r.store.Disk, r.store.Log); d.upTo(30) == 0 && again.Code == impl.OK {
				r.goOnFrom(again.Store)
				met["restarts"]++
			}
		}
	}
	for word, least := range map[string]int{"came back": 9000, "torn": 2000, "undone": 8000, "crashes of a restart": 4000, "went on": 200, "restarts": 80, "no room": 100} {
		if met[word] < least {
			t.Errorf("%s: met only %d times", word, met[word])
		}
	}
}

// Every number of loose bytes that a crash may keep; behind each of them every number again.
func TestCrashesThatKeepEveryNumberOfBytes(t *testing.T) {
	d := dice(151)
	met := map[string]int{}
	for run := range 24 {
		r := newCrashRun(1)
		for len(r.store.Log.Loose) < 6*recSize {
			r.do(thrownCrashAct(r.store, &d, 8))
		}
		s, told := r.store, r.told
		for kept := range int64(len(s.Log.Loose) + 1) {
			name := fmt.Sprintf("run %d, kept %d", run, kept)
			for _, writes := range [][]int64{nil, placesOf(s.Disk, all), thrownWrites(s.Disk, &d)} {
				wantLeft(t, name, s, kept, writes)
				back := wantBackBehindCrash(t, name, s, kept, writes, told, met)
				if back.Code != impl.OK || kept%recSize > 1 {
					continue
				}
				for more := range int64(len(back.Store.Log.Loose) + 1) {
					if more%recSize == kept%recSize || run == 0 {
						wantBackBehindCrash(t, fmt.Sprint(name, ", and then ", more), back.Store, more, nil, told, met)
					}
				}
			}
		}
	}
	if met["came back"] < 5000 || met["torn"] < 300 {
		t.Errorf("met %v", met)
	}
}

// A page that was written and synced is one of its images; so is each one that was written since.
func TestWrittenPagesAreImages(t *testing.T) {
	for n, disk := range someDisks() {
		for _, id := range []int64{0, int64(len(disk.Pages)) - 1} {
			written := impl.WriteDisk(disk, fullPage(id, 9))
			if written.Code != impl.OK {
				continue
			}
			data, name := packByHand(fullPage(id, 9)), fmt.Sprintf("disk %d, page %d", n, id)
			loose, synced := impl.ImagesOf(written.Disk, id), impl.ImagesOf(impl.SyncDisk(written.Disk).Disk, id)
			want := append(imagesByHand(disk, id), data)
			if !sameParts(loose, impl.PartsResult{Parts: want}) || !sameParts(synced, impl.PartsResult{Parts: [][]byte{data}}) {
				t.Fatalf("%s: written %+v, synced %+v", name, loose, synced)
			}
			again := impl.WriteDisk(impl.SyncDisk(written.Disk).Disk, fullPage(id, 10)).Disk
			if got := impl.ImagesOf(again, id); !hasImage(got.Parts, data) || len(got.Parts) != 2 {
				t.Fatalf("%s: written again %+v", name, got)
			}
		}
	}
	s := storeBehind(t, newStore(1), "b p1.5=7 p1.6=8")
	for id := range int64(4) {
		flushed := impl.FlushPage(s, id).Store
		got := impl.ImagesOf(flushed.Disk, id)
		if want := [][]byte{packByHand(impl.Page{Id: id}), packByHand(s.Pages[id])}; !slices.EqualFunc(got.Parts, want, bytes.Equal) {
			t.Errorf("page %d: %+v, want %+v", id, got, want)
		}
		if got := impl.ImagesOf(impl.SyncDisk(flushed.Disk).Disk, id); len(got.Parts) != 1 || !bytes.Equal(got.Parts[0], packByHand(s.Pages[id])) {
			t.Errorf("page %d, synced: %+v", id, got)
		}
	}
}

// settled: what is there behind a crash that keeps everything.
func settled(t *testing.T, s impl.Store) impl.Store {
	t.Helper()
	r := impl.CrashRestart(s, int64(len(s.Log.Loose)), placesOf(s.Disk, all))
	if r.Code != impl.OK || len(r.Store.Disk.Loose) != 0 {
		t.Fatalf("a crash that keeps everything: %+v", r)
	}
	return r.Store
}

// eachKey: puts of all keys that stand in page 1.
func eachKey(txn, value int64) string {
	var out strings.Builder
	for key := int64(1); key < 32; key += 4 {
		fmt.Fprintf(&out, " p%d.%d=%d", txn, key, value+key)
	}
	return out.String()
}

// setIn: the places that are in a set of bits.
func setIn(d impl.Disk, set int) []int64 {
	return placesOf(d, func(place int) bool { return set>>place&1 == 1 })
}

// One or two of the three pieces of a page: it cannot be read, and comes back of its records alone.
func TestTornPagesComeBack(t *testing.T) {
	first := settled(t, storeBehind(t, newStore(1), "b"+eachKey(1, 1000)+" c1 f1"))
	for _, c := range []struct {
		name, acts string
		value      int64
	}{
		{"a second one that commits", "b" + eachKey(2, 2000) + " c2 f1", 2000},
		{"a second one that commits behind the flush", "b" + eachKey(2, 2000) + " f1 c2", 2000},
		{"a second one that does not", "b" + eachKey(2, 2000) + " f1", 1000},
		{"a second one that aborts", "b" + eachKey(2, 2000) + " f1 a2", 1000},
		{"a second one that aborts ahead of the flush", "b" + eachKey(2, 2000) + " a2 f1", 1000},
	} {
		s := storeBehind(t, first, c.acts)
		want := cellsFrom(1, 4, 8, 0)
		for place := range want {
			want[place].Value = c.value + want[place].Key
		}
		for set := range 8 {
			for _, kept := range []int64{0, int64(len(s.Log.Loose))} {
				name := fmt.Sprintf("%s, pieces %03b, kept %d", c.name, set, kept)
				left := wantLeft(t, name, s, kept, setIn(s.Disk, set))
				read := impl.ReadDisk(left.Disk, 1)
				// Where the second one has taken all back, the middle piece is the same in both.
				if whole := hasImage(imagesByHand(s.Disk, 1), left.Disk.Pages[1]); whole != (read.Code == impl.OK) || whole != (len(impl.TornOf(left.Disk).List) == 0) || !impl.ReadsWhole(s.Disk, left.Disk) {
					t.Fatalf("%s: page 1 reads as %+v", name, read)
				}
				back := wantCrashTold(t, name, s, kept, setIn(s.Disk, set))
				if got := impl.MapOf(back.Store); got.Code != impl.OK || !slices.Equal(got.Cells, want) {
					t.Fatalf("%s: there is %+v, want %+v", name, got, want)
				}
				// The page stays torn on the disk, and is written anew.
				then := wantCrashTold(t, name, impl.FlushPage(back.Store, 1).Store, 0, numbersOf(0, 1, 2))
				if got := impl.MapOf(then.Store); !slices.Equal(got.Cells, want) || len(impl.TornOf(then.Store.Disk).List) != 0 {
					t.Fatalf("%s: flushed behind it there is %+v", name, got)
				}
			}
		}
	}
}

// Pieces of two writes of one page, mixed in all ways, above one that lasts.
func TestTornPagesOfTwoWrites(t *testing.T) {
	first := settled(t, storeBehind(t, newStore(1), "b"+eachKey(1, 1000)+" c1 f1"))
	for _, acts := range []string{"b" + eachKey(2, 2000) + " c2 f1 b" + eachKey(3, 3000) + " f1", "b" + eachKey(2, 2000) + " f1 c2 b" + eachKey(3, 3000) + " f1"} {
		s := storeBehind(t, first, acts)
		readable := 0
		for set := range 64 {
			name := fmt.Sprintf("pieces %06b", set)
			left := wantLeft(t, name, s, 0, setIn(s.Disk, set))
			whole := set == 0 || set == 7 || set&56 == 56
			if read := impl.ReadDisk(left.Disk, 1); whole != (read.Code == impl.OK) || !impl.ReadsWhole(s.Disk, left.Disk) {
				t.Fatalf("%s: page 1 reads as %+v", name, read)
			}
			if whole {
				readable++
			}
			got := impl.MapOf(wantCrashTold(t, name, s, 0, setIn(s.Disk, set)).Store)
			if len(got.Cells) != 8 || got.Cells[0].Value != 2001 || got.Cells[7].Value != 2029 {
				t.Fatalf("%s: there is %+v", name, got)
			}
		}
		if readable != 10 || len(impl.ImagesOf(s.Disk, 1).Parts) != 3 {
			t.Errorf("%d sets can be read", readable)
		}
	}
}

// Pieces of which the bytes are the same as there: what is left of them is whole, even if not all of them were kept.
func TestPiecesThatAreTheSameAsThere(t *testing.T) {
	first := settled(t, storeBehind(t, newStore(1), "b p1.5=7 c1 f1"))
	young := storeBehind(t, first, "b p2.5=8 c2 f1")
	same := storeBehind(t, first, "f1")
	for set := range 8 {
		name := fmt.Sprintf("pieces %03b", set)
		left := wantLeft(t, name, young, 0, setIn(young.Disk, set))
		lsn := map[int]int64{0: 2, 2: 2, 5: 5, 7: 5}[set] // the middle piece is noughts in both
		read := impl.ReadDisk(left.Disk, 1)
		if (lsn > 0) != (read.Code == impl.OK) || read.Page.Lsn != lsn || !impl.ReadsWhole(young.Disk, left.Disk) {
			t.Errorf("%s: page 1 reads as %+v", name, read)
		}
		if got := impl.MapOf(wantCrashTold(t, name, young, 0, setIn(young.Disk, set)).Store); !slices.Equal(got.Cells, cellList(5, 8)) {
			t.Errorf("%s: there is %+v", name, got)
		}
		left = wantLeft(t, name, same, 0, setIn(same.Disk, set))
		if !sameDisk(left.Disk, first.Disk) || !impl.ReadsWhole(same.Disk, left.Disk) {
			t.Errorf("%s: of the same bytes there is left %+v", name, left.Disk)
		}
		if got := impl.MapOf(wantCrashTold(t, name, same, 0, setIn(same.Disk, set)).Store); !slices.Equal(got.Cells, cellList(5, 7)) {
			t.Errorf("%s: of the same bytes there is %+v", name, got)
		}
	}
}

// collidingValues: two values for keys 1 and 5 with which the first piece of page 1 leaves the sum as it was.
func collidingValues(t *testing.T, was impl.Page, lsn int64) (int64, int64) {
	t.Helper()
	want := sumByHand(packByHand(was)[:16])
	turned := copyPage(was)
	turned.Lsn = lsn
	for one := range int64(200) {
		for two := range int64(10000) {
			turned.Cells[0].Value, turned.Cells[1].Value = one, two
			if sumByHand(packByHand(turned)[:16]) == want {
				return one, two
			}
		}
	}
	t.Fatal("no values with such a sum")
	return 0, 0
}

// A torn page that reads as whole all the same: its sum is right, but it knows less than its Lsn says. Only ReadsWhole tells.
func TestTornPageThatReadsAsWhole(t *testing.T) {
	first := settled(t, storeBehind(t, newStore(1), "b p1.1=100 p1.5=200 p1.9=300 p1.13=400 c1 f1"))
	one, two := collidingValues(t, first.Pages[1], 10)
	s := storeBehind(t, first, fmt.Sprintf("b p2.13=401 p2.1=%d p2.5=%d c2 f1", one, two))
	if s.Pages[1].Lsn != 10 {
		t.Fatalf("page 1 is %+v", s.Pages[1])
	}
	left := wantLeft(t, "the first piece", s, 0, numbersOf(0))
	mixed := impl.Page{Id: 1, Lsn: 10, Cells: cellList(1, one, 5, two, 9, 300, 13, 400)}
	if read := impl.ReadDisk(left.Disk, 1); !samePageResult(read, impl.PageResult{Page: mixed}) || len(impl.TornOf(left.Disk).List) != 0 {
		t.Fatalf("page 1 reads as %+v", read)
	}
	if impl.ReadsWhole(s.Disk, left.Disk) {
		t.Error("ReadsWhole of a page that a crash has mixed")
	}
	back := wantCrashTold(t, "the first piece", s, 0, numbersOf(0))
	if got := impl.GetStore(back.Store, 13); back.Code != impl.OK || got.Value != 400 {
		t.Errorf("key 13 has %+v", got)
	}
	for set := range 8 {
		left := wantLeft(t, "any pieces", s, 0, setIn(s.Disk, set))
		// The other two pieces, above the first one as it was, have a right sum as well.
		if got := impl.ReadsWhole(s.Disk, left.Disk); got != (set != 1 && set != 6) {
			t.Errorf("pieces %03b: ReadsWhole = %v", set, got)
		}
		back := wantCrashTold(t, "any pieces", s, 0, setIn(s.Disk, set))
		if impl.ReadsWhole(s.Disk, left.Disk) && impl.GetStore(back.Store, 13).Value != 401 {
			t.Errorf("pieces %03b read as whole, and key 13 has %+v", set, impl.GetStore(back.Store, 13))
		}
	}
}

// A page that cannot be read on a disk of which the log knows all records is as if it had been new.
func TestPagesThatCannotBeReadBehindACrash(t *testing.T) {
	s := storeBehind(t, newStore(1), "b p1.0=10"+eachKey(1, 1000)+" p1.2=12 p1.3=13 c1 f0 f1 f2 f3 b p2.1=5 p2.2-")
	want := impl.MapOf(wantCrashTold(t, "nothing torn", s, 26, placesOf(s.Disk, all)).Store)
	for id := range int64(4) {
		for name, data := range tornPages(id) {
			lasts := turnStore(s, func(s *impl.Store) {
				s.Disk = doneByHand(s.Disk, all)
				s.Disk.Pages[id] = data
			})
			loose := turnStore(s, func(s *impl.Store) { s.Disk = writeByHand(s.Disk, id, data) })
			for _, torn := range []impl.Store{lasts, loose} {
				for _, kept := range []int64{0, 13, 26, 39} {
					left := wantLeft(t, name, torn, kept, placesOf(torn.Disk, all))
					if list := impl.TornOf(left.Disk).List; !slices.Equal(list, numbersOf(id)) || !impl.ReadsWhole(torn.Disk, left.Disk) {
						t.Fatalf("page %d as %s: torn are %v", id, name, list)
					}
					back := wantCrashTold(t, name, torn, kept, placesOf(torn.Disk, all))
					if got := impl.MapOf(back.Store); back.Code != impl.OK || !slices.Equal(got.Cells, want.Cells) || len(got.Cells) != 11 {
						t.Fatalf("page %d as %s: there is %+v, want %+v", id, name, got, want)
					}
				}
			}
		}
	}
}

// diskOfPieces reads words: 1.0 is the first piece of page 1; each piece has bytes of its own.
func diskOfPieces(count int64, pieces string) impl.Disk {
	out := diskByHand(count)
	for place, word := range strings.Fields(pieces) {
		w := impl.Loose{Data: bytes.Repeat([]byte{byte(100 + place)}, 16)}
		fmt.Sscanf(word, "%d.%d", &w.Page, &w.Part)
		out.Loose = append(out.Loose, w)
	}
	return out
}

// wantImagesAt: the page as it lasts, and then the pieces from these places on.
func wantImagesAt(t *testing.T, name string, d impl.Disk, id int64, places ...int) {
	t.Helper()
	want := impl.PartsResult{Parts: [][]byte{packByHand(impl.Page{Id: id})}}
	for _, place := range places {
		want.Parts = append(want.Parts, nil)
		for next := range 3 {
			want.Parts[len(want.Parts)-1] = append(want.Parts[len(want.Parts)-1], bytes.Repeat([]byte{byte(100 + place + next)}, 16)...)
		}
	}
	if got := impl.ImagesOf(d, id); !sameParts(got, want) {
		t.Errorf("%s: ImagesOf page %d = %+v, want %+v", name, id, got, want)
	}
}

func TestThreePiecesOfOnePage(t *testing.T) {
	for _, c := range []struct {
		pieces string
		places []int
	}{
		{"", nil}, {"1.0", nil}, {"1.2", nil}, {"1.0 1.1", nil}, {"1.1 1.2", nil}, {"1.0 1.1 1.2", []int{0}}, {"2.0 2.1 2.2", nil}, {"0.0 0.1 0.2 2.0 2.1 2.2", nil},
		{"1.0 1.1 1.2 1.0 1.1 1.2", []int{0, 3}}, {"1.0 1.1 1.2 1.0 1.1 1.2 1.0 1.1 1.2", []int{0, 3, 6}}, {"1.0 1.1 1.2 2.0 2.1 2.2 1.0 1.1 1.2", []int{0, 6}}, {"2.0 2.1 2.2 1.0 1.1 1.2", []int{3}},
		{"1.0 1.1 2.2 1.2", nil}, {"1.0 2.1 1.1 1.2", nil}, {"1.0 1.1 0.0 1.2", nil}, {"1.0 1.1 2.0 2.1 2.2 1.2", nil}, {"1.0 2.0 1.1 2.1 1.2 2.2", nil}, {"1.0 2.1 1.2", nil}, {"2.0 1.1 1.2", nil}, {"1.0 1.1 2.2", nil},
		{"1.0 1.2 1.1", nil}, {"1.1 1.0 1.2", nil}, {"1.2 1.1 1.0", nil}, {"1.1 1.2 1.0", nil}, {"1.2 1.0 1.1", nil},
		{"1.1 1.2 1.0 1.1 1.2", []int{2}}, {"1.0 1.0 1.1 1.2", []int{1}}, {"1.0 1.1 1.0 1.1 1.2", []int{2}}, {"1.0 1.1 1.1 1.2", nil}, {"1.0 1.1 1.2 1.2", []int{0}}, {"1.0 1.1 1.2 1.0", []int{0}}, {"1.0 1.1 1.2 1.0 1.1", []int{0}}, {"1.0 1.1 1.2 1.0 1.1 2.2", []int{0}}, {"1.0 1.0 1.0", nil}, {"1.2 1.2 1.2 1.0 1.1 1.2 1.2", []int{3}}, {"1.1 1.1 1.1", nil}, {"1.0 1.0 1.0 1.1 1.2 1.0 1.2 1.0 1.1 1.2", []int{2, 7}},
		{"2.0 1.0 1.1 1.2", []int{1}}, {"2.0 2.1 1.0 1.1 1.2 2.2", []int{2}}, {"3.0 3.1 3.2 1.1 1.2", nil}, {"3.2 3.2 3.2 1.0 1.1 1.2 3.0 3.1 1.0", []int{3}},
	} {
		for _, count := range []int64{4, 8} {
			wantImagesAt(t, c.pieces, diskOfPieces(count, c.pieces), 1, c.places...)
			wantImages(t, c.pieces, diskOfPieces(count, c.pieces))
		}
		// The same, told of the first page and of the last one.
		for _, id := range []int64{0, 7} {
			turned := strings.NewReplacer("1.", fmt.Sprint(id, "."), fmt.Sprint(id, "."), "1.").Replace(c.pieces)
			wantImagesAt(t, turned, diskOfPieces(8, turned), id, c.places...)
		}
	}
	full := diskOfPieces(1, strings.Repeat("0.0 0.1 0.2 ", 20))
	wantImagesAt(t, "60 pieces", full, 0, 0, 3, 6, 9, 12, 15, 18, 21, 24, 27, 30, 33, 36, 39, 42, 45, 48, 51, 54, 57)
	wantImagesAt(t, "pieces at the very end", diskOfPieces(2, strings.Repeat("1.0 ", 57)+"0.0 0.1 0.2"), 0, 57)
	wantImagesAt(t, "two at the very end", diskOfPieces(2, strings.Repeat("1.0 ", 58)+"0.0 0.1"), 0)
}

// All rows of few pieces of two pages.
func TestAllShortRowsOfPieces(t *testing.T) {
	words := strings.Fields("0.0 0.1 0.2 1.0 1.1 1.2")
	met := 0
	var grow func(pieces string, left int)
	grow = func(pieces string, left int) {
		d := diskOfPieces(2, pieces)
		wantImages(t, pieces, d)
		met += len(impl.ImagesOf(d, 0).Parts) - 1
		for _, word := range words {
			if left > 0 {
				grow(pieces+" "+word, left-1)
			}
		}
	}
	grow("", 5)
	grow("0.0 0.1", 4)
	if met < 100 {
		t.Errorf("only %d images", met)
	}
}

func TestCodesOfImagesOf(t *testing.T) {
	for _, f := range append(oneDiskFault(), twoDiskFaults()...) {
		for _, id := range []int64{0, -1, 1, 7, 8, math.MaxInt64} {
			wantCode(t, f.name, impl.ImagesOf(f.disk, id), f.code)
		}
	}
	for count := int64(1); count <= 8; count++ {
		for _, d := range []impl.Disk{diskByHand(count), withLoose(diskByHand(count), 60)} {
			for _, id := range []int64{math.MinInt64, -1, count, count + 1, math.MaxInt64} {
				wantCode(t, fmt.Sprintf("page %d of %d", id, count), impl.ImagesOf(d, id), impl.ErrRange)
			}
			for id := range count {
				wantCode(t, fmt.Sprintf("page %d of %d", id, count), impl.ImagesOf(d, id), impl.OK)
			}
		}
	}
	// What cannot be read is an image all the same: its bytes alone are told.
	for id := range int64(4) {
		for name, data := range tornPages(id) {
			d := diskByHand(4)
			d.Pages[id] = data
			for _, disk := range []impl.Disk{d, writeByHand(diskByHand(4), id, data)} {
				if got := impl.ImagesOf(disk, id); !sameParts(got, impl.PartsResult{Parts: imagesByHand(disk, id)}) || !hasImage(got.Parts, data) {
					t.Errorf("page %d as %s: %+v", id, name, got)
				}
			}
		}
	}
}

// wholeCase: what is written, and what is read behind it.
type wholeCase struct {
	name     string
	d, after impl.Disk
	want     bool
}

// wholeCases: of a disk with one image of each page but id, which has four.
func wholeCases(count, id int64) []wholeCase {
	image := func(stamp int64) []byte { return packByHand(fullPage(id, stamp)) }
	other := (id + 1) % count
	d := diskByHand(count)
	d.Pages[id] = image(1)
	for _, stamp := range []int64{2, 3} {
		d = writeByHand(d, id, image(stamp))
	}
	if other != id {
		d = writeByHand(d, other, packByHand(fullPage(other, 5)))
	}
	d = writeByHand(d, id, image(4))
	fresh := doneByHand(d, none)
	with := func(disk impl.Disk, data []byte) impl.Disk {
		out := copyDisk(disk)
		out.Pages[id] = data
		return out
	}
	torn := slices.Clone(image(2))
	torn[20] ^= 1
	piece := func(disk impl.Disk, part int64, data []byte) impl.Disk {
		out := copyDisk(disk)
		out.Loose = append(out.Loose, impl.Loose{Page: id, Part: part, Data: slices.Clone(data[16*part : 16*part+16])})
		return out
	}
	out := []wholeCase{
		{"itself", d, d, true}, {"all that was written", d, doneByHand(d, all), true}, {"nothing that was written", d, fresh, true},
		{"the first image", d, with(fresh, image(1)), true}, {"the second image", d, with(fresh, image(2)), true}, {"the third image", d, with(fresh, image(3)), true}, {"the last image", d, with(fresh, image(4)), true}, {"no image", d, with(fresh, image(6)), false},
		{"no cells", d, with(fresh, packByHand(impl.Page{Id: id})), false}, {"no cells, of a new disk", diskByHand(count), diskByHand(count), true},
		{"one that cannot be read", d, with(fresh, torn), true}, {"noughts", d, with(fresh, make([]byte, 48)), true}, {"the Id of another page", d, with(fresh, packByHand(fullPage((id+1)%8, 2))), true},
		{"pieces of two images", d, with(fresh, slices.Concat(image(1)[:16], image(2)[16:])), true},
		{"loose ones, an image above none", d, writeByHand(with(fresh, image(6)), id, image(2)), true}, {"loose ones, none above an image", d, writeByHand(with(fresh, image(2)), id, image(6)), false}, {"loose ones, an image above another one", d, writeByHand(with(fresh, image(3)), id, image(4)), true},
		{"loose ones, a piece above an image", d, piece(with(fresh, image(2)), 1, image(3)), true}, {"loose ones, a piece that is as there", d, piece(with(fresh, image(2)), 1, image(2)), true},
		{"loose ones, a piece that makes an image", d, piece(with(fresh, slices.Concat(image(2)[:32], image(3)[32:])), 2, image(2)), true}, {"loose ones, a piece that makes none", d, piece(with(fresh, slices.Concat(image(6)[:32], image(3)[32:])), 2, image(6)), false},
		{"an image of what was never loose", fresh, with(fresh, image(2)), false}, {"as it lasts, of what was never loose", fresh, fresh, true},
		{"all of after, turned", with(fresh, image(2)), d, false}, {"the first of after, turned", d, with(d, image(6)), true},
		{"written where the page could not be read", writeByHand(with(fresh, torn), id, image(2)), with(fresh, image(2)), true}, {"not written where the page could not be read", with(fresh, torn), with(fresh, image(2)), false}, {"neither can be read", with(fresh, torn), with(fresh, make([]byte, 48)), true},
		{"pieces in another order", impl.Disk{Pages: fresh.Pages, Loose: []impl.Loose{{Page: id, Part: 0, Data: image(2)[:16]}, {Page: id, Part: 2, Data: image(2)[32:]}, {Page: id, Part: 1, Data: image(2)[16:32]}}}, with(fresh, image(2)), false},
	}
	if other != id {
		strange := writeByHand(fresh, other, image(6)) // of the right Id, in a wrong place
		between := writeByHand(fresh, id, image(2))
		between.Loose = slices.Insert(between.Loose, 2, impl.Loose{Page: other, Data: make([]byte, 16)})
		out = append(out,
			wholeCase{"an image of another page alone", strange, with(fresh, image(6)), false}, wholeCase{"an image of another page, which cannot be read", strange, strange, true},
			wholeCase{"a piece of another page between", between, with(fresh, image(2)), false}, wholeCase{"a piece of another page between, all kept", between, doneByHand(between, all), false})
	}
	return out
}

func TestReadsWholeAsTold(t *testing.T) {
	for count := int64(1); count <= 8; count++ {
		for id := range count {
			for _, c := range wholeCases(count, id) {
				name := fmt.Sprintf("%s, page %d of %d", c.name, id, count)
				if impl.DiskFault(c.d) != impl.OK || impl.DiskFault(c.after) != impl.OK {
					t.Fatalf("%s: a disk has a fault", name)
				}
				if got, by := impl.ReadsWhole(c.d, c.after), readsWholeByHand(c.d, c.after); got != c.want || by != c.want {
					t.Errorf("%s: ReadsWhole = %v, by hand %v, want %v", name, got, by, c.want)
				}
			}
		}
	}
}

func TestReadsWholeOfDisksThatDoNotFit(t *testing.T) {
	good := diskByHand(4)
	for _, f := range append(oneDiskFault(), twoDiskFaults()...) {
		for _, d := range []impl.Disk{good, diskByHand(1), diskByHand(8), f.disk, {}} {
			if impl.ReadsWhole(f.disk, d) || impl.ReadsWhole(d, f.disk) {
				t.Errorf("%s: ReadsWhole beside a disk of %d pages", f.name, len(d.Pages))
			}
		}
	}
	for one := int64(1); one <= 8; one++ {
		for two := int64(1); two <= 8; two++ {
			torn := impl.Disk{Pages: slices.Repeat([][]byte{make([]byte, 48)}, int(two))}
			for _, after := range []impl.Disk{diskByHand(two), torn} {
				if got := impl.ReadsWhole(diskByHand(one), after); got != (one == two) {
					t.Errorf("%d pages, and %d: ReadsWhole = %v", one, two, got)
				}
			}
		}
	}
	if impl.ReadsWhole(impl.Disk{}, impl.Disk{}) || impl.ReadsWhole(impl.Disk{Pages: [][]byte{}}, impl.Disk{}) {
		t.Error("ReadsWhole of no pages")
	}
}

// Two pages are not whole, or one of them is: it takes all of them.
func TestReadsWholeAsksAllPages(t *testing.T) {
	d := diskByHand(4)
	for id := range int64(4) {
		d = writeByHand(d, id, packByHand(fullPage(id, 2)))
	}
	for row := range 256 {
		after, want := diskByHand(4), true
		for id := range int64(4) {
			switch row >> (2 * id) & 3 {
			case 1:
				after.Pages[id] = packByHand(fullPage(id, 2))
			case 2:
				after.Pages[id] = packByHand(fullPage(id, 3))
				want = false
			case 3:
				after.Pages[id][30] ^= 1
			}
		}
		if got := impl.ReadsWhole(d, after); got != want {
			t.Errorf("row %04x: ReadsWhole = %v", row, got)
		}
	}
}

// thrownAfter: what a crash leaves of the disk, or one of its pages turned, or loose writes of its own.
func thrownAfter(disk impl.Disk, d *dice) impl.Disk {
	writes := thrownWrites(disk, d)
	out := doneByHand(disk, func(place int) bool { return slices.Contains(writes, int64(place)) })
	id := d.upTo(int64(len(out.Pages) - 1))
	switch d.upTo(5) {
	case 0:
		out.Pages[id] = thrownBytes(d, id)
	case 1:
		images := imagesByHand(disk, id)
		out.Pages[id] = slices.Clone(images[d.upTo(int64(len(images)-1))])
	case 2:
		images := imagesByHand(disk, id)
		out = writeByHand(out, id, images[d.upTo(int64(len(images)-1))])
	case 3:
		out = writeByHand(out, id, thrownBytes(d, id))
	}
	return out
}

func TestReadsWholeAndImagesAsByHand(t *testing.T) {
	d := dice(152)
	met := map[bool]int{}
	for n, disk := range someDisks() {
		wantImages(t, fmt.Sprint("disk ", n), disk)
		for range 25 {
			after := thrownAfter(disk, &d)
			got, want := impl.ReadsWhole(disk, after), readsWholeByHand(disk, after)
			if got != want {
				t.Fatalf("disk %d: ReadsWhole of\n%+v\n%+v is %v", n, disk, after, got)
			}
			met[got]++
		}
	}
	if met[true] < 1000 || met[false] < 300 {
		t.Errorf("met %v", met)
	}
}

// ReadsWhole leaves nothing running, and answers the same however often, and by however many at once, it is asked.
func TestReadsWholeAskedOften(t *testing.T) {
	before := runtime.NumGoroutine()
	cases := append(wholeCases(4, 1), wholeCases(8, 7)...)
	for round := range 60 {
		for _, c := range cases {
			if got := impl.ReadsWhole(c.d, c.after); got != c.want {
				t.Fatalf("round %d, %s: ReadsWhole = %v", round, c.name, got)
			}
			impl.ReadsWhole(impl.Disk{}, c.after)
			impl.ReadsWhole(c.d, diskByHand(3))
		}
		if now := runtime.NumGoroutine(); now > before {
			t.Fatalf("round %d: %d are running, and %d were", round, now, before)
		}
	}
	var group sync.WaitGroup
	wrong := make([]string, 8)
	for asker := range wrong {
		group.Go(func() {
			for range 20 {
				for _, c := range cases {
					if impl.ReadsWhole(c.d, c.after) != c.want {
						wrong[asker] = c.name
					}
				}
			}
		})
	}
	group.Wait()
	for _, name := range wrong {
		if name != "" {
			t.Errorf("asked by many at once: %s", name)
		}
	}
}

func TestSameCellsAsTold(t *testing.T) {
	for _, c := range []struct {
		a, b []impl.Cell
		want bool
	}{
		{nil, nil, true}, {nil, []impl.Cell{}, true}, {[]impl.Cell{}, []impl.Cell{}, true}, {nil, []impl.Cell{{}}, false}, {cellList(0, 0), cellList(0, 0), true},
		{cellList(1, 5), cellList(1, 5), true}, {cellList(1, 5), nil, false}, {cellList(1, 5), cellList(1, 6), false}, {cellList(1, 5), cellList(2, 5), false}, {cellList(1, 5), cellList(5, 1), false},
		{cellList(1, 5, 2, 6), cellList(1, 5), false}, {cellList(1, 5, 2, 6), cellList(2, 6), false}, {cellList(1, 5, 2, 6), cellList(1, 5, 2, 6), true}, {cellList(1, 5, 2, 6), cellList(2, 6, 1, 5), false}, {cellList(1, 5, 2, 6), cellList(1, 6, 2, 5), false}, {cellList(1, 5, 2, 6), cellList(1, 5, 2, 7), false}, {cellList(1, 5, 2, 6), cellList(1, 4, 2, 6), false}, {cellList(1, 5, 2, 6, 3, 7), cellList(1, 5, 2, 8, 3, 7), false},
		{cellList(1, 5, 1, 5), cellList(1, 5), false}, {cellList(1, 5, 1, 5), cellList(1, 5, 1, 5), true}, {cellList(-1, -5), cellList(-1, -5), true}, {cellList(-1, -5), cellList(-1, 5), false}, {cellList(math.MinInt64, math.MaxInt64), cellList(math.MinInt64, math.MaxInt64), true}, {cellList(math.MinInt64, math.MaxInt64), cellList(math.MaxInt64, math.MinInt64), false}, {cellList(1, 1<<32), cellList(1, 0), false}, {cellList(1<<32+1, 0), cellList(1, 0), false},
	} {
		if impl.SameCells(c.a, c.b) != c.want || impl.SameCells(c.b, c.a) != c.want {
			t.Errorf("SameCells of %v, %v is not %v", c.a, c.b, c.want)
		}
	}
	long := cellsFrom(0, 1, 1000, 4)
	for place := range long {
		turned, other := slices.Clone(long), slices.Clone(long)
		turned[place].Value++
		other[place].Key--
		if impl.SameCells(long, turned) || impl.SameCells(other, long) || impl.SameCells(long, long[:place]) || impl.SameCells(long[place+1:], long) || !impl.SameCells(long, slices.Clone(long)) {
			t.Fatalf("of cells that differ at place %d", place)
		}
	}
}

// logStore: a store whose log has just these records, so many bytes of them sure.
func logStore(recs []impl.Rec, sure int) impl.Store {
	s := newStore(999)
	s.Log = splitLog(packRecsByHand(recs), sure)
	return s
}

func TestAckedOfAsTold(t *testing.T) {
	for _, c := range []struct {
		recs []impl.Rec
		want map[int][]int64 // behind so many sure records
	}{
		{nil, map[int][]int64{0: nil}},
		{recsIn("b1 c1"), map[int][]int64{0: nil, 1: nil, 2: {1}}},
		{recsIn("b9 b3 b5 c5 c9 k c3"), map[int][]int64{3: nil, 4: {5}, 5: {5, 9}, 6: {5, 9}, 7: {3, 5, 9}}},
		{recsIn("b2 p2.5=7 c2 b1 a1 b4 p4.5=8 u4.7 a4"), map[int][]int64{2: nil, 3: {2}, 9: {2}}},
		{recsIn("b999 c999 b1 c1"), map[int][]int64{2: {999}, 4: {1, 999}}},
		{[]impl.Rec{commit(5), commit(3), commit(5), commit(5), commit(4)}, map[int][]int64{0: nil, 1: {5}, 2: {3, 5}, 3: {3, 5}, 4: {3, 5}, 5: {3, 4, 5}}}, // no store logs such, but it is no fault
		{[]impl.Rec{commit(1), begin(2), abort(3), check(), put(4, 5), undo(6, 5, 1)}, map[int][]int64{0: nil, 1: {1}, 6: {1}}},
	} {
		for sure := range len(c.recs)*recSize + 1 {
			s := logStore(c.recs, sure)
			got := impl.AckedOf(s)
			wantCode(t, told(c.recs), got, impl.OK)
			if !slices.Equal(got.List, ackedByHand(s)) {
				t.Errorf("%+v, %d bytes sure: AckedOf = %v, want %v", c.recs, sure, got.List, ackedByHand(s))
			}
			// Some bytes of a record are none of it.
			if want, known := c.want[sure/recSize]; known && !slices.Equal(got.List, want) {
				t.Errorf("%+v, %d bytes sure: AckedOf = %v, want %v", c.recs, sure, got.List, want)
			}
		}
	}
	var many []impl.Rec
	for txn := int64(307); txn >= 1; txn-- {
		many = append(many, commit(txn))
	}
	if got := impl.AckedOf(logStore(many, 307*recSize)); len(got.List) != 307 || !slices.Equal(got.List, keysInRow(308)[1:]) {
		t.Errorf("of 307 commits: %+v", got)
	}
	s := storeBehind(t, newStore(1), "b b b p1.1=1 p2.2=2 c2 p3.3=3 c3 a1 b")
	if got := impl.AckedOf(s); !slices.Equal(got.List, numbersOf(2, 3)) {
		t.Errorf("AckedOf = %+v", got)
	}
	for n, s := range someStores() {
		if got := impl.AckedOf(s); got.Code != impl.OK || !slices.Equal(got.List, ackedByHand(s)) {
			t.Errorf("store %d: AckedOf = %+v, want %v", n, got, ackedByHand(s))
		}
	}
}

// A store's own fault, then the log's bytes, then the disk's writes.
func TestCodesOfCrashStore(t *testing.T) {
	for _, f := range append(storeFaultsInOrder(), moreStoreFaults()...) {
		if f.code == impl.OK {
			continue
		}
		s := turnStore(handStore(), f.turn)
		wantCode(t, f.name+": AckedOf", impl.AckedOf(s), f.code)
		for _, kept := range []int64{0, -1, 1 << 40} {
			for _, writes := range [][]int64{nil, {0}, {-1}, {1, 0}} {
				wantCode(t, f.name, impl.CrashStore(s, kept, writes), f.code)
				wantCode(t, f.name, impl.CrashRestart(s, kept, writes), f.code)
			}
		}
	}
	for n, s := range someStores() {
		bytes, count := int64(len(s.Log.Loose)), int64(len(s.Disk.Loose))
		for _, kept := range []int64{math.MinInt64, -1, 0, 1, 12, 13, 14, bytes - 1, bytes, bytes + 1, mostLog, math.MaxInt64} {
			for _, writes := range [][]int64{nil, placesOf(s.Disk, all), {0}, {0, 1}, {1, 0}, {0, 0}, {-1}, {count - 1}, {count}, {0, count}, {count, 0}, {2, 1, count}, {1, 0, -1}, {math.MaxInt64}, {math.MinInt64, 0}} {
				name := fmt.Sprintf("store %d of %d bytes and %d writes: kept %d, writes %v", n, bytes, count, kept, writes)
				code := impl.CrashStore(s, kept, writes).Code
				if (kept < 0 || kept > bytes) && code != impl.ErrRange {
					t.Errorf("%s: code %d", name, code)
				}
				wantLeft(t, name, s, kept, writes)
				if code != impl.OK {
					wantCode(t, name, impl.CrashRestart(s, kept, writes), code)
				}
			}
		}
	}
	s := handStore()
	for _, c := range []struct {
		kept   int64
		writes []int64
		code   int64
	}{
		{0, nil, impl.OK}, {90, nil, impl.OK}, {91, nil, impl.ErrRange}, {-1, nil, impl.ErrRange}, {0, numbersOf(0, 8), impl.OK}, {0, numbersOf(9), impl.ErrRange}, {0, numbersOf(-1), impl.ErrRange}, {0, numbersOf(1, 0), impl.ErrForm}, {0, numbersOf(3, 3), impl.ErrForm}, {91, numbersOf(1, 0), impl.ErrRange}, {-1, numbersOf(1, 0), impl.ErrRange}, {90, numbersOf(1, 0), impl.ErrForm}, {0, numbersOf(1, 0, 9), impl.ErrRange}, {0, slices.Repeat(numbersOf(0), 1<<16), impl.ErrForm},
	} {
		wantCode(t, fmt.Sprintf("kept %d, %d writes", c.kept, len(c.writes)), impl.CrashStore(s, c.kept, c.writes), c.code)
		if c.code != impl.OK {
			wantCode(t, fmt.Sprintf("kept %d, %d writes", c.kept, len(c.writes)), impl.CrashRestart(s, c.kept, c.writes), c.code)
		}
	}
}

// The codes of a restart: of the records and of the disk that are left, not of those that were.
func TestCodesOfCrashRestart(t *testing.T) {
	for _, c := range []struct {
		recs []impl.Rec
		code int64
	}{
		{[]impl.Rec{begin(1), commit(2)}, impl.ErrState}, {[]impl.Rec{begin(1), putRec(1, 5, true, 1, true, 1)}, impl.ErrForm}, {append(recsIn("b1 b2 p1.5=7"), putRec(2, 5, true, 7, true, 8)), impl.ErrConflict}, {append(recsIn("b1 p1.5=7"), abort(1)), impl.ErrNone},
	} {
		for sure := range len(c.recs)*recSize + 1 {
			s := logStore(c.recs, sure)
			for kept := range int64(len(s.Log.Loose) + 1) {
				code := int64(impl.OK)
				if sure+int(kept) == len(c.recs)*recSize {
					code = c.code
				}
				name := fmt.Sprintf("%+v, %d bytes sure, kept %d", c.recs, sure, kept)
				wantCode(t, name, impl.CrashStore(s, kept, nil), impl.OK)
				wantCode(t, name, wantCrashTold(t, name, s, kept, nil), code)
			}
		}
	}
	late := logStore(recsIn("b1 p1.5=7 c1"), 0)
	late.Disk = writeByHand(diskByHand(4), 1, packByHand(impl.Page{Id: 1, Lsn: 3, Cells: cellList(5, 7)}))
	wrong := logStore(recsIn("b1 p1.5=7 c1"), 0)
	wrong.Disk = writeByHand(diskByHand(4), 1, packByHand(impl.Page{Id: 1, Lsn: 1, Cells: cellList(6, 7)}))
	unsound := logStore([]impl.Rec{commit(1)}, 0)
	unsound.Disk = writeByHand(diskByHand(4), 1, packByHand(impl.Page{Id: 1, Lsn: 9}))
	full := logStore(recsIn("b1 b2 p2.5=7 c2"+strings.Repeat(" k", 303)), 0)
	for _, c := range []struct {
		name   string
		s      impl.Store
		kept   int64
		writes []int64
		code   int64
	}{
		{"a page that knows more than the records", late, 0, numbersOf(0, 1, 2), impl.ErrState}, {"one that knows as many", late, 39, numbersOf(0, 1, 2), impl.OK}, {"one that knows one more", late, 38, numbersOf(0, 1, 2), impl.ErrState}, {"one that was not kept", late, 0, nil, impl.OK}, {"one that is torn", late, 0, numbersOf(0, 1), impl.OK},
		{"a key in the wrong page", wrong, 39, numbersOf(0, 1, 2), impl.ErrState}, {"a key in the wrong page, not kept", wrong, 39, numbersOf(1), impl.OK},
		{"unsound, and a page that knows more", unsound, 13, numbersOf(0, 1, 2), impl.ErrState}, {"unsound, not kept, and a page that knows more", unsound, 12, numbersOf(0, 1, 2), impl.ErrState}, {"unsound, not kept", unsound, 12, nil, impl.OK},
		{"no room for the abort", full, 307 * recSize, nil, impl.ErrMany}, {"room for the abort", full, 306 * recSize, nil, impl.OK}, {"no whole record less", full, 307*recSize - 1, nil, impl.OK},
	} {
		wantCode(t, c.name, impl.CrashStore(c.s, c.kept, c.writes), impl.OK)
		wantCode(t, c.name, wantCrashTold(t, c.name, c.s, c.kept, c.writes), c.code)
	}
}

// Whatever pages, Open and Held a store has in memory: a crash leaves the disk and the log alone.
func TestCrashForgetsWhatIsInMemory(t *testing.T) {
	s := storeBehind(t, newStore(1), "b p1.5=7 f1 p1.6=8 c1 b p2.5=9 b p3.2=1 f2")
	blank := turnStore(s, func(s *impl.Store) {
		s.Pages, s.Open, s.Held, s.Next = newStore(1).Pages, nil, nil, 77
	})
	for kept := range int64(len(s.Log.Loose) + 1) {
		for set := range 64 {
			one, two := wantCrashTold(t, "as it was", s, kept, setIn(s.Disk, set)), impl.CrashRestart(blank, kept, setIn(s.Disk, set))
			if one.Code != impl.OK || !sameStoreAnswer(one, two) || len(one.Store.Open)+len(one.Store.Held) != 0 {
				t.Fatalf("kept %d, pieces %06b: %+v, and %+v", kept, set, one, two)
			}
		}
	}
}

// A whole crash, told step by step.
func TestTalkOfACrash(t *testing.T) {
	s := storeBehind(t, newStore(1), "b p1.5=7 c1 f1 b p2.5=8 f1 p2.6=9 b p3.9=4")
	if len(s.Log.Loose) != 3*recSize || len(s.Disk.Loose) != 6 || !slices.Equal(impl.AckedOf(s).List, numbersOf(1)) {
		t.Fatalf("the store is %+v", s)
	}
	left := impl.CrashStore(s, recSize+5, numbersOf(0, 1, 2, 3))
	wantCode(t, "a crash", left, impl.OK)
	if len(left.Log.Sure) != 6*recSize || len(left.Log.Loose) != 0 || len(left.Disk.Loose) != 0 || !slices.Equal(impl.TornOf(left.Disk).List, numbersOf(1)) {
		t.Fatalf("left is %+v", left)
	}
	back := impl.CrashRestart(s, recSize+5, numbersOf(0, 1, 2, 3))
	recs := recsIn("b1 p1.5=7 c1 b2 p2.5=8 p2.6=9 u2.6 u2.5 a2")
	if back.Code != impl.OK || back.Value != 1 || back.Store.Next != 3 || !slices.Equal(recsOfStore(back.Store), recs) || !slices.Equal(impl.MapOf(back.Store).Cells, cellList(5, 7)) {
		t.Fatalf("back is %+v", back)
	}
	if !sameDisk(back.Store.Disk, left.Disk) || !bytes.Equal(back.Store.Log.Sure, left.Log.Sure) || len(back.Store.Log.Loose) != 3*recSize {
		t.Errorf("back is %+v, left was %+v", back, left)
	}
	for kept, logged := range map[int64]string{0: "u2.6 u2.5 a2", 12: "u2.6 u2.5 a2", 13: "u2.5 a2", 26: "a2", 38: "a2", 39: ""} {
		again := impl.CrashRestart(back.Store, kept, nil)
		if again.Code != impl.OK || !slices.Equal(recsOfStore(again.Store), recs) || len(again.Store.Log.Loose) != recSize*len(strings.Fields(logged)) || !slices.Equal(impl.MapOf(again.Store).Cells, cellList(5, 7)) {
			t.Errorf("a crash of the restart that keeps %d: %+v", kept, again)
		}
	}
}

// crashCase: what a crash is asked of.
type crashCase struct {
	name   string
	store  impl.Store
	kept   int64
	writes []int64
	after  impl.Disk
	one    []impl.Cell
	two    []impl.Cell
}

func crashesToAsk() []crashCase {
	var out []crashCase
	d := dice(153)
	for n, s := range storesToAsk() {
		c := crashCase{name: fmt.Sprint("store ", n), store: s, kept: d.upTo(int64(len(s.Log.Loose))), after: diskByHand(4)}
		if impl.DiskFault(s.Disk) == impl.OK {
			c.writes, c.after = thrownWrites(s.Disk, &d), thrownAfter(s.Disk, &d)
		}
		if n%9 == 0 {
			c.kept = -1
		}
		if n%11 == 0 {
			c.writes = numbersOf(1, 0)
		}
		if len(s.Pages) > 1 {
			c.one, c.two = s.Pages[n%2].Cells, s.Pages[0].Cells
		}
		out = append(out, c)
	}
	for run := range 60 {
		s := newStore(1)
		for range 10 + d.upTo(50) {
			s = turnedByAct(s, askStoreByHand(s, thrownCrashAct(s, &d, 8)))
		}
		out = append(out, crashCase{fmt.Sprint("run ", run), s, d.upTo(int64(len(s.Log.Loose))), thrownWrites(s.Disk, &d), thrownAfter(s.Disk, &d), mapByHand(s), winnersCellsByHand(recsOfStore(s))})
	}
	for n, f := range append(oneDiskFault(), twoDiskFaults()...) {
		if n%6 == 0 && len(f.disk.Pages) < 100 && len(f.disk.Loose) < 100 {
			out = append(out, crashCase{name: "after has " + f.name, store: newStore(1), after: f.disk, one: cellList(1, 2), two: cellList(1, 2, 3, 4)})
		}
	}
	return append(out, crashCase{name: "nothing"})
}

func (c crashCase) withRoom() crashCase {
	c.store, c.writes, c.after = storeWithRoom(c.store), roomy(c.writes), diskWithRoom(c.after)
	c.one, c.two = roomy(c.one), roomy(c.two)
	return c
}

func (c crashCase) room() string {
	return storeRoom(c.store) + roomOf(c.after) + told(wholeRoom(c.writes)) + told(wholeRoom(c.one)) + told(wholeRoom(c.two))
}

func askCrash(c crashCase) []any {
	out := []any{impl.CrashStore(c.store, c.kept, c.writes), impl.CrashRestart(c.store, c.kept, c.writes), impl.AckedOf(c.store), impl.ReadsWhole(c.store.Disk, c.after), impl.ReadsWhole(c.after, c.store.Disk), impl.SameCells(c.one, c.two)}
	for id := int64(-1); id <= 4; id++ {
		out = append(out, impl.ImagesOf(c.store.Disk, id))
	}
	return append(out, impl.ImagesOf(c.after, 0))
}

func TestCrashArgumentsStay(t *testing.T) {
	for _, c := range crashesToAsk() {
		with := c.withRoom()
		before := with.room()
		askCrash(with)
		if with.room() != before {
			t.Errorf("%s: arguments were changed", c.name)
		}
	}
}

func spoilCrash(answers []any) {
	for _, answer := range answers {
		switch r := answer.(type) {
		case impl.CrashResult:
			spoilStore(impl.Store{Disk: r.Disk, Log: r.Log})
		case impl.StoreResult:
			spoilStore(r.Store)
		case impl.IntsResult:
			spoil(r.List, -5)
		case impl.PartsResult:
			for _, data := range r.Parts {
				spoil(data, 0xa5)
			}
			spoil(r.Parts, nil)
		}
	}
}

func wantOwnMemoryOfCrash(t *testing.T, name string, answers []any) {
	t.Helper()
	for _, answer := range answers {
		switch r := answer.(type) {
		case impl.CrashResult:
			wantOwnLists(t, name, impl.Store{Disk: r.Disk, Log: r.Log})
		case impl.StoreResult:
			wantOwnLists(t, name, r.Store)
		case impl.PartsResult:
			wantOwnLists(t, name, impl.Store{Disk: impl.Disk{Pages: r.Parts}})
		}
	}
}

func TestCrashAnswersAreNewMemory(t *testing.T) {
	met := map[bool]int{}
	for _, c := range crashesToAsk() {
		with := c.withRoom()
		before := with.room()
		spoilt, other, third := askCrash(with), askCrash(with), askCrash(with)
		want := told(other)
		met[other[0].(impl.CrashResult).Code == impl.OK]++
		wantOwnMemoryOfCrash(t, c.name, third)
		spoilCrash(spoilt)
		if with.room() != before || told(other) != want {
			t.Fatalf("%s: an answer shares memory with an argument, or with another one", c.name)
		}
		spoilStore(with.store)
		spoilStore(impl.Store{Disk: with.after})
		spoil(with.writes, -5)
		spoil(with.one, impl.Cell{Key: -5})
		spoil(with.two, impl.Cell{Key: -5})
		if told(other) != want {
			t.Fatalf("%s: an answer hangs on what its arguments became", c.name)
		}
	}
	if met[true] < 100 || met[false] < 50 {
		t.Errorf("met %v", met)
	}
}

// Where there is a code all else is zero.
func TestCrashAnswersBesideACode(t *testing.T) {
	met := 0
	for _, c := range crashesToAsk() {
		for place, answer := range askCrash(c) {
			name := fmt.Sprintf("%s, answer %d", c.name, place)
			switch r := answer.(type) {
			case impl.CrashResult:
				wantCode(t, name, r, crashByHand(c.store, c.kept, c.writes).Code)
				met++
			case impl.StoreResult:
				wantCode(t, name, r, r.Code)
			case impl.IntsResult:
				wantCode(t, name, r, storeFaultByHand(c.store))
			case impl.PartsResult:
				wantCode(t, name, r, r.Code)
			}
		}
	}
	if met < 200 {
		t.Errorf("only %d crashes", met)
	}
}

// Lists of an argument may be pieces of one, and a disk may be held against itself.
func TestCrashOfPiecesStays(t *testing.T) {
	for _, c := range crashesToAsk() {
		pieces := c
		pieces.store = copyStore(c.store)
		whole := slices.Concat(c.store.Log.Sure, c.store.Log.Loose)
		pieces.store.Log = impl.Log{Sure: whole[:len(c.store.Log.Sure)], Loose: whole[len(c.store.Log.Sure):]}
		data := slices.Concat(listsOf(c.store.Disk)...)
		cut := func(list []byte) []byte {
			piece := data[:len(list)]
			data = data[len(list):]
			return piece
		}
		for id, list := range pieces.store.Disk.Pages {
			pieces.store.Disk.Pages[id] = cut(list)
		}
		for place, w := range pieces.store.Disk.Loose {
			pieces.store.Disk.Loose[place].Data = cut(w.Data)
		}
		if one, two := told(askCrash(c)), told(askCrash(pieces)); one != two || !sameStore(c.store, pieces.store) {
			t.Fatalf("%s: as pieces\n%s, want\n%s", c.name, two, one)
		}
		if got := impl.ReadsWhole(pieces.store.Disk, pieces.store.Disk); got != readsWholeByHand(c.store.Disk, c.store.Disk) {
			t.Fatalf("%s: held against itself %v", c.name, got)
		}
		if !impl.SameCells(c.one, c.one) {
			t.Fatalf("%s: cells are not the same as themselves", c.name)
		}
	}
}

func TestNilAndEmptyListsOfCrashesAreAlike(t *testing.T) {
	for _, c := range crashesToAsk() {
		with := func(nils bool) crashCase {
			after := copyDisk(c.after)
			return crashCase{
				store: withEmptiesOfStore(c.store, nils), kept: c.kept, writes: emptyFor(c.writes, nils), one: emptyFor(c.one, nils), two: emptyFor(c.two, nils),
				after: impl.Disk{Pages: emptyFor(after.Pages, nils), Loose: emptyFor(after.Loose, nils)},
			}
		}
		if one, two := told(askCrash(with(true))), told(askCrash(with(false))); one != two {
			t.Errorf("%s: with nil\n%s, with empty lists\n%s", c.name, one, two)
		}
	}
}

func TestCrashesKeepNothing(t *testing.T) {
	wantSameAgain(t, crashesToAsk(), func(c crashCase) string { return told(askCrash(c)) })
}

func TestCrashesAsByHand(t *testing.T) {
	met := map[int64]int{}
	for _, c := range crashesToAsk() {
		if len(c.store.Log.Sure)+len(c.store.Log.Loose) < 3000 || len(c.store.Open) == 0 {
			met[wantCrashTold(t, c.name, c.store, c.kept, c.writes).Code]++
		}
		if got, want := impl.ReadsWhole(c.store.Disk, c.after), readsWholeByHand(c.store.Disk, c.after); got != want {
			t.Errorf("%s: ReadsWhole = %v", c.name, got)
		}
		if got, want := impl.SameCells(c.one, c.two), told(c.one) == told(c.two); got != want {
			t.Errorf("%s: SameCells = %v", c.name, got)
		}
	}
	for _, code := range []int64{impl.OK, impl.ErrForm, impl.ErrRange, impl.ErrState} {
		if met[code] < 5 {
			t.Errorf("code %d was met only %d times", code, met[code])
		}
	}
}

func TestCrashesNeverPanic(t *testing.T) {
	d := dice(154)
	numbers := []int64{math.MinInt64, -1, 0, 1, 2, 3, 4, 12, 13, 59, 60, 61, 3999, 4000, 4001, math.MaxInt64}
	pick := func() int64 { return numbers[d.upTo(int64(len(numbers)-1))] }
	stores := someStores()
	for turn := range 2500 {
		s := stores[d.upTo(int64(len(stores)-1))]
		for d.upTo(2) > 0 && len(s.Pages) > 0 {
			s = thrownStoreTurn(s, &d)
		}
		var writes []int64
		for range d.upTo(3) {
			writes = append(writes, pick())
		}
		kept, id, other := pick(), pick(), thrownDisk(&d)
		mustPanicNever(t, told(s), func() {
			name := fmt.Sprint("turn ", turn)
			left := wantLeft(t, name, s, kept, writes)
			wantCode(t, name, impl.CrashRestart(s, kept, writes), impl.CrashRestart(s, kept, writes).Code)
			if left.Code != impl.OK {
				wantCode(t, name, impl.CrashRestart(s, kept, writes), left.Code)
			}
			impl.AckedOf(s)
			for _, disk := range []impl.Disk{s.Disk, other} {
				images := impl.ImagesOf(disk, id)
				wantCode(t, name, images, images.Code)
			}
			if impl.ReadsWhole(s.Disk, other) != readsWholeByHand(s.Disk, other) || impl.ReadsWhole(other, s.Disk) != readsWholeByHand(other, s.Disk) {
				t.Errorf("%s: ReadsWhole of\n%+v\n%+v", name, s.Disk, other)
			}
		})
	}
	wantCode(t, "the zero store", impl.CrashStore(impl.Store{}, 0, nil), impl.ErrRange)
	wantCode(t, "the zero store", impl.CrashRestart(impl.Store{}, 0, nil), impl.ErrRange)
	wantCode(t, "the zero store", impl.AckedOf(impl.Store{}), impl.ErrRange)
	wantCode(t, "the zero disk", impl.ImagesOf(impl.Disk{}, 0), impl.ErrForm)
}
