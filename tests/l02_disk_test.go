package tests

import (
	"bytes"
	"fmt"
	"math"
	"slices"
	"testing"

	"loop.example/g00216/impl"
)

func sameDisk(a, b impl.Disk) bool {
	sameWrite := func(v, w impl.Loose) bool {
		return v.Page == w.Page && v.Part == w.Part && bytes.Equal(v.Data, w.Data)
	}
	return slices.EqualFunc(a.Pages, b.Pages, bytes.Equal) && slices.EqualFunc(a.Loose, b.Loose, sameWrite)
}

func samePageResult(a, b impl.PageResult) bool {
	return a.Code == b.Code && samePage(a.Page, b.Page)
}

func copyDisk(d impl.Disk) impl.Disk {
	var out impl.Disk
	for _, p := range d.Pages {
		out.Pages = append(out.Pages, slices.Clone(p))
	}
	for _, w := range d.Loose {
		out.Loose = append(out.Loose, impl.Loose{Page: w.Page, Part: w.Part, Data: slices.Clone(w.Data)})
	}
	return out
}

func diskByHand(count int64) impl.Disk {
	var out impl.Disk
	for id := range count {
		out.Pages = append(out.Pages, packByHand(impl.Page{Id: id}))
	}
	return out
}

// writeByHand lays whatever bytes there are as three loose pieces behind the others.
func writeByHand(d impl.Disk, id int64, data []byte) impl.Disk {
	out := copyDisk(d)
	for part := range int64(3) {
		out.Loose = append(out.Loose, impl.Loose{Page: id, Part: part, Data: slices.Clone(data[16*part : 16*part+16])})
	}
	return out
}

// doneByHand goes through the loose writes in their order, and does those of which keep holds.
func doneByHand(d impl.Disk, keep func(place int) bool) impl.Disk {
	out := copyDisk(d)
	for place, w := range out.Loose {
		if keep(place) {
			for i, b := range w.Data {
				out.Pages[w.Page][16*w.Part+int64(i)] = b
			}
		}
	}
	out.Loose = nil
	return out
}

func all(int) bool  { return true }
func none(int) bool { return false }

func placesOf(d impl.Disk, keep func(place int) bool) []int64 {
	var out []int64
	for place := range d.Loose {
		if keep(place) {
			out = append(out, int64(place))
		}
	}
	return out
}

// readDiskByHand: what the sum, the form and the Id of a page's bytes say, in this order.
func readDiskByHand(d impl.Disk, id int64) impl.PageResult {
	data := doneByHand(d, all).Pages[id]
	if !bytes.Equal(withSum(data), data) {
		return impl.PageResult{Code: impl.ErrSum}
	}
	p, whole := readByHand(data)
	if !whole {
		return impl.PageResult{Code: impl.ErrText}
	}
	if p.Id != id {
		return impl.PageResult{Code: impl.ErrForm}
	}
	return impl.PageResult{Page: p}
}

// fullPage has other bytes than any other stamp in each of its three pieces.
func fullPage(id, stamp int64) impl.Page {
	return impl.Page{Id: id, Lsn: stamp, Cells: cellsFrom(stamp%16, 1, 12, 300+stamp)}
}

// thrownDisk has pages that can be read and such that cannot, and loose writes of all kinds.
func thrownDisk(d *dice) impl.Disk {
	out := diskByHand(1 + d.upTo(7))
	for id := range out.Pages {
		if d.upTo(3) == 0 {
			out.Pages[id] = thrownBytes(d, int64(id))
		}
	}
	for range d.upTo(8) {
		id := d.upTo(int64(len(out.Pages) - 1))
		out = writeByHand(out, id, thrownBytes(d, id))
		if d.upTo(3) == 0 {
			out.Loose = slices.Delete(out.Loose, len(out.Loose)-1, len(out.Loose))
		}
	}
	for range d.upTo(6) {
		w := impl.Loose{Page: d.upTo(int64(len(out.Pages) - 1)), Part: d.upTo(2), Data: bytes.Repeat([]byte{byte(d.upTo(255))}, 16)}
		out.Loose = slices.Insert(out.Loose, int(d.upTo(int64(len(out.Loose)))), w)
	}
	return out
}

func thrownBytes(d *dice, id int64) []byte {
	p := thrownPage(d)
	if d.upTo(7) > 0 {
		p.Id = id
	}
	data := packByHand(p)
	switch d.upTo(7) {
	case 0:
		data[d.upTo(47)] ^= 1
	case 1:
		data[45] = 1
		data = withSum(data)
	}
	return data
}

func someDisks() []impl.Disk {
	var out []impl.Disk
	for count := int64(1); count <= 8; count++ {
		fresh := diskByHand(count)
		once := writeByHand(fresh, count-1, packByHand(fullPage(count-1, 5)))
		twice := writeByHand(once, count-1, packByHand(fullPage(count-1, 6)))
		out = append(out, fresh, once, twice, writeByHand(twice, 0, packByHand(fullPage(0, 7))))
	}
	d := dice(11)
	for range 150 {
		out = append(out, thrownDisk(&d))
	}
	return out
}

func withLoose(d impl.Disk, count int) impl.Disk {
	out := copyDisk(d)
	for i := range count {
		out.Loose = append(out.Loose, impl.Loose{Page: int64(i % len(d.Pages)), Part: int64(i % 3), Data: bytes.Repeat([]byte{byte(i)}, 16)})
	}
	return out
}

func TestNewDisk(t *testing.T) {
	for count := int64(1); count <= 8; count++ {
		r := impl.NewDisk(count)
		if r.Code != impl.OK || !sameDisk(r.Disk, diskByHand(count)) {
			t.Errorf("NewDisk(%d) = %+v", count, r)
		}
		if code := impl.DiskFault(r.Disk); code != impl.OK {
			t.Errorf("DiskFault of NewDisk(%d) = %d", count, code)
		}
		for id := range count {
			if got := impl.ReadDisk(r.Disk, id); !samePageResult(got, impl.PageResult{Page: impl.Page{Id: id}}) {
				t.Errorf("page %d of NewDisk(%d) = %+v", id, count, got)
			}
		}
	}
	for _, count := range []int64{0, -1, 9, 10, math.MinInt64, math.MaxInt64} {
		wantCode(t, fmt.Sprintf("NewDisk(%d)", count), impl.NewDisk(count), impl.ErrRange)
	}
}

// Promise 3: a page that is written is read, and all others stay.
func TestWrittenPageIsRead(t *testing.T) {
	for n, disk := range someDisks() {
		for _, p := range []impl.Page{{}, fullPage(0, 9), {Lsn: topLsn, Cells: cellsFrom(20, 1, 12, 9999)}} {
			for id := range int64(len(disk.Pages)) {
				p.Id = id
				checkWrite(t, fmt.Sprintf("disk %d, page %d", n, id), disk, p)
			}
		}
	}
}

func checkWrite(t *testing.T, name string, disk impl.Disk, p impl.Page) {
	t.Helper()
	w := impl.WriteDisk(disk, p)
	if len(disk.Loose) > 57 {
		wantCode(t, name, w, impl.ErrMany)
		return
	}
	if w.Code != impl.OK || !sameDisk(w.Disk, writeByHand(disk, p.Id, packByHand(p))) {
		t.Errorf("%s: WriteDisk = %+v", name, w)
		return
	}
	for id := range int64(len(disk.Pages)) {
		want := impl.ReadDisk(disk, id)
		if id == p.Id {
			want = impl.PageResult{Page: p}
		}
		if got := impl.ReadDisk(w.Disk, id); !samePageResult(got, want) {
			t.Errorf("%s: page %d is then %+v, want %+v", name, id, got, want)
		}
		if got := impl.ReadDisk(impl.SyncDisk(w.Disk).Disk, id); !samePageResult(got, want) {
			t.Errorf("%s: page %d is %+v behind a sync, want %+v", name, id, got, want)
		}
	}
}

// Of several writes of one page the last is read, whatever was written to others between.
func TestLastWriteIsRead(t *testing.T) {
	for _, count := range []int64{1, 8} {
		disk := impl.NewDisk(count).Disk
		last := map[int64]impl.Page{}
		for stamp := range int64(20) {
			p := fullPage(stamp*5%count, stamp)
			last[p.Id] = p
			r := impl.WriteDisk(disk, p)
			wantCode(t, fmt.Sprintf("write %d", stamp), r, impl.OK)
			disk = r.Disk
			for id, want := range last {
				if got := impl.ReadDisk(disk, id); !samePageResult(got, impl.PageResult{Page: want}) {
					t.Errorf("page %d behind write %d is %+v, want %+v", id, stamp, got, want)
				}
			}
		}
		wantCode(t, "a write behind 60 loose ones", impl.WriteDisk(disk, fullPage(0, 1)), impl.ErrMany)
		disk = impl.SyncDisk(disk).Disk
		wantCode(t, "a write behind a sync", impl.WriteDisk(disk, fullPage(0, 1)), impl.OK)
	}
}

func TestPlacedBytesAreLoose(t *testing.T) {
	data := make([]byte, 48)
	for i := range data {
		data[i] = byte(i)
	}
	r := impl.PlaceDisk(impl.NewDisk(8).Disk, 7, data)
	want := []impl.Loose{
		{Page: 7, Part: 0, Data: []byte{0, 1, 2, 3, 4, 5, 6, 7, 8, 9, 10, 11, 12, 13, 14, 15}},
		{Page: 7, Part: 1, Data: []byte{16, 17, 18, 19, 20, 21, 22, 23, 24, 25, 26, 27, 28, 29, 30, 31}},
		{Page: 7, Part: 2, Data: []byte{32, 33, 34, 35, 36, 37, 38, 39, 40, 41, 42, 43, 44, 45, 46, 47}},
	}
	if r.Code != impl.OK || !sameDisk(r.Disk, impl.Disk{Pages: diskByHand(8).Pages, Loose: want}) {
		t.Errorf("PlaceDisk = %+v", r)
	}
	for n, disk := range someDisks() {
		if len(disk.Loose) > 57 {
			continue
		}
		for id := range int64(len(disk.Pages)) {
			r := impl.PlaceDisk(disk, id, data)
			if r.Code != impl.OK || !sameDisk(r.Disk, writeByHand(disk, id, data)) {
				t.Errorf("disk %d: PlaceDisk at %d = %+v", n, id, r)
			}
		}
	}
}

func TestReadOfAnyPage(t *testing.T) {
	met := map[int64]int{}
	for n, disk := range someDisks() {
		var torn []int64
		for id := range int64(len(disk.Pages)) {
			want := readDiskByHand(disk, id)
			met[want.Code]++
			if got := impl.ReadDisk(disk, id); !samePageResult(got, want) {
				t.Errorf("disk %d: ReadDisk at %d = %+v, want %+v", n, id, got, want)
			}
			if want.Code != impl.OK {
				torn = append(torn, id)
			}
		}
		if r := impl.TornOf(disk); r.Code != impl.OK || !slices.Equal(r.List, torn) {
			t.Errorf("disk %d: TornOf = %+v, want %v", n, r, torn)
		}
	}
	for _, code := range []int64{impl.OK, impl.ErrSum, impl.ErrText, impl.ErrForm} {
		if met[code] == 0 {
			t.Errorf("no page with code %d was met", code)
		}
	}
}

// Bytes that cannot be read have the code of their sum, then of their form, then of their Id, loose or not.
func TestReadOfPagesThatAreNone(t *testing.T) {
	wrongSum := packByHand(impl.Page{Id: 7, Lsn: 4})
	wrongSum[20] = 1
	noPage := withSum(wrongSum)
	for _, c := range []struct {
		data []byte
		code int64
	}{
		{wrongSum, impl.ErrSum}, {noPage, impl.ErrText}, {make([]byte, 48), impl.ErrSum},
		{packByHand(impl.Page{Id: 6, Lsn: 4}), impl.ErrForm}, {packByHand(impl.Page{Id: 0}), impl.ErrForm},
		{changed(impl.Page{Id: 6}, map[int]byte{20: 1}), impl.ErrText},
		{packByHand(impl.Page{Id: 7, Lsn: 4}), impl.OK},
	} {
		lasting, loose := diskByHand(8), impl.PlaceDisk(diskByHand(8), 7, c.data).Disk
		lasting.Pages[7] = c.data
		for _, disk := range []impl.Disk{lasting, loose} {
			wantCode(t, fmt.Sprintf("ReadDisk of %v", c.data), impl.ReadDisk(disk, 7), c.code)
			wantCode(t, "ReadDisk of the page ahead", impl.ReadDisk(disk, 6), impl.OK)
			torn := impl.TornOf(disk)
			if torn.Code != impl.OK || (len(torn.List) == 0) != (c.code == impl.OK) || len(torn.List) > 0 && !slices.Equal(torn.List, []int64{7}) {
				t.Errorf("TornOf with %v = %+v", c.data, torn)
			}
		}
	}
	if r := impl.TornOf(impl.Disk{Pages: [][]byte{wrongSum, diskByHand(2).Pages[1], noPage, diskByHand(2).Pages[1]}}); r.Code != impl.OK || !slices.Equal(r.List, []int64{0, 2, 3}) {
		t.Errorf("TornOf = %+v", r)
	}
}

// A loose write may mend what lasts, and tear what was whole.
func TestTornHearsOfLooseWrites(t *testing.T) {
	disk := diskByHand(3)
	disk.Pages[0] = make([]byte, 48)
	disk = impl.WriteDisk(disk, fullPage(0, 3)).Disk
	disk.Loose = append(disk.Loose, impl.Loose{Page: 2, Part: 2, Data: make([]byte, 16)})
	if r := impl.TornOf(disk); r.Code != impl.OK || !slices.Equal(r.List, []int64{2}) {
		t.Errorf("TornOf = %+v", r)
	}
	if r := impl.TornOf(impl.CrashDisk(disk, nil).Disk); r.Code != impl.OK || !slices.Equal(r.List, []int64{0}) {
		t.Errorf("TornOf behind a crash = %+v", r)
	}
}

// Promise 3: a crash that keeps all is as if all had been synced, and one that keeps nothing leaves what lasted.
func TestCrashOfAllAndOfNone(t *testing.T) {
	disks := someDisks()
	for _, count := range []int64{1, 8} {
		disks = append(disks, withLoose(diskByHand(count), 60), withLoose(diskByHand(count), 1))
	}
	for n, disk := range disks {
		sync := impl.SyncDisk(disk)
		if sync.Code != impl.OK || !sameDisk(sync.Disk, doneByHand(disk, all)) {
			t.Errorf("disk %d: SyncDisk = %+v", n, sync)
		}
		if r := impl.CrashDisk(disk, placesOf(disk, all)); r.Code != impl.OK || !sameDisk(r.Disk, sync.Disk) {
			t.Errorf("disk %d: CrashDisk of all = %+v, want %+v", n, r, sync)
		}
		if r := impl.CrashDisk(disk, nil); r.Code != impl.OK || !sameDisk(r.Disk, impl.Disk{Pages: disk.Pages}) {
			t.Errorf("disk %d: CrashDisk of none = %+v", n, r)
		}
		if r := impl.SyncDisk(sync.Disk); r.Code != impl.OK || !sameDisk(r.Disk, sync.Disk) {
			t.Errorf("disk %d: a second sync = %+v", n, r)
		}
		if impl.DiskFault(sync.Disk) != impl.OK {
			t.Errorf("disk %d has a fault behind a sync", n)
		}
	}
}

// Two writes of one page have six pieces: of each part the later of the kept ones stays.
func TestCrashOfTwoWritesOfOnePage(t *testing.T) {
	for _, count := range []int64{1, 8} {
		for _, id := range []int64{0, count - 1} {
			disk := diskByHand(count)
			old := disk.Pages[id]
			first, second := packByHand(fullPage(id, 1)), packByHand(fullPage(id, 2))
			both := impl.WriteDisk(impl.WriteDisk(disk, fullPage(id, 1)).Disk, fullPage(id, 2)).Disk
			for set := range 64 {
				keep := func(place int) bool { return set>>place&1 == 1 }
				want := copyDisk(disk)
				want.Pages[id] = nil
				for part := range 3 {
					from := old
					if keep(part) {
						from = first
					}
					if keep(part + 3) {
						from = second
					}
					want.Pages[id] = append(want.Pages[id], from[16*part:16*part+16]...)
				}
				r := impl.CrashDisk(both, placesOf(both, keep))
				if r.Code != impl.OK || !sameDisk(r.Disk, want) {
					t.Errorf("%d pages, page %d, kept %06b: %+v, want %+v", count, id, set, r, want)
				}
			}
			whole := impl.CrashDisk(both, []int64{0, 1, 2}).Disk
			if got := impl.ReadDisk(whole, id); !samePageResult(got, impl.PageResult{Page: fullPage(id, 1)}) {
				t.Errorf("the first write alone reads as %+v", got)
			}
			for _, kept := range [][]int64{{0}, {1}, {2}, {3, 4}, {0, 1, 5}, {0, 1, 2, 3}} {
				torn := impl.CrashDisk(both, kept).Disk
				wantCode(t, fmt.Sprintf("ReadDisk behind a crash that kept %v", kept), impl.ReadDisk(torn, id), impl.ErrSum)
				if r := impl.TornOf(torn); !slices.Equal(r.List, []int64{id}) {
					t.Errorf("TornOf behind a crash that kept %v = %+v", kept, r)
				}
			}
		}
	}
}

func TestCrashOfAnyDisk(t *testing.T) {
	d := dice(12)
	for n, disk := range someDisks() {
		for range 20 {
			set := d.upTo(math.MaxInt32)<<31 | d.upTo(math.MaxInt32)
			keep := func(place int) bool { return set>>place&1 == 1 }
			r := impl.CrashDisk(disk, placesOf(disk, keep))
			if r.Code != impl.OK || !sameDisk(r.Disk, doneByHand(disk, keep)) {
				t.Errorf("disk %d: CrashDisk of %v = %+v", n, placesOf(disk, keep), r)
			}
		}
	}
}

type faultyDisk struct {
	name string
	disk impl.Disk
	code int64
}

func diskWithWrite(count int64, place int, w impl.Loose) impl.Disk {
	out := withLoose(diskByHand(count), 6)
	out.Loose[place] = w
	return out
}

func oneDiskFault() []faultyDisk {
	out := []faultyDisk{
		{"no pages", impl.Disk{}, impl.ErrForm}, {"an empty list of pages", impl.Disk{Pages: [][]byte{}}, impl.ErrForm},
		{"nine pages", impl.Disk{Pages: append(diskByHand(8).Pages, packByHand(impl.Page{Id: 7}))}, impl.ErrForm},
		{"very many pages", impl.Disk{Pages: make([][]byte, 1<<16)}, impl.ErrForm},
		{"61 loose writes", withLoose(diskByHand(1), 61), impl.ErrMany},
		{"61 loose writes of 8 pages", withLoose(diskByHand(8), 61), impl.ErrMany},
		{"very many loose writes", withLoose(diskByHand(8), 5000), impl.ErrMany},
	}
	for _, size := range []int{0, 1, 16, 47, 49, 96} {
		for _, count := range []int64{1, 8} {
			for _, id := range []int64{0, count - 1} {
				d := withLoose(diskByHand(count), 6)
				d.Pages[id] = make([]byte, size)
				out = append(out, faultyDisk{fmt.Sprintf("page %d of %d bytes", id, size), d, impl.ErrForm})
			}
		}
	}
	sixteen := make([]byte, 16)
	for _, count := range []int64{1, 3, 8} {
		for _, place := range []int{0, 3, 5} {
			for _, page := range []int64{-1, count, math.MinInt64, math.MaxInt64} {
				d := diskWithWrite(count, place, impl.Loose{Page: page, Data: sixteen})
				out = append(out, faultyDisk{fmt.Sprintf("%d pages, write %d of page %d", count, place, page), d, impl.ErrRange})
			}
			for _, part := range []int64{-1, 3, math.MinInt64, math.MaxInt64} {
				d := diskWithWrite(count, place, impl.Loose{Part: part, Data: sixteen})
				out = append(out, faultyDisk{fmt.Sprintf("write %d of part %d", place, part), d, impl.ErrRange})
			}
			for _, size := range []int{0, 1, 15, 17, 48} {
				d := diskWithWrite(count, place, impl.Loose{Page: count - 1, Part: 2, Data: make([]byte, size)})
				out = append(out, faultyDisk{fmt.Sprintf("write %d of %d bytes", place, size), d, impl.ErrForm})
			}
		}
	}
	return out
}

// twoDiskFaults: what is asked first is the answer.
func twoDiskFaults() []faultyDisk {
	short, far := impl.Loose{Data: make([]byte, 15)}, impl.Loose{Page: 1, Data: make([]byte, 16)}
	many := withLoose(diskByHand(1), 61)
	many.Loose[0] = far
	manyShort := withLoose(diskByHand(1), 61)
	manyShort.Loose[0] = short
	noPages, shortPage := withLoose(diskByHand(1), 61), withLoose(diskByHand(1), 61)
	noPages.Pages = nil
	shortPage.Pages[0] = shortPage.Pages[0][:47]
	shortFar, farShort := withLoose(diskByHand(1), 2), withLoose(diskByHand(1), 2)
	shortFar.Loose[0], shortFar.Loose[1] = short, far
	farShort.Loose[0], farShort.Loose[1] = far, short
	both, lateShort := withLoose(diskByHand(1), 1), withLoose(diskByHand(2), 1)
	both.Loose[0] = impl.Loose{Page: 1, Data: make([]byte, 15)}
	lateShort.Pages[1] = lateShort.Pages[1][:40]
	lateShort.Loose[0].Part = 3
	return []faultyDisk{
		{"no pages, and 61 writes", noPages, impl.ErrForm}, {"a short page, and 61 writes", shortPage, impl.ErrForm},
		{"a short page, and a part that is none", lateShort, impl.ErrForm},
		{"61 writes, and a page that is none", many, impl.ErrMany}, {"61 writes, and a short one", manyShort, impl.ErrMany},
		{"a short write, and then one of no page", shortFar, impl.ErrForm},
		{"a write of no page, and then a short one", farShort, impl.ErrRange},
		{"a short write of no page", both, impl.ErrRange},
	}
}

// A disk's own fault comes ahead of whatever else is wrong.
func TestDiskFaultComesFirst(t *testing.T) {
	for _, f := range append(oneDiskFault(), twoDiskFaults()...) {
		if got := impl.DiskFault(f.disk); got != f.code {
			t.Errorf("%s: DiskFault = %d, want %d", f.name, got, f.code)
		}
		for _, p := range []impl.Page{{}, {Id: 7}, {Id: 8}, {Cells: cellsFrom(0, 1, 13, 1)}, {Cells: cellsFrom(3, 0, 2, 1)}} {
			wantCode(t, f.name+": WriteDisk", impl.WriteDisk(f.disk, p), f.code)
		}
		for _, id := range []int64{0, -1, 7, 8, math.MaxInt64} {
			wantCode(t, f.name+": ReadDisk", impl.ReadDisk(f.disk, id), f.code)
			for _, size := range []int{47, 48} {
				wantCode(t, f.name+": PlaceDisk", impl.PlaceDisk(f.disk, id, make([]byte, size)), f.code)
			}
		}
		for _, kept := range [][]int64{nil, {0}, {-1}, {1, 0}, {99}} {
			wantCode(t, f.name+": CrashDisk", impl.CrashDisk(f.disk, kept), f.code)
		}
		wantCode(t, f.name+": SyncDisk", impl.SyncDisk(f.disk), f.code)
		wantCode(t, f.name+": TornOf", impl.TornOf(f.disk), f.code)
	}
}

func TestSoundDisks(t *testing.T) {
	disks := append(someDisks(), withLoose(diskByHand(1), 60), withLoose(diskByHand(8), 60), impl.Disk{Pages: [][]byte{make([]byte, 48)}})
	for n, disk := range disks {
		if got := impl.DiskFault(disk); got != impl.OK {
			t.Errorf("disk %d: DiskFault = %d", n, got)
		}
	}
}

// A page's fault, then its place, then the room for three more writes.
func TestCodesOfWriteDisk(t *testing.T) {
	for _, count := range []int64{1, 3, 8} {
		for _, loose := range []int{0, 57, 58, 60} {
			disk := withLoose(diskByHand(count), loose)
			name := fmt.Sprintf("WriteDisk, %d pages, %d writes", count, loose)
			for _, f := range append(oneFault(), twoFaults()...) {
				wantCode(t, name, impl.WriteDisk(disk, f.page), f.code)
			}
			for id := range int64(8) {
				code := int64(impl.OK)
				if loose > 57 {
					code = impl.ErrMany
				}
				if id >= count {
					code = impl.ErrRange
				}
				wantCode(t, fmt.Sprintf("%s, page %d", name, id), impl.WriteDisk(disk, fullPage(id, 4)), code)
			}
		}
	}
	full := withLoose(diskByHand(1), 57)
	if r := impl.WriteDisk(full, fullPage(0, 4)); len(r.Disk.Loose) != 60 || impl.DiskFault(r.Disk) != impl.OK {
		t.Errorf("WriteDisk up to 60 writes = %+v", r)
	}
}

// The place, then the bytes, then the room for three more writes.
func TestCodesOfPlaceDisk(t *testing.T) {
	for _, count := range []int64{1, 3, 8} {
		for _, loose := range []int{0, 57, 58, 59, 60} {
			disk := withLoose(diskByHand(count), loose)
			for _, id := range []int64{math.MinInt64, -1, 0, count - 1, count, 8, math.MaxInt64} {
				for _, size := range []int{0, 16, 47, 48, 49, 1 << 16} {
					code := int64(impl.OK)
					switch {
					case id < 0 || id >= count:
						code = impl.ErrRange
					case size != 48:
						code = impl.ErrForm
					case loose > 57:
						code = impl.ErrMany
					}
					name := fmt.Sprintf("PlaceDisk, %d pages, %d writes, at %d, of %d bytes", count, loose, id, size)
					wantCode(t, name, impl.PlaceDisk(disk, id, make([]byte, size)), code)
				}
			}
		}
	}
}

// A page that is no place has its code, whatever the others read as.
func TestReadOfNoPlace(t *testing.T) {
	for n, disk := range someDisks() {
		count := int64(len(disk.Pages))
		for _, id := range []int64{math.MinInt64, -1, count, count + 1, math.MaxInt64} {
			wantCode(t, fmt.Sprintf("disk %d: ReadDisk at %d", n, id), impl.ReadDisk(disk, id), impl.ErrRange)
		}
	}
}

// All of kept are asked for their bounds ahead of their order.
func TestCodesOfCrashDisk(t *testing.T) {
	six := withLoose(diskByHand(2), 6)
	for _, c := range []struct {
		kept []int64
		code int64
	}{
		{[]int64{-1}, impl.ErrRange}, {[]int64{6}, impl.ErrRange}, {[]int64{math.MinInt64}, impl.ErrRange}, {[]int64{math.MaxInt64}, impl.ErrRange},
		{[]int64{0, 1, 6}, impl.ErrRange}, {[]int64{-1, 0}, impl.ErrRange}, {[]int64{0, 1, 2, 3, 4, 5, 6}, impl.ErrRange},
		{[]int64{1, 0}, impl.ErrForm}, {[]int64{0, 0}, impl.ErrForm}, {[]int64{5, 5}, impl.ErrForm}, {[]int64{0, 2, 1}, impl.ErrForm}, {[]int64{0, 1, 2, 3, 5, 4}, impl.ErrForm},
		{[]int64{3, 2, 6}, impl.ErrRange}, {[]int64{2, 2, -1}, impl.ErrRange}, {[]int64{5, 4, 3, 2, 1, math.MaxInt64}, impl.ErrRange},
		{make([]int64, 1<<16), impl.ErrForm},
		{nil, impl.OK}, {[]int64{5}, impl.OK}, {[]int64{0, 5}, impl.OK}, {[]int64{0, 1, 2, 3, 4, 5}, impl.OK},
	} {
		wantCode(t, fmt.Sprintf("CrashDisk of %d of kept", len(c.kept)), impl.CrashDisk(six, c.kept), c.code)
	}
	wantCode(t, "CrashDisk without loose writes", impl.CrashDisk(diskByHand(1), []int64{0}), impl.ErrRange)
	wantCode(t, "CrashDisk of the last of 60", impl.CrashDisk(withLoose(diskByHand(1), 60), []int64{59}), impl.OK)
	wantCode(t, "CrashDisk behind the last of 60", impl.CrashDisk(withLoose(diskByHand(1), 60), []int64{60}), impl.ErrRange)
}

// diskWithRoom lays each list ahead of room that is not its own to be written.
func diskWithRoom(d impl.Disk) impl.Disk {
	var out impl.Disk
	out.Pages = make([][]byte, 0, len(d.Pages)+3)
	out.Loose = make([]impl.Loose, 0, len(d.Loose)+7)
	for _, p := range d.Pages {
		out.Pages = append(out.Pages, append(make([]byte, 0, len(p)+40), p...))
	}
	for _, w := range d.Loose {
		w.Data = append(make([]byte, 0, len(w.Data)+40), w.Data...)
		out.Loose = append(out.Loose, w)
	}
	return out
}

func wholeRoom[E any](list []E) []E {
	return slices.Clone(list[:cap(list)])
}

// roomOf tells all that stands in a disk and behind its lists.
func roomOf(d impl.Disk) string {
	var b []byte
	for _, p := range wholeRoom(d.Pages) {
		b = fmt.Appendf(b, "%v;", wholeRoom(p))
	}
	for _, w := range wholeRoom(d.Loose) {
		b = fmt.Appendf(b, "%d %d %v;", w.Page, w.Part, wholeRoom(w.Data))
	}
	return string(b)
}

func askDisk(d impl.Disk, p impl.Page, data []byte, kept []int64) {
	impl.DiskFault(d)
	impl.WriteDisk(d, p)
	impl.ReadDisk(d, p.Id)
	impl.SyncDisk(d)
	impl.CrashDisk(d, kept)
	impl.TornOf(d)
	impl.PlaceDisk(d, p.Id, data)
}

func TestDiskArgumentsStay(t *testing.T) {
	disks := someDisks()
	for _, f := range append(oneDiskFault(), twoDiskFaults()...) {
		disks = append(disks, f.disk)
	}
	for n, disk := range disks {
		if len(disk.Pages) > 100 || len(disk.Loose) > 100 {
			continue
		}
		d := diskWithRoom(disk)
		p, cells := withRoom(fullPage(0, 3))
		data := append(make([]byte, 0, 90), packByHand(p)...)
		for _, kept := range [][]int64{placesOf(d, all), {0}, {1, 0}, {-1}} {
			kept = append(make([]int64, 0, len(kept)+4), kept...)
			before := roomOf(d) + fmt.Sprint(wholeRoom(cells), wholeRoom(data), wholeRoom(kept))
			askDisk(d, p, data, kept)
			if after := roomOf(d) + fmt.Sprint(wholeRoom(cells), wholeRoom(data), wholeRoom(kept)); after != before {
				t.Errorf("disk %d: arguments were %s, and are %s", n, before, after)
			}
		}
	}
}

// listsOf: each list of bytes that a disk has.
func listsOf(d impl.Disk) [][]byte {
	var out [][]byte
	out = append(out, d.Pages...)
	for _, w := range d.Loose {
		out = append(out, w.Data)
	}
	return out
}

// Each list of an answer is spoilt alone, and with all the room behind it: all others must stay.
func TestDiskAnswersAreNewMemory(t *testing.T) {
	for n, disk := range someDisks() {
		if len(disk.Loose) > 57 {
			continue
		}
		before := copyDisk(disk)
		data := packByHand(fullPage(0, 3))
		ask := func() []impl.Disk {
			return []impl.Disk{
				impl.NewDisk(int64(len(disk.Pages))).Disk, impl.WriteDisk(disk, fullPage(0, 3)).Disk, impl.PlaceDisk(disk, 0, data).Disk,
				impl.SyncDisk(disk).Disk, impl.CrashDisk(disk, placesOf(disk, all)).Disk, impl.CrashDisk(disk, nil).Disk,
			}
		}
		spoilt, other := ask(), ask()
		var want []impl.Disk
		for _, d := range other {
			want = append(want, copyDisk(d))
		}
		for a := range spoilt {
			checkOwnMemory(t, fmt.Sprintf("disk %d, answer %d", n, a), spoilt[a])
			spoil(spoilt[a].Pages, nil)
			spoil(spoilt[a].Loose, impl.Loose{Page: -5})
		}
		for a := range other {
			if !sameDisk(other[a], want[a]) {
				t.Errorf("disk %d: answer %d shares memory with another answer", n, a)
			}
		}
		if !sameDisk(disk, before) || !bytes.Equal(data, packByHand(fullPage(0, 3))) {
			t.Errorf("disk %d: an answer shares memory with an argument", n)
		}
	}
}

func checkOwnMemory(t *testing.T, name string, d impl.Disk) {
	t.Helper()
	for i, list := range listsOf(d) {
		var want [][]byte
		for _, l := range listsOf(d) {
			want = append(want, slices.Clone(l))
		}
		spoil(list, 0xa5^list[0])
		for j, l := range listsOf(d) {
			if i != j && !bytes.Equal(l, want[j]) {
				t.Errorf("%s: list %d shares memory with list %d", name, i, j)
			}
		}
	}
}

// What is spoilt in an argument behind a call is not seen in its answer.
func TestDiskAnswersOutliveArguments(t *testing.T) {
	for n, disk := range someDisks() {
		if len(disk.Loose) > 57 {
			continue
		}
		d := copyDisk(disk)
		p := fullPage(0, 3)
		data, kept := packByHand(p), placesOf(d, all)
		write, place := impl.WriteDisk(d, p), impl.PlaceDisk(d, 0, data)
		sync, crash := impl.SyncDisk(d), impl.CrashDisk(d, kept)
		torn, page := impl.TornOf(d), impl.ReadDisk(write.Disk, 0)
		tornWant := slices.Clone(torn.List)
		for _, list := range listsOf(d) {
			spoil(list, 0x5a)
		}
		spoil(data, 0x5a)
		spoil(p.Cells, impl.Cell{Key: -5})
		spoil(kept, -5)
		written := writeByHand(disk, 0, packByHand(fullPage(0, 3)))
		if !sameDisk(write.Disk, written) || !sameDisk(place.Disk, written) || !samePage(page.Page, fullPage(0, 3)) {
			t.Errorf("disk %d: what is written shares memory", n)
		}
		done := doneByHand(disk, all)
		if !sameDisk(sync.Disk, done) || !sameDisk(crash.Disk, done) || !slices.Equal(torn.List, tornWant) {
			t.Errorf("disk %d: what is done shares memory", n)
		}
		for _, list := range listsOf(write.Disk) {
			spoil(list, 0x5a)
		}
		if !samePage(page.Page, fullPage(0, 3)) {
			t.Errorf("disk %d: a page that is read shares memory", n)
		}
	}
}

func TestNilAndEmptyDisksAreAlike(t *testing.T) {
	for count := int64(1); count <= 8; count++ {
		bare, empty := diskByHand(count), diskByHand(count)
		empty.Loose = []impl.Loose{}
		p, q := impl.Page{Lsn: 4}, impl.Page{Lsn: 4, Cells: []impl.Cell{}}
		if impl.DiskFault(bare) != impl.OK || impl.DiskFault(empty) != impl.OK {
			t.Error("a disk without loose writes has no fault")
		}
		for name, pair := range map[string][2]impl.DiskResult{
			"WriteDisk": {impl.WriteDisk(bare, p), impl.WriteDisk(empty, q)},
			"PlaceDisk": {impl.PlaceDisk(bare, 0, packByHand(p)), impl.PlaceDisk(empty, 0, packByHand(p))},
			"no bytes":  {impl.PlaceDisk(bare, 0, nil), impl.PlaceDisk(empty, 0, []byte{})},
			"SyncDisk":  {impl.SyncDisk(bare), impl.SyncDisk(empty)},
			"CrashDisk": {impl.CrashDisk(bare, nil), impl.CrashDisk(empty, []int64{})},
		} {
			if pair[0].Code != pair[1].Code || !sameDisk(pair[0].Disk, pair[1].Disk) {
				t.Errorf("%s: %+v, %+v", name, pair[0], pair[1])
			}
		}
		if a, b := impl.ReadDisk(bare, count-1), impl.ReadDisk(empty, count-1); !samePageResult(a, b) {
			t.Errorf("ReadDisk: %+v, %+v", a, b)
		}
		if a, b := impl.TornOf(bare), impl.TornOf(empty); a.Code != impl.OK || b.Code != impl.OK || len(a.List)+len(b.List) != 0 {
			t.Errorf("TornOf: %+v, %+v", a, b)
		}
	}
	for _, lists := range [][][]byte{{nil}, {{}}, nil, {}} {
		wantCode(t, "SyncDisk of pages without bytes", impl.SyncDisk(impl.Disk{Pages: lists}), impl.ErrForm)
	}
	for _, data := range [][]byte{nil, {}} {
		disk := diskByHand(1)
		disk.Loose = []impl.Loose{{Data: data}}
		wantCode(t, "SyncDisk of a write without bytes", impl.SyncDisk(disk), impl.ErrForm)
	}
}

func TestDisksKeepNothing(t *testing.T) {
	wantSameAgain(t, someDisks(), func(d impl.Disk) string {
		return fmt.Sprint(impl.NewDisk(int64(len(d.Pages))), impl.WriteDisk(d, fullPage(0, 3)), impl.ReadDisk(d, 0), impl.SyncDisk(d), impl.CrashDisk(d, nil), impl.TornOf(d))
	})
}

func TestDisksNeverPanic(t *testing.T) {
	numbers := []int64{math.MinInt64, -1, 0, 1, 2, 3, 7, 8, 59, 60, math.MaxInt64}
	sizes := []int{0, 15, 16, 16, 16, 17, 47, 48, 48, 48, 49}
	d := dice(13)
	pick := func() int64 { return numbers[d.upTo(int64(len(numbers)-1))] }
	some := func() []byte { return make([]byte, sizes[d.upTo(int64(len(sizes)-1))]) }
	for range 20000 {
		var disk impl.Disk
		if d.upTo(3) > 0 {
			disk = diskByHand(1 + d.upTo(8))
		}
		for range d.upTo(3) {
			disk.Pages = append(disk.Pages, some())
		}
		for range d.upTo(4) {
			disk.Loose = append(disk.Loose, impl.Loose{Page: pick(), Part: pick(), Data: some()})
		}
		p := impl.Page{Id: pick(), Lsn: pick()}
		var kept []int64
		for range d.upTo(4) {
			kept = append(kept, pick())
		}
		mustPanicNever(t, fmt.Sprintf("%+v", disk), func() {
			impl.NewDisk(pick())
			askDisk(disk, p, some(), kept)
			askDisk(diskByHand(2), p, some(), kept)
		})
	}
}
