package tests

import (
	"bytes"
	"fmt"
	"math"
	"slices"
	"testing"

	"loop.example/g00216/impl"
)

const topLsn = 1000000

// sumByHand works the sum out from the end: each byte counts as often as bytes behind it multiply it.
func sumByHand(data []byte) int64 {
	total, weight := int64(0), int64(1)
	for i := len(data) - 1; i >= 0; i-- {
		total = (total + (int64(data[i])+1)*weight) % 65521
		weight = weight * 269 % 65521
	}
	return (total + 9*weight) % 65521
}

func withSum(data []byte) []byte {
	out := slices.Clone(data)
	sum := sumByHand(out[:46])
	out[46], out[47] = byte(sum/256), byte(sum%256)
	return out
}

func packByHand(p impl.Page) []byte {
	out := make([]byte, 48)
	out[0] = byte(p.Id)
	out[2], out[3], out[4] = byte(p.Lsn/65536), byte(p.Lsn/256%256), byte(p.Lsn%256)
	out[5] = byte(len(p.Cells))
	for i, c := range p.Cells {
		out[6+3*i], out[7+3*i], out[8+3*i] = byte(c.Key), byte(c.Value/256), byte(c.Value%256)
	}
	return withSum(out)
}

func samePage(a, b impl.Page) bool {
	return a.Id == b.Id && a.Lsn == b.Lsn && slices.Equal(a.Cells, b.Cells)
}

func copyPage(p impl.Page) impl.Page {
	p.Cells = slices.Clone(p.Cells)
	return p
}

// cellsFrom has count cells from a key on, step apart, all with one value.
func cellsFrom(first, step, count, value int64) []impl.Cell {
	var out []impl.Cell
	for i := range count {
		out = append(out, impl.Cell{Key: first + i*step, Value: value})
	}
	return out
}

func edgePages() []impl.Page {
	return []impl.Page{
		{},
		{Id: 7, Lsn: topLsn},
		{Id: 0, Lsn: 1, Cells: cellsFrom(0, 1, 1, 0)},
		{Id: 1, Lsn: 255, Cells: cellsFrom(31, 1, 1, 9999)},
		{Id: 2, Lsn: 256, Cells: []impl.Cell{{Key: 0, Value: 9999}, {Key: 31, Value: 0}}},
		{Id: 3, Lsn: 65535, Cells: cellsFrom(4, 9, 3, 255)},
		{Id: 4, Lsn: 65536, Cells: cellsFrom(1, 3, 11, 256)},
		{Id: 5, Lsn: 999999, Cells: cellsFrom(0, 1, 12, 9999)},
		{Id: 6, Lsn: topLsn, Cells: cellsFrom(20, 1, 12, 0)},
		{Id: 7, Lsn: 0, Cells: cellsFrom(0, 2, 12, 1)},
		{Id: 7, Lsn: topLsn, Cells: cellsFrom(9, 2, 12, 9999)},
	}
}

func thrownPage(d *dice) impl.Page {
	p := impl.Page{Id: d.upTo(7), Lsn: d.upTo(topLsn)}
	count := d.upTo(12)
	for key := int64(0); key <= 31 && int64(len(p.Cells)) < count; key++ {
		if d.upTo(1) == 0 {
			p.Cells = append(p.Cells, impl.Cell{Key: key, Value: d.upTo(9999)})
		}
	}
	return p
}

func somePages() []impl.Page {
	out := edgePages()
	d := dice(1)
	for range 300 {
		out = append(out, thrownPage(&d))
	}
	return out
}

// wanted: what the cells of a page are, by key, once a cell is set (has) or dropped.
func wanted(cells []impl.Cell, key int64, has bool, value int64) []impl.Cell {
	byKey := map[int64]int64{}
	for _, c := range cells {
		byKey[c.Key] = c.Value
	}
	delete(byKey, key)
	if has {
		byKey[key] = value
	}
	var out []impl.Cell
	for k := range int64(32) {
		if v, ok := byKey[k]; ok {
			out = append(out, impl.Cell{Key: k, Value: v})
		}
	}
	return out
}

func hasKey(p impl.Page, key int64) bool {
	return slices.ContainsFunc(p.Cells, func(c impl.Cell) bool { return c.Key == key })
}

func TestSumBytes(t *testing.T) {
	for _, c := range []struct {
		data []byte
		want int64
	}{
		{nil, 9}, {[]byte{}, 9}, {[]byte{0}, 2422}, {[]byte{1}, 2423}, {[]byte{255}, 2677},
		{[]byte{1, 2}, 62101}, {[]byte{2, 1}, 62369},
	} {
		if got := impl.SumBytes(c.data); got != c.want {
			t.Errorf("SumBytes(%v) = %d, want %d", c.data, got, c.want)
		}
	}
	d := dice(2)
	for size := range int64(200) {
		data := make([]byte, size)
		for i := range data {
			data[i] = byte(d.upTo(255))
		}
		if got, want := impl.SumBytes(data), sumByHand(data); got != want {
			t.Errorf("SumBytes(%v) = %d, want %d", data, got, want)
		}
	}
	long := bytes.Repeat([]byte{255}, 1<<20)
	if got, want := impl.SumBytes(long), sumByHand(long); got != want {
		t.Errorf("SumBytes of a long list = %d, want %d", got, want)
	}
}

func TestNewPage(t *testing.T) {
	for id := int64(0); id <= 7; id++ {
		r := impl.NewPage(id)
		if r.Code != impl.OK || !samePage(r.Page, impl.Page{Id: id}) {
			t.Errorf("NewPage(%d) = %+v", id, r)
		}
	}
	for _, id := range []int64{-1, 8, math.MinInt64, math.MaxInt64} {
		wantCode(t, fmt.Sprintf("NewPage(%d)", id), impl.NewPage(id), impl.ErrRange)
	}
}

func TestPackedBytesAreAsTold(t *testing.T) {
	p := impl.Page{Id: 7, Lsn: topLsn, Cells: []impl.Cell{{Key: 0, Value: 258}, {Key: 31, Value: 9999}}}
	want := make([]byte, 48)
	copy(want, []byte{7, 0, 0x0f, 0x42, 0x40, 2, 0, 1, 2, 31, 0x27, 0x0f})
	if got := impl.PackPage(p); got.Code != impl.OK || !bytes.Equal(got.Bytes, withSum(want)) {
		t.Errorf("PackPage(%+v) = %+v", p, got)
	}
	for _, p := range somePages() {
		if got := impl.PackPage(p); got.Code != impl.OK || !bytes.Equal(got.Bytes, packByHand(p)) {
			t.Errorf("PackPage(%+v) = %+v, want %v", p, got, packByHand(p))
		}
	}
}

func TestPageIsReadBack(t *testing.T) {
	for _, p := range somePages() {
		if code := impl.PageFault(p); code != impl.OK {
			t.Errorf("PageFault(%+v) = %d", p, code)
		}
		back := impl.UnpackPage(impl.PackPage(p).Bytes)
		if back.Code != impl.OK || !samePage(back.Page, p) {
			t.Errorf("read back of %+v is %+v", p, back)
		}
	}
}

func TestSetCell(t *testing.T) {
	for _, p := range somePages() {
		for key := range int64(32) {
			for _, n := range []struct{ value, lsn int64 }{{0, topLsn}, {9999, 0}, {77, 5}} {
				checkSet(t, p, key, n.value, n.lsn)
			}
		}
	}
}

func checkSet(t *testing.T, p impl.Page, key, value, lsn int64) {
	t.Helper()
	name := fmt.Sprintf("SetCell(%+v, %d, %d, %d)", p, key, value, lsn)
	r := impl.SetCell(p, key, value, lsn)
	if len(p.Cells) == 12 && !hasKey(p, key) {
		wantCode(t, name, r, impl.ErrMany)
		return
	}
	want := impl.Page{Id: p.Id, Lsn: lsn, Cells: wanted(p.Cells, key, true, value)}
	if r.Code != impl.OK || !samePage(r.Page, want) {
		t.Errorf("%s = %+v", name, r)
	}
	if got := impl.CellOf(r.Page, key); got != (impl.IntResult{Value: value}) {
		t.Errorf("%s: CellOf it is %+v", name, got)
	}
}

func TestDropCell(t *testing.T) {
	for _, p := range somePages() {
		for key := range int64(32) {
			for _, lsn := range []int64{0, 5, topLsn} {
				checkDrop(t, p, key, lsn)
			}
		}
	}
}

func checkDrop(t *testing.T, p impl.Page, key, lsn int64) {
	t.Helper()
	name := fmt.Sprintf("DropCell(%+v, %d, %d)", p, key, lsn)
	r := impl.DropCell(p, key, lsn)
	if !hasKey(p, key) {
		wantCode(t, name, r, impl.ErrNone)
		return
	}
	want := impl.Page{Id: p.Id, Lsn: lsn, Cells: wanted(p.Cells, key, false, 0)}
	if r.Code != impl.OK || !samePage(r.Page, want) {
		t.Errorf("%s = %+v", name, r)
	}
	wantCode(t, name+", CellOf it", impl.CellOf(r.Page, key), impl.ErrNone)
}

func TestCellOf(t *testing.T) {
	keys := []int64{-1, 32, math.MinInt64, math.MaxInt64}
	for key := range int64(32) {
		keys = append(keys, key)
	}
	for _, p := range somePages() {
		for _, key := range keys {
			want := impl.IntResult{Code: impl.ErrNone}
			for _, c := range p.Cells {
				if c.Key == key {
					want = impl.IntResult{Value: c.Value}
				}
			}
			if got := impl.CellOf(p, key); got != want {
				t.Errorf("CellOf(%+v, %d) = %+v, want %+v", p, key, got, want)
			}
		}
	}
}

type faulty struct {
	page impl.Page
	code int64
}

func oneFault() []faulty {
	var out []faulty
	for _, n := range []int64{-1, 8, math.MinInt64, math.MaxInt64} {
		out = append(out, faulty{impl.Page{Id: n}, impl.ErrRange})
	}
	for _, n := range []int64{-1, topLsn + 1, math.MinInt64, math.MaxInt64} {
		out = append(out, faulty{impl.Page{Lsn: n}, impl.ErrRange})
	}
	for _, count := range []int64{13, 14, 32} {
		out = append(out, faulty{impl.Page{Cells: cellsFrom(0, 1, count, 5)}, impl.ErrMany})
	}
	for place := range int64(12) {
		for _, c := range []impl.Cell{{Key: -1}, {Key: 32}, {Key: math.MinInt64}, {Key: math.MaxInt64}} {
			out = append(out, faulty{pageWithCell(place, c), impl.ErrRange})
		}
		for _, v := range []int64{-1, 10000, math.MinInt64, math.MaxInt64} {
			out = append(out, faulty{pageWithCell(place, impl.Cell{Key: 2 * place, Value: v}), impl.ErrRange})
		}
		if place > 0 {
			out = append(out, faulty{pageWithCell(place, impl.Cell{Key: 2*place - 2}), impl.ErrForm})
			out = append(out, faulty{pageWithCell(place, impl.Cell{Key: 2*place - 2, Value: 6}), impl.ErrForm})
			out = append(out, faulty{pageWithCell(place, impl.Cell{Key: max(0, 2*place-3)}), impl.ErrForm})
		}
	}
	return out
}

func pageWithCell(place int64, c impl.Cell) impl.Page {
	p := impl.Page{Id: 3, Lsn: 9, Cells: cellsFrom(0, 2, 12, 5)}
	p.Cells[place] = c
	return p
}

// twoFaults: what is asked first is the answer.
func twoFaults() []faulty {
	return []faulty{
		{impl.Page{Id: 8, Cells: cellsFrom(0, 1, 13, 5)}, impl.ErrRange},
		{impl.Page{Lsn: -1, Cells: cellsFrom(0, 1, 13, 5)}, impl.ErrRange},
		{impl.Page{Id: -1, Cells: []impl.Cell{{Key: 5}, {Key: 5}}}, impl.ErrRange},
		{impl.Page{Lsn: topLsn + 1, Cells: []impl.Cell{{Key: 5}, {Key: 4}}}, impl.ErrRange},
		{impl.Page{Cells: cellsFrom(-1, 1, 13, 5)}, impl.ErrMany},
		{impl.Page{Cells: cellsFrom(5, 0, 13, 5)}, impl.ErrMany},
		{impl.Page{Cells: cellsFrom(5, 0, 13, -1)}, impl.ErrMany},
		{impl.Page{Cells: []impl.Cell{{Key: 5}, {Key: 5}, {Key: 32}}}, impl.ErrForm},
		{impl.Page{Cells: []impl.Cell{{Key: 5}, {Key: 4}, {Key: 6, Value: -1}}}, impl.ErrForm},
		{impl.Page{Cells: []impl.Cell{{Key: 5}, {Key: 5, Value: 10000}}}, impl.ErrRange},
		{impl.Page{Cells: []impl.Cell{{Key: 5}, {Key: -1}}}, impl.ErrRange},
		{impl.Page{Cells: []impl.Cell{{Key: 40}, {Key: 3}, {Key: 3}}}, impl.ErrRange},
	}
}

// A page's own fault comes ahead of whatever else is wrong.
func TestPageFaultComesFirst(t *testing.T) {
	for _, f := range append(oneFault(), twoFaults()...) {
		if got := impl.PageFault(f.page); got != f.code {
			t.Errorf("PageFault(%+v) = %d, want %d", f.page, got, f.code)
		}
		name := fmt.Sprintf("%+v", f.page)
		wantCode(t, "PackPage of "+name, impl.PackPage(f.page), f.code)
		for _, key := range []int64{0, 1, 31, -1, 32} {
			wantCode(t, "SetCell of "+name, impl.SetCell(f.page, key, 1, 1), f.code)
			wantCode(t, "SetCell of wrong numbers and "+name, impl.SetCell(f.page, key, -1, -1), f.code)
			wantCode(t, "DropCell of "+name, impl.DropCell(f.page, key, 1), f.code)
			wantCode(t, "DropCell of a wrong number and "+name, impl.DropCell(f.page, key, -1), f.code)
			wantCode(t, "CellOf of "+name, impl.CellOf(f.page, key), f.code)
		}
	}
	great := impl.Page{Cells: make([]impl.Cell, 1<<20)}
	if got := impl.PageFault(great); got != impl.ErrMany {
		t.Errorf("PageFault of very many cells = %d", got)
	}
}

// Numbers out of their bounds come ahead of a full page, and of a cell that is not there.
func TestWrongNumbersOfCells(t *testing.T) {
	for _, p := range edgePages() {
		for _, key := range []int64{-1, 32, math.MinInt64, math.MaxInt64} {
			wantCode(t, fmt.Sprintf("SetCell of key %d", key), impl.SetCell(p, key, 1, 1), impl.ErrRange)
			wantCode(t, fmt.Sprintf("DropCell of key %d", key), impl.DropCell(p, key, 1), impl.ErrRange)
		}
		for key := range int64(32) {
			for _, value := range []int64{-1, 10000, math.MinInt64, math.MaxInt64} {
				wantCode(t, fmt.Sprintf("SetCell of value %d", value), impl.SetCell(p, key, value, 1), impl.ErrRange)
			}
			for _, lsn := range []int64{-1, topLsn + 1, math.MinInt64, math.MaxInt64} {
				wantCode(t, fmt.Sprintf("SetCell of lsn %d", lsn), impl.SetCell(p, key, 1, lsn), impl.ErrRange)
				wantCode(t, fmt.Sprintf("DropCell of lsn %d", lsn), impl.DropCell(p, key, lsn), impl.ErrRange)
			}
		}
	}
}

func TestUnpackOfSoManyBytes(t *testing.T) {
	whole := packByHand(edgePages()[7])
	for size := range 100 {
		data := make([]byte, size)
		copy(data, whole)
		code := int64(impl.ErrForm)
		if size == 48 {
			code = impl.OK
		}
		wantCode(t, fmt.Sprintf("UnpackPage of %d bytes", size), impl.UnpackPage(data), code)
	}
	wantCode(t, "UnpackPage of none", impl.UnpackPage(nil), impl.ErrForm)
	wantCode(t, "UnpackPage of very many", impl.UnpackPage(make([]byte, 1<<20)), impl.ErrForm)
	wantCode(t, "UnpackPage of 48 bytes 0", impl.UnpackPage(make([]byte, 48)), impl.ErrSum)
}

// One byte that is another one always changes the sum, even where the page were none.
func TestUnpackOfWrongSum(t *testing.T) {
	for _, p := range edgePages() {
		for place := range 48 {
			for _, other := range []byte{1, 128, 255} {
				data := packByHand(p)
				data[place] ^= other
				wantCode(t, fmt.Sprintf("UnpackPage of %v", data), impl.UnpackPage(data), impl.ErrSum)
			}
		}
	}
}

// The low sums fit into two bytes once more, with the modulus added: that is another number.
func TestUnpackOfSumAboveModulus(t *testing.T) {
	found := 0
	for lsn := int64(0); lsn <= topLsn; lsn++ {
		data := packByHand(impl.Page{Id: 1, Lsn: lsn})
		sum := int64(data[46])*256 + int64(data[47])
		if sum > 14 {
			continue
		}
		found++
		wantCode(t, "UnpackPage of a low sum", impl.UnpackPage(data), impl.OK)
		data[46], data[47] = byte((sum+65521)/256), byte((sum+65521)%256)
		wantCode(t, "UnpackPage of a sum above the modulus", impl.UnpackPage(data), impl.ErrSum)
	}
	if found == 0 {
		t.Error("no page with a low sum was met")
	}
}

func changed(p impl.Page, places map[int]byte) []byte {
	data := packByHand(p)
	for place, b := range places {
		data[place] = b
	}
	return withSum(data)
}

func TestUnpackOfNoPage(t *testing.T) {
	three := impl.Page{Id: 2, Lsn: 70000, Cells: cellsFrom(3, 4, 3, 500)}
	full := impl.Page{Id: 2, Lsn: 70000, Cells: cellsFrom(3, 2, 12, 500)}
	cases := [][]byte{
		changed(three, map[int]byte{0: 8}), changed(three, map[int]byte{0: 255}),
		changed(three, map[int]byte{1: 1}), changed(three, map[int]byte{1: 255}),
		changed(three, map[int]byte{2: 0x0f, 3: 0x42, 4: 0x41}), changed(three, map[int]byte{2: 0x10, 3: 0, 4: 0}),
		changed(three, map[int]byte{5: 2}), changed(three, map[int]byte{5: 4}),
		changed(full, map[int]byte{5: 13}), changed(full, map[int]byte{5: 14}), changed(full, map[int]byte{5: 255}),
		changed(impl.Page{}, map[int]byte{5: 13}), changed(impl.Page{}, map[int]byte{5: 2}),
		changed(three, map[int]byte{9: 3}), changed(three, map[int]byte{9: 2}), changed(three, map[int]byte{12: 7}),
		changed(full, map[int]byte{39: 23}), changed(full, map[int]byte{39: 0}),
		changed(three, map[int]byte{12: 32}), changed(three, map[int]byte{12: 255}), changed(full, map[int]byte{39: 32}),
		changed(three, map[int]byte{7: 0x27, 8: 0x10}), changed(three, map[int]byte{13: 255, 14: 255}),
		changed(full, map[int]byte{40: 0x27, 41: 0x10}),
	}
	for place := 15; place < 46; place++ {
		cases = append(cases, changed(three, map[int]byte{place: 1}), changed(three, map[int]byte{place: 255}))
	}
	for place := 42; place < 46; place++ {
		cases = append(cases, changed(full, map[int]byte{place: 1}), changed(full, map[int]byte{place: 255}))
	}
	for _, data := range cases {
		wantCode(t, fmt.Sprintf("UnpackPage of %v", data), impl.UnpackPage(data), impl.ErrText)
	}
	wantCode(t, "UnpackPage of the highest Lsn", impl.UnpackPage(changed(three, map[int]byte{2: 0x0f, 3: 0x42, 4: 0x40})), impl.OK)
	wantCode(t, "UnpackPage of the highest Value", impl.UnpackPage(changed(three, map[int]byte{7: 0x27, 8: 0x0f})), impl.OK)
	wantCode(t, "UnpackPage of the highest Key", impl.UnpackPage(changed(three, map[int]byte{12: 31})), impl.OK)
}

// Whatever the bytes are: a page that is read packs to just these bytes, or there is a code.
func TestUnpackOfAnyBytes(t *testing.T) {
	d := dice(3)
	for range 20000 {
		data := make([]byte, 48)
		data[0], data[3], data[4], data[5] = byte(d.upTo(8)), byte(d.upTo(255)), byte(d.upTo(255)), byte(d.upTo(4))
		for i := range int(data[5]) {
			data[6+3*i], data[7+3*i], data[8+3*i] = byte(int64(10*i)+d.upTo(11)), byte(d.upTo(40)), byte(d.upTo(255))
		}
		if d.upTo(5) == 0 {
			data[d.upTo(45)] = byte(d.upTo(1))
		}
		data = withSum(data)
		r := impl.UnpackPage(data)
		if r.Code == impl.OK && !bytes.Equal(packByHand(r.Page), data) {
			t.Fatalf("UnpackPage(%v) = %+v, which has other bytes", data, r)
		}
		if read, whole := readByHand(data); r.Code != impl.OK && whole {
			t.Fatalf("UnpackPage(%v) = %+v, but it is %+v", data, r, read)
		}
	}
}

// readByHand goes by the places of bytes alone, and tells whether they are a page.
func readByHand(data []byte) (impl.Page, bool) {
	p := impl.Page{Id: int64(data[0]), Lsn: int64(data[1])<<24 + int64(data[2])<<16 + int64(data[3])<<8 + int64(data[4])}
	whole := p.Id <= 7 && p.Lsn <= topLsn && data[5] <= 12
	last := int64(-1)
	for i := range min(int(data[5]), 12) {
		c := impl.Cell{Key: int64(data[6+3*i]), Value: int64(data[7+3*i])<<8 + int64(data[8+3*i])}
		whole = whole && c.Key > last && c.Key <= 31 && c.Value <= 9999
		last = c.Key
		p.Cells = append(p.Cells, c)
	}
	for _, b := range data[6+3*min(int(data[5]), 12) : 46] {
		whole = whole && b == 0
	}
	return p, whole
}

// withRoom lays the cells ahead of others in one list: what is behind them is not theirs to be written.
func withRoom(p impl.Page) (impl.Page, []impl.Cell) {
	all := slices.Clone(p.Cells)
	for range 4 {
		all = append(all, impl.Cell{Key: -77, Value: -77})
	}
	p.Cells = all[:len(p.Cells)]
	return p, all
}

func TestArgumentsStay(t *testing.T) {
	for _, page := range somePages() {
		p, all := withRoom(page)
		before := slices.Clone(all)
		for key := int64(-1); key <= 32; key++ {
			impl.SetCell(p, key, 123, 7)
			impl.DropCell(p, key, 7)
			impl.CellOf(p, key)
		}
		impl.PageFault(p)
		packed := impl.PackPage(p).Bytes
		if !slices.Equal(all, before) {
			t.Errorf("the cells of %+v were changed: %+v", page, all)
		}
		kept := slices.Clone(packed)
		impl.UnpackPage(packed)
		impl.UnpackPage(packed[:47])
		impl.SumBytes(packed)
		if !bytes.Equal(packed, kept) {
			t.Errorf("the bytes of %+v were changed: %v", page, packed)
		}
	}
	for _, f := range oneFault() {
		before := copyPage(f.page)
		impl.PageFault(f.page)
		impl.SetCell(f.page, 1, 1, 1)
		impl.DropCell(f.page, 0, 1)
		impl.CellOf(f.page, 0)
		impl.PackPage(f.page)
		if !samePage(before, f.page) {
			t.Errorf("%+v was changed: %+v", before, f.page)
		}
	}
}

// spoil writes over a list and all the room behind it.
func spoil[E any](list []E, with E) {
	list = list[:cap(list)]
	for i := range list {
		list[i] = with
	}
}

func TestAnswersAreNewMemory(t *testing.T) {
	bad := impl.Cell{Key: -5, Value: -5}
	for _, p := range somePages() {
		before := copyPage(p)
		key := int64(0)
		if len(p.Cells) > 0 {
			key = p.Cells[len(p.Cells)-1].Key
		}
		set, drop := impl.SetCell(p, key, 9, 4), impl.DropCell(p, key, 4)
		setAgain, dropAgain := impl.SetCell(p, key, 9, 4), impl.DropCell(p, key, 4)
		setWant, dropWant := copyPage(set.Page), copyPage(drop.Page)
		spoil(set.Page.Cells, bad)
		spoil(drop.Page.Cells, bad)
		if !samePage(p, before) || !samePage(setAgain.Page, setWant) || !samePage(dropAgain.Page, dropWant) {
			t.Errorf("an answer of %+v shares memory", before)
		}
		checkPackedMemory(t, p)
	}
	a, b := impl.NewPage(1), impl.NewPage(1)
	spoil(a.Page.Cells, bad)
	if !samePage(b.Page, impl.Page{Id: 1}) || !samePage(impl.NewPage(1).Page, b.Page) {
		t.Error("two new pages share memory")
	}
}

func checkPackedMemory(t *testing.T, p impl.Page) {
	t.Helper()
	packed, packedAgain := impl.PackPage(p).Bytes, impl.PackPage(p).Bytes
	read, readAgain := impl.UnpackPage(packed), impl.UnpackPage(packed)
	spoil(packed, 99)
	if !samePage(read.Page, p) || !bytes.Equal(packedAgain, packByHand(p)) {
		t.Errorf("the bytes of %+v share memory", p)
	}
	spoil(read.Page.Cells, impl.Cell{Key: -5, Value: -5})
	if !samePage(readAgain.Page, p) || !bytes.Equal(packedAgain, packByHand(p)) {
		t.Errorf("what is read of %+v shares memory", p)
	}
}

func TestNilIsTheEmptyList(t *testing.T) {
	none, empty := impl.Page{Id: 3, Lsn: 8}, impl.Page{Id: 3, Lsn: 8, Cells: []impl.Cell{}}
	if impl.PageFault(none) != impl.OK || impl.PageFault(empty) != impl.OK {
		t.Error("a page without cells has no fault")
	}
	if a, b := impl.SetCell(none, 4, 5, 6), impl.SetCell(empty, 4, 5, 6); a.Code != b.Code || !samePage(a.Page, b.Page) {
		t.Errorf("SetCell: %+v, %+v", a, b)
	}
	for _, p := range []impl.Page{none, empty} {
		wantCode(t, "DropCell of no cells", impl.DropCell(p, 4, 6), impl.ErrNone)
		wantCode(t, "CellOf no cells", impl.CellOf(p, 4), impl.ErrNone)
		if r := impl.PackPage(p); r.Code != impl.OK || !bytes.Equal(r.Bytes, packByHand(none)) {
			t.Errorf("PackPage: %+v", r)
		}
	}
	wantCode(t, "UnpackPage of nil", impl.UnpackPage(nil), impl.ErrForm)
	wantCode(t, "UnpackPage of an empty list", impl.UnpackPage([]byte{}), impl.ErrForm)
}

func TestPagesKeepNothing(t *testing.T) {
	wantSameAgain(t, somePages(), func(p impl.Page) string {
		b := impl.PackPage(p)
		return fmt.Sprint(impl.SetCell(p, 5, 6, 7), impl.DropCell(p, 5, 7), impl.UnpackPage(b.Bytes), b, impl.SumBytes(b.Bytes))
	})
}

func TestPagesNeverPanic(t *testing.T) {
	numbers := []int64{math.MinInt64, -1, 0, 1, 7, 8, 31, 32, 9999, 10000, topLsn, topLsn + 1, math.MaxInt64}
	d := dice(4)
	pick := func() int64 { return numbers[d.upTo(int64(len(numbers)-1))] }
	for range 20000 {
		p := impl.Page{Id: pick(), Lsn: pick()}
		for range d.upTo(14) {
			p.Cells = append(p.Cells, impl.Cell{Key: pick(), Value: pick()})
		}
		data := make([]byte, d.upTo(60))
		mustPanicNever(t, fmt.Sprintf("%+v", p), func() {
			impl.PageFault(p)
			impl.NewPage(pick())
			impl.SetCell(p, pick(), pick(), pick())
			impl.DropCell(p, pick(), pick())
			impl.CellOf(p, pick())
			impl.PackPage(p)
			impl.UnpackPage(data)
			impl.SumBytes(data)
		})
	}
}
