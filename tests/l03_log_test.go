package tests

import (
	"bytes"
	"fmt"
	"math"
	"slices"
	"testing"

	"loop.example/g00216/impl"
)

const recSize = 13
const maxRecs = 307 // as many as find room in 4000 bytes

// sumRec lays the sum of the first 11 bytes behind them.
func sumRec(data []byte) []byte {
	out := slices.Clone(data[:11])
	sum := sumByHand(out)
	return append(out, byte(sum/256), byte(sum%256))
}

func packRecByHand(r impl.Rec) []byte {
	flags := byte(0)
	if r.Had {
		flags++
	}
	if r.Has {
		flags += 2
	}
	return sumRec([]byte{
		byte(r.Kind), byte(r.Txn / 256), byte(r.Txn % 256), byte(r.Key), flags,
		byte(r.Old / 256), byte(r.Old % 256), byte(r.New / 256), byte(r.New % 256), byte(r.Back / 256), byte(r.Back % 256),
	})
}

func packRecsByHand(recs []impl.Rec) []byte {
	var out []byte
	for _, r := range recs {
		out = append(out, packRecByHand(r)...)
	}
	return out
}

func begin(txn int64) impl.Rec  { return impl.Rec{Kind: impl.KindBegin, Txn: txn} }
func commit(txn int64) impl.Rec { return impl.Rec{Kind: impl.KindCommit, Txn: txn} }
func put(txn, key int64) impl.Rec {
	return impl.Rec{Kind: impl.KindPut, Txn: txn, Key: key, Has: true, New: 7}
}
func undo(txn, key, back int64) impl.Rec {
	return impl.Rec{Kind: impl.KindUndo, Txn: txn, Key: key, Had: true, Old: 7, Back: back}
}

// edgeRecs has each Kind, and each number at the ends of its bounds and where a byte is full.
func edgeRecs() []impl.Rec {
	out := []impl.Rec{{Kind: impl.KindCheck}}
	for _, txn := range []int64{1, 255, 256, 998, 999} {
		for _, kind := range []int64{impl.KindBegin, impl.KindCommit, impl.KindAbort} {
			out = append(out, impl.Rec{Kind: kind, Txn: txn})
		}
		out = append(out, put(txn, 0), undo(txn, 31, 1))
	}
	for _, v := range []int64{0, 1, 255, 256, 9998, 9999} {
		out = append(out,
			impl.Rec{Kind: impl.KindPut, Txn: 3, Key: 0, Had: true, Old: v},
			impl.Rec{Kind: impl.KindPut, Txn: 3, Key: 31, Has: true, New: v},
			impl.Rec{Kind: impl.KindPut, Txn: 3, Key: 1, Had: true, Old: v, Has: true, New: 9999 - v},
			impl.Rec{Kind: impl.KindUndo, Txn: 3, Key: 30, Had: true, Old: v, Back: 9},
			impl.Rec{Kind: impl.KindUndo, Txn: 3, Key: 5, Has: true, New: v, Back: 9},
			impl.Rec{Kind: impl.KindUndo, Txn: 3, Key: 5, Had: true, Old: 9999 - v, Has: true, New: v, Back: 9})
	}
	out = append(out, impl.Rec{Kind: impl.KindPut, Txn: 3, Key: 4}, impl.Rec{Kind: impl.KindUndo, Txn: 3, Key: 4, Back: 1})
	for _, back := range []int64{1, 2, 255, 256, 999, 1000} {
		out = append(out, undo(7, 2, back))
	}
	return out
}

func thrownRec(d *dice) impl.Rec {
	r := impl.Rec{Kind: 1 + d.upTo(5)}
	if r.Kind != impl.KindCheck {
		r.Txn = 1 + d.upTo(998)
	}
	if r.Kind == impl.KindPut || r.Kind == impl.KindUndo {
		r.Key, r.Had, r.Has = d.upTo(31), d.upTo(1) == 0, d.upTo(1) == 0
		if r.Had {
			r.Old = d.upTo(9999)
		}
		if r.Has {
			r.New = d.upTo(9999)
		}
	}
	if r.Kind == impl.KindUndo {
		r.Back = 1 + d.upTo(999)
	}
	return r
}

func someRecs() []impl.Rec {
	out := edgeRecs()
	d := dice(21)
	for range 400 {
		out = append(out, thrownRec(&d))
	}
	return out
}

// fiveRecs has a record of each Kind but KindCheck; no two of them are alike.
func fiveRecs() []impl.Rec {
	return []impl.Rec{begin(3), put(3, 5), undo(3, 5, 2), {Kind: impl.KindAbort, Txn: 3}, commit(4)}
}

func copyLog(l impl.Log) impl.Log {
	return impl.Log{Sure: slices.Clone(l.Sure), Loose: slices.Clone(l.Loose)}
}

func sameLog(a, b impl.Log) bool {
	return bytes.Equal(a.Sure, b.Sure) && bytes.Equal(a.Loose, b.Loose)
}

func sameRecsResult(a, b impl.RecsResult) bool {
	return a.Code == b.Code && a.Used == b.Used && slices.Equal(a.Recs, b.Recs)
}

func splitLog(data []byte, sure int) impl.Log {
	return impl.Log{Sure: slices.Clone(data[:sure]), Loose: slices.Clone(data[sure:])}
}

// someLogs has logs of few records, whose sure bytes end everywhere, and such as are full.
func someLogs() []impl.Log {
	var out []impl.Log
	for count := range 5 {
		data := packRecsByHand(fiveRecs()[:count])
		for sure := 0; sure <= len(data); sure++ {
			out = append(out, splitLog(data, sure))
		}
	}
	d := dice(22)
	for _, count := range []int{20, 100, maxRecs - 1, maxRecs} {
		data := packRecsByHand(thrownRecs(&d, count))
		for _, sure := range []int{0, 12, 13, 14, len(data) / 2, len(data) - 13, len(data) - 1, len(data)} {
			out = append(out, splitLog(data, sure))
		}
	}
	return out
}

func thrownRecs(d *dice, count int) []impl.Rec {
	var out []impl.Rec
	for range count {
		out = append(out, thrownRec(d))
	}
	return out
}

// recsByHand goes by the places of bytes alone.
func recsByHand(data []byte) impl.RecsResult {
	var out impl.RecsResult
	for len(data) >= recSize {
		b := data[:recSize]
		r := impl.Rec{Kind: int64(b[0]), Txn: int64(b[1])*256 + int64(b[2]), Key: int64(b[3])}
		r.Had, r.Has = b[4] == 1 || b[4] == 3, b[4] == 2 || b[4] == 3
		r.Old, r.New, r.Back = int64(b[5])*256+int64(b[6]), int64(b[7])*256+int64(b[8]), int64(b[9])*256+int64(b[10])
		if b[4] > 3 || !bytes.Equal(sumRec(b), b) || faultByHand(r) != impl.OK {
			break
		}
		out.Recs = append(out.Recs, r)
		out.Used += recSize
		data = data[recSize:]
	}
	return out
}

// faultByHand asks Kind by Kind what there may be.
func faultByHand(r impl.Rec) int64 {
	lowTxn, highTxn := int64(1), int64(999)
	if r.Kind == 6 {
		lowTxn, highTxn = 0, 0
	}
	for _, n := range [][3]int64{{r.Kind, 1, 6}, {r.Txn, lowTxn, highTxn}, {r.Key, 0, 31}, {r.Old, 0, 9999}, {r.New, 0, 9999}, {r.Back, 0, 1000}} {
		if n[0] < n[1] || n[0] > n[2] {
			return impl.ErrRange
		}
	}
	most := r
	switch r.Kind {
	case 1, 3, 4, 6:
		most = impl.Rec{Kind: r.Kind, Txn: r.Txn}
	case 2:
		most.Back = 0
	case 5:
		most.Back = max(1, r.Back)
	}
	if !r.Had {
		most.Old = 0
	}
	if !r.Has {
		most.New = 0
	}
	if most != r {
		return impl.ErrForm
	}
	return impl.OK
}

func TestPackedRecIsAsTold(t *testing.T) {
	for _, c := range []struct {
		rec  impl.Rec
		want []byte
	}{
		{impl.Rec{Kind: 5, Txn: 999, Key: 31, Had: true, Old: 9999, Has: true, New: 258, Back: 1000}, []byte{5, 3, 0xe7, 31, 3, 0x27, 0x0f, 1, 2, 3, 0xe8}},
		{impl.Rec{Kind: 2, Txn: 1, Key: 4, Had: true, Old: 259}, []byte{2, 0, 1, 4, 1, 1, 3, 0, 0, 0, 0}},
		{impl.Rec{Kind: 2, Txn: 256, Key: 4, Has: true, New: 260}, []byte{2, 1, 0, 4, 2, 0, 0, 1, 4, 0, 0}},
		{impl.Rec{Kind: 2, Txn: 255}, []byte{2, 0, 255, 0, 0, 0, 0, 0, 0, 0, 0}},
		{impl.Rec{Kind: 1, Txn: 2}, []byte{1, 0, 2, 0, 0, 0, 0, 0, 0, 0, 0}},
		{impl.Rec{Kind: 3, Txn: 2}, []byte{3, 0, 2, 0, 0, 0, 0, 0, 0, 0, 0}},
		{impl.Rec{Kind: 4, Txn: 2}, []byte{4, 0, 2, 0, 0, 0, 0, 0, 0, 0, 0}},
		{impl.Rec{Kind: 6}, []byte{6, 0, 0, 0, 0, 0, 0, 0, 0, 0, 0}},
	} {
		if got := impl.PackRec(c.rec); got.Code != impl.OK || !bytes.Equal(got.Bytes, sumRec(c.want)) {
			t.Errorf("PackRec(%+v) = %+v, want %v", c.rec, got, sumRec(c.want))
		}
	}
	if got := impl.PackRec(begin(1)).Bytes; len(got) != 13 || int64(got[11])*256+int64(got[12]) != impl.SumBytes(got[:11]) {
		t.Errorf("the sum of %v", got)
	}
}

// Promise 4: a record is read back from its bytes.
func TestRecIsReadBack(t *testing.T) {
	met := map[int64]int{}
	for _, r := range someRecs() {
		met[r.Kind]++
		if code := impl.RecFault(r); code != impl.OK {
			t.Errorf("RecFault(%+v) = %d", r, code)
		}
		packed := impl.PackRec(r)
		if packed.Code != impl.OK || !bytes.Equal(packed.Bytes, packRecByHand(r)) {
			t.Errorf("PackRec(%+v) = %+v, want %v", r, packed, packRecByHand(r))
		}
		want := impl.RecsResult{Used: recSize, Recs: []impl.Rec{r}}
		if got := impl.UnpackRecs(packed.Bytes); !sameRecsResult(got, want) {
			t.Errorf("read back of %+v is %+v", r, got)
		}
	}
	for kind := int64(1); kind <= 6; kind++ {
		if met[kind] == 0 {
			t.Errorf("no record of Kind %d was met", kind)
		}
	}
}

// Wherever bytes end: the whole records ahead of that are read, and no more are used.
func TestUnpackOfCutRecs(t *testing.T) {
	recs := edgeRecs()[:12]
	data := packRecsByHand(recs)
	for size := range len(data) + 1 {
		count := size / recSize
		want := impl.RecsResult{Used: int64(count * recSize), Recs: recs[:count]}
		if got := impl.UnpackRecs(data[:size]); !sameRecsResult(got, want) {
			t.Errorf("UnpackRecs of %d bytes = %+v", size, got)
		}
	}
	for _, none := range [][]byte{nil, {}} {
		if got := impl.UnpackRecs(none); !sameRecsResult(got, impl.RecsResult{}) {
			t.Errorf("UnpackRecs of no bytes = %+v", got)
		}
	}
}

// checkStopsAt: the record at place is none; those ahead of it are read, those behind it are not.
func checkStopsAt(t *testing.T, recs []impl.Rec, place int, wrong []byte) {
	t.Helper()
	data := packRecsByHand(recs)
	copy(data[place*recSize:], wrong)
	want := impl.RecsResult{Used: int64(place * recSize), Recs: recs[:place]}
	if got := impl.UnpackRecs(data); !sameRecsResult(got, want) {
		t.Errorf("UnpackRecs with %v in place %d = %+v", wrong, place, got)
	}
	if got := impl.LogFault(impl.Log{Sure: data}); got != impl.ErrText {
		t.Errorf("LogFault with %v in place %d = %d", wrong, place, got)
	}
}

func TestUnpackOfWrongBytes(t *testing.T) {
	recs := fiveRecs()
	for place := range recs {
		for at := range recSize {
			for _, other := range []byte{1, 2, 128, 255} {
				wrong := packRecByHand(recs[place])
				wrong[at] ^= other
				checkStopsAt(t, recs, place, wrong)
			}
		}
		checkStopsAt(t, recs, place, make([]byte, recSize))
		checkStopsAt(t, recs, place, packRecByHand(recs[place])[1:])
	}
}

// The low sums fit into two bytes once more, with the modulus added: that is another number.
func TestUnpackOfRecSumAboveModulus(t *testing.T) {
	found := 0
	for old := range int64(10000) {
		for _, key := range []int64{0, 9, 31} {
			data := packRecByHand(impl.Rec{Kind: impl.KindPut, Txn: 8, Key: key, Had: true, Old: old})
			sum := int64(data[11])*256 + int64(data[12])
			if sum > 14 {
				continue
			}
			found++
			if got := impl.UnpackRecs(data); got.Used != recSize {
				t.Errorf("UnpackRecs of a low sum = %+v", got)
			}
			data[11], data[12] = byte((sum+65521)/256), byte((sum+65521)%256)
			if got := impl.UnpackRecs(data); !sameRecsResult(got, impl.RecsResult{}) {
				t.Errorf("UnpackRecs of a sum above the modulus = %+v", got)
			}
		}
	}
	if found == 0 {
		t.Error("no record with a low sum was met")
	}
}

// bytesOfNoRec have a right sum, and a fault, or a byte of flags that no record has.
func bytesOfNoRec() [][]byte {
	var out [][]byte
	change := func(r impl.Rec, places map[int]byte) {
		data := packRecByHand(r)
		for at, b := range places {
			data[at] = b
		}
		out = append(out, sumRec(data))
	}
	full := impl.Rec{Kind: impl.KindUndo, Txn: 4, Key: 5, Had: true, Old: 300, Has: true, New: 400, Back: 6}
	for _, b := range []byte{0, 7, 8, 128, 255} {
		change(begin(4), map[int]byte{0: b})
		change(impl.Rec{Kind: impl.KindCheck}, map[int]byte{0: b})
	}
	for kind := int64(1); kind <= 5; kind++ {
		change(impl.Rec{Kind: kind}, map[int]byte{10: byte(kind / 5)}) // Txn 0
	}
	for _, at := range []int{1, 2} {
		change(impl.Rec{Kind: impl.KindCheck}, map[int]byte{at: 1})
	}
	change(full, map[int]byte{1: 3, 2: 0xe8})
	change(begin(4), map[int]byte{1: 255, 2: 255})
	for _, b := range []byte{32, 33, 255} {
		change(full, map[int]byte{3: b})
	}
	for _, b := range []byte{0, 1, 2, 4, 7, 8, 128, 131, 255} {
		change(full, map[int]byte{4: b})
	}
	for _, b := range []byte{4, 8, 128, 252} {
		change(impl.Rec{Kind: impl.KindPut, Txn: 4}, map[int]byte{4: b})
		change(begin(4), map[int]byte{4: b})
	}
	change(full, map[int]byte{5: 0x27, 6: 0x10})
	change(full, map[int]byte{7: 0x27, 8: 0x10})
	change(full, map[int]byte{5: 255, 6: 255})
	change(full, map[int]byte{7: 255, 8: 255})
	change(full, map[int]byte{9: 3, 10: 0xe9})
	change(full, map[int]byte{9: 0, 10: 0})
	for _, r := range []impl.Rec{begin(4), commit(4), {Kind: impl.KindAbort, Txn: 4}, {Kind: impl.KindCheck}} {
		for at := 3; at <= 10; at++ {
			change(r, map[int]byte{at: 1})
		}
		change(r, map[int]byte{4: 2})
		change(r, map[int]byte{4: 3})
	}
	for _, at := range []int{5, 6, 7, 8, 9, 10} {
		change(impl.Rec{Kind: impl.KindPut, Txn: 4}, map[int]byte{at: 1})
	}
	return out
}

func TestUnpackOfRecsWithFaults(t *testing.T) {
	recs := fiveRecs()
	for _, wrong := range bytesOfNoRec() {
		for place := range recs {
			checkStopsAt(t, recs, place, wrong)
		}
	}
}

// Just MaxLog bytes are read as far as they go; one more is too many, whatever they are.
func TestUnpackOfSoManyRecs(t *testing.T) {
	d := dice(23)
	recs := thrownRecs(&d, maxRecs+1)
	data := packRecsByHand(recs)
	want := impl.RecsResult{Used: maxRecs * recSize, Recs: recs[:maxRecs]}
	for _, size := range []int{maxRecs * recSize, 3999, 4000} {
		if got := impl.UnpackRecs(data[:size]); !sameRecsResult(got, want) {
			t.Errorf("UnpackRecs of %d bytes: code %d, used %d", size, got.Code, got.Used)
		}
	}
	if got := impl.UnpackRecs(make([]byte, 4000)); !sameRecsResult(got, impl.RecsResult{}) {
		t.Errorf("UnpackRecs of 4000 bytes 0 = %+v", got)
	}
	for _, many := range [][]byte{data[:4001], data[:4004], make([]byte, 4001), make([]byte, 1<<20)} {
		wantCode(t, fmt.Sprintf("UnpackRecs of %d bytes", len(many)), impl.UnpackRecs(many), impl.ErrMany)
	}
}

// Whatever the bytes are, they are read as their places say.
func TestUnpackOfAnyRecBytes(t *testing.T) {
	d := dice(24)
	met := map[int64]int{}
	for range 20000 {
		data := packRecsByHand(thrownRecs(&d, int(d.upTo(4))))
		for range d.upTo(2) {
			if len(data) > 0 {
				place := int(d.upTo(int64(len(data)/recSize - 1)))
				piece := data[place*recSize : (place+1)*recSize]
				piece[d.upTo(12)] = byte(d.upTo(7))
				if d.upTo(3) > 0 {
					copy(piece, sumRec(piece))
				}
			}
		}
		data = append(data, make([]byte, d.upTo(3))...)
		want := recsByHand(data)
		met[want.Used]++
		if got := impl.UnpackRecs(data); !sameRecsResult(got, want) {
			t.Fatalf("UnpackRecs(%v) = %+v, want %+v", data, got, want)
		}
	}
	for count := range int64(5) {
		if met[count*recSize] == 0 {
			t.Errorf("no bytes of just %d records were met", count)
		}
	}
}

type faultyRec struct {
	rec  impl.Rec
	code int64
}

func rangeFaults() []faultyRec {
	var out []faultyRec
	add := func(r impl.Rec) { out = append(out, faultyRec{r, impl.ErrRange}) }
	far := []int64{-1, math.MinInt64, math.MaxInt64}
	for _, kind := range append(far, 0, 7) {
		for _, txn := range []int64{0, 1, 999} {
			add(impl.Rec{Kind: kind, Txn: txn})
		}
	}
	for kind := int64(1); kind <= 5; kind++ {
		for _, txn := range append(far, 0, 1000) {
			add(impl.Rec{Kind: kind, Txn: txn, Back: kind / 5})
		}
	}
	for _, txn := range append(far, 1, 2, 999, 1000) {
		add(impl.Rec{Kind: impl.KindCheck, Txn: txn})
	}
	for _, kind := range []int64{impl.KindPut, impl.KindUndo} {
		good := impl.Rec{Kind: kind, Txn: 3, Key: 4, Had: true, Old: 5, Has: true, New: 6, Back: kind / 5}
		for _, key := range append(far, 32) {
			r := good
			r.Key = key
			add(r)
		}
		for _, value := range append(far, 10000) {
			r, s := good, good
			r.Old, s.New = value, value
			add(r)
			add(s)
		}
	}
	for _, back := range append(far, 1001) {
		add(undo(3, 4, back))
	}
	return out
}

func formFaults() []faultyRec {
	var out []faultyRec
	add := func(r impl.Rec) { out = append(out, faultyRec{r, impl.ErrForm}) }
	for _, kind := range []int64{impl.KindBegin, impl.KindCommit, impl.KindAbort, impl.KindCheck} {
		txn := int64(3)
		if kind == impl.KindCheck {
			txn = 0
		}
		for _, n := range []int64{1, 31} {
			add(impl.Rec{Kind: kind, Txn: txn, Key: n})
			add(impl.Rec{Kind: kind, Txn: txn, Old: n})
			add(impl.Rec{Kind: kind, Txn: txn, New: n})
			add(impl.Rec{Kind: kind, Txn: txn, Back: n})
		}
		add(impl.Rec{Kind: kind, Txn: txn, Back: 1000})
		add(impl.Rec{Kind: kind, Txn: txn, Had: true})
		add(impl.Rec{Kind: kind, Txn: txn, Has: true})
		add(impl.Rec{Kind: kind, Txn: txn, Had: true, Old: 1})
		add(impl.Rec{Kind: kind, Txn: txn, Has: true, New: 1})
	}
	for _, kind := range []int64{impl.KindPut, impl.KindUndo} {
		back := kind / 5
		for _, value := range []int64{1, 9999} {
			add(impl.Rec{Kind: kind, Txn: 3, Old: value, Back: back})
			add(impl.Rec{Kind: kind, Txn: 3, New: value, Back: back})
			add(impl.Rec{Kind: kind, Txn: 3, Has: true, New: 2, Old: value, Back: back})
			add(impl.Rec{Kind: kind, Txn: 3, Had: true, Old: 2, New: value, Back: back})
		}
	}
	for _, back := range []int64{1, 2, 1000} {
		add(impl.Rec{Kind: impl.KindPut, Txn: 3, Back: back})
		add(impl.Rec{Kind: impl.KindPut, Txn: 3, Key: 1, Had: true, Old: 2, Has: true, New: 3, Back: back})
	}
	add(impl.Rec{Kind: impl.KindUndo, Txn: 3})
	add(undo(3, 5, 0))
	return out
}

// twoRecFaults: a number that leaves its bounds comes ahead of what is not right.
func twoRecFaults() []faultyRec {
	var out []faultyRec
	for _, r := range []impl.Rec{
		{Kind: 7, Txn: 3, Key: 1}, {Kind: 0, Had: true}, {Kind: 1, Txn: 1000, Key: 1}, {Kind: 1, Txn: 0, Back: 1}, {Kind: 6, Txn: 1, Has: true},
		{Kind: 1, Txn: 3, Key: 32}, {Kind: 3, Txn: 3, Key: -1}, {Kind: 4, Txn: 3, Old: 10000}, {Kind: 4, Txn: 3, Old: -1}, {Kind: 6, New: 10000}, {Kind: 6, New: -1},
		{Kind: 1, Txn: 3, Back: 1001}, {Kind: 1, Txn: 3, Back: -1}, {Kind: 2, Txn: 3, Back: 1001}, {Kind: 2, Txn: 3, Old: -1}, {Kind: 2, Txn: 3, New: 10000},
		{Kind: 5, Txn: 3, Key: 32}, {Kind: 5, Txn: 0}, {Kind: 5, Txn: 3, Old: 10000, Back: 1}, {Kind: 2, Txn: 3, Old: 1, New: 10000}, {Kind: 2, Txn: 3, Old: 1, Back: -1},
	} {
		out = append(out, faultyRec{r, impl.ErrRange})
	}
	return out
}

func recFaults() []faultyRec {
	return slices.Concat(rangeFaults(), formFaults(), twoRecFaults())
}

func TestRecFault(t *testing.T) {
	for _, f := range recFaults() {
		if got := impl.RecFault(f.rec); got != f.code {
			t.Errorf("RecFault(%+v) = %d, want %d", f.rec, got, f.code)
		}
		wantCode(t, fmt.Sprintf("PackRec(%+v)", f.rec), impl.PackRec(f.rec), f.code)
	}
	numbers := []int64{-1, 0, 1, 2, 3, 4, 5, 6, 7, 31, 32, 999, 1000, 1001, 9999, 10000}
	d := dice(25)
	met := map[int64]int{}
	for range 50000 {
		r := thrownRec(&d)
		for range d.upTo(2) {
			n := numbers[d.upTo(int64(len(numbers)-1))]
			*[]*int64{&r.Kind, &r.Txn, &r.Key, &r.Old, &r.New, &r.Back}[d.upTo(5)] = n
		}
		want := faultByHand(r)
		met[want]++
		if got := impl.RecFault(r); got != want {
			t.Fatalf("RecFault(%+v) = %d, want %d", r, got, want)
		}
	}
	for _, code := range []int64{impl.OK, impl.ErrRange, impl.ErrForm} {
		if met[code] == 0 {
			t.Errorf("no record with code %d was met", code)
		}
	}
}

func TestSoundLogs(t *testing.T) {
	for n, l := range someLogs() {
		if got := impl.LogFault(l); got != impl.OK {
			t.Errorf("log %d of %d and %d bytes: LogFault = %d", n, len(l.Sure), len(l.Loose), got)
		}
		if got, want := impl.RecsOf(l), recsByHand(slices.Concat(l.Sure, l.Loose)); !sameRecsResult(got, want) || got.Used != int64(len(l.Sure)+len(l.Loose)) {
			t.Errorf("log %d: RecsOf = %+v, want %+v", n, got, want)
		}
	}
	if got := impl.LogFault(impl.Log{}); got != impl.OK {
		t.Errorf("LogFault of an empty log = %d", got)
	}
}

type faultyLog struct {
	name string
	log  impl.Log
	code int64
}

func logFaults() []faultyLog {
	var out []faultyLog
	whole := packRecsByHand(fiveRecs())
	add := func(name string, l impl.Log, code int64) { out = append(out, faultyLog{name, l, code}) }
	for _, cut := range []int{1, 12, 14, 40, 51, 64} {
		for _, sure := range []int{0, cut / 2, cut} {
			add(fmt.Sprintf("cut behind %d bytes, %d sure", cut, sure), splitLog(whole[:cut], sure), impl.ErrText)
		}
	}
	wrong := slices.Clone(whole)
	wrong[30] ^= 1
	longer := slices.Concat(whole, []byte{0})
	for _, sure := range []int{0, 13, 26, 30, 31, 39, 65} {
		add("a wrong byte", splitLog(wrong, sure), impl.ErrText)
		add("a byte behind all", splitLog(longer, sure), impl.ErrText)
	}
	for _, b := range bytesOfNoRec() {
		add("a record with a fault", impl.Log{Sure: whole, Loose: b}, impl.ErrText)
		add("a record with a fault among the sure ones", impl.Log{Sure: b, Loose: whole}, impl.ErrText)
	}
	gap := impl.Log{Sure: whole[:20], Loose: whole[26:]}
	add("sure bytes that nothing goes on with", gap, impl.ErrText)
	add("loose bytes alone that do not begin a record", impl.Log{Loose: whole[5:]}, impl.ErrText)
	full := packRecsByHand(slices.Repeat([]impl.Rec{begin(3)}, 400))
	for _, sure := range []int{0, 13, 2000, 3991, 4000} {
		add("just 4000 bytes", splitLog(full[:4000], sure), impl.ErrText)
		add("4001 bytes", splitLog(full[:4001], sure), impl.ErrMany)
		add("308 records", splitLog(full[:4004], sure), impl.ErrMany)
		add("400 records", splitLog(full, sure), impl.ErrMany)
	}
	add("4001 bytes 0, loose", impl.Log{Loose: make([]byte, 4001)}, impl.ErrMany)
	add("4001 bytes 0, sure", impl.Log{Sure: make([]byte, 4001)}, impl.ErrMany)
	add("very many bytes", impl.Log{Sure: make([]byte, 1<<20), Loose: make([]byte, 1<<20)}, impl.ErrMany)
	return out
}

// A log's own fault comes ahead of whatever else is wrong.
func TestLogFaultComesFirst(t *testing.T) {
	recs := []impl.Rec{begin(3), {}, {Kind: impl.KindUndo, Txn: 3}, {Kind: 7}, put(3, 32)}
	for _, f := range logFaults() {
		if got := impl.LogFault(f.log); got != f.code {
			t.Errorf("%s: LogFault = %d, want %d", f.name, got, f.code)
		}
		for _, r := range recs {
			wantCode(t, f.name+": AppendRec", impl.AppendRec(f.log, r), f.code)
		}
		for _, kept := range []int64{0, 1, 13, -1, int64(len(f.log.Loose)), int64(len(f.log.Loose)) + 1, math.MinInt64, math.MaxInt64} {
			wantCode(t, f.name+": CrashLog", impl.CrashLog(f.log, kept), f.code)
		}
		wantCode(t, f.name+": FlushLog", impl.FlushLog(f.log), f.code)
		wantCode(t, f.name+": RecsOf", impl.RecsOf(f.log), f.code)
	}
}

// Promise 4: a record is the last one of a log to which it is appended.
func TestAppendedRecIsTheLast(t *testing.T) {
	for n, l := range someLogs() {
		before := impl.RecsOf(l).Recs
		for i, r := range []impl.Rec{begin(9), put(9, 31), undo(9, 0, 1000), commit(999), {Kind: impl.KindAbort, Txn: 1}, {Kind: impl.KindCheck}} {
			name := fmt.Sprintf("log %d, record %d", n, i)
			got := impl.AppendRec(l, r)
			if len(before) == maxRecs {
				wantCode(t, name, got, impl.ErrMany)
				continue
			}
			want := impl.Log{Sure: l.Sure, Loose: slices.Concat(l.Loose, packRecByHand(r))}
			if got.Code != impl.OK || got.Lsn != int64(len(before))+1 || !sameLog(got.Log, want) {
				t.Errorf("%s: AppendRec = %+v", name, got)
			}
			read := impl.RecsOf(got.Log)
			if read.Code != impl.OK || !slices.Equal(read.Recs, append(slices.Clone(before), r)) || read.Recs[got.Lsn-1] != r {
				t.Errorf("%s: RecsOf it = %+v", name, read)
			}
		}
	}
}

func TestLogUpToItsEnd(t *testing.T) {
	d := dice(26)
	recs := thrownRecs(&d, maxRecs)
	var l impl.Log
	for i, r := range recs {
		got := impl.AppendRec(l, r)
		if got.Code != impl.OK || got.Lsn != int64(i)+1 {
			t.Fatalf("record %d: code %d, Lsn %d", i+1, got.Code, got.Lsn)
		}
		l = got.Log
		if i%50 == 17 {
			l = impl.FlushLog(l).Log
		}
	}
	if got := impl.RecsOf(l); got.Code != impl.OK || !slices.Equal(got.Recs, recs) {
		t.Errorf("RecsOf a full log: code %d, %d records", got.Code, len(got.Recs))
	}
	for _, full := range []impl.Log{l, impl.FlushLog(l).Log} {
		wantCode(t, "AppendRec to a full log", impl.AppendRec(full, begin(1)), impl.ErrMany)
		for _, f := range recFaults() {
			wantCode(t, "AppendRec of a fault to a full log", impl.AppendRec(full, f.rec), f.code)
		}
	}
}

func TestAppendOfFaults(t *testing.T) {
	whole := packRecsByHand(fiveRecs())
	for _, f := range recFaults() {
		for _, l := range []impl.Log{{}, splitLog(whole, 26), splitLog(whole, 20)} {
			wantCode(t, fmt.Sprintf("AppendRec of %+v", f.rec), impl.AppendRec(l, f.rec), f.code)
		}
	}
}

func TestFlushedLogIsSure(t *testing.T) {
	for n, l := range someLogs() {
		got := impl.FlushLog(l)
		recs := impl.RecsOf(l)
		if got.Code != impl.OK || got.Lsn != int64(len(recs.Recs)) || !sameLog(got.Log, impl.Log{Sure: slices.Concat(l.Sure, l.Loose)}) {
			t.Errorf("log %d: FlushLog = %+v", n, got)
		}
		if again := impl.RecsOf(got.Log); !sameRecsResult(again, recs) {
			t.Errorf("log %d: RecsOf it = %+v, and was %+v", n, again, recs)
		}
		if twice := impl.FlushLog(got.Log); twice.Lsn != got.Lsn || !sameLog(twice.Log, got.Log) {
			t.Errorf("log %d: flushed twice it is %+v", n, twice)
		}
		if crash := impl.CrashLog(got.Log, 0); crash.Lsn != got.Lsn || !sameLog(crash.Log, got.Log) {
			t.Errorf("log %d: flushed and crashed it is %+v", n, crash)
		}
	}
}

// Promise 4: behind a crash all records that were sure are there, and of the others the first ones.
func TestCrashLeavesWholeRecs(t *testing.T) {
	for n, l := range someLogs() {
		all := slices.Concat(l.Sure, l.Loose)
		recs := recsByHand(all).Recs
		sure := len(l.Sure) / recSize
		for kept := range int64(len(l.Loose)) + 1 {
			if kept > 40 && kept < int64(len(l.Loose))-40 && kept%17 > 0 {
				continue
			}
			count := (len(l.Sure) + int(kept)) / recSize
			got := impl.CrashLog(l, kept)
			if got.Code != impl.OK || got.Lsn != int64(count) || !sameLog(got.Log, impl.Log{Sure: all[:count*recSize]}) {
				t.Errorf("log %d of %d sure bytes: CrashLog that keeps %d = %+v", n, len(l.Sure), kept, got)
			}
			left := impl.RecsOf(got.Log)
			if left.Code != impl.OK || len(left.Recs) < sure || !slices.Equal(left.Recs, recs[:count]) {
				t.Errorf("log %d: what is left of a crash that keeps %d is %+v", n, kept, left)
			}
		}
	}
}

// Sure bytes that end in a record: it is left only if the crash keeps the rest of it.
func TestCrashInsideSureRec(t *testing.T) {
	whole := packRecsByHand(fiveRecs()[:2])
	for sure := 14; sure < 26; sure++ {
		l := splitLog(whole, sure)
		for kept := range int64(26 - sure) {
			if got := impl.CrashLog(l, kept); got.Code != impl.OK || got.Lsn != 1 || !sameLog(got.Log, impl.Log{Sure: whole[:13]}) {
				t.Errorf("%d sure, %d kept: %+v", sure, kept, got)
			}
		}
		if got := impl.CrashLog(l, int64(26-sure)); got.Code != impl.OK || got.Lsn != 2 || !sameLog(got.Log, impl.Log{Sure: whole}) {
			t.Errorf("%d sure, all kept: %+v", sure, got)
		}
	}
}

func TestCodesOfCrashLog(t *testing.T) {
	for n, l := range someLogs() {
		loose := int64(len(l.Loose))
		for _, kept := range []int64{-1, loose + 1, int64(len(l.Sure)) + loose + 1, math.MinInt64, math.MaxInt64} {
			wantCode(t, fmt.Sprintf("log %d: CrashLog that keeps %d", n, kept), impl.CrashLog(l, kept), impl.ErrRange)
		}
		for _, kept := range []int64{0, loose} {
			wantCode(t, fmt.Sprintf("log %d: CrashLog that keeps %d", n, kept), impl.CrashLog(l, kept), impl.OK)
		}
	}
}

func TestChainBack(t *testing.T) {
	for _, c := range []struct {
		name string
		recs []impl.Rec
		txn  int64
		want []int64
	}{
		{"nothing", nil, 3, nil},
		{"no put", []impl.Rec{begin(3), commit(3), {Kind: impl.KindCheck}}, 3, nil},
		{"puts", []impl.Rec{begin(3), put(3, 5), put(3, 5), put(3, 6)}, 3, []int64{4, 3, 2}},
		{"puts of two", []impl.Rec{put(3, 5), put(4, 5), put(3, 5), put(4, 6)}, 3, []int64{3, 1}},
		{"puts of another", []impl.Rec{put(4, 5), put(5, 5)}, 3, nil},
		{"behind its end", []impl.Rec{put(3, 5), commit(3), put(3, 5)}, 3, []int64{3, 1}},
		{"the last is undone", []impl.Rec{put(3, 5), put(3, 5), undo(3, 5, 2)}, 3, []int64{1}},
		{"the first is undone", []impl.Rec{put(3, 5), put(3, 5), undo(3, 5, 1)}, 3, []int64{2}},
		{"all are undone", []impl.Rec{put(3, 5), put(3, 5), undo(3, 5, 2), undo(3, 5, 1)}, 3, nil},
		{"undone twice", []impl.Rec{put(3, 5), put(3, 5), undo(3, 5, 2), undo(3, 5, 2)}, 3, []int64{1}},
		{"an undo of an undo", []impl.Rec{put(3, 5), undo(3, 5, 1), undo(3, 5, 2)}, 3, nil},
		{"an undo of itself", []impl.Rec{put(3, 5), undo(3, 5, 2)}, 3, []int64{1}},
		{"an undo of a begin", []impl.Rec{begin(3), put(3, 5), undo(3, 5, 1)}, 3, []int64{2}},
		{"an undo ahead of its put", []impl.Rec{undo(3, 5, 2), put(3, 5), put(3, 6)}, 3, []int64{3, 2}},
		{"an undo of what is not there", []impl.Rec{put(3, 5), undo(3, 5, 1000)}, 3, []int64{1}},
		{"an undo by another", []impl.Rec{put(3, 5), undo(4, 5, 1)}, 3, []int64{1}},
		{"an undo of another's put", []impl.Rec{put(3, 5), undo(4, 5, 1)}, 4, nil},
		{"an undo of another key", []impl.Rec{put(3, 5), undo(3, 6, 1)}, 3, nil},
		{"an undo far behind", []impl.Rec{put(3, 5), put(4, 1), commit(4), put(3, 6), undo(3, 5, 1)}, 3, []int64{4}},
		{"a put behind an undo", []impl.Rec{put(3, 5), undo(3, 5, 1), put(3, 5)}, 3, []int64{3}},
		{"the least txn", []impl.Rec{put(1, 5), put(999, 5)}, 1, []int64{1}},
		{"the greatest txn", []impl.Rec{put(1, 5), put(999, 5)}, 999, []int64{2}},
	} {
		if got := impl.ChainBack(c.recs, c.txn); got.Code != impl.OK || !slices.Equal(got.List, c.want) {
			t.Errorf("%s: ChainBack = %+v, want %v", c.name, got, c.want)
		}
	}
}

// chainByHand asks of each put whether an undo behind it names it.
func chainByHand(recs []impl.Rec, txn int64) []int64 {
	var out []int64
	for i, r := range recs {
		undone := slices.ContainsFunc(recs[i:], func(u impl.Rec) bool {
			return u.Kind == impl.KindUndo && u.Txn == txn && u.Back == int64(i)+1
		})
		if r.Kind == impl.KindPut && r.Txn == txn && !undone {
			out = slices.Insert(out, 0, int64(i)+1)
		}
	}
	return out
}

// thrownChain has few transactions, so that their undos often name what is there.
func thrownChain(d *dice, count int64) []impl.Rec {
	var out []impl.Rec
	for range count {
		r := thrownRec(d)
		if d.upTo(1) == 0 {
			r = put(1, d.upTo(31))
		}
		if r.Kind != impl.KindCheck {
			r.Txn = 1 + d.upTo(2)
		}
		if r.Kind == impl.KindUndo {
			r.Back = 1 + d.upTo(count)
		}
		out = append(out, r)
	}
	return out
}

// Promise 4: an undo takes its put away.
func TestUndoTakesItsPutAway(t *testing.T) {
	d := dice(27)
	taken := 0
	for range 300 {
		recs := thrownChain(&d, d.upTo(30))
		for txn := int64(1); txn <= 4; txn++ {
			chain := impl.ChainBack(recs, txn)
			if chain.Code != impl.OK || !slices.Equal(chain.List, chainByHand(recs, txn)) {
				t.Fatalf("ChainBack(%+v, %d) = %+v", recs, txn, chain)
			}
			for i, number := range chain.List {
				taken++
				more := append(slices.Clone(recs), undo(txn, recs[number-1].Key, number))
				want := slices.Delete(slices.Clone(chain.List), i, i+1)
				if got := impl.ChainBack(more, txn); got.Code != impl.OK || !slices.Equal(got.List, want) {
					t.Errorf("ChainBack(%+v, %d) = %+v, want %v", more, txn, got, want)
				}
				other := 1 + txn%4
				if got := impl.ChainBack(more, other); !slices.Equal(got.List, impl.ChainBack(recs, other).List) {
					t.Errorf("an undo of %d took a put of %d away: %+v", txn, other, more)
				}
			}
		}
	}
	if taken == 0 {
		t.Error("no put was met that is not undone")
	}
}

// So many records, then record by record their faults, then txn.
func TestCodesOfChainBack(t *testing.T) {
	wrongTxns := []int64{0, 1000, -1, math.MinInt64, math.MaxInt64}
	most := slices.Repeat([]impl.Rec{put(999, 5)}, 400)
	many := append(slices.Clone(most), put(999, 5))
	faulty := slices.Clone(many)
	faulty[0].Key = 32
	for _, txn := range append(wrongTxns, 1, 999) {
		wantCode(t, "ChainBack of 401 records", impl.ChainBack(many, txn), impl.ErrMany)
		wantCode(t, "ChainBack of 401 records and a fault", impl.ChainBack(faulty, txn), impl.ErrMany)
		wantCode(t, "ChainBack of very many", impl.ChainBack(make([]impl.Rec, 1<<16), txn), impl.ErrMany)
	}
	if got := impl.ChainBack(most, 999); got.Code != impl.OK || len(got.List) != 400 || got.List[0] != 400 || got.List[399] != 1 {
		t.Errorf("ChainBack of 400 records: code %d, %d numbers", got.Code, len(got.List))
	}
	most[399] = undo(999, 5, 399)
	if got := impl.ChainBack(most, 999); got.Code != impl.OK || len(got.List) != 398 || got.List[0] != 398 {
		t.Errorf("ChainBack of 400 records and an undo: code %d, %d numbers", got.Code, len(got.List))
	}
	for _, recs := range [][]impl.Rec{nil, fiveRecs(), most} {
		for _, txn := range wrongTxns {
			wantCode(t, fmt.Sprintf("ChainBack of txn %d", txn), impl.ChainBack(recs, txn), impl.ErrRange)
		}
		for _, txn := range []int64{1, 999} {
			wantCode(t, fmt.Sprintf("ChainBack of txn %d", txn), impl.ChainBack(recs, txn), impl.OK)
		}
	}
}

func TestChainBackOfFaults(t *testing.T) {
	for _, f := range recFaults() {
		for place := range 5 {
			recs := fiveRecs()
			recs[place] = f.rec
			for _, txn := range []int64{3, 8, 999, 0, 1000} {
				wantCode(t, fmt.Sprintf("ChainBack with %+v", f.rec), impl.ChainBack(recs, txn), f.code)
			}
		}
	}
	form, far := undo(3, 5, 0), put(3, 32)
	wantCode(t, "what is not right ahead of a number", impl.ChainBack([]impl.Rec{begin(3), form, far}, 0), impl.ErrForm)
	wantCode(t, "a number ahead of what is not right", impl.ChainBack([]impl.Rec{begin(3), far, form}, 0), impl.ErrRange)
}

// logWithRoom lays both lists ahead of room that is not theirs to be written.
func logWithRoom(l impl.Log) impl.Log {
	return impl.Log{
		Sure:  append(make([]byte, 0, len(l.Sure)+40), l.Sure...),
		Loose: append(make([]byte, 0, len(l.Loose)+40), l.Loose...),
	}
}

func logRoom(l impl.Log) impl.Log {
	return impl.Log{Sure: wholeRoom(l.Sure), Loose: wholeRoom(l.Loose)}
}

func askLog(l impl.Log, r impl.Rec, kept, txn int64) {
	impl.RecFault(r)
	impl.PackRec(r)
	impl.UnpackRecs(l.Sure)
	impl.UnpackRecs(l.Loose)
	impl.LogFault(l)
	impl.AppendRec(l, r)
	impl.FlushLog(l)
	impl.CrashLog(l, kept)
	impl.RecsOf(l)
	impl.ChainBack([]impl.Rec{r, r}, txn)
}

func TestLogArgumentsStay(t *testing.T) {
	logs := someLogs()
	for _, f := range logFaults() {
		logs = append(logs, f.log)
	}
	for n, log := range logs {
		l := logWithRoom(log)
		before := logRoom(l)
		for _, kept := range []int64{0, 5, int64(len(l.Loose)), -1} {
			askLog(l, begin(3), kept, 3)
			askLog(l, put(3, 32), kept, 0)
		}
		if !sameLog(logRoom(l), before) || !sameLog(l, log) {
			t.Errorf("log %d was changed", n)
		}
	}
	// Both lists may be pieces of one: what is written behind the sure ones would be seen in the loose ones.
	whole := packRecsByHand(fiveRecs())
	one := slices.Clone(whole)
	for sure := range len(one) + 1 {
		askLog(impl.Log{Sure: one[:sure], Loose: one[sure:]}, begin(3), 0, 3)
		if !bytes.Equal(one, whole) {
			t.Fatalf("the bytes behind %d sure ones were changed", sure)
		}
	}
	for _, f := range append(recFaults(), faultyRec{put(3, 5), impl.OK}) {
		recs := append(make([]impl.Rec, 0, 12), append(fiveRecs(), f.rec)...)
		before := wholeRoom(recs)
		for _, txn := range []int64{3, 0} {
			impl.ChainBack(recs, txn)
		}
		if !slices.Equal(wholeRoom(recs), before) {
			t.Errorf("records were %+v, and are %+v", before, recs)
		}
	}
}

// logAnswers: each log that is answered of one.
func logAnswers(l impl.Log) []impl.Log {
	loose := int64(len(l.Loose))
	return []impl.Log{
		impl.AppendRec(l, put(3, 5)).Log, impl.FlushLog(l).Log,
		impl.CrashLog(l, 0).Log, impl.CrashLog(l, loose/2).Log, impl.CrashLog(l, loose).Log,
	}
}

func copyLogs(logs []impl.Log) []impl.Log {
	var out []impl.Log
	for _, l := range logs {
		out = append(out, copyLog(l))
	}
	return out
}

// Each list of an answer is spoilt with all the room behind it: all others must stay.
func TestLogAnswersAreNewMemory(t *testing.T) {
	for n, l := range someLogs() {
		before := copyLog(l)
		spoilt, other := logAnswers(l), logAnswers(l)
		want := copyLogs(other)
		for a := range spoilt {
			spoil(spoilt[a].Sure, 0xa5)
			if !bytes.Equal(spoilt[a].Loose, want[a].Loose) {
				t.Errorf("log %d: the lists of answer %d share memory", n, a)
			}
			spoil(spoilt[a].Loose, 0x5a)
			if len(spoilt[a].Sure) > 0 && spoilt[a].Sure[len(spoilt[a].Sure)-1] != 0xa5 {
				t.Errorf("log %d: the lists of answer %d share memory", n, a)
			}
		}
		for a := range other {
			if !sameLog(other[a], want[a]) {
				t.Errorf("log %d: answer %d shares memory with another answer", n, a)
			}
		}
		if !sameLog(l, before) {
			t.Errorf("log %d: an answer shares memory with its argument", n)
		}
	}
}

func TestReadRecsAreNewMemory(t *testing.T) {
	recs := fiveRecs()
	l := splitLog(packRecsByHand(recs), 20)
	a, b := impl.RecsOf(l), impl.RecsOf(l)
	c, d := impl.UnpackRecs(impl.FlushLog(l).Log.Sure), impl.UnpackRecs(impl.FlushLog(l).Log.Sure)
	spoil(a.Recs, impl.Rec{Kind: -5})
	spoil(c.Recs, impl.Rec{Kind: -5})
	if !slices.Equal(b.Recs, recs) || !slices.Equal(d.Recs, recs) || !slices.Equal(impl.RecsOf(l).Recs, recs) {
		t.Error("records that are read share memory")
	}
	for _, r := range someRecs() {
		one, two := impl.PackRec(r), impl.PackRec(r)
		spoil(one.Bytes, 99)
		if !bytes.Equal(two.Bytes, packRecByHand(r)) || !bytes.Equal(impl.PackRec(r).Bytes, two.Bytes) {
			t.Errorf("the bytes of %+v share memory", r)
		}
	}
	puts := []impl.Rec{put(3, 5), put(3, 6)}
	one, two := impl.ChainBack(puts, 3), impl.ChainBack(puts, 3)
	spoil(one.List, -5)
	if !slices.Equal(two.List, []int64{2, 1}) || !slices.Equal(impl.ChainBack(puts, 3).List, two.List) {
		t.Error("chains share memory")
	}
}

// What is spoilt in an argument behind a call is not seen in its answer.
func TestLogAnswersOutliveArguments(t *testing.T) {
	for n, log := range someLogs() {
		l := logWithRoom(log)
		answers := logAnswers(l)
		recs := impl.RecsOf(l)
		wantLogs, wantRecs := copyLogs(answers), slices.Clone(recs.Recs)
		spoil(l.Sure, 0x5a)
		spoil(l.Loose, 0x5a)
		for a := range answers {
			if !sameLog(answers[a], wantLogs[a]) {
				t.Errorf("log %d: answer %d shares memory with its argument", n, a)
			}
		}
		if !slices.Equal(recs.Recs, wantRecs) {
			t.Errorf("log %d: its records share memory with it", n)
		}
	}
}

func TestNilAndEmptyLogsAreAlike(t *testing.T) {
	empty := []byte{}
	one := packRecByHand(begin(3))
	for _, pair := range [][2]impl.Log{
		{{}, {Sure: empty, Loose: empty}}, {{}, {Sure: empty}}, {{}, {Loose: empty}},
		{{Sure: one}, {Sure: one, Loose: empty}}, {{Loose: one}, {Sure: empty, Loose: one}},
	} {
		a, b := pair[0], pair[1]
		if impl.LogFault(a) != impl.OK || impl.LogFault(b) != impl.OK || !sameRecsResult(impl.RecsOf(a), impl.RecsOf(b)) {
			t.Errorf("%+v and %+v are read differently", a, b)
		}
		for name, logs := range map[string][2]impl.LogResult{
			"AppendRec": {impl.AppendRec(a, begin(4)), impl.AppendRec(b, begin(4))},
			"FlushLog":  {impl.FlushLog(a), impl.FlushLog(b)},
			"CrashLog":  {impl.CrashLog(a, 0), impl.CrashLog(b, 0)},
		} {
			if logs[0].Code != impl.OK || logs[1].Code != impl.OK || logs[0].Lsn != logs[1].Lsn || !sameLog(logs[0].Log, logs[1].Log) {
				t.Errorf("%s: %+v, %+v", name, logs[0], logs[1])
			}
		}
		for _, kept := range []int64{-1, int64(len(a.Loose)) + 1} {
			wantCode(t, "CrashLog of nil", impl.CrashLog(a, kept), impl.ErrRange)
			wantCode(t, "CrashLog of an empty list", impl.CrashLog(b, kept), impl.ErrRange)
		}
	}
	for _, recs := range [][]impl.Rec{nil, {}} {
		if got := impl.ChainBack(recs, 1); got.Code != impl.OK || len(got.List) != 0 {
			t.Errorf("ChainBack of no records = %+v", got)
		}
		wantCode(t, "ChainBack of no records and no txn", impl.ChainBack(recs, 0), impl.ErrRange)
	}
}

func TestLogsKeepNothing(t *testing.T) {
	wantSameAgain(t, someLogs(), func(l impl.Log) string {
		recs := impl.RecsOf(l)
		return fmt.Sprint(recs, impl.AppendRec(l, put(3, 5)), impl.FlushLog(l), impl.CrashLog(l, int64(len(l.Loose)/2)), impl.ChainBack(recs.Recs, 3), impl.UnpackRecs(l.Loose))
	})
	wantSameAgain(t, someRecs(), func(r impl.Rec) string {
		return fmt.Sprint(impl.RecFault(r), impl.PackRec(r), impl.ChainBack([]impl.Rec{r, r}, 3))
	})
}

func TestLogsNeverPanic(t *testing.T) {
	numbers := []int64{math.MinInt64, -1, 0, 1, 2, 5, 6, 7, 13, 31, 32, 999, 1000, 1001, 9999, 10000, math.MaxInt64}
	d := dice(28)
	pick := func() int64 { return numbers[d.upTo(int64(len(numbers)-1))] }
	for range 20000 {
		data := packRecsByHand(thrownRecs(&d, int(d.upTo(4))))
		data = append(data, make([]byte, d.upTo(1)*d.upTo(20))...)
		l := splitLog(data, int(d.upTo(int64(len(data)))))
		r := impl.Rec{Kind: pick(), Txn: pick(), Key: pick(), Had: d.upTo(1) == 0, Old: pick(), Has: d.upTo(1) == 0, New: pick(), Back: pick()}
		mustPanicNever(t, fmt.Sprintf("%+v, %+v", l, r), func() {
			askLog(l, r, pick(), pick())
			askLog(l, thrownRec(&d), pick(), pick())
		})
	}
}
